import Derived.Test.YtljmnbkjhgnaiaaGreatDoorVP0
import Derived.Test.YtljmnbkjhgnaiaaGreatDoorVP1
import Derived.Test.YtljmnbkjhgnaiaaGreatDoorVP2
import Derived.Test.YtljmnbkjhgnaiaaGreatDoorVP3
import Derived.Test.YtljmnbkjhgnaiaaGreatDoorVW
namespace Go.Proofs.YtljmnbkjhgnaiaaGreatDoor
noncomputable section
open Go Go.RX
open Go.RowKit (Below)
set_option maxRecDepth 1000000
theorem vclass (aR aS : Addr) (vk b : Int) (hb0 : 0 ≤ b) (hb1 : b < 18446744073709551616) :
    VIs aR aS vk b 11 11 0 ∨ VIs aR aS vk b 1 1 0 ∨ VIs aR aS vk b 0 12 0 ∨ VIs aR aS vk b 0 4 0 ∨ ∃ K, VIs aR aS vk b 0 0 K := by
  rcases Int.lt_or_le vk 0 with h | h
  · exact .inl (v_neg aR aS b vk h)
  rcases Int.lt_or_le vk 11 with h' | h'
  case inr => exact .inl (v_big aR aS b vk h')
  have hv : vk = 0 ∨ vk = 1 ∨ vk = 2 ∨ vk = 3 ∨ vk = 4 ∨ vk = 5 ∨ vk = 6 ∨ vk = 7 ∨ vk = 8 ∨ vk = 9 ∨ vk = 10 := by omega
  rcases hv with rfl | rfl | rfl | rfl | rfl | rfl | rfl | rfl | rfl | rfl | rfl
  · by_cases c0 : b ≤ 1
    · exact .inr (.inr (.inr (.inr ⟨_, v_bool0 aR aS b hb0 hb1 (by omega)⟩)))
    exact .inr (.inl (v_bool1 aR aS b hb0 hb1 (by omega)))
  · by_cases c0 : b ≤ 255
    · exact .inr (.inr (.inr (.inr ⟨_, v_u8ok aR aS b hb0 hb1 (by omega)⟩)))
    exact .inr (.inl (v_u8bad aR aS b hb0 hb1 (by omega)))
  · by_cases c0 : b ≤ 65535
    · exact .inr (.inr (.inr (.inr ⟨_, v_u16ok aR aS b hb0 hb1 (by omega)⟩)))
    exact .inr (.inl (v_u16bad aR aS b hb0 hb1 (by omega)))
  · by_cases c0 : b ≤ 4294967295
    · exact .inr (.inr (.inr (.inr ⟨_, v_u32ok aR aS b hb0 hb1 (by omega)⟩)))
    exact .inr (.inl (v_u32bad aR aS b hb0 hb1 (by omega)))
  · by_cases c0 : b ≤ 9223372036854775807
    · exact .inr (.inr (.inr (.inr ⟨_, v_u64ok aR aS b hb0 hb1 (by omega)⟩)))
    exact .inr (.inr (.inr (.inl (v_u64large aR aS b hb0 hb1 (by omega)))))
  · by_cases c0 : b ≤ 127
    · exact .inr (.inr (.inr (.inr ⟨_, v_i8pos aR aS b hb0 hb1 (by omega)⟩)))
    by_cases c1 : 127 < b ∧ b ≤ 255
    · exact .inr (.inr (.inr (.inr ⟨_, v_i8neg aR aS b hb0 hb1 (by omega) (by omega)⟩)))
    exact .inr (.inl (v_i8bad aR aS b hb0 hb1 (by omega)))
  · by_cases c0 : b ≤ 32767
    · exact .inr (.inr (.inr (.inr ⟨_, v_i16pos aR aS b hb0 hb1 (by omega)⟩)))
    by_cases c1 : 32767 < b ∧ b ≤ 65535
    · exact .inr (.inr (.inr (.inr ⟨_, v_i16neg aR aS b hb0 hb1 (by omega) (by omega)⟩)))
    exact .inr (.inl (v_i16bad aR aS b hb0 hb1 (by omega)))
  · by_cases c0 : b ≤ 2147483647
    · exact .inr (.inr (.inr (.inr ⟨_, v_i32pos aR aS b hb0 hb1 (by omega)⟩)))
    by_cases c1 : 2147483647 < b ∧ b ≤ 4294967295
    · exact .inr (.inr (.inr (.inr ⟨_, v_i32neg aR aS b hb0 hb1 (by omega) (by omega)⟩)))
    exact .inr (.inl (v_i32bad aR aS b hb0 hb1 (by omega)))
  · by_cases c0 : b ≤ 9223372036854775807
    · exact .inr (.inr (.inr (.inr ⟨_, v_i64pos aR aS b hb0 hb1 (by omega)⟩)))
    exact .inr (.inr (.inr (.inr ⟨_, v_i64neg aR aS b hb0 hb1 (by omega)⟩)))
  · by_cases c0 : 4294967296 ≤ b
    · exact .inr (.inl (v_f32wide aR aS b hb0 hb1 (by omega)))
    by_cases c1 : b < 4294967296 ∧ b / 8388608 % 256 = 255
    · exact .inr (.inl (v_f32exp aR aS b hb0 hb1 (by omega) (by omega)))
    by_cases c2 : b = 2147483648
    · exact .inr (.inl (v_f32zero aR aS b hb0 hb1 (by omega)))
    exact .inr (.inr (.inl (v_f32ok aR aS b hb0 hb1 (by omega) (by omega) (by omega))))
  · by_cases c0 : (b % 4294967296) / 8388608 % 256 = 255
    · exact .inr (.inl (v_c64loexp aR aS b hb0 hb1 (by omega)))
    by_cases c1 : (b % 4294967296) = 2147483648
    · exact .inr (.inl (v_c64lozero aR aS b hb0 hb1 (by omega)))
    by_cases c2 : (b % 4294967296) / 8388608 % 256 ≠ 255 ∧ (b % 4294967296) ≠ 2147483648 ∧ (b / 4294967296) / 8388608 % 256 = 255
    · exact .inr (.inl (v_c64hiexp aR aS b hb0 hb1 (by omega) (by omega) (by omega)))
    by_cases c3 : (b % 4294967296) / 8388608 % 256 ≠ 255 ∧ (b % 4294967296) ≠ 2147483648 ∧ (b / 4294967296) = 2147483648
    · exact .inr (.inl (v_c64hizero aR aS b hb0 hb1 (by omega) (by omega) (by omega)))
    exact .inr (.inr (.inl (v_c64ok aR aS b hb0 hb1 (by omega) (by omega) (by omega) (by omega))))
theorem wclass (aR aS : Addr) (k n : Int) (hn0 : -9223372036854775808 ≤ n) (hn1 : n < 9223372036854775808) : WErr aR aS k n ∨ (9 ≤ k ∧ WTyp aR aS k n) ∨ (k < 9 ∧ ∃ W, WOk aR aS k n W) := by
  rcases Int.lt_or_le k 0 with h | h
  · exact .inl (wk_wneg aR aS k n h)
  rcases Int.lt_or_le k 11 with h' | h'
  case inr => exact .inl (wk_wbig aR aS k n h')
  have hv : k = 0 ∨ k = 1 ∨ k = 2 ∨ k = 3 ∨ k = 4 ∨ k = 5 ∨ k = 6 ∨ k = 7 ∨ k = 8 ∨ k = 9 ∨ k = 10 := by omega
  rcases hv with rfl | rfl | rfl | rfl | rfl | rfl | rfl | rfl | rfl | rfl | rfl
  · exact .inr (.inr ⟨by decide, _, wk_w0 aR aS n hn0 hn1⟩)
  · exact .inr (.inr ⟨by decide, _, wk_w1 aR aS n hn0 hn1⟩)
  · exact .inr (.inr ⟨by decide, _, wk_w2 aR aS n hn0 hn1⟩)
  · exact .inr (.inr ⟨by decide, _, wk_w3 aR aS n hn0 hn1⟩)
  · exact .inr (.inr ⟨by decide, _, wk_w4 aR aS n hn0 hn1⟩)
  · exact .inr (.inr ⟨by decide, _, wk_w5 aR aS n hn0 hn1⟩)
  · exact .inr (.inr ⟨by decide, _, wk_w6 aR aS n hn0 hn1⟩)
  · exact .inr (.inr ⟨by decide, _, wk_w7 aR aS n hn0 hn1⟩)
  · exact .inr (.inr ⟨by decide, _, wk_w8 aR aS n hn0 hn1⟩)
  · exact .inr (.inl ⟨by decide, wk_w9 aR aS n hn0 hn1⟩)
  · exact .inr (.inl ⟨by decide, wk_w10 aR aS n hn0 hn1⟩)

/-- The law's arguments; vk, b, K, k, n, W. -/
def xs : List SVal := [.agg [.sym (.int .i64 (.var 0)), .sym (.int .u64 (.var 1))], .sym (.int .i64 (.var 3)), .sym (.int .i64 (.var 4))]
def TV_a : List SEntry := [(5, [.agg [.sym (.int .i64 (.var 0)), .sym (.int .u64 (.var 1))]], .v (.int .i64 11)), (8, [.agg [.sym (.int .i64 (.var 0)), .sym (.int .u64 (.var 1))]], .v (.int .i64 11)), (6, [.agg [.sym (.int .i64 (.var 0)), .sym (.int .u64 (.var 1))]], .tuple [.v (.int .i64 0), .v (.int .i64 11)])]
def TV_b : List SEntry := [(5, [.agg [.sym (.int .i64 (.var 0)), .sym (.int .u64 (.var 1))]], .v (.int .i64 1)), (8, [.agg [.sym (.int .i64 (.var 0)), .sym (.int .u64 (.var 1))]], .v (.int .i64 1)), (6, [.agg [.sym (.int .i64 (.var 0)), .sym (.int .u64 (.var 1))]], .tuple [.v (.int .i64 0), .v (.int .i64 1)])]
def TV_c : List SEntry := [(5, [.agg [.sym (.int .i64 (.var 0)), .sym (.int .u64 (.var 1))]], .v (.int .i64 0)), (8, [.agg [.sym (.int .i64 (.var 0)), .sym (.int .u64 (.var 1))]], .v (.int .i64 0)), (6, [.agg [.sym (.int .i64 (.var 0)), .sym (.int .u64 (.var 1))]], .tuple [.v (.int .i64 0), .v (.int .i64 12)]), (7, [.agg [.sym (.int .i64 (.var 0)), .sym (.int .u64 (.var 1))]], .tuple [.v (.int .i64 0), .v (.int .i64 12)])]
def TV_d : List SEntry := [(5, [.agg [.sym (.int .i64 (.var 0)), .sym (.int .u64 (.var 1))]], .v (.int .i64 0)), (8, [.agg [.sym (.int .i64 (.var 0)), .sym (.int .u64 (.var 1))]], .v (.int .i64 0)), (6, [.agg [.sym (.int .i64 (.var 0)), .sym (.int .u64 (.var 1))]], .tuple [.v (.int .i64 0), .v (.int .i64 4)]), (7, [.agg [.sym (.int .i64 (.var 0)), .sym (.int .u64 (.var 1))]], .tuple [.v (.int .i64 0), .v (.int .i64 4)])]
def TV_e : List SEntry := [(5, [.agg [.sym (.int .i64 (.var 0)), .sym (.int .u64 (.var 1))]], .v (.int .i64 0)), (8, [.agg [.sym (.int .i64 (.var 0)), .sym (.int .u64 (.var 1))]], .v (.int .i64 0)), (6, [.agg [.sym (.int .i64 (.var 0)), .sym (.int .u64 (.var 1))]], .tuple [.sym (.int .i64 (.var 2)), .v (.int .i64 0)]), (7, [.agg [.sym (.int .i64 (.var 0)), .sym (.int .u64 (.var 1))]], .tuple [.sym (.int .i64 (.var 2)), .v (.int .i64 0)])]
def TW_err : List SEntry := [(9, [.sym (.int .i64 (.var 3)), .sym (.int .i64 (.var 4))], .tuple [.v v00, .v (.int .i64 11)]), (10, [.sym (.int .i64 (.var 3))], .v (.int .i64 11))]
def TW_typ : List SEntry := [(9, [.sym (.int .i64 (.var 3)), .sym (.int .i64 (.var 4))], .tuple [.v v00, .v (.int .i64 12)]), (10, [.sym (.int .i64 (.var 3))], .v (.int .i64 0))]
def TW_ok : List SEntry := [(9, [.sym (.int .i64 (.var 3)), .sym (.int .i64 (.var 4))], .tuple [.agg [.sym (.int .i64 (.var 3)), .sym (.int .u64 (.var 5))], .v (.int .i64 0)]), (10, [.sym (.int .i64 (.var 3))], .v (.int .i64 0)), (11, [.sym (.int .i64 (.var 3)), .sym (.int .i64 (.var 4))], .agg [.sym (.int .i64 (.var 3)), .sym (.int .u64 (.var 5))])]
def LK_err : List CF := []
def LK_typ : List CF := [⟨.geq, (.var 3), (.lit 9), true⟩]
def LK_ok : List CF := [⟨.geq, (.var 3), (.lit 9), false⟩]
theorem okLK_err (ρ : Nat → Int) : ∀ f ∈ LK_err, f.ok ρ := fun _ h => by cases h
theorem okLK_typ (a b c k n W : Int) (h : 9 ≤ k) : ∀ f ∈ LK_typ, f.ok (rho a b c k n W) := fun f hf => by
  obtain rfl := List.mem_singleton.1 hf
  exact ⟨rfl, cmp_geq_t (by simp only [IE.ev, rho_3]; omega)⟩
theorem okLK_ok (a b c k n W : Int) (h : k < 9) : ∀ f ∈ LK_ok, f.ok (rho a b c k n W) := fun f hf => by
  obtain rfl := List.mem_singleton.1 hf
  exact ⟨rfl, cmp_geq_f (by simp only [IE.ev, rho_3]; omega)⟩
theorem law_a_err (ρ : Nat → Int) (aR aS : Addr) : (@call (E ρ LK_err) Tryz.prog (glob aR aS) (tabS ((4, [], .v (.bool true)) :: (TV_a ++ TW_err))) 300 60 (.fn 3) xs []).map (fun r => nrm r.1) = some (.v (.bool true)) := by kernel_rfl
theorem law_a_typ (ρ : Nat → Int) (aR aS : Addr) : (@call (E ρ LK_typ) Tryz.prog (glob aR aS) (tabS ((4, [], .v (.bool true)) :: (TV_a ++ TW_typ))) 300 60 (.fn 3) xs []).map (fun r => nrm r.1) = some (.v (.bool true)) := by kernel_rfl
theorem law_a_ok (ρ : Nat → Int) (aR aS : Addr) : (@call (E ρ LK_ok) Tryz.prog (glob aR aS) (tabS ((4, [], .v (.bool true)) :: (TV_a ++ TW_ok))) 300 60 (.fn 3) xs []).map (fun r => nrm r.1) = some (.v (.bool true)) := by kernel_rfl
theorem law_b_err (ρ : Nat → Int) (aR aS : Addr) : (@call (E ρ LK_err) Tryz.prog (glob aR aS) (tabS ((4, [], .v (.bool true)) :: (TV_b ++ TW_err))) 300 60 (.fn 3) xs []).map (fun r => nrm r.1) = some (.v (.bool true)) := by kernel_rfl
theorem law_b_typ (ρ : Nat → Int) (aR aS : Addr) : (@call (E ρ LK_typ) Tryz.prog (glob aR aS) (tabS ((4, [], .v (.bool true)) :: (TV_b ++ TW_typ))) 300 60 (.fn 3) xs []).map (fun r => nrm r.1) = some (.v (.bool true)) := by kernel_rfl
theorem law_b_ok (ρ : Nat → Int) (aR aS : Addr) : (@call (E ρ LK_ok) Tryz.prog (glob aR aS) (tabS ((4, [], .v (.bool true)) :: (TV_b ++ TW_ok))) 300 60 (.fn 3) xs []).map (fun r => nrm r.1) = some (.v (.bool true)) := by kernel_rfl
theorem law_c_err (ρ : Nat → Int) (aR aS : Addr) : (@call (E ρ LK_err) Tryz.prog (glob aR aS) (tabS ((4, [], .v (.bool true)) :: (TV_c ++ TW_err))) 300 60 (.fn 3) xs []).map (fun r => nrm r.1) = some (.v (.bool true)) := by kernel_rfl
theorem law_c_typ (ρ : Nat → Int) (aR aS : Addr) : (@call (E ρ LK_typ) Tryz.prog (glob aR aS) (tabS ((4, [], .v (.bool true)) :: (TV_c ++ TW_typ))) 300 60 (.fn 3) xs []).map (fun r => nrm r.1) = some (.v (.bool true)) := by kernel_rfl
theorem law_c_ok (ρ : Nat → Int) (aR aS : Addr) : (@call (E ρ LK_ok) Tryz.prog (glob aR aS) (tabS ((4, [], .v (.bool true)) :: (TV_c ++ TW_ok))) 300 60 (.fn 3) xs []).map (fun r => nrm r.1) = some (.v (.bool true)) := by kernel_rfl
theorem law_d_err (ρ : Nat → Int) (aR aS : Addr) : (@call (E ρ LK_err) Tryz.prog (glob aR aS) (tabS ((4, [], .v (.bool true)) :: (TV_d ++ TW_err))) 300 60 (.fn 3) xs []).map (fun r => nrm r.1) = some (.v (.bool true)) := by kernel_rfl
theorem law_d_typ (ρ : Nat → Int) (aR aS : Addr) : (@call (E ρ LK_typ) Tryz.prog (glob aR aS) (tabS ((4, [], .v (.bool true)) :: (TV_d ++ TW_typ))) 300 60 (.fn 3) xs []).map (fun r => nrm r.1) = some (.v (.bool true)) := by kernel_rfl
theorem law_d_ok (ρ : Nat → Int) (aR aS : Addr) : (@call (E ρ LK_ok) Tryz.prog (glob aR aS) (tabS ((4, [], .v (.bool true)) :: (TV_d ++ TW_ok))) 300 60 (.fn 3) xs []).map (fun r => nrm r.1) = some (.v (.bool true)) := by kernel_rfl
theorem law_e_err (ρ : Nat → Int) (aR aS : Addr) : (@call (E ρ LK_err) Tryz.prog (glob aR aS) (tabS ((4, [], .v (.bool true)) :: (TV_e ++ TW_err))) 300 60 (.fn 3) xs []).map (fun r => nrm r.1) = some (.v (.bool true)) := by kernel_rfl
theorem law_e_typ (ρ : Nat → Int) (aR aS : Addr) : (@call (E ρ LK_typ) Tryz.prog (glob aR aS) (tabS ((4, [], .v (.bool true)) :: (TV_e ++ TW_typ))) 300 60 (.fn 3) xs []).map (fun r => nrm r.1) = some (.v (.bool true)) := by kernel_rfl
theorem law_e_ok (ρ : Nat → Int) (aR aS : Addr) : (@call (E ρ LK_ok) Tryz.prog (glob aR aS) (tabS ((4, [], .v (.bool true)) :: (TV_e ++ TW_ok))) 300 60 (.fn 3) xs []).map (fun r => nrm r.1) = some (.v (.bool true)) := by kernel_rfl

theorem sok {ρ : Nat → Int} {L : List CF} {aR aS : Addr} {e : SEntry} {vs : List Value} {v : Value} (h1 : nfL e.2.1 = true) (h2 : nf e.2.2 = true) (h3 : @denL (E ρ L) (fun _ => none) e.2.1 = some vs) (h4 : @den (E ρ L) (fun _ => none) e.2.2 = some v)
    (h : ∀ w, (glob aR aS).holds w → Calls Tryz.prog e.1 vs.toArray w (Ret v w)) : @SOk (E ρ L) Tryz.prog (glob aR aS) e := ⟨h1, h2, vs, v, h3, h4, h⟩
theorem law_end {vk b K k n W : Int} {L : List CF} (hL : ∀ f ∈ L, f.ok (rho vk b K k n W)) {aR aS : Addr} {T U : List SEntry} (hT : ∀ e ∈ T, @SOk (E (rho vk b K k n W) L) Tryz.prog (glob aR aS) e) (hU : ∀ e ∈ U, @SOk (E (rho vk b K k n W) L) Tryz.prog (glob aR aS) e)
    (h : (@call (E (rho vk b K k n W) L) Tryz.prog (glob aR aS) (tabS ((4, [], .v (.bool true)) :: (T ++ U))) 300 60 (.fn 3) xs []).map (fun r => nrm r.1) = some (.v (.bool true))) {w : World} (hG : (glob aR aS).holds w) :
    Calls Tryz.prog 3 #[.agg #[.int .i64 vk, .int .u64 b], .int .i64 k, .int .i64 n] w (Ret (.bool true) w) := by
  have hall : ∀ e ∈ ((4, [], .v (.bool true)) : SEntry) :: (T ++ U), @SOk (E (rho vk b K k n W) L) Tryz.prog (glob aR aS) e := fun e he => by
    rcases List.mem_cons.1 he with rfl | he
    · exact sok rfl rfl rfl rfl fun w hG => awake_ok aR aS w hG
    · rcases List.mem_append.1 he with he | he
      · exact hT e he
      · exact hU e he
  obtain ⟨v', h2, h3⟩ := @calls_of_run (E (rho vk b K k n W) L) Tryz.prog (glob aR aS) _ (@tabS_holds (E (rho vk b K k n W) L) _ _ _ hall) (namesE hL) mixed 300 60 3 xs (.v (.bool true)) h rfl (fun _ => none)
    #[.agg #[.int .i64 vk, .int .u64 b], .int .i64 k, .int .i64 n] rfl rfl w hG
  have : Value.bool true = v' := by simpa [den] using h2
  subst this
  exact h3
theorem tv_a {aR aS : Addr} {vk b K k n W : Int} {L : List CF} (h : VIs aR aS vk b 11 11 0) : ∀ e ∈ TV_a, @SOk (E (rho vk b K k n W) L) Tryz.prog (glob aR aS) e := fun e he => by
  simp only [TV_a, List.mem_cons, List.not_mem_nil, or_false] at he
  rcases he with rfl | rfl | rfl
  · exact sok rfl rfl rfl rfl fun w hG => (h w hG).1
  · exact sok rfl rfl rfl rfl fun w hG => (h w hG).2.1
  · exact sok rfl rfl rfl rfl fun w hG => (h w hG).2.2.1
theorem tv_b {aR aS : Addr} {vk b K k n W : Int} {L : List CF} (h : VIs aR aS vk b 1 1 0) : ∀ e ∈ TV_b, @SOk (E (rho vk b K k n W) L) Tryz.prog (glob aR aS) e := fun e he => by
  simp only [TV_b, List.mem_cons, List.not_mem_nil, or_false] at he
  rcases he with rfl | rfl | rfl
  · exact sok rfl rfl rfl rfl fun w hG => (h w hG).1
  · exact sok rfl rfl rfl rfl fun w hG => (h w hG).2.1
  · exact sok rfl rfl rfl rfl fun w hG => (h w hG).2.2.1
theorem tv_c {aR aS : Addr} {vk b K k n W : Int} {L : List CF} (h : VIs aR aS vk b 0 12 0) : ∀ e ∈ TV_c, @SOk (E (rho vk b K k n W) L) Tryz.prog (glob aR aS) e := fun e he => by
  simp only [TV_c, List.mem_cons, List.not_mem_nil, or_false] at he
  rcases he with rfl | rfl | rfl | rfl
  · exact sok rfl rfl rfl rfl fun w hG => (h w hG).1
  · exact sok rfl rfl rfl rfl fun w hG => (h w hG).2.1
  · exact sok rfl rfl rfl rfl fun w hG => (h w hG).2.2.1
  · exact sok rfl rfl rfl rfl fun w hG => (h w hG).2.2.2 rfl
theorem tv_d {aR aS : Addr} {vk b K k n W : Int} {L : List CF} (h : VIs aR aS vk b 0 4 0) : ∀ e ∈ TV_d, @SOk (E (rho vk b K k n W) L) Tryz.prog (glob aR aS) e := fun e he => by
  simp only [TV_d, List.mem_cons, List.not_mem_nil, or_false] at he
  rcases he with rfl | rfl | rfl | rfl
  · exact sok rfl rfl rfl rfl fun w hG => (h w hG).1
  · exact sok rfl rfl rfl rfl fun w hG => (h w hG).2.1
  · exact sok rfl rfl rfl rfl fun w hG => (h w hG).2.2.1
  · exact sok rfl rfl rfl rfl fun w hG => (h w hG).2.2.2 rfl
theorem tv_e {aR aS : Addr} {vk b K k n W : Int} {L : List CF} (h : VIs aR aS vk b 0 0 K) : ∀ e ∈ TV_e, @SOk (E (rho vk b K k n W) L) Tryz.prog (glob aR aS) e := fun e he => by
  simp only [TV_e, List.mem_cons, List.not_mem_nil, or_false] at he
  rcases he with rfl | rfl | rfl | rfl
  · exact sok rfl rfl rfl rfl fun w hG => (h w hG).1
  · exact sok rfl rfl rfl rfl fun w hG => (h w hG).2.1
  · exact sok rfl rfl rfl rfl fun w hG => (h w hG).2.2.1
  · exact sok rfl rfl rfl rfl fun w hG => (h w hG).2.2.2 rfl
theorem tw_err {aR aS : Addr} {vk b K k n W : Int} {L : List CF} (h : WErr aR aS k n) : ∀ e ∈ TW_err, @SOk (E (rho vk b K k n W) L) Tryz.prog (glob aR aS) e := fun e he => by
  simp only [TW_err, List.mem_cons, List.not_mem_nil, or_false] at he
  rcases he with rfl | rfl
  · exact sok rfl rfl rfl rfl fun w hG => (h w hG).1
  · exact sok rfl rfl rfl rfl fun w hG => (h w hG).2
theorem tw_typ {aR aS : Addr} {vk b K k n W : Int} {L : List CF} (h : WTyp aR aS k n) : ∀ e ∈ TW_typ, @SOk (E (rho vk b K k n W) L) Tryz.prog (glob aR aS) e := fun e he => by
  simp only [TW_typ, List.mem_cons, List.not_mem_nil, or_false] at he
  rcases he with rfl | rfl
  · exact sok rfl rfl rfl rfl fun w hG => (h w hG).1
  · exact sok rfl rfl rfl rfl fun w hG => (h w hG).2
theorem tw_ok {aR aS : Addr} {vk b K k n W : Int} {L : List CF} (h : WOk aR aS k n W) : ∀ e ∈ TW_ok, @SOk (E (rho vk b K k n W) L) Tryz.prog (glob aR aS) e := fun e he => by
  simp only [TW_ok, List.mem_cons, List.not_mem_nil, or_false] at he
  rcases he with rfl | rfl | rfl
  · exact sok rfl rfl rfl rfl fun w hG => (h w hG).1
  · exact sok rfl rfl rfl rfl fun w hG => (h w hG).2.1
  · exact sok rfl rfl rfl rfl fun w hG => (h w hG).2.2

/-- **The law, at every input.** -/
theorem numValues_ok (aR aS : Addr) (vk b k n : Int) (hb0 : 0 ≤ b) (hb1 : b < 18446744073709551616) (hn0 : -9223372036854775808 ≤ n) (hn1 : n < 9223372036854775808) (w : World) (hG : (glob aR aS).holds w) :
    Calls Tryz.prog 3 #[.agg #[.int .i64 vk, .int .u64 b], .int .i64 k, .int .i64 n] w (Ret (.bool true) w) := by
  rcases wclass aR aS k n hn0 hn1 with hw | ⟨hk, hw⟩ | ⟨hk, W, hw⟩
  · rcases vclass aR aS vk b hb0 hb1 with hv | hv | hv | hv | ⟨K, hv⟩
    · exact law_end (K := 0) (W := 0) (okLK_err _) (tv_a hv) (tw_err hw) (law_a_err _ aR aS) hG
    · exact law_end (K := 0) (W := 0) (okLK_err _) (tv_b hv) (tw_err hw) (law_b_err _ aR aS) hG
    · exact law_end (K := 0) (W := 0) (okLK_err _) (tv_c hv) (tw_err hw) (law_c_err _ aR aS) hG
    · exact law_end (K := 0) (W := 0) (okLK_err _) (tv_d hv) (tw_err hw) (law_d_err _ aR aS) hG
    · exact law_end (K := K) (W := 0) (okLK_err _) (tv_e hv) (tw_err hw) (law_e_err _ aR aS) hG
  · rcases vclass aR aS vk b hb0 hb1 with hv | hv | hv | hv | ⟨K, hv⟩
    · exact law_end (K := 0) (W := 0) (okLK_typ _ _ _ _ _ _ hk) (tv_a hv) (tw_typ hw) (law_a_typ _ aR aS) hG
    · exact law_end (K := 0) (W := 0) (okLK_typ _ _ _ _ _ _ hk) (tv_b hv) (tw_typ hw) (law_b_typ _ aR aS) hG
    · exact law_end (K := 0) (W := 0) (okLK_typ _ _ _ _ _ _ hk) (tv_c hv) (tw_typ hw) (law_c_typ _ aR aS) hG
    · exact law_end (K := 0) (W := 0) (okLK_typ _ _ _ _ _ _ hk) (tv_d hv) (tw_typ hw) (law_d_typ _ aR aS) hG
    · exact law_end (K := K) (W := 0) (okLK_typ _ _ _ _ _ _ hk) (tv_e hv) (tw_typ hw) (law_e_typ _ aR aS) hG
  · rcases vclass aR aS vk b hb0 hb1 with hv | hv | hv | hv | ⟨K, hv⟩
    · exact law_end (K := 0) (W := W) (okLK_ok _ _ _ _ _ _ hk) (tv_a hv) (tw_ok hw) (law_a_ok _ aR aS) hG
    · exact law_end (K := 0) (W := W) (okLK_ok _ _ _ _ _ _ hk) (tv_b hv) (tw_ok hw) (law_b_ok _ aR aS) hG
    · exact law_end (K := 0) (W := W) (okLK_ok _ _ _ _ _ _ hk) (tv_c hv) (tw_ok hw) (law_c_ok _ aR aS) hG
    · exact law_end (K := 0) (W := W) (okLK_ok _ _ _ _ _ _ hk) (tv_d hv) (tw_ok hw) (law_d_ok _ aR aS) hG
    · exact law_end (K := K) (W := W) (okLK_ok _ _ _ _ _ _ hk) (tv_e hv) (tw_ok hw) (law_e_ok _ aR aS) hG
end
end Go.Proofs.YtljmnbkjhgnaiaaGreatDoor
