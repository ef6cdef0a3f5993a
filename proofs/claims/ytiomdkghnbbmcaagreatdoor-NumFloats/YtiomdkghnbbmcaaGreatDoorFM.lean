import Derived.Test.YtiomdkghnbbmcaaGreatDoorFL
namespace Go.Proofs.YtiomdkghnbbmcaaGreatDoor
noncomputable section
open Go Go.RX
open Go.RowKit (Below)
set_option maxRecDepth 1000000
set_option maxHeartbeats 4000000

def isN (x : Nat) : Bool := decide (2139095040 < x % 2147483648)
theorem neq_self {x : Nat} (h : x < 4294967296) : cmpF .neq x x = isN x := by
  unfold isN
  by_cases hn : 2139095040 < x % 2147483648
  · rw [cmpF_nan hn, decide_eq_true hn]
  · rw [cmpF_key rfl ⟨h, by omega⟩ ⟨h, by omega⟩, decide_eq_false hn]
    simp [cmpI]
theorem eql_self {x : Nat} (h : x < 4294967296) (hn : x % 2147483648 ≤ 2139095040) : cmpF .eql x x = true := by
  rw [cmpF_key rfl ⟨h, hn⟩ ⟨h, hn⟩]
  simp [cmpI]
theorem num_of {x : Nat} (h : x < 4294967296) (hn : isN x = false) : Num x := ⟨h, by
  have := of_decide_eq_false hn
  omega⟩

theorem or_words {X Y : Nat} (hX : X < 4294967296) (hY : Y < 4294967296) : binI .or .u64 (X : Int) (shI .shl .u64 (Y : Int) 32) = binI .add .u64 (X : Int) (binI .mul .u64 (Y : Int) 4294967296) := by
  have e1 : shI .shl .u64 (Y : Int) 32 = ((Y * 4294967296 : Nat) : Int) := by
    show IntKind.wrap .u64 ((Y : Int) * 2 ^ 32) = _
    rw [show (2 : Int) ^ 32 = 4294967296 from rfl, wrap64_id _ (by omega) (by omega)]
    omega
  have e2 : binI .mul .u64 (Y : Int) 4294967296 = ((Y * 4294967296 : Nat) : Int) := by
    show IntKind.wrap .u64 ((Y : Int) * 4294967296) = _
    rw [wrap64_id _ (by omega) (by omega)]
    omega
  rw [e1, e2]
  have e3 : X ||| Y * 4294967296 = X + Y * 4294967296 := by
    have h := Nat.shiftLeft_add_eq_or_of_lt (i := 32) (b := X) (by omega) Y
    rw [Nat.shiftLeft_eq] at h
    rw [Nat.or_comm, show (4294967296 : Nat) = 2 ^ 32 from rfl, ← h]
    omega
  have e4 : ∀ n : Nat, n < 18446744073709551616 → (BitVec.ofInt IntKind.u64.bits (n : Int)).toNat = n := fun n hn => by
    rw [ofInt_toNat IntKind.u64.bits _ (by omega) (by show (n : Int) < 2 ^ 64; omega)]
    simp
  show IntKind.wrap .u64 (((BitVec.ofInt IntKind.u64.bits (X : Int) ||| BitVec.ofInt IntKind.u64.bits ((Y * 4294967296 : Nat) : Int)).toNat : Nat) : Int) = IntKind.wrap .u64 ((X : Int) + ((Y * 4294967296 : Nat) : Int))
  rw [BitVec.toNat_or, e4 X (by omega), e4 (Y * 4294967296) (by omega), e3]
  congr 1

theorem ll_ok {vk b : Int} {X Y : Nat} (hX : X < 4294967296) (hY : Y < 4294967296) {k : Bool × Bool} (h1 : (vk != 9) = k.1) (h2 : (vk != 10) = k.2) : ∀ f ∈ LL k, f.ok (rho vk b X Y 0 0) := fun f hf => by
  simp only [LL, List.mem_cons, List.not_mem_nil, or_false] at hf
  rcases hf with rfl | rfl | rfl
  · exact ⟨rfl, h1⟩
  · exact ⟨rfl, h2⟩
  · refine ⟨rfl, ?_⟩
    show (_ == _) = true
    rw [beq_iff_eq]
    exact or_words hX hY

section
variable {b x y lo hi : Nat} {ρ : Nat → Int}
theorem txy_ok (hx : x < 4294967296) (hy : y < 4294967296) : XF (wl b x y lo hi) (cl x y lo hi) ρ (txy (isN x, isN y)) := fun e he => by
  simp only [txy, List.mem_cons, List.not_mem_nil, or_false] at he
  rcases he with rfl | rfl | rfl | rfl | rfl
  · exact xok_cmp (a := x) (b := x) rfl rfl rfl (neq_self hx)
  · exact xok_cmp (a := y) (b := y) rfl rfl rfl (neq_self hy)
  · exact xok_complex (a := x) (b := y) rfl rfl rfl
  · exact xok_real (a := x) (b := y) rfl rfl
  · exact xok_imag (a := x) (b := y) rfl rfl
theorem tf_ok (hb : b < 4294967296) (hn : b % 2147483648 ≤ 2139095040) : XF (wl b x y lo hi) (cl x y lo hi) ρ tf := fun e he => by
  obtain rfl := List.mem_singleton.1 he
  refine xok_cmp (a := b) (b := b) rfl rfl rfl ?_
  rw [neq_self hb]
  exact decide_eq_false (by omega)
theorem tc_ok (hl : lo < 4294967296) (hl' : lo % 2147483648 ≤ 2139095040) (hh : hi < 4294967296) (hh' : hi % 2147483648 ≤ 2139095040) : XF (wl b x y lo hi) (cl x y lo hi) ρ tc := fun e he => by
  simp only [tc, List.mem_cons, List.not_mem_nil, or_false] at he
  rcases he with rfl | rfl
  · exact xok_complex (a := lo) (b := hi) rfl rfl rfl
  · exact xok_ceq (a := lo) (b := hi) (c := lo) (d := hi) (rr := true) true rfl rfl (by rw [eql_self hl hl', eql_self hh hh']; rfl)
end

/-- The law's end, from the tables. -/
theorem law_end {vk b : Int} {f x y lo hi : Nat} (hx : x < 4294967296) (hy : y < 4294967296) {k : Bool × Bool} (h1 : (vk != 9) = k.1) (h2 : (vk != 10) = k.2) {aR aS : Addr} {U : List SEntry} {T : List XE}
    (hT : XF (wl f x y lo hi) (cl x y lo hi) (rho vk b (normW x) (normW y) 0 0) T) (hU : ∀ e ∈ U, @SOk (E (wl f x y lo hi) (cl x y lo hi) (rho vk b (normW x) (normW y) 0 0) (LL k) (T ++ txy (isN x, isN y))) Tryz.prog (glob aR aS) e)
    (h : combos.map (lawR (wl f x y lo hi) (cl x y lo hi) (rho vk b (normW x) (normW y) 0 0) aR aS U T k) = combos.map fun _ => some (.v (.bool true))) {w : World} (hG : (glob aR aS).holds w) :
    Calls Tryz.prog 3 #[.agg #[.int .i64 vk, .int .u64 b], .float .f32 x, .float .f32 y] w (Ret (.bool true) w) := by
  have hL := ll_ok (vk := vk) (b := b) (normW_lt hx) (normW_lt hy) h1 h2
  have hTT : XF (wl f x y lo hi) (cl x y lo hi) (rho vk b (normW x) (normW y) 0 0) (T ++ txy (isN x, isN y)) := fun e he => by
    rcases List.mem_append.1 he with he | he
    · exact hT e he
    · exact txy_ok hx hy e he
  have hall : ∀ e ∈ UL U (isN x, isN y), @SOk (E (wl f x y lo hi) (cl x y lo hi) (rho vk b (normW x) (normW y) 0 0) (LL k) (T ++ txy (isN x, isN y))) Tryz.prog (glob aR aS) e := fun e he => by
    rcases List.mem_cons.1 he with rfl | he
    · exact sokE (vs := []) (v := .bool true) rfl rfl rfl rfl fun w hG => awake_ok aR aS w hG
    rcases List.mem_append.1 he with he | he
    · exact hU e he
    rcases List.mem_append.1 he with he | he
    · simp only [Ux] at he
      split at he
      · cases he
      · rename_i hn
        have hc := from_calls aR aS x (num_of hx (by simpa using hn))
        simp only [List.mem_cons, List.not_mem_nil, or_false] at he
        rcases he with rfl | rfl
        · exact sokE (vs := [.float .f32 x]) (v := .agg #[.int .i64 9, .int .u64 (normW x)]) rfl rfl rfl rfl fun w hG => (hc w hG).1
        · exact sokE (vs := [.float .f32 x]) (v := .agg #[.int .i64 9, .int .u64 (normW x)]) rfl rfl rfl rfl fun w hG => (hc w hG).2
    · simp only [Ux] at he
      split at he
      · cases he
      · rename_i hn
        have hc := from_calls aR aS y (num_of hy (by simpa using hn))
        simp only [List.mem_cons, List.not_mem_nil, or_false] at he
        rcases he with rfl | rfl
        · exact sokE (vs := [.float .f32 y]) (v := .agg #[.int .i64 9, .int .u64 (normW y)]) rfl rfl rfl rfl fun w hG => (hc w hG).1
        · exact sokE (vs := [.float .f32 y]) (v := .agg #[.int .i64 9, .int .u64 (normW y)]) rfl rfl rfl rfl fun w hG => (hc w hG).2
  have hrun := List.map_inj_left.1 h (isN x, isN y) (by cases isN x <;> cases isN y <;> decide)
  obtain ⟨v', h3, h4⟩ := @calls_of_run (E (wl f x y lo hi) (cl x y lo hi) (rho vk b (normW x) (normW y) 0 0) (LL k) (T ++ txy (isN x, isN y))) Tryz.prog (glob aR aS) _ (@tabS_holds (E (wl f x y lo hi) (cl x y lo hi) (rho vk b (normW x) (normW y) 0 0) (LL k) (T ++ txy (isN x, isN y))) _ _ _ hall) (namesE hL hTT) mixed 300 60
    3 xsL (.v (.bool true)) hrun rfl (fun _ => none) #[.agg #[.int .i64 vk, .int .u64 b], .float .f32 x, .float .f32 y] rfl rfl w hG
  have : some (Value.bool true) = some v' := h3
  obtain rfl := Option.some.inj this
  exact h4

theorem kinds_mem (vk : Int) : (vk != 9, vk != 10) ∈ kinds := by
  by_cases h : vk = 9
  · subst h; decide
  by_cases h' : vk = 10
  · subst h'; decide
  · have e1 : (vk != 9) = true := by simp [h]
    have e2 : (vk != 10) = true := by simp [h']
    rw [e1, e2]
    decide

theorem uo_ok {W : Nat → Nat} {C : Nat → Nat × Nat} {L : List CF} {T : List XE} {aR aS : Addr} {vk b c d : Int} {B e : Int} (h : VF aR aS vk b B (.float .f32 0) e (.complex .f32 0 0) e) : ∀ x ∈ Uo B e, @SOk (E W C (rho vk b c d 0 0) L T) Tryz.prog (glob aR aS) x := fun x hx => by
  simp only [Uo, List.mem_cons, List.not_mem_nil, or_false] at hx
  rcases hx with rfl | rfl | rfl
  · exact sokE (vs := [.agg #[.int .i64 vk, .int .u64 b]]) (v := .int .i64 B) rfl rfl rfl rfl fun w hG => (h w hG).1
  · exact sokE (vs := [.agg #[.int .i64 vk, .int .u64 b]]) (v := .tuple #[.float .f32 0, .int .i64 e]) rfl rfl rfl rfl fun w hG => (h w hG).2.1
  · exact sokE (vs := [.agg #[.int .i64 vk, .int .u64 b]]) (v := .tuple #[.complex .f32 0 0, .int .i64 e]) rfl rfl rfl rfl fun w hG => (h w hG).2.2

theorem uf_ok {x y lo hi : Nat} {L : List CF} {T : List XE} {aR aS : Addr} {vk b c d : Int} (hb0 : 0 ≤ b) (hb : b < 4294967296) (hr : b / 8388608 % 256 ≠ 255) (hz : b ≠ 2147483648) (h : VF aR aS vk b 0 (.float .f32 b.toNat) 0 (.complex .f32 0 0) 12) :
    ∀ e ∈ Uf, @SOk (E (wl b.toNat x y lo hi) (cl x y lo hi) (rho vk b c d 0 0) L T) Tryz.prog (glob aR aS) e := fun e he => by
  simp only [Uf, List.mem_cons, List.not_mem_nil, or_false] at he
  rcases he with rfl | rfl | rfl | rfl
  · exact sokE (vs := [.agg #[.int .i64 vk, .int .u64 b]]) (v := .int .i64 0) rfl rfl rfl rfl fun w hG => (h w hG).1
  · exact sokE (vs := [.agg #[.int .i64 vk, .int .u64 b]]) (v := .tuple #[.float .f32 b.toNat, .int .i64 0]) rfl rfl rfl rfl fun w hG => (h w hG).2.1
  · exact sokE (vs := [.agg #[.int .i64 vk, .int .u64 b]]) (v := .tuple #[.complex .f32 0 0, .int .i64 12]) rfl rfl rfl rfl fun w hG => (h w hG).2.2
  · refine sokE (vs := [.int .u64 b]) (v := .float .f32 b.toNat) rfl rfl rfl rfl fun w hG => ?_
    have := float_calls aR aS b.toNat (by omega) (by omega) (by omega) w hG
    rw [show ((b.toNat : Nat) : Int) = b by omega] at this
    exact this

theorem uc_ok {f x y : Nat} {L : List CF} {T : List XE} {aR aS : Addr} {vk b c d : Int} (hb0 : 0 ≤ b) (hb : b < 18446744073709551616) (h1 : b % 4294967296 / 8388608 % 256 ≠ 255) (h2 : b % 4294967296 ≠ 2147483648) (h3 : b / 4294967296 / 8388608 % 256 ≠ 255) (h4 : b / 4294967296 ≠ 2147483648)
    (h : VF aR aS vk b 0 (.float .f32 0) 12 (.complex .f32 (b % 4294967296).toNat (b / 4294967296).toNat) 0) :
    ∀ e ∈ Uc, @SOk (E (wl f x y (b % 4294967296).toNat (b / 4294967296).toNat) (cl x y (b % 4294967296).toNat (b / 4294967296).toNat) (rho vk b c d 0 0) L T) Tryz.prog (glob aR aS) e := fun e he => by
  simp only [Uc, List.mem_cons, List.not_mem_nil, or_false] at he
  rcases he with rfl | rfl | rfl | rfl | rfl
  · exact sokE (vs := [.agg #[.int .i64 vk, .int .u64 b]]) (v := .int .i64 0) rfl rfl rfl rfl fun w hG => (h w hG).1
  · exact sokE (vs := [.agg #[.int .i64 vk, .int .u64 b]]) (v := .tuple #[.float .f32 0, .int .i64 12]) rfl rfl rfl rfl fun w hG => (h w hG).2.1
  · exact sokE (vs := [.agg #[.int .i64 vk, .int .u64 b]]) (v := .tuple #[.complex .f32 (b % 4294967296).toNat (b / 4294967296).toNat, .int .i64 0]) rfl rfl rfl rfl fun w hG => (h w hG).2.2
  · refine sokE (vs := [.int .u64 (binI .rem .u64 b 4294967296)]) (v := .float .f32 (b % 4294967296).toNat) rfl rfl rfl rfl fun w hG => ?_
    have := float_calls aR aS (b % 4294967296).toNat (by omega) (by omega) (by omega) w hG
    rw [show (((b % 4294967296).toNat : Nat) : Int) = binI .rem .u64 b 4294967296 by
      show _ = b.tmod 4294967296
      rw [Int.tmod_eq_emod_of_nonneg hb0]
      omega] at this
    exact this
  · refine sokE (vs := [.int .u64 (binI .quo .u64 b 4294967296)]) (v := .float .f32 (b / 4294967296).toNat) rfl rfl rfl rfl fun w hG => ?_
    have := float_calls aR aS (b / 4294967296).toNat (by omega) (by omega) (by omega) w hG
    rw [show (((b / 4294967296).toNat : Nat) : Int) = binI .quo .u64 b 4294967296 by
      show _ = IntKind.wrap .u64 (b.tdiv 4294967296)
      rw [Int.tdiv_eq_ediv_of_nonneg hb0, wrap64_id _ (by omega) (by omega)]
      omega] at this
    exact this

/-- **The law, at every input.** -/
theorem numFloats_ok (aR aS : Addr) (vk b : Int) (x y : Nat) (hb0 : 0 ≤ b) (hb1 : b < 18446744073709551616) (hx : x < 4294967296) (hy : y < 4294967296) (w : World) (hG : (glob aR aS).holds w) :
    Calls Tryz.prog 3 #[.agg #[.int .i64 vk, .int .u64 b], .float .f32 x, .float .f32 y] w (Ret (.bool true) w) := by
  rcases vclass aR aS vk b hb0 hb1 with hv | hv | ⟨hk, hv⟩ | ⟨⟨rfl, c1, c2, c3⟩, hv⟩ | ⟨⟨rfl, c1, c2, c3, c4⟩, hv⟩
  · exact law_end (f := 0) (lo := 0) (hi := 0) hx hy rfl rfl (fun _ h => by cases h) (uo_ok hv) (List.map_inj_left.1 (law_e _ _ _ aR aS) _ (kinds_mem vk)) hG
  · exact law_end (f := 0) (lo := 0) (hi := 0) hx hy rfl rfl (fun _ h => by cases h) (uo_ok hv) (List.map_inj_left.1 (law_b _ _ _ aR aS) _ (kinds_mem vk)) hG
  · exact law_end (f := 0) (lo := 0) (hi := 0) (k := (true, true)) hx hy (by simp; omega) (by simp; omega) (fun _ h => by cases h) (uo_ok hv) (law_o _ _ _ aR aS) hG
  · exact law_end (f := b.toNat) (lo := 0) (hi := 0) (k := (false, true)) hx hy rfl rfl (tf_ok (by omega) (by omega)) (uf_ok hb0 c1 c2 c3 hv) (law_f _ _ _ aR aS) hG
  · exact law_end (f := 0) (lo := (b % 4294967296).toNat) (hi := (b / 4294967296).toNat) (k := (true, false)) hx hy rfl rfl (tc_ok (by omega) (by omega) (by omega) (by omega)) (uc_ok hb0 hb1 c1 c2 c3 c4 hv) (law_c _ _ _ aR aS) hG
end
end Go.Proofs.YtiomdkghnbbmcaaGreatDoor
