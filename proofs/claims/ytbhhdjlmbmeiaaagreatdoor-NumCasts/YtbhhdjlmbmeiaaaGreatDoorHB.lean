import Derived.Test.YtbhhdjlmbmeiaaaGreatDoorHV
namespace Go.Proofs.YtbhhdjlmbmeiaaaGreatDoor
noncomputable section
open Go Go.RX
open Go.RowKit (Below)
set_option maxRecDepth 1000000
set_option maxHeartbeats 4000000
def ag0 (vk : Int) : SVal := .agg [.v (.int .i64 vk), .sym (.int .u64 (.var 0))]
def UC (vk : Int) : List SEntry := [(11, [ag0 vk], .v (.int .i64 0)), (21, [ag0 vk], .v (.int .i64 0))]
def UW (vk : Int) : List SEntry := [(30, [ag0 vk], .agg [.sym (.int .u64 (.var 2)), .sym (.int .u64 (.var 3))]), (38, [ag0 vk], .sym (.int .i64 (.var 4)))]
def UX : List SEntry := [(26, [.sym (.nm 0)], .agg [.v (.int .i64 9), .sym (.int .u64 (.var 5))]), (33, [.sym (.nm 0)], .agg [.v (.int .i64 9), .sym (.int .u64 (.var 5))])]
def UR : List SEntry := [(36, [.sym (.int .u64 (.var 0))], .sym (.nm 0))]
def UI (vk : Int) : List SEntry := UC vk ++ (UW vk ++ UX)
def UF : List SEntry := UC 9 ++ (UR ++ UX)
section
variable {b n e vk k t : Int} {F : Nat} {L : List CF} {T : List XE} {aR aS : Addr} {G : Int}
theorem UC_ok (hc : Chk aR aS vk b 0) : ∀ x ∈ UC vk, @SOk (E (wF F) (cF F) (rc b n G e vk k t) L T) Tryz.prog (glob aR aS) x := fun x hx => by
  simp only [UC, List.mem_cons, List.not_mem_nil, or_false] at hx
  rcases hx with rfl | rfl
  · exact sokE (vs := [agV vk b]) (v := .int .i64 0) rfl rfl rfl rfl fun w hG => (hc w hG).1
  · exact sokE (vs := [agV vk b]) (v := .int .i64 0) rfl rfl rfl rfl fun w hG => (hc w hG).2
theorem UW_ok (hi : IntV aR aS vk b n) : ∀ x ∈ UW vk, @SOk (E (wF F) (cF F) (rc b n G e vk k t) L T) Tryz.prog (glob aR aS) x := fun x hx => by
  simp only [UW, List.mem_cons, List.not_mem_nil, or_false] at hx
  rcases hx with rfl | rfl
  · exact sokE (vs := [agV vk b]) (v := .agg #[.int .u64 (hiI n), .int .u64 (loI n)]) rfl rfl rfl rfl fun w hG => (hi w hG).1
  · exact sokE (vs := [agV vk b]) (v := .int .i64 (IntKind.wrap .i64 n)) rfl rfl rfl rfl fun w hG => (hi w hG).2
theorem UX_ok (hN : Num F) : ∀ x ∈ UX, @SOk (E (wF F) (cF F) (rc b n (normW F) e vk k t) L T) Tryz.prog (glob aR aS) x := fun x hx => by
  have h := from_calls aR aS F hN
  simp only [UX, List.mem_cons, List.not_mem_nil, or_false] at hx
  rcases hx with rfl | rfl
  · exact sokE (vs := [.float .f32 F]) (v := agV 9 (normW F)) rfl rfl rfl rfl fun w hG => (h w hG).1
  · exact sokE (vs := [.float .f32 F]) (v := agV 9 (normW F)) rfl rfl rfl rfl fun w hG => (h w hG).2
theorem UR_ok (hF : F < 4294967296) (hr : F % 2147483648 < 2139095040) (hz : F ≠ 2147483648) : ∀ x ∈ UR, @SOk (E (wF F) (cF F) (rc F n G e vk k t) L T) Tryz.prog (glob aR aS) x := fun x hx => by
  obtain rfl := List.mem_singleton.1 hx
  exact sokE (vs := [.int .u64 F]) (v := .float .f32 F) rfl rfl rfl rfl fun w hG => float_calls aR aS F hF hr hz w hG
theorem UI_ok (hN : Num F) (hc : Chk aR aS vk b 0) (hi : IntV aR aS vk b n) : ∀ x ∈ UI vk, @SOk (E (wF F) (cF F) (rc b n (normW F) e vk k t) L T) Tryz.prog (glob aR aS) x := fun x hx => by
  rcases List.mem_append.1 hx with h | h
  · exact UC_ok hc x h
  rcases List.mem_append.1 h with h | h
  · exact UW_ok hi x h
  · exact UX_ok hN x h
theorem UF_ok (hF : F < 4294967296) (hr : F % 2147483648 < 2139095040) (hz : F ≠ 2147483648) (hc : Chk aR aS 9 F 0) : ∀ x ∈ UF, @SOk (E (wF F) (cF F) (rc F n (normW F) e 9 k t) L T) Tryz.prog (glob aR aS) x := fun x hx => by
  rcases List.mem_append.1 hx with h | h
  · exact UC_ok hc x h
  rcases List.mem_append.1 h with h | h
  · exact UR_ok hF hr hz x h
  · exact UX_ok ⟨hF, by omega⟩ x h
end
theorem normW_right {F : Nat} (hr : F % 2147483648 < 2139095040) (hz : F ≠ 2147483648) (hF : F < 4294967296) : normW F = F := by
  unfold normW
  (repeat' split) <;> omega
theorem word_num (s : Bool) {r : Nat} (h : r ≤ 2139095040) : Num (Ieee.single.word s r) := by
  unfold Num Ieee.Format.word
  rw [sgl_sign]
  split <;> omega
theorem nearest_num (n : Int) : Num (FloatKind.nearest .f32 n) := by
  show Num (Ieee.single.nearest _ _ _)
  unfold Ieee.Format.nearest
  split
  · exact word_num _ (by omega)
  · refine word_num _ ?_
    rw [sgl_inf]
    omega
theorem or_zero (x : Int) (h0 : 0 ≤ x) (h1 : x < 18446744073709551616) : binI .or .u64 x (shI .shl .u64 0 32) = x := by
  have e : shI .shl .u64 0 32 = 0 := by
    rw [shl_u64_32, wrap_u64]
    rfl
  rw [e]
  exact or_u64_64 x h0 h1
theorem pow_cast (B : Nat) : ((2 ^ B : Nat) : Int) = 2 ^ B := by
  rw [Int.natCast_pow]
  rfl
theorem is64_pow (s : Bool) (w j : Nat) (h : Ieee.double.read w = .number s 4503599627370496 ((j : Int) - 52)) : Is64 w (if s then -((2 ^ j : Nat) : Int) else ((2 ^ j : Nat) : Int)) := by
  refine ⟨s, 4503599627370496, (j : Int) - 52, h, by unfold z64; omega, ?_⟩
  have e : ((j : Int) - 52 + (z64 : Int)).toNat + 52 = j + z64 := by unfold z64; omega
  have e2 : (4503599627370496 : Nat) <<< ((j : Int) - 52 + (z64 : Int)).toNat = 2 ^ j * 2 ^ z64 := by
    rw [Nat.shiftLeft_eq, show (4503599627370496 : Nat) = 2 ^ 52 from rfl, ← Nat.pow_add, ← Nat.pow_add]
    congr 1
    omega
  unfold Ieee.signed
  rw [e2]
  have e3 : ((2 ^ j * 2 ^ z64 : Nat) : Int) = ((2 ^ j : Nat) : Int) * 2 ^ z64 := by
    rw [Int.natCast_mul, pow_cast z64]
  cases s
  · simp only [Bool.false_eq_true, if_false]
    exact e3
  · simp only [if_true]
    rw [e3, Int.neg_mul]
theorem is64_0 : Is64 0 0 := is64_zero false
def HN (vk : Nat) (b n : Int) : Prop := match vk with
  | 0 => 0 ≤ b ∧ b < 18446744073709551616 ∧ b = n % 2 ∧ 0 ≤ n ∧ n ≤ 1
  | 1 => 0 ≤ b ∧ b < 18446744073709551616 ∧ b = n % 256 ∧ 0 ≤ n ∧ n ≤ 255
  | 2 => 0 ≤ b ∧ b < 18446744073709551616 ∧ b = n % 65536 ∧ 0 ≤ n ∧ n ≤ 65535
  | 3 => 0 ≤ b ∧ b < 18446744073709551616 ∧ b = n % 4294967296 ∧ 0 ≤ n ∧ n ≤ 4294967295
  | 4 => 0 ≤ b ∧ b < 18446744073709551616 ∧ b = n % 18446744073709551616 ∧ 0 ≤ n ∧ n ≤ 18446744073709551615
  | 5 => 0 ≤ b ∧ b < 18446744073709551616 ∧ b = n % 256 ∧ (-128) ≤ n ∧ n ≤ 127
  | 6 => 0 ≤ b ∧ b < 18446744073709551616 ∧ b = n % 65536 ∧ (-32768) ≤ n ∧ n ≤ 32767
  | 7 => 0 ≤ b ∧ b < 18446744073709551616 ∧ b = n % 4294967296 ∧ (-2147483648) ≤ n ∧ n ≤ 2147483647
  | 8 => 0 ≤ b ∧ b < 18446744073709551616 ∧ b = n % 18446744073709551616 ∧ (-9223372036854775808) ≤ n ∧ n ≤ 9223372036854775807
  | _ => False
def HF (F : Nat) : Prop := F < 4294967296 ∧ F % 2147483648 < 2139095040 ∧ F ≠ 2147483648
abbrev ri (b n : Int) (vk k : Int) : Nat → Int := rc b n (normW (FloatKind.nearest .f32 n)) 0 vk k 0
abbrev rf (F : Nat) (k : Int) : Nat → Int := rc F 0 (normW F) 0 9 k (tB F)
theorem tupE (K e : Int) {x y : Int} (h : x = y) : some (Value.tuple #[agV K x, .int .i64 e]) = some (Value.tuple #[agV K y, .int .i64 e]) := by rw [h]
end
end Go.Proofs.YtbhhdjlmbmeiaaaGreatDoor
