import Derived.Test.YtgecchiocfkpkaaGreatDoorLN1
import Derived.Test.YtgecchiocfkpkaaGreatDoorRXI
import Derived.Laws.MathBits
import Derived.Laws.Strings
namespace Go.Proofs.YtgecchiocfkpkaaGreatDoor
noncomputable section
open Go Go.RX
open Go.RowKit (Below)
set_option maxRecDepth 1000000
set_option maxHeartbeats 4000000
/-! ### All ones -/
noncomputable def kIdx (P : Program) : Op → Bool
  | .index ty _ _ => match P.underlying ty with
    | some .string => true
    | _ => false
  | _ => false
noncomputable def len8 : ByteArray := ⟨#[0, 1, 2, 2, 3, 3, 3, 3, 4, 4, 4, 4, 4, 4, 4, 4, 5, 5, 5, 5, 5, 5, 5, 5, 5, 5, 5, 5, 5, 5, 5, 5, 6, 6, 6, 6, 6, 6, 6, 6, 6, 6, 6, 6, 6, 6, 6, 6, 6, 6, 6, 6, 6, 6, 6, 6, 6, 6, 6, 6, 6, 6, 6, 6, 7, 7, 7, 7, 7, 7, 7, 7, 7, 7, 7, 7, 7, 7, 7, 7, 7, 7, 7, 7, 7, 7, 7, 7, 7, 7, 7, 7, 7, 7, 7, 7, 7, 7, 7, 7, 7, 7, 7, 7, 7, 7, 7, 7, 7, 7, 7, 7, 7, 7, 7, 7, 7, 7, 7, 7, 7, 7, 7, 7, 7, 7, 7, 7, 8, 8, 8, 8, 8, 8, 8, 8, 8, 8, 8, 8, 8, 8, 8, 8, 8, 8, 8, 8, 8, 8, 8, 8, 8, 8, 8, 8, 8, 8, 8, 8, 8, 8, 8, 8, 8, 8, 8, 8, 8, 8, 8, 8, 8, 8, 8, 8, 8, 8, 8, 8, 8, 8, 8, 8, 8, 8, 8, 8, 8, 8, 8, 8, 8, 8, 8, 8, 8, 8, 8, 8, 8, 8, 8, 8, 8, 8, 8, 8, 8, 8, 8, 8, 8, 8, 8, 8, 8, 8, 8, 8, 8, 8, 8, 8, 8, 8, 8, 8, 8, 8, 8, 8, 8, 8, 8, 8, 8, 8, 8, 8, 8, 8, 8, 8, 8, 8, 8, 8, 8, 8, 8, 8, 8, 8, 8, 8]⟩
theorem len8_get (i : Nat) (h : i < len8.size) : (len8[i]'h).toNat = bitLen i := len8tab_get i h
theorem len8_size : len8.size = 256 := by decide +kernel
@[reducible] noncomputable def EX (ρ : Nat → Int) (L : List CF) (T : List XE) : Env := envV Tryz.prog nm0 nm0_flat ρ (knowL L) (extraT T (extraY Tryz.prog [] (knowL L))) []
theorem namesX {ρ : Nat → Int} {L : List CF} {T : List XE} (h : ∀ f ∈ L, f.ok ρ) (hT : ∀ e ∈ T, XOk Tryz.prog nm0 nm0_flat ρ e) : @NamesOk (EX ρ L T) Tryz.prog :=
  namesOkV (namesOkS _ _ _ _ _ _ names1 (knowL_ok h) (extraT_ok hT (extraY_ok _ _ _ _ _ _ (knowL_ok h) (fun _ h => by cases h)))) (fun _ h => by cases h)
theorem xok_idx {ρ : Nat → Int} {e : IE} {j : Int} (h0 : 0 ≤ e.ev ρ) (h1 : e.ev ρ < 256) (hj : (bitLen (e.ev ρ).toNat : Int) = j) : XOk Tryz.prog nm0 nm0_flat ρ (kIdx Tryz.prog, [.v (.string len8), .sym (.int .u8 e)], .v (.int .u8 j)) := by
  intro o' hk r f o w ho hd
  cases o' with
  | index ty x ix =>
    have hd2 : @denL (Go.RX.env0 Tryz.prog nm0 nm0_flat ρ) r [.v (.string len8), .sym (.int .u8 e)] = some [f x, f ix] := by simpa [Op.operands] using hd
    obtain ⟨d1, d2⟩ := denL_two hd2
    have e1 : Value.string len8 = f x := Option.some.inj d1
    have e2 : Value.int .u8 (e.ev ρ) = f ix := Option.some.inj d2
    have hs : Tryz.prog.underlying ty = some .string := by
      simp only [kIdx] at hk
      split at hk
      · assumption
      · cases hk
    refine ⟨.int .u8 j, ?_, rfl⟩
    unfold execOp
    simp only [ho]
    refine run_bind_ok (a := Value.int .u8 j) (w' := w) ?_
    rw [← e1, ← e2, run_index_string w ty len8 .u8 (e.ev ρ) hs, dif_pos ⟨h0, by rw [len8_size]; omega⟩, len8_get, hj]
  | _ => simp [kIdx] at hk
theorem calls_x {ρ : Nat → Int} {L : List CF} {T : List XE} (hL : ∀ f ∈ L, f.ok ρ) (hT : ∀ e ∈ T, XOk Tryz.prog nm0 nm0_flat ρ e) {aR aS : Addr} {f : FuncId} {xs : List SVal} {y : SVal}
    (h : (@call (EX ρ L T) Tryz.prog (glob aR aS) (tabS []) 300 60 (.fn f) xs []).map (fun r => nrm r.1) = some y) (hx : nfL xs = true) (hy : nf y = true)
    {vs : List Value} {v : Value} (hv : @denL (EX ρ L T) (fun _ => none) xs = some vs) (hd : @den (EX ρ L T) (fun _ => none) y = some v) {w : World} (hG : (glob aR aS).holds w) : Calls Tryz.prog f vs.toArray w (Ret v w) := by
  obtain ⟨v', h2, h3⟩ := @calls_of_run (EX ρ L T) Tryz.prog (glob aR aS) (tabS []) (@tabS_holds (EX ρ L T) _ _ _ (fun _ h => by cases h)) (namesX hL hT) mixed 300 60 f xs y h hy (fun _ => none) vs.toArray hx (by simpa using hv) w hG
  rw [hd] at h2
  cases h2
  exact h3
/-- A number of c bits. -/
def Bits (c : Nat) (n : Int) : Prop := n < 2 ^ c ∧ (c ≠ 0 → 2 ^ (c - 1) ≤ n)
theorem bits_ex (n : Int) (h1 : n < 4294967296) : ∃ c : Nat, c < 33 ∧ Bits c n := by
  rcases Int.lt_or_le n 1 with h | h
  · exact ⟨0, by decide, by simpa using h, fun h => absurd rfl h⟩
  have hb := bitLen_spec n.toNat
  have hc := hb.2 (by omega)
  refine ⟨bitLen n.toNat, ?_, ?_, fun _ => ?_⟩
  · rcases Nat.lt_or_ge (bitLen n.toNat) 33 with h | h
    · exact h
    · have := Nat.pow_le_pow_right (show 0 < 2 by decide) (show 32 ≤ bitLen n.toNat - 1 by omega)
      omega
  · have e : ((2 ^ bitLen n.toNat : Nat) : Int) = (2 : Int) ^ bitLen n.toNat := by norm_cast
    omega
  · have e : ((2 ^ (bitLen n.toNat - 1) : Nat) : Int) = (2 : Int) ^ (bitLen n.toNat - 1) := by norm_cast
    omega
theorem c33 {p : Nat → Prop} (h : p 0 ∧ p 1 ∧ p 2 ∧ p 3 ∧ p 4 ∧ p 5 ∧ p 6 ∧ p 7 ∧ p 8 ∧ p 9 ∧ p 10 ∧ p 11 ∧ p 12 ∧ p 13 ∧ p 14 ∧ p 15 ∧ p 16 ∧ p 17 ∧ p 18 ∧ p 19 ∧ p 20 ∧ p 21 ∧ p 22 ∧ p 23 ∧ p 24 ∧ p 25 ∧ p 26 ∧ p 27 ∧ p 28 ∧ p 29 ∧ p 30 ∧ p 31 ∧ p 32) (c : Nat) (hc : c < 33) : p c := by
  obtain ⟨h0, h1, h2, h3, h4, h5, h6, h7, h8, h9, h10, h11, h12, h13, h14, h15, h16, h17, h18, h19, h20, h21, h22, h23, h24, h25, h26, h27, h28, h29, h30, h31, h32⟩ := h
  have hh : c = 0 ∨ c = 1 ∨ c = 2 ∨ c = 3 ∨ c = 4 ∨ c = 5 ∨ c = 6 ∨ c = 7 ∨ c = 8 ∨ c = 9 ∨ c = 10 ∨ c = 11 ∨ c = 12 ∨ c = 13 ∨ c = 14 ∨ c = 15 ∨ c = 16 ∨ c = 17 ∨ c = 18 ∨ c = 19 ∨ c = 20 ∨ c = 21 ∨ c = 22 ∨ c = 23 ∨ c = 24 ∨ c = 25 ∨ c = 26 ∨ c = 27 ∨ c = 28 ∨ c = 29 ∨ c = 30 ∨ c = 31 ∨ c = 32 := by omega
  rcases hh with rfl | rfl | rfl | rfl | rfl | rfl | rfl | rfl | rfl | rfl | rfl | rfl | rfl | rfl | rfl | rfl | rfl | rfl | rfl | rfl | rfl | rfl | rfl | rfl | rfl | rfl | rfl | rfl | rfl | rfl | rfl | rfl | rfl
  all_goals assumption

/-! #### The reference's -/
noncomputable def L_fu (c : Nat) : List CF := (List.range c).map (fun i => ⟨.lss, .lit ((2 ^ i - 1 : Nat) : Int), .var 0, true⟩) ++ [⟨.lss, .lit ((2 ^ c - 1 : Nat) : Int), .var 0, false⟩]
theorem run_fu (ρ : Nat → Int) (aR aS : Addr) (c : Nat) (hc : c < 33) : runE ρ aR aS (L_fu c) [] [(68, [sy 0], .v (.int .i64 ((2 ^ c - 1 : Nat) : Int)))] := by
  refine c33 (p := fun c => runE ρ aR aS (L_fu c) [] [(68, [sy 0], .v (.int .i64 ((2 ^ c - 1 : Nat) : Int)))]) ?_ c hc
  unfold runE
  refine ⟨?_, ?_, ?_, ?_, ?_, ?_, ?_, ?_, ?_, ?_, ?_, ?_, ?_, ?_, ?_, ?_, ?_, ?_, ?_, ?_, ?_, ?_, ?_, ?_, ?_, ?_, ?_, ?_, ?_, ?_, ?_, ?_, ?_⟩ <;> kernel_rfl
theorem fu_ok (aR aS : Addr) {n : Int} {c : Nat} (hc : c < 33) (h : Bits c n) : ∀ w, (glob aR aS).holds w → Calls Tryz.prog 68 #[.int .i64 n] w (Ret (.int .i64 ((2 ^ c - 1 : Nat) : Int)) w) := fun w hG => by
  have e : ∀ i : Nat, ((2 ^ i : Nat) : Int) = (2 : Int) ^ i := fun i => by norm_cast
  refine calls_sym (L := L_fu c) (ρ := r2 n 0 0 0) (fun f hf => ?_) (fun _ h => by cases h) (run_fu _ aR aS c hc) List.mem_cons_self rfl rfl (vs := [.int .i64 n]) rfl rfl hG
  rcases List.mem_append.1 hf with hf | hf
  · obtain ⟨i, hi, rfl⟩ := List.mem_map.1 hf
    have hi := List.mem_range.1 hi
    refine ⟨rfl, decide_eq_true ?_⟩
    show ((2 ^ i - 1 : Nat) : Int) < n
    have h2 := h.2 (by omega)
    have h3 : 2 ^ i ≤ 2 ^ (c - 1) := Nat.pow_le_pow_right (by decide) (by omega)
    have h4 : 1 ≤ 2 ^ i := Nat.one_le_two_pow
    have h5 := e (c - 1)
    omega
  · obtain rfl := List.mem_singleton.1 hf
    refine ⟨rfl, decide_eq_false ?_⟩
    show ¬ ((2 ^ c - 1 : Nat) : Int) < n
    have h1 := h.1
    have h4 : 1 ≤ 2 ^ c := Nat.one_le_two_pow
    have h5 := e c
    omega
/-! #### The library's -/
noncomputable def x16 (c : Nat) : IE := if 16 < c then .sh .shr .u64 (.var 0) (.lit 16) else .var 0
noncomputable def c16 (c : Nat) : Nat := if 16 < c then c - 16 else c
noncomputable def x8 (c : Nat) : IE := if 8 < c16 c then .sh .shr .u64 (x16 c) (.lit 8) else x16 c
noncomputable def c8 (c : Nat) : Nat := if 8 < c16 c then c16 c - 8 else c16 c
noncomputable def L_le (c : Nat) : List CF := [⟨.geq, .var 0, .lit 4294967296, false⟩, ⟨.geq, .var 0, .lit 65536, decide (16 < c)⟩, ⟨.geq, x16 c, .lit 256, decide (8 < c16 c)⟩]
noncomputable def T_le (c : Nat) : List XE := [(kIdx Tryz.prog, [.v (.string len8), .sym (.int .u8 (.cv .u8 (x8 c)))], .v (.int .u8 (c8 c : Nat)))]
theorem run_le (ρ : Nat → Int) (aR aS : Addr) (c : Nat) (hc : c < 33) : (@call (EX ρ (L_le c) (T_le c)) Tryz.prog (glob aR aS) (tabS []) 300 60 (.fn 212) [wd8 0] []).map (fun r => nrm r.1) = some (.v (.int .i64 (c : Nat))) := by
  refine c33 (p := fun c => (@call (EX ρ (L_le c) (T_le c)) Tryz.prog (glob aR aS) (tabS []) 300 60 (.fn 212) [wd8 0] []).map (fun r => nrm r.1) = some (.v (.int .i64 (c : Nat)))) ?_ c hc
  refine ⟨?_, ?_, ?_, ?_, ?_, ?_, ?_, ?_, ?_, ?_, ?_, ?_, ?_, ?_, ?_, ?_, ?_, ?_, ?_, ?_, ?_, ?_, ?_, ?_, ?_, ?_, ?_, ?_, ?_, ?_, ?_, ?_, ?_⟩ <;> kernel_rfl
theorem shr_bits {c k : Nat} {x : Int} (_ : 0 ≤ x) (h : Bits c x) (hk : k < c) : Bits (c - k) (x / 2 ^ k) := by
  have hp : (0 : Int) < 2 ^ k := Int.pow_pos (by decide)
  refine ⟨?_, fun h2 => ?_⟩
  · refine (Int.ediv_lt_iff_lt_mul hp).2 ?_
    rw [← Int.pow_add, show c - k + k = c by omega]
    exact h.1
  · refine (Int.le_ediv_iff_mul_le hp).2 ?_
    rw [← Int.pow_add, show c - k - 1 + k = c - 1 by omega]
    exact h.2 (by omega)
theorem bitLen_bits {c : Nat} {x : Int} (h0 : 0 ≤ x) (h : Bits c x) : bitLen x.toNat = c := by
  have hb := bitLen_spec x.toNat
  have e : ∀ i : Nat, ((2 ^ i : Nat) : Int) = (2 : Int) ^ i := fun i => by norm_cast
  have h1 := h.1
  have e1 := e c
  have l1 : x.toNat < 2 ^ c := by omega
  rcases Nat.lt_or_ge (bitLen x.toNat) c with g | g
  · have h2 := h.2 (by omega)
    have e2 := e (c - 1)
    have := Nat.pow_le_pow_right (show 0 < 2 by decide) (show bitLen x.toNat ≤ c - 1 by omega)
    omega
  · rcases Nat.eq_or_lt_of_le g with g | g
    · exact g.symm
    · exfalso
      have hx : x.toNat ≠ 0 := by
        intro hz
        rw [hz] at g
        simp [bitLen] at g
      have h2 := hb.2 hx
      have := Nat.pow_le_pow_right (show 0 < 2 by decide) (show c ≤ bitLen x.toNat - 1 by omega)
      omega
theorem le_ok (aR aS : Addr) {n : Int} (n0 : 0 ≤ n) {c : Nat} (hc : c < 33) (h : Bits c n) : ∀ w, (glob aR aS).holds w → Calls Tryz.prog 212 #[.int .u64 n] w (Ret (.int .i64 (c : Nat)) w) := fun w hG => by
  have e : ∀ i : Nat, ((2 ^ i : Nat) : Int) = (2 : Int) ^ i := fun i => by norm_cast
  have hp : ∀ k : Nat, k < c → (2 : Int) ^ k ≤ n := fun k hk => by
    have h2 := h.2 (by omega)
    have h3 : 2 ^ k ≤ 2 ^ (c - 1) := Nat.pow_le_pow_right (by decide) (by omega)
    have e1 := e k
    have e2 := e (c - 1)
    omega
  have hq : ∀ k : Nat, c ≤ k → n < (2 : Int) ^ k := fun k hk => by
    have h3 : 2 ^ c ≤ 2 ^ k := Nat.pow_le_pow_right (by decide) hk
    have e1 := e k
    have e2 := e c
    have := h.1
    omega
  have e16 : (x16 c).ev (r2 n 0 0 0) = if 16 < c then n / 65536 else n := by
    unfold x16
    split
    · exact shr_u64_16 n
    · rfl
  have b16 : 0 ≤ (x16 c).ev (r2 n 0 0 0) ∧ Bits (c16 c) ((x16 c).ev (r2 n 0 0 0)) := by
    rw [e16]
    unfold c16
    split
    · rename_i g
      exact ⟨by omega, shr_bits (k := 16) n0 h g⟩
    · exact ⟨n0, h⟩
  have l16 : c16 c ≤ 16 := by unfold c16; split <;> omega
  generalize hx : (x16 c).ev (r2 n 0 0 0) = x at b16
  have b8 : 0 ≤ (x8 c).ev (r2 n 0 0 0) ∧ Bits (c8 c) ((x8 c).ev (r2 n 0 0 0)) := by
    unfold x8 c8
    split
    · rename_i g
      have e8 : (IE.sh .shr .u64 (x16 c) (.lit 8)).ev (r2 n 0 0 0) = x / 256 := by
        show shI .shr .u64 ((x16 c).ev (r2 n 0 0 0)) 8 = _
        rw [hx]; exact shr_u64_8 x
      rw [e8]
      exact ⟨by omega, shr_bits (k := 8) b16.1 b16.2 g⟩
    · rw [hx]; exact b16
  have l8 : c8 c ≤ 8 := by unfold c8; split <;> omega
  have m8 : (x8 c).ev (r2 n 0 0 0) < 256 := by
    have h3 : 2 ^ c8 c ≤ 2 ^ 8 := Nat.pow_le_pow_right (by decide) l8
    have e1 := e (c8 c)
    have := b8.2.1
    omega
  refine calls_x (L := L_le c) (T := T_le c) (ρ := r2 n 0 0 0) (fun f hf => ?_) (fun u hu => ?_) (run_le _ aR aS c hc) rfl rfl (vs := [.int .u64 n]) rfl rfl hG
  · simp only [L_le, List.mem_cons, List.not_mem_nil, or_false] at hf
    rcases hf with rfl | rfl | rfl
    · exact ⟨rfl, decide_eq_false (show ¬ n ≥ 4294967296 by have := hq 32 (by omega); omega)⟩
    · refine ⟨rfl, ?_⟩
      show decide (n ≥ 65536) = decide (16 < c)
      refine decide_eq_decide.2 ⟨fun g => ?_, fun g => ?_⟩
      · rcases Nat.lt_or_ge 16 c with k | k
        · exact k
        · have := hq 16 k; omega
      · have := hp 16 g; omega
    · refine ⟨rfl, ?_⟩
      show decide ((x16 c).ev (r2 n 0 0 0) ≥ 256) = decide (8 < c16 c)
      rw [hx]
      refine decide_eq_decide.2 ⟨fun g => ?_, fun g => ?_⟩
      · rcases Nat.lt_or_ge 8 (c16 c) with k | k
        · exact k
        · exfalso
          have h3 : 2 ^ c16 c ≤ 2 ^ 8 := Nat.pow_le_pow_right (by decide) k
          have e1 := e (c16 c)
          have := b16.2.1
          omega
      · have h3 : 2 ^ 8 ≤ 2 ^ (c16 c - 1) := Nat.pow_le_pow_right (by decide) (by omega)
        have e1 := e (c16 c - 1)
        have := b16.2.2 (by omega)
        omega
  · obtain rfl := List.mem_singleton.1 hu
    have ec : (IE.cv .u8 (x8 c)).ev (r2 n 0 0 0) = (x8 c).ev (r2 n 0 0 0) := by
      show IntKind.wrap .u8 ((x8 c).ev (r2 n 0 0 0)) = _
      rw [wrap_u8]; omega
    exact xok_idx (by rw [ec]; exact b8.1) (by rw [ec]; exact m8) (by rw [ec, bitLen_bits b8.1 b8.2])
/-! #### The program's -/
def eMx : IE := .tri 2 (.tri 2 (.var 1) (.var 3) (.lit 0)) (.lit 0) (.lit 0)
theorem run_on (ρ : Nat → Int) (aR aS : Addr) : runE ρ aR aS [⟨.geq, .var 6, .lit 0, true⟩] [(212, [.sym (.int .u64 (.cv .u64 eMx))], sy 6)] [(179, [sA, sB], .sym (.int .i64 (.bin .sub .i64 (.sh .shl .i64 (.lit 1) (.var 6)) (.lit 1))))] := by
  unfold runE
  kernel_rfl
theorem on_ok (aR aS : Addr) {al ah bl bh : Int} (h1 : ah < 4294967296) (h2 : bh < 4294967296) {c : Nat} (hc : c < 33) (h : Bits c (max (max ah bh) 0)) : ∀ w, (glob aR aS).holds w → Calls Tryz.prog 179 #[spV al ah, spV bl bh] w (Ret (.int .i64 ((2 ^ c - 1 : Nat) : Int)) w) := fun w hG => by
  have e : ((2 ^ c : Nat) : Int) = (2 : Int) ^ c := by norm_cast
  have em : (IE.cv .u64 eMx).ev (rho al ah bl bh 0 0 (c : Nat) 0 0 0 0 fun _ => 0) = max (max ah bh) 0 := by
    show IntKind.wrap .u64 (triI 2 (triI 2 ah bh 0) 0 0) = _
    simp only [tri_2]
    rw [wrap_u64]
    omega
  refine calls_sym (L := [⟨.geq, .var 6, .lit 0, true⟩]) (ρ := rho al ah bl bh 0 0 (c : Nat) 0 0 0 0 fun _ => 0) (fun f hf => ?_) (fun u hu => ?_) (run_on _ aR aS) List.mem_cons_self rfl rfl (vs := [spV al ah, spV bl bh]) rfl ?_ hG
  · obtain rfl := List.mem_singleton.1 hf
    exact ⟨rfl, decide_eq_true (show ((c : Nat) : Int) ≥ 0 by omega)⟩
  · obtain rfl := List.mem_singleton.1 hu
    refine sokE rfl rfl (vs := [.int .u64 ((IE.cv .u64 eMx).ev (rho al ah bl bh 0 0 (c : Nat) 0 0 0 0 fun _ => 0))]) (v := .int .i64 (c : Nat)) rfl rfl ?_
    rw [em]
    exact le_ok aR aS (by omega) hc h
  · refine int64 ?_
    show IntKind.wrap .i64 (IntKind.wrap .i64 (1 * 2 ^ min ((c : Nat) : Int).toNat 64) - 1) = _
    have hp : 2 ^ c ≤ 2 ^ 32 := Nat.pow_le_pow_right (by decide) (by omega)
    have h1p : 1 ≤ 2 ^ c := Nat.one_le_two_pow
    rw [show min ((c : Nat) : Int).toNat 64 = c by omega, Int.one_mul, ← e, w64 (n := ((2 ^ c : Nat) : Int)) (by omega) (by omega), w64 (by omega) (by omega)]
    omega
end
end Go.Proofs.YtgecchiocfkpkaaGreatDoor
