import Derived.Test.YtdmbnllekmgnhaaDoorRXK
namespace Go.RX
noncomputable section
open Ieee

/-! ### Sums, products and quotients of finite floats are no NaN; the least and the greatest of two -/
theorem word_num (s : Bool) {r : Nat} (h : r ≤ 2139095040) : Num (single.word s r) := by
  unfold Num Format.word
  rw [sgl_sign]
  split <;> omega
theorem near_num (neg : Bool) (mag : Nat) (place : Int) : Num (single.nearest neg mag place) := by
  unfold Format.nearest
  split
  · exact word_num _ (by omega)
  · refine word_num _ ?_
    rw [sgl_inf]
    omega

/-- A finite word. -/
def Fin32 (a : Nat) : Prop := a < 4294967296 ∧ a % 2147483648 < 2139095040

theorem ar_num {op : BinOp} {a b : Nat} (ha : Fin32 a) (hb : Fin32 b) (h : op = .add ∨ op = .sub ∨ op = .mul ∨ (op = .quo ∧ b % 2147483648 ≠ 0)) : ∃ c, arF op a b = some c ∧ Num c := by
  rcases h with rfl | rfl | rfl | ⟨rfl, hz⟩
  · unfold arF Format.add
    rw [read_word ha.1 ha.2, read_word hb.1 hb.2]
    exact ⟨_, rfl, near_num _ _ _⟩
  · unfold arF Format.sub
    rw [read_word ha.1 ha.2, read_word hb.1 hb.2]
    exact ⟨_, rfl, near_num _ _ _⟩
  · unfold arF Format.mul
    rw [read_word ha.1 ha.2, read_word hb.1 hb.2]
    exact ⟨_, rfl, near_num _ _ _⟩
  · unfold arF Format.div
    rw [read_word ha.1 ha.2, read_word hb.1 hb.2]
    have hm := (magB_ok hb.2 hz).1
    simp only [Datum.quotient, if_neg hm]
    exact ⟨_, rfl, near_num _ _ _⟩

/-- A key of the calls of the builtin min, max. -/
def kMin : Op → Bool
  | .call c => match c.callee with
    | .builtin .min => true
    | _ => false
  | _ => false
def kMax : Op → Bool
  | .call c => match c.callee with
    | .builtin .max => true
    | _ => false
  | _ => false

theorem decode_neg {a : Nat} (ha : Fin32 a) : (FloatKind.decode .f32 a).neg = decide (2147483648 ≤ a) := by
  show (single.read a).neg = _
  rw [read_word ha.1 ha.2]
  rfl

theorem key_inj {a b : Nat} (ha : Fin32 a) (hb : Fin32 b) (h : keyB a = keyB b) (za : a ≠ 2147483648) (zb : b ≠ 2147483648) : a = b := by
  obtain ⟨a1, a2⟩ := ha
  obtain ⟨b1, b2⟩ := hb
  unfold keyB at h
  split at h <;> split at h <;> omega

section
variable {P : Program} {nmv : Nat → Value} {hnm : ∀ i, Flat (nmv i)} {ρ : Nat → Int}

theorem key_call {op : Op} (h : kMin op = true ∨ kMax op = true) : ∃ c b, op = .call c ∧ c.callee = .builtin b ∧ ((kMin op = true ∧ b = .min) ∨ (kMax op = true ∧ b = .max)) := by
  cases op with
  | call c =>
    refine ⟨c, ?_⟩
    rcases h with h | h
    · have h' := h
      simp only [kMin] at h'
      split at h'
      · rename_i hb
        exact ⟨_, rfl, hb, .inl ⟨h, rfl⟩⟩
      · cases h'
    · have h' := h
      simp only [kMax] at h'
      split at h'
      · rename_i hb
        exact ⟨_, rfl, hb, .inr ⟨h, rfl⟩⟩
      · cases h'
  | _ => rcases h with h | h <;> simp [kMin, kMax] at h

theorem two_args {x y : SVal} {a b : Nat} {c : Call} {bi : Builtin} (hc : c.callee = .builtin bi) (hx : Word nmv x a) (hy : Word nmv y b) {r : Ren} {f : Operand → Value} (hd : @denL (env0 P nmv hnm ρ) r [x, y] = some ((Op.call c).operands.toList.map f)) : c.args.map f = #[.float .f32 a, .float .f32 b] := by
  rw [args_of hc] at hd
  obtain ⟨u, l, e1, e2, e3⟩ := (@denL_cons (env0 P nmv hnm ρ) _ _ _ _).1 hd
  obtain ⟨u', l', e4, e5, e6⟩ := (@denL_cons (env0 P nmv hnm ρ) _ _ _ _).1 e2
  simp only [denL, Option.some.injEq] at e5
  subst e5
  subst e6
  rw [word_den hx] at e1
  rw [word_den hy] at e4
  cases e1
  cases e4
  exact Array.toList_inj.1 e3

theorem xok_min {x y z : SVal} {a b : Nat} (ha : Fin32 a) (hb : Fin32 b) (za : a ≠ 2147483648) (zb : b ≠ 2147483648) (hx : Word nmv x a) (hy : Word nmv y b) (hz : Word nmv z (if keyB b < keyB a then b else a)) : XOk P nmv hnm ρ (kMin, [x, y], z) := by
  intro op hk r f o w ho hd
  obtain ⟨c, bi, rfl, hc, hb'⟩ := key_call (.inl hk)
  have hbi : bi = .min := by
    rcases hb' with ⟨_, h⟩ | ⟨h, rfl⟩
    · exact h
    · obtain ⟨callee, args, tys⟩ := c
      simp only at hc
      subst hc
      simp [kMin] at hk
  subst hbi
  refine ⟨_, run_builtin .min ho hc (fun _ _ _ => ?_), word_den hz r⟩
  rw [two_args hc hx hy hd]
  have ho : FloatKind.f32.format.order a b = some (compare (keyB a) (keyB b)) := order_key ha.1 hb.1 (Nat.le_of_lt ha.2) (Nat.le_of_lt hb.2)
  have key : (Builtin.min2 (.float .f32 a) (.float .f32 b)).run P w = .ok (.float .f32 (if keyB b < keyB a then b else a)) w := by
    unfold Builtin.min2
    simp only [ho, compare, compareOfLessAndEq]
    rcases Int.lt_trichotomy (keyB a) (keyB b) with h | h | h
    · have h2 : ¬ keyB b < keyB a := by omega
      simp only [if_pos h, if_neg h2]
      rfl
    · have e := key_inj ha hb h za zb
      subst e
      simp only [Int.lt_irrefl, if_false, if_true, ite_self]
      rfl
    · have h2 : ¬ keyB a < keyB b := by omega
      have h3 : ¬ keyB a = keyB b := by omega
      simp only [if_pos h, if_neg h2, if_neg h3]
      rfl
  refine run_bind_ok (a := Value.float .f32 (if keyB b < keyB a then b else a)) (w' := w) ?_
  show (List.foldlM Builtin.min2 (.float .f32 a) [.float .f32 b] : Sem Value).run P w = _
  rw [List.foldlM_cons, run_bind_ok key]
  rfl

theorem xok_max {x y z : SVal} {a b : Nat} (ha : Fin32 a) (hb : Fin32 b) (za : a ≠ 2147483648) (zb : b ≠ 2147483648) (hx : Word nmv x a) (hy : Word nmv y b) (hz : Word nmv z (if keyB a < keyB b then b else a)) : XOk P nmv hnm ρ (kMax, [x, y], z) := by
  intro op hk r f o w ho hd
  obtain ⟨c, bi, rfl, hc, hb'⟩ := key_call (.inr hk)
  have hbi : bi = .max := by
    rcases hb' with ⟨h, rfl⟩ | ⟨_, h⟩
    · obtain ⟨callee, args, tys⟩ := c
      simp only at hc
      subst hc
      simp [kMax] at hk
    · exact h
  subst hbi
  refine ⟨_, run_builtin .max ho hc (fun _ _ _ => ?_), word_den hz r⟩
  rw [two_args hc hx hy hd]
  have ho : FloatKind.f32.format.order a b = some (compare (keyB a) (keyB b)) := order_key ha.1 hb.1 (Nat.le_of_lt ha.2) (Nat.le_of_lt hb.2)
  have key : (Builtin.max2 (.float .f32 a) (.float .f32 b)).run P w = .ok (.float .f32 (if keyB a < keyB b then b else a)) w := by
    unfold Builtin.max2
    simp only [ho, compare, compareOfLessAndEq]
    rcases Int.lt_trichotomy (keyB a) (keyB b) with h | h | h
    · simp only [if_pos h]
      rfl
    · have e := key_inj ha hb h za zb
      subst e
      simp only [Int.lt_irrefl, if_false, if_true, ite_self]
      rfl
    · have h2 : ¬ keyB a < keyB b := by omega
      have h3 : ¬ keyB a = keyB b := by omega
      simp only [if_neg h2, if_neg h3]
      rfl
  refine run_bind_ok (a := Value.float .f32 (if keyB a < keyB b then b else a)) (w' := w) ?_
  show (List.foldlM Builtin.max2 (.float .f32 a) [.float .f32 b] : Sem Value).run P w = _
  rw [List.foldlM_cons, run_bind_ok key]
  rfl
end
end
end Go.RX
