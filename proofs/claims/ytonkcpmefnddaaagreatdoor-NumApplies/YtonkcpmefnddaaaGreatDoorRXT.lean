import Derived.Test.YtonkcpmefnddaaaGreatDoorRX1
namespace Go.RX
noncomputable section
open Go.RowKit (Below)


theorem namesOk_noEnv {P : Program} (h : ∀ (f : FuncId) (fn : Func), P.funcs[f]? = some fn → fn.body.isSome = true → (fn.name == "runtime.NumGoroutine") = false) : @NamesOk noEnv P :=
  @NamesOk.mk noEnv P h (fun _ _ _ h => by cases h)

/-! ### Calls that were run before -/
def eqL (f : Value → Value → Bool) : List Value → List Value → Bool
  | [], [] => true
  | x :: xs, y :: ys => f x y && eqL f xs ys
  | _, _ => false

/-- Are the two the same? (Plain values; of all others it says no.) -/
def eqV : Nat → Value → Value → Bool
  | _, .bool a, .bool b => a == b
  | _, .int j a, .int k b => decide (j = k) && decide (a = b)
  | _, .string a, .string b => decide (a = b)
  | _, .float j a, .float k b => decide (j = k) && decide (a = b)
  | _, .func (.func f) a b, .func (.func g) c d => Nat.beq f g && a.toList.isEmpty && b.toList.isEmpty && c.toList.isEmpty && d.toList.isEmpty
  | n + 1, .agg a, .agg b => eqL (eqV n) a.toList b.toList
  | _, _, _ => false

theorem eqL_ok {f : Value → Value → Bool} (hf : ∀ x y, f x y = true → x = y) : ∀ (l m : List Value), eqL f l m = true → l = m
  | [], [], _ => rfl
  | [], y :: ys, h => by simp [eqL] at h
  | x :: xs, [], h => by simp [eqL] at h
  | x :: xs, y :: ys, h => by
    simp only [eqL, Bool.and_eq_true] at h
    rw [hf x y h.1, eqL_ok hf xs ys h.2]

theorem eqV_ok : ∀ (n : Nat) (x y : Value), eqV n x y = true → x = y
  | 0, x, y, h => by
    unfold eqV at h
    split at h
    · rw [beq_iff_eq.1 h]
    · simp only [Bool.and_eq_true, decide_eq_true_eq] at h; rw [h.1, h.2]
    · rw [of_decide_eq_true h]
    · simp only [Bool.and_eq_true, decide_eq_true_eq] at h; rw [h.1, h.2]
    · simp only [Bool.and_eq_true, List.isEmpty_iff] at h
      obtain ⟨⟨⟨⟨h1, h2⟩, h3⟩, h4⟩, h5⟩ := h
      rw [Nat.eq_of_beq_eq_true h1, Array.toList_eq_nil_iff.1 h2, Array.toList_eq_nil_iff.1 h3, Array.toList_eq_nil_iff.1 h4, Array.toList_eq_nil_iff.1 h5]
    · exact absurd (by assumption : 0 = Nat.succ _) (by simp)
    · cases h
  | n + 1, x, y, h => by
    unfold eqV at h
    split at h
    · rw [beq_iff_eq.1 h]
    · simp only [Bool.and_eq_true, decide_eq_true_eq] at h; rw [h.1, h.2]
    · rw [of_decide_eq_true h]
    · simp only [Bool.and_eq_true, decide_eq_true_eq] at h; rw [h.1, h.2]
    · simp only [Bool.and_eq_true, List.isEmpty_iff] at h
      obtain ⟨⟨⟨⟨h1, h2⟩, h3⟩, h4⟩, h5⟩ := h
      rw [Nat.eq_of_beq_eq_true h1, Array.toList_eq_nil_iff.1 h2, Array.toList_eq_nil_iff.1 h3, Array.toList_eq_nil_iff.1 h4, Array.toList_eq_nil_iff.1 h5]
    · have hn := Nat.succ.inj (by assumption : n + 1 = Nat.succ _)
      subst hn
      exact congrArg Value.agg (Array.toList_inj.1 (eqL_ok (eqV_ok n) _ _ h))
    · cases h

abbrev Entry := FuncId × List Value × Value

def lookT (f : FuncId) (vs : List Value) : List Entry → Option Value
  | [] => none
  | e :: es => if e.1 = f then (if eqL (eqV 9) e.2.1 vs then some e.2.2 else lookT f vs es) else lookT f vs es

theorem lookT_ok {f : FuncId} {vs : List Value} {v : Value} : ∀ {T : List Entry}, lookT f vs T = some v → (f, vs, v) ∈ T
  | [], h => by cases h
  | e :: es, h => by
    simp only [lookT] at h
    split at h
    · rename_i hf
      split at h
      · rename_i hv
        cases h
        have := eqL_ok (eqV_ok 9) _ _ hv
        obtain ⟨a, b, c⟩ := e
        simp only at hf this
        subst hf this
        simp
      · exact List.mem_cons_of_mem _ (lookT_ok h)
    · exact List.mem_cons_of_mem _ (lookT_ok h)

def tabO (T : List Entry) : Orac := fun f xs =>
  match vOfL xs with
  | none => none
  | some vs => match lookT f vs T with
    | some v => some (.v v)
    | none => none

section
variable [Env] {P : Program} {G : Glob}

/-- What a table says. -/
def TabOk (P : Program) (G : Glob) (T : List Entry) : Prop := ∀ e ∈ T, ∀ w, G.holds w → Calls P e.1 e.2.1.toArray w fun r w' => r = .returned e.2.2 ∧ Below w.heap.size w w'

 omit [Env] in
theorem TabOk.append {T U : List Entry} (h : TabOk P G T) (k : TabOk P G U) : TabOk P G (T ++ U) := fun e he => by
  rcases List.mem_append.1 he with h' | h'
  · exact h e h'
  · exact k e h'

theorem tabO_holds {T : List Entry} (h : TabOk P G T) : (tabO T).holds P G := fun f xs y hy ρ vs w hG hvs => by
  unfold tabO at hy
  split at hy
  · cases hy
  rename_i us hus
  split at hy
  case h_2 => cases hy
  rename_i v hv
  cases hy
  have h1 := denL_of_vOfL (ρ := ρ) _ hus
  rw [hvs] at h1
  have h2 : vs = us.toArray := by rw [← Option.some.inj h1]
  subst h2
  exact ⟨v, rfl, h _ (lookT_ok hv) w hG⟩

theorem tabOk_of_run {O : Orac} (hO : O.holds P G) (hN : NamesOk P) (hm : P.follows .mixedOrders = true) {fuel n : Nat} {T : List Entry}
    (h : T.map (fun e => (call P G O fuel n (.fn e.1) (e.2.1.map .v) []).map fun r => nrm r.1) = T.map fun e => some (.v e.2.2)) : TabOk P G T := by
  intro e he w hG
  have h1 : (call P G O fuel n (.fn e.1) (e.2.1.map .v) []).map (fun r => nrm r.1) = some (.v e.2.2) := (List.map_inj_left.1 h) e he
  have hx : nfL (e.2.1.map SVal.v) = true := by
    generalize e.2.1 = l
    induction l with
    | nil => rfl
    | cons x xs ih => simp [nfL, nf, ih]
  obtain ⟨v, hv, hc⟩ := calls_of_run hO hN hm h1 rfl (ρ := fun _ => none) (vs := e.2.1.toArray) hx (by simpa using denL_map_v e.2.1) hG
  simp only [den, Option.some.injEq] at hv
  subst hv
  exact hc

theorem noO_holds : Orac.holds P G (fun _ _ => none) := fun _ _ _ h => by cases h
end
end
end Go.RX
