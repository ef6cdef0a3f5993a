import Derived.Test.YtiomdkghnbbmcaaGreatDoorRXS2
namespace Go.RX
noncomputable section
open Go.RowKit (Below)

/-! ### Calls at symbolic values that were run before -/
def sameL (f : SVal → SVal → Bool) : List SVal → List SVal → Bool
  | [], [] => true
  | x :: xs, y :: ys => f x y && sameL f xs ys
  | _, _ => false

/-- Are the two the same? (Values, expressions of integers, and aggregates of such; of all others it says no.) -/
def sameS : Nat → SVal → SVal → Bool
  | _, .v a, .v b => eqV 9 a b
  | _, .sym (.int j a), .sym (.int k b) => decide (j = k) && a.same b
  | _, .sym (.nm i), .sym (.nm j) => Nat.beq i j
  | n + 1, .agg l, .agg m => sameL (sameS n) l m
  | _, _, _ => false

theorem sameL_ok {f : SVal → SVal → Bool} (hf : ∀ x y, f x y = true → x = y) : ∀ (l m : List SVal), sameL f l m = true → l = m
  | [], [], _ => rfl
  | [], y :: ys, h => by simp [sameL] at h
  | x :: xs, [], h => by simp [sameL] at h
  | x :: xs, y :: ys, h => by
    simp only [sameL, Bool.and_eq_true] at h
    rw [hf x y h.1, sameL_ok hf xs ys h.2]

theorem sameS_ok : ∀ (n : Nat) (x y : SVal), sameS n x y = true → x = y
  | 0, x, y, h => by
    unfold sameS at h
    split at h
    · rw [eqV_ok 9 _ _ h]
    · simp only [Bool.and_eq_true, decide_eq_true_eq] at h; rw [h.1, IE.same_ok h.2]
    · rw [Nat.eq_of_beq_eq_true h]
    · exact absurd (by assumption : 0 = Nat.succ _) (by simp)
    · cases h
  | n + 1, x, y, h => by
    unfold sameS at h
    split at h
    · rw [eqV_ok 9 _ _ h]
    · simp only [Bool.and_eq_true, decide_eq_true_eq] at h; rw [h.1, IE.same_ok h.2]
    · rw [Nat.eq_of_beq_eq_true h]
    · have hn := Nat.succ.inj (by assumption : n + 1 = Nat.succ _)
      subst hn
      rw [sameL_ok (sameS_ok n) _ _ h]
    · cases h

abbrev SEntry := FuncId × List SVal × SVal

def lookS (f : FuncId) (xs : List SVal) : List SEntry → Option SVal
  | [] => none
  | e :: es => if e.1 = f then (if sameL (sameS 9) e.2.1 xs then some e.2.2 else lookS f xs es) else lookS f xs es

theorem lookS_ok {f : FuncId} {xs : List SVal} {y : SVal} : ∀ {T : List SEntry}, lookS f xs T = some y → (f, xs, y) ∈ T
  | [], h => by cases h
  | e :: es, h => by
    simp only [lookS] at h
    split at h
    · rename_i hf
      split at h
      · rename_i hv
        cases h
        have := sameL_ok (sameS_ok 9) _ _ hv
        obtain ⟨a, b, c⟩ := e
        simp only at hf this
        subst hf this
        simp
      · exact List.mem_cons_of_mem _ (lookS_ok h)
    · exact List.mem_cons_of_mem _ (lookS_ok h)

def tabS (T : List SEntry) : Orac := fun f xs => lookS f xs T

section
variable [Env] {P : Program} {G : Glob}

/-- What an entry says. -/
def SOk (P : Program) (G : Glob) (e : SEntry) : Prop := nfL e.2.1 = true ∧ nf e.2.2 = true ∧
  ∃ (vs : List Value) (v : Value), denL (fun _ => none) e.2.1 = some vs ∧ den (fun _ => none) e.2.2 = some v ∧ ∀ w, G.holds w → Calls P e.1 vs.toArray w fun r w' => r = .returned v ∧ Below w.heap.size w w'

theorem tabS_holds {T : List SEntry} (h : ∀ e ∈ T, SOk P G e) : (tabS T).holds P G := fun f xs y hy ρ vs w hG hvs => by
  obtain ⟨h1, h2, us, v, h3, h4, h5⟩ := h _ (lookS_ok hy)
  simp only at h1 h2 h3 h4 h5
  have e1 := denL_nf (ρ := ρ) (ρ' := fun _ => none) xs h1
  have e2 := den_nf (ρ := ρ) (ρ' := fun _ => none) y h2
  rw [e1, h3] at hvs
  have : us = vs.toList := Option.some.inj hvs
  subst this
  exact ⟨v, by rw [e2, h4], h5 w hG⟩

/-- Two oracles, the first one first. -/
def orO (O U : Orac) : Orac := fun f xs => match O f xs with
  | some y => some y
  | none => U f xs

theorem orO_holds {O U : Orac} (h : O.holds P G) (k : U.holds P G) : (orO O U).holds P G := fun f xs y hy => by
  unfold orO at hy
  split at hy
  · rename_i hh; cases hy; exact h f xs _ hh
  · exact k f xs y hy

mutual
theorem den_some {ρ : Ren} : ∀ (x : SVal), nf x = true → ∃ v, den ρ x = some v
  | .v x, _ => ⟨_, rfl⟩
  | .sym i, _ => ⟨_, rfl⟩
  | .agg l, h => by
    obtain ⟨vs, hv⟩ := denL_some (ρ := ρ) l (by simpa [nf] using h)
    exact ⟨.agg vs.toArray, by simp only [den, hv]⟩
  | .tuple l, h => by
    obtain ⟨vs, hv⟩ := denL_some (ρ := ρ) l (by simpa [nf] using h)
    exact ⟨.tuple vs.toArray, by simp only [den, hv]⟩
  | .iface t x, h => by
    obtain ⟨v, hv⟩ := den_some (ρ := ρ) x (by simpa [nf] using h)
    exact ⟨.iface t v, by simp only [den, hv]⟩
  | .ptr i off, h => by simp [nf] at h
  | .slice i off len cap, h => by simp [nf] at h
  | .row i off eoff len, h => by simp [nf] at h
  | .func fn f c, h => by simp [nf] at h
  | .yield i, h => by simp [nf] at h
  | .map i, h => by simp [nf] at h
theorem denL_some {ρ : Ren} : ∀ (l : List SVal), nfL l = true → ∃ vs, denL ρ l = some vs
  | [], _ => ⟨[], rfl⟩
  | x :: xs, h => by
    simp only [nfL, Bool.and_eq_true] at h
    obtain ⟨v, hv⟩ := den_some (ρ := ρ) x h.1
    obtain ⟨vs, hvs⟩ := denL_some (ρ := ρ) xs h.2
    exact ⟨v :: vs, by simp only [denL, hv, hvs]⟩
end

theorem SOk_of_run {O : Orac} (hO : O.holds P G) (hN : NamesOk P) (hm : P.follows .mixedOrders = true) {fuel n : Nat} {f : FuncId} {xs : List SVal} {y : SVal}
    (h : (call P G O fuel n (.fn f) xs []).map (fun r => nrm r.1) = some y) (hx : nfL xs = true) (hy : nf y = true) : SOk P G (f, xs, y) := by
  obtain ⟨vs, hv⟩ := denL_some (ρ := fun _ => none) xs hx
  obtain ⟨v, hd⟩ := den_some (ρ := fun _ => none) y hy
  refine ⟨hx, hy, vs, v, hv, hd, fun w hG => ?_⟩
  obtain ⟨v', h1, h2⟩ := calls_of_run hO hN hm h hy (ρ := fun _ => none) (vs := vs.toArray) hx (by simpa using hv) hG
  rw [hd] at h1
  cases h1
  exact h2
end
end
end Go.RX
