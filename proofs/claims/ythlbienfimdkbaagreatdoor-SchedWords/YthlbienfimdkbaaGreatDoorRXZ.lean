import Derived.Test.YthlbienfimdkbaaGreatDoorRXD
import Derived.Lib.Strings
import Derived.Lib.Join
namespace Go.RX
noncomputable section
open Go.RowKit (Below)
variable [Env]

/-! ### strings.Join: a call that reads what stands on the heap -/
 omit [Env] in
theorem cell_of {w : World} {b k : Nat} {vs : Array Value} {e : TypeId} {fz : Nat × Nat} (h : w.heap[b]? = some (.cells vs e fz)) : w.cell? ⟨b, k, none⟩ = vs[k]? := by
  simp [World.cell?, h]

def strL : List SVal → Option (List ByteArray)
  | [] => some []
  | .v (.string s) :: xs => match strL xs with
    | some l => some (s :: l)
    | none => none
  | _ => none

theorem strL_ok {ρ : Ren} : ∀ {l : List SVal} {ss : List ByteArray}, strL l = some ss → denL ρ l = some (ss.map .string)
  | [], ss, h => by cases h; rfl
  | x :: xs, ss, h => by
    unfold strL at h
    split at h
    · rename_i e; cases e
    · rename_i s xs' e
      cases e
      split at h
      · rename_i l hl
        cases h
        simp only [denL, den, strL_ok hl, List.map_cons]
      · cases h
    · cases h

/-- What a function says that joins strings. -/
def JoinOk (P : Program) (f : FuncId) (jn : List ByteArray → ByteArray → ByteArray) (fits : List ByteArray → ByteArray → Bool) : Prop := ∀ (bk o c : Nat) (xs : List ByteArray) (sep : ByteArray) (w : World),
  (∀ (j : Nat) x, xs[j]? = some x → w.cell? ⟨bk, o + j, none⟩ = some (.string x)) → bk < w.heap.size → xs.length ≤ c → fits xs sep = true →
  Calls P f #[.slice (some ⟨bk, o, none⟩) xs.length c, .string sep] w fun e w' => e = .returned (.string (jn xs sep)) ∧ Below w.heap.size w w'

def cellsAt (H : SHeap) (i : Nat) : Option (List SVal) := match H[i]? with
  | some (.cells l _ _) => some l
  | some (.row l _ _ _) => some l
  | _ => none

/-- The strings of a slice. -/
def sliceStrs (H : SHeap) : SVal → Option (List ByteArray)
  | .slice i off len cap => if len ≤ cap then match cellsAt H i with
      | some l => if off + len ≤ l.length then strL ((l.drop off).take len) else none
      | none => none
    else none
  | .row i off _ len => match cellsAt H i with
      | some l => if off + len ≤ l.length then strL ((l.drop off).take len) else none
      | none => none
  | _ => none

theorem denL_takeDrop {ρ : Ren} : ∀ {l : List SVal} {vs : List Value}, denL ρ l = some vs → ∀ off len, denL ρ ((l.drop off).take len) = some ((vs.drop off).take len) := fun {_ _} h _ _ => denL_take _ (denL_drop _ h)

 omit [Env] in
theorem strL_length : ∀ {l : List SVal} {ss : List ByteArray}, strL l = some ss → ss.length = l.length
  | [], ss, h => by cases h; rfl
  | x :: xs, ss, h => by
    unfold strL at h
    split at h
    · rename_i e; cases e
    · rename_i s xs' e
      cases e
      split at h
      · rename_i l hl
        cases h
        simp [strL_length hl]
      · cases h
    · cases h

theorem cellsAt_ok {w0 w : World} {ρ : Ren} {H : SHeap} (hR : Rel w0 ρ H w) {i : Nat} {p : Loc} (hp : ρ i = some p) {l : List SVal} (h : cellsAt H i = some l) :
    ∃ vs rest e fz, denL ρ l = some vs ∧ w.heap[p.b]? = some (.cells (vs ++ rest).toArray e fz) := by
  obtain ⟨o, ob, h1, h2, h3⟩ := hR.obj i p hp
  unfold cellsAt at h
  rw [h1] at h
  split at h
  · rename_i l' e fz he
    cases h
    cases he
    obtain ⟨vs, g1, rfl⟩ := h3
    exact ⟨vs, [], e, fz, g1, by simpa using h2⟩
  · rename_i l' e sz g he
    cases h
    cases he
    obtain ⟨vs, g1, rest, fz, rfl, _, _⟩ := h3
    exact ⟨vs, rest, e, fz, g1, h2⟩
  · cases h

theorem strs_cells {ρ : Ren} {l : List SVal} {ss : List ByteArray} {off len : Nat} (hl : off + len ≤ l.length) (hs : strL ((l.drop off).take len) = some ss) {vs rest : List Value} (hv : denL ρ l = some vs) :
    ss.length = len ∧ ∀ (j : Nat) x, ss[j]? = some x → (vs ++ rest).toArray[off + j]? = some (.string x) := by
  have hn : ss.length = len := by
    rw [strL_length hs]
    simp only [List.length_take, List.length_drop]
    omega
  refine ⟨hn, fun j x hx => ?_⟩
  have h1 := denL_takeDrop hv off len
  rw [strL_ok hs] at h1
  have h2 : ((vs.drop off).take len)[j]? = some (.string x) := by
    rw [← Option.some.inj h1, List.getElem?_map, hx]
    rfl
  have hj : j < len := by
    have := (List.getElem?_eq_some_iff.1 hx).1
    omega
  have hvl := denL_length hv
  rw [List.getElem?_take_of_lt hj, List.getElem?_drop] at h2
  rw [List.getElem?_toArray, List.getElem?_append_left (by omega)]
  exact h2

def joinO (f : FuncId) (jn : List ByteArray → ByteArray → ByteArray) (fits : List ByteArray → ByteArray → Bool) : Orac := readO fun g xs H => if g = f then match xs with
  | [a, .v (.string sep)] => match sliceStrs H a with
    | some ss => if fits ss sep then some (.v (.string (jn ss sep))) else none
    | none => none
  | _ => none else none

theorem joinO_holds {P : Program} {G : Glob} {f : FuncId} {jn : List ByteArray → ByteArray → ByteArray} {fits : List ByteArray → ByteArray → Bool} (hJ : JoinOk P f jn fits) : (joinO f jn fits).holds P G := readO_holds fun g xs H y hy w0 ρ vs w _ hR hvs => by
  split at hy
  case isFalse => cases hy
  rename_i hg
  subst hg
  split at hy
  case h_2 => cases hy
  rename_i a sep
  split at hy
  case h_2 => cases hy
  rename_i ss hss
  split at hy
  case isFalse => cases hy
  rename_i hfit
  cases hy
  refine ⟨_, rfl, ?_⟩
  obtain ⟨va, hva, hvs'⟩ : ∃ va, den ρ a = some va ∧ vs = #[va, .string sep] := by
    simp only [denL, den] at hvs
    split at hvs
    · rename_i va b h1 h2
      refine ⟨va, h1, ?_⟩
      have := Option.some.inj hvs
      cases h2
      cases vs
      simp_all
    · cases hvs
  subst hvs'
  unfold sliceStrs at hss
  split at hss
  · rename_i i off len cap
    split at hss
    case isFalse => cases hss
    rename_i hcap
    split at hss
    case h_2 => cases hss
    rename_i l hl
    split at hss
    case isFalse => cases hss
    rename_i hlen
    simp only [den] at hva
    split at hva
    case h_2 => cases hva
    rename_i p hp
    cases hva
    obtain ⟨us, rest, e, fz, g1, g2⟩ := cellsAt_ok hR hp hl
    obtain ⟨k1, k2⟩ := strs_cells (rest := rest) hlen hss g1
    have := hJ p.b off cap ss sep w (fun j x hx => by rw [cell_of g2]; exact k2 j x hx) (hR.fresh _ _ hp).2 (by omega) hfit
    rw [k1] at this
    exact this
  · rename_i i off eoff len
    split at hss
    case h_2 => cases hss
    rename_i l hl
    split at hss
    case isFalse => cases hss
    rename_i hlen
    simp only [den] at hva
    split at hva
    case h_2 => cases hva
    rename_i p hp
    split at hva
    case isFalse => cases hva
    rename_i hc
    cases hva
    obtain ⟨us, rest, e, fz, g1, g2⟩ := cellsAt_ok hR hp hl
    obtain ⟨k1, k2⟩ := strs_cells (rest := rest) hlen hss g1
    have := hJ p.b off (p.c - eoff) ss sep w (fun j x hx => by rw [cell_of g2]; exact k2 j x hx) (hR.fresh _ _ hp).2 (by omega) hfit
    rw [k1] at this
    exact this
  · cases hss
/-- The strings, one behind the other, with sep between them. -/
def jnL (ss : List ByteArray) (sep : ByteArray) : ByteArray := ⟨(Lib.join (ss.map (·.data.toList)) sep.data.toList).toArray⟩
def fitsL (ss : List ByteArray) (sep : ByteArray) : Bool := decide (ss.length ≤ 140737488355328) && decide ((Lib.join (ss.map (·.data.toList)) sep.data.toList).length ≤ 140737488355328)

/-! ### strings.Builder's copyCheck: a call that sets one cell -/
theorem store1_rel {w0 w : World} {ρ : Ren} {H : SHeap} (hR : Rel w0 ρ H w) {i : Nat} {p : Loc} {off : Nat} (hi : ρ i = some p) (hown : Own ρ H i p) {l : List SVal} {e : TypeId} {mk : List SVal → SObj} (hmk : RowMk e mk) (hH : H[i]? = some (mk l)) (hoff : off < l.length) {x : SVal} {v : Value}
    (hx : den ρ x = some v) : Rel w0 ρ (H.set i (mk (l.set off x))) (w.setCell ⟨p.b, off, none⟩ v) := by
  obtain ⟨o', ob, g1, g2, g3⟩ := hR.obj i p hi
  rw [hH] at g1
  cases g1
  obtain ⟨vs, rest, fz, hvs, rfl, _, hshut⟩ := hmk.open g3
  have hlen := denL_length hvs
  have hoff' : off < vs.length := by omega
  have hsize : (w.setCell ⟨p.b, off, none⟩ v).heap.size = w.heap.size := by simp [World.setCell]
  refine hR.setObj hi hown (ob := .cells (vs.set off v ++ rest).toArray e fz) (hshut _ _ (by simp) (denL_set hx hvs off)) rfl rfl rfl hsize ?_ ?_
  · intro k hk
    exact Below.heap_setCell _ _ _ _ hk
  · simp only [World.setCell, Array.getElem?_modify, if_true, g2]
    simp [List.set_append_left _ _ hoff']

/-- What copyCheck does at a builder of the type ty that is fresh, and at one that has been used. -/
def CopyOk (P : Program) (f : FuncId) (ty : TypeId) : Prop :=
  (∀ (b : Nat) (w : World), w.cell? ⟨b, 0, none⟩ = some (.pointer none) → w.shape? b = some (ty, 2) → w.frozen? ⟨b, 0, none⟩ = false →
    Calls P f #[.pointer (some ⟨b, 0, none⟩)] w fun e w' => e = .returned (.tuple #[]) ∧ w' = w.setCell ⟨b, 0, none⟩ (.pointer (some ⟨b, 0, none⟩))) ∧
  ∀ (b : Nat) (w : World), w.cell? ⟨b, 0, none⟩ = some (.pointer (some ⟨b, 0, none⟩)) → Calls P f #[.pointer (some ⟨b, 0, none⟩)] w fun e w' => e = .returned (.tuple #[]) ∧ w' = w

def copyO (f : FuncId) (ty : TypeId) : Orac := fun g xs H => if g = f then match xs with
  | [.ptr i 0] => match H[i]? with
    | some (.cells [c0, c1] e (0, 0)) => if e = ty then match c0 with
      | .v (.pointer none) => some (.tuple [], H.set i (.cells [.ptr i 0, c1] e (0, 0)))
      | .ptr j 0 => if j = i then some (.tuple [], H) else none
      | _ => none else none
    | _ => none
  | _ => none else none

theorem copyO_holds {P : Program} {G : Glob} {f : FuncId} {ty : TypeId} (hC : CopyOk P f ty) : (copyO f ty).holds P G := fun g xs H x H' hx => by
  unfold copyO at hx
  split at hx
  case isFalse => cases hx
  rename_i hg
  subst hg
  split at hx
  case h_2 => cases hx
  rename_i i
  split at hx
  case h_2 => cases hx
  rename_i c0 c1 e hH
  split at hx
  case isFalse => cases hx
  rename_i he
  subst he
  have arg : ∀ {ρ : Ren} {vs : Array Value}, denL ρ [.ptr i 0] = some vs.toList → ∃ p, ρ i = some p ∧ vs = #[.pointer (some ⟨p.b, 0, none⟩)] := fun {ρ vs} h => by
    simp only [denL, den] at h
    cases hp : ρ i with
    | none => rw [hp] at h; cases h
    | some p =>
      rw [hp] at h
      refine ⟨p, rfl, ?_⟩
      have := Option.some.inj h
      cases vs
      simp_all
  split at hx
  · cases hx
    refine ⟨by simp, fun w0 ρ w vs _ hR hvs => ?_⟩
    obtain ⟨p, hp, rfl⟩ := arg hvs
    obtain ⟨o', ob, g1, g2, g3⟩ := hR.obj i p hp
    rw [hH] at g1
    cases g1
    obtain ⟨us, hus, rfl⟩ := g3
    have hown : Own ρ H i p := hR.own hp hH (fun _ _ _ _ e => by cases e) (fun e => by cases e)
    have hl := denL_length hus
    obtain ⟨a, b, rfl⟩ : ∃ a b, us = [a, b] := by
      match us, hl with
      | [a, b], _ => exact ⟨a, b, rfl⟩
    have ha : a = .pointer none := by
      simp only [denL, den] at hus
      split at hus
      · rename_i u v e1 e2
        cases e1
        have := Option.some.inj hus
        simp_all
      · cases hus
    subst ha
    have hc : w.cell? ⟨p.b, 0, none⟩ = some (.pointer none) := by rw [cell_of g2]; rfl
    have hsh : w.shape? p.b = some (e, 2) := by simp [World.shape?, g2]
    have hfz : w.frozen? ⟨p.b, 0, none⟩ = false := by simp [World.frozen?, g2]
    refine (hC.1 p.b w hc hsh hfz).mono ?_
    rintro e' w' ⟨rfl, rfl⟩
    refine ⟨ρ, _, rfl, Ext.set hp _, rfl, ?_⟩
    exact store1_rel (l := [.v (.pointer none), c1]) (off := 0) hR hp hown (RowMk.cells (e := e)) hH (by simp) (x := .ptr i 0) (by simp only [den, hp])
  · rename_i j
    split at hx
    case isFalse => cases hx
    rename_i hj
    subst hj
    cases hx
    refine ⟨Nat.le_refl _, fun w0 ρ w vs _ hR hvs => ?_⟩
    obtain ⟨p, hp, rfl⟩ := arg hvs
    obtain ⟨o', ob, g1, g2, g3⟩ := hR.obj j p hp
    rw [hH] at g1
    cases g1
    obtain ⟨us, hus, rfl⟩ := g3
    have hc : w.cell? ⟨p.b, 0, none⟩ = some (.pointer (some ⟨p.b, 0, none⟩)) := by
      rw [cell_of g2]
      simp only [denL, den, hp] at hus
      split at hus
      · rename_i u v e1 e2
        cases e1
        rw [← Option.some.inj hus]
        rfl
      · cases hus
    refine (hC.2 p.b w hc).mono ?_
    rintro e' w' ⟨rfl, rfl⟩
    exact ⟨ρ, _, rfl, Ext.refl _ _, rfl, hR⟩
  · cases hx
end
end Go.RX
