import Derived.Test.YtdmbnllekmgnhaaDoorRX1
import Derived.RangeFuncRecord
import Derived.IntWalk
import Derived.Lib.UnsafeStr
namespace Go.RX
noncomputable section
open Go.RowKit (Below)

variable [Env]

section
variable {P : Program} {w0 w : World} {ρ : Ren} {H : SHeap} {t : List SVal} {a : Act} {o : Oper}

/-! ### Maps -/
 omit [Env] in
theorem entries_get {ks : List (Value × Nat)} {vs : List Value} (i : Nat) :
    (entries ks vs)[i]? = match ks[i]?, vs[i]? with
      | some k, some v => some { key := k.1, val := v, born := k.2 }
      | _, _ => none := by
  unfold entries
  rw [List.getElem?_zipWith]
  cases ks[i]? <;> cases vs[i]? <;> rfl

 omit [Env] in
theorem entries_length {ks : List (Value × Nat)} {vs : List Value} (h : ks.length = vs.length) : (entries ks vs).length = ks.length := by
  unfold entries
  rw [List.length_zipWith, h, Nat.min_self]

/-- The value that a key has. -/
def keyOf : SVal → Option Value
  | .sym i => some (Env.val i)
  | x => vOf x

theorem keyOf_ok {x : SVal} {k : Value} (h : keyOf x = some k) : den ρ x = some k := by
  unfold keyOf at h
  split at h
  · cases h; rfl
  · exact den_of_vOf _ h

def findK (kd : TypeDesc) (key : SVal) (k : Value) (ks : List (Value × Nat)) : Option (Option (Nat × Value)) :=
  match key with
  | .sym i => match kd with
    | .string => match Env.key i ks with
      | some r => some (r.map fun j => (j, undef))
      | none => none
    | _ => none
  | _ => Instr.findNow kd k (bare ks) 0

theorem findK_ok {kd : TypeDesc} {key : SVal} {k : Value} {ks : List (Value × Nat)} {r : Option (Nat × Value)} (hk : keyOf key = some k) (h : findK kd key k ks = some r) : Instr.findNow kd k (bare ks) 0 = some r := by
  unfold findK at h
  split at h
  · rename_i i
    split at h
    · split at h
      · rename_i r' hr
        cases h
        simp only [keyOf, Option.some.injEq] at hk
        subst hk
        exact Env.keyOk i ks r' hr
      · cases h
    · cases h
  · exact h

 omit [Env] in
theorem findNow_bare {kd : TypeDesc} {k : Value} : ∀ (ks : List (Value × Nat)) (vs : List Value), ks.length = vs.length → ∀ i,
    Instr.findNow kd k (entries ks vs) i = (match Instr.findNow kd k (bare ks) i with
      | some (some (j, _)) => some (some (j, vs.getD (j - i) undef))
      | some none => some none
      | none => none) ∧ (∀ j u, Instr.findNow kd k (bare ks) i = some (some (j, u)) → i ≤ j ∧ j - i < ks.length)
  | [], vs, h, i => by
    refine ⟨rfl, fun j u h => by simp [bare, Instr.findNow] at h⟩
  | x :: ks, [], h, i => by simp at h
  | x :: ks, v :: vs, h, i => by
    obtain ⟨ih1, ih2⟩ := findNow_bare (kd := kd) (k := k) ks vs (by simpa using h) (i + 1)
    simp only [entries, bare, List.zipWith_cons_cons, List.map_cons, Instr.findNow]
    change (match Instr.sameNow kd k x.1 with
      | some true => some (some (i, v))
      | some false => Instr.findNow kd k (entries ks vs) (i + 1)
      | none => none) = _ ∧ ∀ j u, (match Instr.sameNow kd k x.1 with
      | some true => some (some (i, undef))
      | some false => Instr.findNow kd k (bare ks) (i + 1)
      | none => none) = _ → _
    cases hs : Instr.sameNow kd k x.1 with
    | none => exact ⟨rfl, fun j u h => by simp at h⟩
    | some b =>
      cases b with
      | true => exact ⟨by simp, fun j u h => by simp at h; simp [← h.1]⟩
      | false =>
        simp only
        change _ = (match Instr.findNow kd k (bare ks) (i + 1) with
          | some (some (j, _)) => some (some (j, (v :: vs).getD (j - i) undef))
          | some none => some none
          | none => none) ∧ _
        rw [ih1]
        constructor
        · cases hf : Instr.findNow kd k (bare ks) (i + 1) with
          | none => rfl
          | some r =>
            cases r with
            | none => rfl
            | some ju =>
              obtain ⟨j, u⟩ := ju
              have := (ih2 j u hf).1
              simp only [Option.some.injEq, Prod.mk.injEq, true_and]
              rw [show j - i = (j - (i + 1)) + 1 by omega]
              rfl
        · intro j u hju
          have := ih2 j u hju
          simp only [List.length_cons]
          omega

def isMapT : Option TypeDesc → Bool
  | some (.map _ _) => true
  | _ => false
def isIntV : SVal → Bool
  | .v (.int _ _) => true
  | _ => false
def makeMapE (P : Program) (t : List SVal) (H : SHeap) (ty : TypeId) (r : Option Operand) : Option Res :=
  match r with
  | none => some (.val (.map H.length) (H ++ [.map [] [] 0]))
  | some x => if isIntV (seval t x) && isMapT (pureRun P (underlying ty)) then some (.val (.map H.length) (H ++ [.map [] [] 0])) else none

theorem makeMap_ok (hR : Rel w0 ρ H w) (ht : denL ρ t = some a.tmps.toList) {ty : TypeId} {x : Option Operand} {r : Res} (h : makeMapE P t H ty x = some r) :
    ∃ y H', r = .val y H' ∧ SemOk w0 H ρ y H' ((Instr.makeMap ty (x.map a.eval)).run P w) := by
  have fin : ∀ s : Sem Value, s.run P w = (do pure (.map (some (← newObj (.map #[] 0)))) : Sem Value).run P w → SemOk w0 H ρ (.map H.length) (H ++ [.map [] [] 0]) (s.run P w) := fun s hs => by
    refine ⟨ρ.with H.length ⟨w.heap.size, 0⟩, .map (some w.heap.size), _, ?_, Ext.push _ _ _ _, by simp [den, Ren.with], hR.push (o := .map [] [] 0) (ob := .map #[] 0) ⟨[], rfl, rfl, rfl⟩⟩
    rw [hs]
    rfl
  unfold makeMapE at h
  split at h
  · cases h
    exact ⟨_, _, rfl, fin _ rfl⟩
  · rename_i xo
    split at h
    case isFalse => cases h
    rename_i hc
    cases h
    simp only [Bool.and_eq_true] at hc
    refine ⟨_, _, rfl, fin _ ?_⟩
    have hd := den_seval ht xo
    have h1 : ∃ k n, a.eval xo = .int k n := by
      have := hc.1
      unfold isIntV at this
      split at this
      · rename_i k n hs
        rw [hs] at hd
        simp only [den, Option.some.injEq] at hd
        exact ⟨k, n, hd.symm⟩
      · cases this
    obtain ⟨k, n, hv⟩ := h1
    have h2 : ∃ kt et, pureRun P (underlying ty) = some (.map kt et) := by
      have := hc.2
      unfold isMapT at this
      split at this
      · rename_i kt et hs
        exact ⟨kt, et, hs⟩
      · cases this
    obtain ⟨kt, et, hu⟩ := h2
    simp only [Option.map_some, hv]
    unfold Instr.makeMap
    simp only
    rw [run_bind_pure hu]
    rfl

/-- Where a key of several parts stands. -/
def askAt (P : Program) (kt : TypeId) (k : Value) : List (Value × Nat) → Nat → Option (Option Nat)
  | [], _ => some none
  | x :: ks, i => match pureRun P (Op.equal kt k x.1) with
    | some true => some (some i)
    | some false => askAt P kt k ks (i + 1)
    | none => none

 omit [Env] in
theorem askAt_ok {kt : TypeId} {k : Value} : ∀ {ks : List (Value × Nat)} {vs : List Value} {i : Nat} {r : Option Nat}, askAt P kt k ks i = some r → ks.length = vs.length →
    (∀ w, (Instr.findAsking kt k (entries ks vs) i).run P w = .ok (r.map fun j => (j, vs.getD (j - i) undef)) w) ∧ ∀ j, r = some j → i ≤ j ∧ j - i < ks.length
  | [], vs, i, r, h, hl => by
    cases h
    exact ⟨fun w => rfl, fun j hj => by cases hj⟩
  | x :: ks, [], i, r, h, hl => by simp at hl
  | x :: ks, v :: vs, i, r, h, hl => by
    simp only [askAt] at h
    split at h
    · rename_i he
      cases h
      refine ⟨fun w => ?_, fun j hj => by cases hj; simp⟩
      show (do if ← Op.equal kt k x.1 then pure (some (i, v)) else Instr.findAsking kt k (entries ks vs) (i + 1) : Sem _).run P w = _
      rw [run_bind_ok (run_of_pure he w)]
      simp []
    · rename_i he
      obtain ⟨h1, h2⟩ := askAt_ok h (show ks.length = vs.length by simpa using hl)
      refine ⟨fun w => ?_, fun j hj => ?_⟩
      · show (do if ← Op.equal kt k x.1 then pure (some (i, v)) else Instr.findAsking kt k (entries ks vs) (i + 1) : Sem _).run P w = _
        rw [run_bind_ok (run_of_pure he w)]
        simp only [Bool.false_eq_true, if_false]
        rw [h1 w]
        cases r with
        | none => rfl
        | some j =>
          have := (h2 j rfl).1
          simp only [Option.map_some]
          rw [show j - i = (j - (i + 1)) + 1 by omega]
          rfl
      · have := h2 j hj
        simp only [List.length_cons]
        omega
    · cases h

def isSym : SVal → Bool
  | .sym _ => true
  | _ => false
 omit [Env] in
theorem findKeyAsk {kt : TypeId} {kd : TypeDesc} {k : Value} {ks : List (Value × Nat)} {vs : List Value} {r : Option Nat} (hkd : pureRun P (underlying kt) = some kd) (hn : Instr.findNow kd k (bare ks) 0 = none) (h : askAt P kt k ks 0 = some r) (hl : ks.length = vs.length) :
    (∀ w, (Instr.findKey kt k (entries ks vs)).run P w = .ok (r.map fun j => (j, vs.getD j undef)) w) ∧ ∀ j, r = some j → j < ks.length := by
  obtain ⟨h1, h2⟩ := askAt_ok h hl
  refine ⟨fun w => ?_, fun j hj => by have := h2 j hj; omega⟩
  unfold Instr.findKey
  rw [run_bind_pure hkd, (findNow_bare ks vs hl 0).1, hn]
  exact h1 w

/-- The map that x is, and where its key stands: (the map's name, its keys, values and clock; the key; its place). -/
def mapAt (P : Program) (H : SHeap) (ty : TypeId) (empty : Bool) (m key : SVal) : Option (Nat × List (Value × Nat) × List SVal × Nat × Value × TypeId × Option Nat) :=
  match m with
  | .map i => match H[i]? with
    | some (.map ks vals clock) => match keyOf key with
      | some k => match pureRun P (underlying ty) with
        | some (.map kt elem) => match pureRun P (Instr.checkKey (empty && ks.isEmpty) 10000 kt k) with
          | some () => match pureRun P (underlying kt) with
            | some kd => match findK kd key k ks with
              | some (some (j, _)) => some (i, ks, vals, clock, k, elem, some j)
              | some none => some (i, ks, vals, clock, k, elem, none)
              | none => if isSym key then none else match askAt P kt k ks 0 with
                | some r => some (i, ks, vals, clock, k, elem, r)
                | none => none
            | none => none
          | none => none
        | _ => none
      | none => none
    | _ => none
  | _ => none

theorem mapAt_ok (hR : Rel w0 ρ H w) {ty : TypeId} {empty : Bool} {m key : SVal} {mv kv : Value} (hm : den ρ m = some mv) (hk : den ρ key = some kv)
    {i : Nat} {ks : List (Value × Nat)} {vals : List SVal} {clock : Nat} {k : Value} {elem : TypeId} {j : Option Nat} (h : mapAt P H ty empty m key = some (i, ks, vals, clock, k, elem, j)) :
    ∃ (p : Loc) (vs : List Value) (kt : TypeId), ρ i = some p ∧ mv = .map (some p.b) ∧ kv = k ∧ H[i]? = some (.map ks vals clock) ∧ denL ρ vals = some vs ∧ ks.length = vs.length ∧
      w.heap[p.b]? = some (.map (entries ks vs).toArray clock) ∧ (∀ w, (underlying ty).run P w = .ok (.map kt elem) w) ∧ (∀ w, (Instr.checkKey (empty && ks.isEmpty) 10000 kt k).run P w = .ok () w) ∧
      (∀ w, (Instr.findKey kt k (entries ks vs)).run P w = .ok (j.map fun j => (j, vs.getD j undef)) w) ∧ ∀ j', j = some j' → j' < ks.length := by
  unfold mapAt at h
  split at h
  case h_2 => cases h
  rename_i i'
  split at h
  case h_2 => cases h
  rename_i ks' vals' clock' hH
  split at h
  case h_2 => cases h
  rename_i k' hk'
  split at h
  case h_2 => cases h
  rename_i kt elem' hu
  split at h
  case h_2 => cases h
  rename_i hc
  split at h
  case h_2 => cases h
  rename_i kd hkd
  have key0 : ∀ {jj : Option Nat}, (i', ks', vals', clock', k', elem', jj) = (i, ks, vals, clock, k, elem, j) → (∀ vs : List Value, ks'.length = vs.length → (∀ w, (Instr.findKey kt k' (entries ks' vs)).run P w = .ok (jj.map fun j => (j, vs.getD j undef)) w) ∧ ∀ j', jj = some j' → j' < ks'.length) →
      ∃ (p : Loc) (vs : List Value) (kt : TypeId), ρ i = some p ∧ mv = .map (some p.b) ∧ kv = k ∧ H[i]? = some (.map ks vals clock) ∧ denL ρ vals = some vs ∧ ks.length = vs.length ∧
      w.heap[p.b]? = some (.map (entries ks vs).toArray clock) ∧ (∀ w, (underlying ty).run P w = .ok (.map kt elem) w) ∧ (∀ w, (Instr.checkKey (empty && ks.isEmpty) 10000 kt k).run P w = .ok () w) ∧
      (∀ w, (Instr.findKey kt k (entries ks vs)).run P w = .ok (j.map fun j => (j, vs.getD j undef)) w) ∧ ∀ j', j = some j' → j' < ks.length := by
    intro jj e hf
    simp only [Prod.mk.injEq] at e
    obtain ⟨rfl, rfl, rfl, rfl, rfl, rfl, rfl⟩ := e
    simp only [den] at hm
    split at hm
    case h_2 => cases hm
    rename_i p hp
    cases hm
    have h1 := keyOf_ok (ρ := ρ) hk'
    rw [hk] at h1
    obtain ⟨ob', ob, g1, g2, g3⟩ := hR.obj _ p hp
    rw [hH] at g1
    cases g1
    obtain ⟨vs, f1, f2, rfl⟩ := g3
    have hl : ks'.length = vs.length := by rw [f2, denL_length f1]
    exact ⟨p, vs, kt, hp, rfl, Option.some.inj h1, hH, f1, hl, g2, fun w => run_of_pure hu w, fun w => run_of_pure hc w, (hf vs hl).1, (hf vs hl).2⟩
  have key1 : ∀ {jj : Option Nat}, (i', ks', vals', clock', k', elem', jj) = (i, ks, vals, clock, k, elem, j) → (match Instr.findNow kd k' (bare ks') 0 with
      | some (some (j, _)) => some (some j)
      | some none => some none
      | none => none) = some jj → ∃ (p : Loc) (vs : List Value) (kt : TypeId), ρ i = some p ∧ mv = .map (some p.b) ∧ kv = k ∧ H[i]? = some (.map ks vals clock) ∧ denL ρ vals = some vs ∧ ks.length = vs.length ∧
      w.heap[p.b]? = some (.map (entries ks vs).toArray clock) ∧ (∀ w, (underlying ty).run P w = .ok (.map kt elem) w) ∧ (∀ w, (Instr.checkKey (empty && ks.isEmpty) 10000 kt k).run P w = .ok () w) ∧
      (∀ w, (Instr.findKey kt k (entries ks vs)).run P w = .ok (j.map fun j => (j, vs.getD j undef)) w) ∧ ∀ j', j = some j' → j' < ks.length := by
    intro jj e hf
    refine key0 e fun vs hl => ?_
    have hfn := findNow_bare (kd := kd) (k := k') ks' vs hl 0
    refine ⟨fun w => ?_, fun j' hj' => ?_⟩
    · unfold Instr.findKey
      rw [run_bind_pure hkd, hfn.1]
      cases hb : Instr.findNow kd k' (bare ks') 0 with
      | none => simp [hb] at hf
      | some r =>
        cases r with
        | none =>
          simp only [hb, Option.some.injEq] at hf
          subst hf
          rfl
        | some ju =>
          simp only [hb, Option.some.injEq] at hf
          subst hf
          rfl
    · subst hj'
      cases hb : Instr.findNow kd k' (bare ks') 0 with
      | none => simp [hb] at hf
      | some r =>
        cases r with
        | none => simp [hb] at hf
        | some ju =>
          simp only [hb, Option.some.injEq] at hf
          have := hfn.2 _ _ hb
          omega
  split at h
  · rename_i hf
    exact key1 (Option.some.inj h) (by rw [findK_ok hk' hf])
  · rename_i hf
    exact key1 (Option.some.inj h) (by rw [findK_ok hk' hf])
  · rename_i hf
    split at h
    case isTrue => cases h
    rename_i hsym
    split at h
    case h_2 => cases h
    rename_i r hr
    have hn : Instr.findNow kd k' (bare ks') 0 = none := by
      unfold findK at hf
      split at hf
      · exact absurd rfl hsym
      · exact hf
    exact key0 (Option.some.inj h) fun vs hl => findKeyAsk hkd hn hr hl

 omit [Env] in
theorem run_getMap {r : Nat} {es : Array MapEntry} {c : Nat} (h : w.heap[r]? = some (.map es c)) : (getObj r).run P w = .ok (.map es c) w := by simp only [getObj, Sem.run, h]
 omit [Env] in
theorem run_setMap {r : Nat} {es : Array MapEntry} {c : Nat} {o' : Obj} (h : w.heap[r]? = some (.map es c)) : (setObj r o').run P w = .ok () { w with heap := w.heap.setIfInBounds r o' } := by simp only [Go.setObj, Sem.run, h]

def mapUpdateE (P : Program) (H : SHeap) (ty : TypeId) (m key x : SVal) : Option SHeap :=
  match mapAt P H ty false m key with
  | some (i, ks, vals, clock, k, _, some j) => match ks[j]? with
    | some (old, b) => if Instr.sameBits 10000 old k then some (H.set i (.map (ks.set j (k, b)) (vals.set j x) clock)) else none
    | none => none
  | some (i, ks, vals, clock, k, _, none) => some (H.set i (.map (ks ++ [(k, clock)]) (vals ++ [x]) (clock + 1)))
  | none => none

 omit [Env] in
theorem entries_append {ks : List (Value × Nat)} {vs : List Value} (h : ks.length = vs.length) (k : Value × Nat) (v : Value) : entries (ks ++ [k]) (vs ++ [v]) = entries ks vs ++ [{ key := k.1, val := v, born := k.2 }] := by
  unfold entries
  rw [List.zipWith_append h]
  rfl

 omit [Env] in
theorem entries_modify {ks : List (Value × Nat)} {vs : List Value} (h : ks.length = vs.length) {j : Nat} {old k v : Value} {b : Nat} (hj : ks[j]? = some (old, b)) :
    (entries ks vs).modify j (fun e => { e with key := k, val := v }) = entries (ks.set j (k, b)) (vs.set j v) := by
  refine List.ext_getElem? fun i => ?_
  rw [List.getElem?_modify, entries_get, entries_get]
  have hlt := (List.getElem?_eq_some_iff.1 hj).1
  have hv : vs[j]? = some vs[j] := List.getElem?_eq_getElem (by omega)
  by_cases hij : j = i
  · subst hij
    have hj' : ks[j] = (old, b) := by have := (List.getElem?_eq_some_iff.1 hj).2; exact this
    simp [hlt, show j < vs.length by omega, hj']
  · rw [List.getElem?_set_ne hij, List.getElem?_set_ne hij]
    simp [hij]

theorem mapUpdate_ok (hR : Rel w0 ρ H w) {ty : TypeId} {m key x : SVal} {mv kv xv : Value} (hm : den ρ m = some mv) (hk : den ρ key = some kv) (hx : den ρ x = some xv) {H' : SHeap}
    (h : mapUpdateE P H ty m key x = some H') : ∃ w', Ext ρ H ρ H' ∧ Rel w0 ρ H' w' ∧ (Instr.mapUpdate ty mv kv xv).run P w = .ok () w' := by
  unfold mapUpdateE at h
  have main : ∀ {i : Nat} {ks : List (Value × Nat)} {vals : List SVal} {clock : Nat} {k : Value} {elem : TypeId} {j : Option Nat}, mapAt P H ty false m key = some (i, ks, vals, clock, k, elem, j) →
      ∀ {ks' : List (Value × Nat)} {vals' : List SVal} {clock' : Nat},
      (∀ vs, denL ρ vals = some vs → ks.length = vs.length → ∃ vs', denL ρ vals' = some vs' ∧ ks'.length = vals'.length ∧ ∀ (p : Loc), w.heap[p.b]? = some (.map (entries ks vs).toArray clock) →
        (do match (j.map fun j => (j, vs.getD j undef)) with
          | some (i, _) => do
            let key ← Instr.keyThatStays ((((entries ks vs).toArray[i]?).map (·.key)).getD k) k
            setObj p.b (.map ((entries ks vs).toArray.modify i fun e => { e with key, val := xv }) clock)
          | none => setObj p.b (.map ((entries ks vs).toArray.push { key := k, val := xv, born := clock }) (clock + 1)) : Sem Unit).run P w = .ok () { w with heap := w.heap.setIfInBounds p.b (.map (entries ks' vs').toArray clock') }) →
      ∃ w', Ext ρ H ρ (H.set i (.map ks' vals' clock')) ∧ Rel w0 ρ (H.set i (.map ks' vals' clock')) w' ∧ (Instr.mapUpdate ty mv kv xv).run P w = .ok () w' := by
    intro i ks vals clock k elem j hat ks' vals' clock' hgo
    obtain ⟨p, vs, kt, h1, h2, h3, h4, h5, h6, h7, h8, h9, h10, h11⟩ := mapAt_ok hR hm hk hat
    subst h2 h3
    obtain ⟨vs', g1, g2, g3⟩ := hgo vs h5 h6
    have hlt : p.b < w.heap.size := (hR.fresh _ _ h1).2
    refine ⟨_, Ext.set h1 _, hR.setObj (o := .map ks' vals' clock') (ob := .map (entries ks' vs').toArray clock') (w' := { w with heap := w.heap.setIfInBounds p.b (.map (entries ks' vs').toArray clock') })
      h1 (hR.own h1 h4 (fun _ _ _ _ e => by cases e) (fun e => by cases e)) ⟨vs', g1, g2, rfl⟩ rfl rfl rfl (by simp) (fun q hq => ?_) (by simp [hlt]), ?_⟩
    · simp only
      rw [Array.getElem?_setIfInBounds_ne (Ne.symm hq)]
    · unfold Instr.mapUpdate
      rw [run_bind_ok (h8 w)]
      simp only
      rw [run_bind_ok (run_getMap h7)]
      simp only
      simp only [Bool.false_and] at h9
      rw [run_bind_ok (h9 w)]
      have h10' : (Instr.findKey kt kv (entries ks vs).toArray.toList).run P w = .ok (j.map fun j => (j, vs.getD j undef)) w := h10 w
      rw [run_bind_ok h10']
      exact g3 p h7
  split at h
  · rename_i i ks vals clock k elem j hat
    split at h
    case h_2 => cases h
    rename_i old b hkj
    split at h
    case isFalse => cases h
    rename_i hsame
    cases h
    refine main hat fun vs hvs hlen => ⟨vs.set j xv, denL_set hx hvs j, by simp [hlen, denL_length hvs], fun p hp => ?_⟩
    simp only [Option.map_some]
    have hget : (((entries ks vs).toArray[j]?).map (·.key)).getD k = old := by
      rw [List.getElem?_toArray, entries_get, hkj]
      have hlt := (List.getElem?_eq_some_iff.1 hkj).1
      rw [List.getElem?_eq_getElem (show j < vs.length by omega)]
      rfl
    have hstay : (Instr.keyThatStays ((((entries ks vs).toArray[j]?).map (·.key)).getD k) k).run P w = .ok k w := by
      rw [hget]
      unfold Instr.keyThatStays
      rw [if_pos hsame]
      rfl
    rw [run_bind_ok hstay, run_setMap hp]
    have : (entries ks vs).toArray.modify j (fun e => { e with key := k, val := xv }) = (entries (ks.set j (k, b)) (vs.set j xv)).toArray := by
      rw [← Array.toList_inj, Array.toList_modify]
      exact entries_modify hlen hkj
    rw [this]
  · rename_i i ks vals clock k elem hat
    cases h
    refine main hat fun vs hvs hlen => ⟨vs ++ [xv], denL_append (denL_cons.2 ⟨xv, [], hx, rfl, rfl⟩) hvs, by simp [hlen, denL_length hvs], fun p hp => ?_⟩
    simp only [Option.map_none]
    rw [run_setMap hp, entries_append hlen]
    simp
  · cases h

def lookupE (P : Program) (H : SHeap) (ty : TypeId) (m key : SVal) (commaOk : Bool) : Option SVal :=
  match mapAt P H ty true m key with
  | some (_, _, vals, _, _, _, some j) => if commaOk then some (mkTuple [vals.getD j (.v undef), .v (.bool true)]) else some (vals.getD j (.v undef))
  | some (_, _, _, _, _, elem, none) => match pureRun P (zeroValue elem) with
    | some z => if commaOk then some (.v (.tuple #[z, .bool false])) else some (.v z)
    | none => none
  | none => none

theorem denL_getD {l : List SVal} {vs : List Value} (h : denL ρ l = some vs) (j : Nat) : den ρ (l.getD j (.v undef)) = some (vs.getD j undef) := by
  simp only [List.getD_eq_getElem?_getD]
  cases hx : l[j]? with
  | none =>
    have h1 := List.getElem?_eq_none_iff.1 hx
    rw [List.getElem?_eq_none (by rw [denL_length h]; exact h1)]
    simp [den]
  | some x =>
    obtain ⟨y, hy, hd⟩ := denL_get h j x hx
    rw [hy]
    exact hd

theorem lookup_ok (hR : Rel w0 ρ H w) {ty : TypeId} {m key y : SVal} {mv kv : Value} {commaOk : Bool} (hm : den ρ m = some mv) (hk : den ρ key = some kv) (h : lookupE P H ty m key commaOk = some y) :
    SemOk w0 H ρ y H ((Instr.lookup ty mv kv commaOk).run P w) := by
  unfold lookupE at h
  have main : ∀ {i : Nat} {ks : List (Value × Nat)} {vals : List SVal} {clock : Nat} {k : Value} {elem : TypeId} {j : Option Nat}, mapAt P H ty true m key = some (i, ks, vals, clock, k, elem, j) →
      ∃ vs, denL ρ vals = some vs ∧ ∀ u b, (match j with
        | some j => u = vs.getD j undef ∧ b = true
        | none => (zeroValue elem).run P w = .ok u w ∧ b = false) → (Instr.lookup ty mv kv commaOk).run P w = .ok (if commaOk then .tuple #[u, .bool b] else u) w := by
    intro i ks vals clock k elem j hat
    obtain ⟨p, vs, kt, h1, h2, h3, h4, h5, h6, h7, h8, h9, h10, h11⟩ := mapAt_ok hR hm hk hat
    subst h2 h3
    refine ⟨vs, h5, fun u b hub => ?_⟩
    unfold Instr.lookup
    rw [run_bind_ok (h8 w)]
    simp only
    rw [run_bind_ok (run_getMap h7)]
    simp only
    rw [run_pure_bind]
    have he : (entries ks vs).toArray.isEmpty = (true && ks.isEmpty) := by
      cases ks with
      | nil => rfl
      | cons x xs =>
        cases vs with
        | nil => simp at h6
        | cons y ys => rfl
    rw [he, run_bind_ok (h9 w)]
    have h10' : (Instr.findKey kt kv (entries ks vs).toArray.toList).run P w = .ok (j.map fun j => (j, vs.getD j undef)) w := h10 w
    rw [run_bind_ok h10']
    cases j with
    | some j =>
      obtain ⟨rfl, rfl⟩ := hub
      cases commaOk <;> rfl
    | none =>
      obtain ⟨hz, rfl⟩ := hub
      simp only [Option.map_none]
      rw [run_bind_ok hz]
      cases commaOk <;> rfl
  split at h
  · rename_i i ks vals clock k elem j hat
    obtain ⟨vs, hvs, hgo⟩ := main hat
    have := hgo (vs.getD j undef) true ⟨rfl, rfl⟩
    have hd := denL_getD hvs j
    split at h
    · rename_i hc
      cases h
      refine SemOk.here hR this ?_
      simp only [hc, if_true]
      exact den_mkTuple (denL_cons.2 ⟨_, _, hd, denL_cons.2 ⟨.bool true, [], by simp [den], rfl, rfl⟩, rfl⟩)
    · rename_i hc
      cases h
      refine SemOk.here hR this ?_
      simp only [hc, if_false, Bool.false_eq_true]
      exact hd
  · rename_i i ks vals clock k elem hat
    obtain ⟨vs, hvs, hgo⟩ := main hat
    split at h
    case h_2 => cases h
    rename_i z hz
    have := hgo z false ⟨run_of_pure hz w, rfl⟩
    split at h
    · rename_i hc
      cases h
      refine SemOk.here hR this ?_
      simp [hc, den]
    · rename_i hc
      cases h
      refine SemOk.here hR this ?_
      simp [hc, den]
  · cases h

end
end
end Go.RX

namespace Go.RX
noncomputable section
open Go.RowKit (Below)

variable [Env]

section
variable {P : Program} {w0 w : World} {ρ : Ren} {H : SHeap} {t : List SVal} {a : Act} {o : Oper}

/-! ### Nil -/
def nilCheckE (x : SVal) : Option SVal :=
  match x with
  | .ptr i off => some (.ptr i off)
  | .func (.func f) fs cs => some (.func (.func f) fs cs)
  | .yield i => some (.yield i)
  | _ => none

/-- Does an operand with a name in it differ from nil? -/
def nonNil : SVal → Value → Bool
  | .ptr _ _, .pointer none => true
  | .slice _ _ _ _, .slice none _ _ => true
  | .row _ _ _ _, .slice none _ _ => true
  | .iface _ _, .nilIface => true
  | .func _ _ _, .nilFunc => true
  | _, _ => false

def nilTy : SVal → TypeDesc → Bool
  | .ptr _ _, .pointer _ => true
  | .slice _ _ _ _, .slice _ => true
  | .row _ _ _ _, .slice _ => true
  | .iface _ _, .interface _ => true
  | .func _ _ _, .func _ _ _ => true
  | _, _ => false

def eqNilE (P : Program) (op : BinOp) (ty : TypeId) (x y : SVal) : Option SVal :=
  match y with
  | .v n =>
    if nonNil x n then
      match pureRun P (underlying ty) with
      | some d => if nilTy x d then
          match op with
          | .eql => some (.v (.bool false))
          | .neq => some (.v (.bool true))
          | _ => none
        else none
      | none => none
    else none
  | _ => none

theorem equal_nil {ty : TypeId} {d : TypeDesc} (hd : pureRun P (underlying ty) = some d) {x : SVal} {n : Value} (hn : nonNil x n = true) (ht : nilTy x d = true) {v : Value} (hx : den ρ x = some v) :
    (Op.equal ty v n).run P w = .ok false w := by
  unfold Op.equal Op.maxDepth
  rw [show (10000 : Nat) = 9999 + 1 from rfl, Op.equalIn]
  rw [run_bind_pure hd]
  cases x <;> cases n <;> simp [nonNil] at hn <;> cases d <;> simp [nilTy] at ht
  · rename_i p e
    cases p <;> simp at hn
    obtain ⟨b, _, rfl⟩ := den_ptr hx
    rfl
  · rename_i p e l c
    cases p <;> simp at hn
    obtain ⟨b, _, rfl⟩ := den_slice hx
    rfl
  · rename_i p e l c
    cases p <;> simp at hn
    obtain ⟨b, _, _, rfl⟩ := den_row hx
    rfl
  · simp only [den] at hx
    split at hx <;> simp at hx
    subst hx
    rfl
  · simp only [den] at hx
    split at hx <;> simp at hx
    subst hx
    rfl

theorem eqNil_ok {op : BinOp} {ty : TypeId} {x y r : SVal} {v u : Value} (hx : den ρ x = some v) (hy : den ρ y = some u) (h : eqNilE P op ty x y = some r) (xo yo : Operand) :
    PSemOk ρ r w ((do eqGuard op ty xo yo v u; binOp op ty v u : Sem Value).run P w) := by
  unfold eqNilE at h
  split at h
  case h_2 => cases h
  rename_i n
  simp only [den, Option.some.injEq] at hy
  subst hy
  split at h
  case isFalse => cases h
  rename_i hn
  split at h
  case h_2 => cases h
  rename_i d hd
  split at h
  case isFalse => cases h
  rename_i ht
  have heq := equal_nil (w := w) hd hn ht hx
  have hv : (∃ a, v = .pointer (some a) ∧ n = .pointer none) ∨ (∃ a l c, v = .slice (some a) l c ∧ ∃ l' c', n = .slice none l' c') ∨ (∃ t y, v = .iface t y ∧ n = .nilIface) ∨ (∃ f a b, v = .func f a b ∧ n = .nilFunc) := by
    cases x <;> cases n <;> simp [nonNil] at hn
    · rename_i q; cases q <;> simp at hn
      obtain ⟨b, _, rfl⟩ := den_ptr hx; exact .inl ⟨_, rfl, rfl⟩
    · rename_i q _ _; cases q <;> simp at hn
      obtain ⟨b, _, rfl⟩ := den_slice hx; exact .inr (.inl ⟨_, _, _, rfl, _, _, rfl⟩)
    · rename_i q _ _; cases q <;> simp at hn
      obtain ⟨b, _, _, rfl⟩ := den_row hx; exact .inr (.inl ⟨_, _, _, rfl, _, _, rfl⟩)
    · simp only [den] at hx; split at hx <;> simp at hx; subst hx; exact .inr (.inr (.inr ⟨_, _, _, rfl, rfl⟩))
    · simp only [den] at hx; split at hx <;> simp at hx; subst hx; exact .inr (.inr (.inl ⟨_, _, rfl, rfl⟩))
  have hg : (eqGuard op ty xo yo v n).run P w = .ok () w := by
    unfold eqGuard
    rcases hv with ⟨_, rfl, rfl⟩ | ⟨_, _, _, rfl, _, _, rfl⟩ | ⟨_, _, rfl, rfl⟩ | ⟨_, _, _, rfl, rfl⟩ <;> split <;> rfl
  have hb : ∀ b : Bool, (op = .eql ∧ b = false) ∨ (op = .neq ∧ b = true) → (binOp op ty v n).run P w = .ok (.bool b) w := by
    rintro b (⟨rfl, rfl⟩ | ⟨rfl, rfl⟩) <;> rcases hv with ⟨_, rfl, rfl⟩ | ⟨_, _, _, rfl, _, _, rfl⟩ | ⟨_, _, rfl, rfl⟩ | ⟨_, _, _, rfl, rfl⟩ <;> simp only [binOp] <;> rw [run_bind_ok heq] <;> rfl
  split at h
  · cases h
    exact PSemOk.here (by rw [run_bind_ok hg]; exact hb false (.inl ⟨rfl, rfl⟩)) (by simp [den])
  · cases h
    exact PSemOk.here (by rw [run_bind_ok hg]; exact hb true (.inr ⟨rfl, rfl⟩)) (by simp [den])
  · cases h

/-! ### Making slices; bytes -/
def makeSliceE (P : Program) (H : SHeap) (ty : TypeId) (l c : SVal) : Option Res :=
  match l, c with
  | .v (.int _ ln), .v (.int _ cn) =>
    if 0 ≤ ln ∧ ln ≤ cn ∧ cn ≤ 65536 then
      match pureRun P (underlying ty) with
      | some (.slice elem) => match pureRun P (typeInfo elem) with
        | some i => match pureRun P (zeroValue elem) with
          | some z => if i.bytes * 65536 ≤ 140737488355328 then some (.val (.slice H.length 0 ln.toNat cn.toNat) (H ++ [.cells ((zeroRow z (cn.toNat * i.size)).map .v) elem (0, 0)])) else none
          | none => none
        | none => none
      | _ => none
    else none
  | _, _ => none

 omit [Env] in
theorem wrap64_small {n : Int} (h0 : 0 ≤ n) (h1 : n ≤ 65536) : IntKind.i64.wrap n = n :=
  Go.IntWalk.i64_in n (by omega)

 omit [Env] in
theorem sizeOf_of_info {ty : TypeId} {i : TypeInfo} (h : pureRun P (typeInfo ty) = some i) : (sizeOf ty).run P w = .ok i.size w := by
  unfold sizeOf
  rw [run_bind_pure h]
  rfl

theorem makeSlice_ok (hR : Rel w0 ρ H w) {ty : TypeId} {l c : SVal} {lv cv : Value} (hl : den ρ l = some lv) (hc : den ρ c = some cv) {r : Res} (h : makeSliceE P H ty l c = some r) :
    ∃ x H', r = .val x H' ∧ SemOk w0 H ρ x H' ((Instr.makeSlice ty lv cv).run P w) := by
  unfold makeSliceE at h
  split at h
  case h_2 => cases h
  rename_i k1 ln k2 cn
  split at h
  case isFalse => cases h
  rename_i hb
  split at h
  case h_2 => cases h
  rename_i elem hu
  split at h
  case h_2 => cases h
  rename_i i hi
  split at h
  case h_2 => cases h
  rename_i z hz
  split at h
  case isFalse => cases h
  rename_i hbb
  cases h
  simp only [den, Option.some.injEq] at hl hc
  subst hl hc
  refine ⟨_, _, rfl, ?_⟩
  obtain ⟨h1, h2, h3, h4⟩ := newRow_ok (P := P) hR (denL_map_v (ρ := ρ) (zeroRow z (cn.toNat * i.size))) elem
  refine ⟨_, .slice (some ⟨w.heap.size, 0, none⟩) ln.toNat cn.toNat, _, ?_, h2, by simp only [den, h3], h4⟩
  unfold Instr.makeSlice asInt asIntOf
  rw [run_bind_pure hu]
  simp only
  have e1 : IntKind.i64.wrap ln = ln := wrap64_small hb.1 (by omega)
  have e2 : IntKind.i64.wrap cn = cn := wrap64_small (by omega) hb.2.2
  have hbytes : ((i.bytes : Int) * cn) ≤ 2 ^ 48 := by
    have h5 : (i.bytes : Int) * cn ≤ (i.bytes : Int) * 65536 := Int.mul_le_mul_of_nonneg_left hb.2.2 (by omega)
    have h6 : (i.bytes : Int) * 65536 ≤ 140737488355328 := by have := hbb; omega
    have h7 : (2 : Int) ^ 48 = 281474976710656 := by decide
    omega
  rw [run_bind_ok (a := ln) (w' := w) rfl, run_bind_ok (a := cn) (w' := w) rfl]
  rw [run_bind_pure hi]
  simp only [e1, e2]
  rw [if_neg (by
    simp only [Bool.or_eq_true, decide_eq_true_eq, not_or]
    exact ⟨⟨⟨by omega, by omega⟩, by omega⟩, by omega⟩)]
  rw [run_bind_ok (a := ()) (w' := w) (by unfold askRoom; split <;> rfl)]
  rw [run_bind_ok (sizeOf_of_info hi)]
  by_cases hn : cn.toNat * i.size = 0
  · rw [if_pos hn, run_pure_bind]
    have e0 : ∀ f : Nat → Value, (Array.range 0).map f = #[] := fun f => by simp [Array.range]
    simp only [zeroRow, hn, e0] at h1 ⊢
    rw [run_bind_ok h1]
    rfl
  · rw [if_neg hn]
    rw [run_bind_pure hz, run_pure_bind]
    simp only [zeroRow, Array.toArray_toList] at h1
    rw [run_bind_ok h1]
    simp only [zeroRow, Array.toArray_toList]
    rfl

def bytesLoop (cs : Array Value) : Sem Value := do
  let mut s := ByteArray.empty
  for c in cs do
    let .int .u8 n := c | stuck "bytesToString: byte expected"
    s := s.push (UInt8.ofNat n.toNat)
  pure (.string s)

 omit [Env] in
theorem bytesToString_eq (a : Addr) (len cap : Nat) : Conv.bytesToString (.slice (some a) len cap) = loadCells a len >>= bytesLoop := rfl

/-- A slice's place and length. -/
def sliceAtOf : SVal → Option (Nat × Nat × Nat)
  | .slice i off len _ => some (i, off, len)
  | .row i off _ len => some (i, off, len)
  | _ => none

theorem sliceAtOf_ok {x : SVal} {v : Value} (hx : den ρ x = some v) {i off len : Nat} (h : sliceAtOf x = some (i, off, len)) : ∃ p cap, ρ i = some p ∧ v = .slice (some ⟨p.b, off, none⟩) len cap := by
  unfold sliceAtOf at h
  split at h
  · cases h
    obtain ⟨p, h1, h2⟩ := den_slice hx
    exact ⟨p, _, h1, h2⟩
  · cases h
    obtain ⟨p, h1, _, h2⟩ := den_row hx
    exact ⟨p, _, h1, h2⟩
  · cases h

def noGlob : Glob := fun _ => none

 omit [Env] in
theorem noGlob_holds (w : World) : noGlob.holds w := fun _ _ h => by cases h

/-- The first n cells of a slice. -/
def firstOf (H : SHeap) (i off n : Nat) : Option (List SVal) :=
  match cellsFrom noGlob H (.ptr i off) with
  | some l => if (l.take n).length = n then some (l.take n) else none
  | none => none

theorem firstOf_ok (hR : Rel w0 ρ H w) {i : Nat} {p : Loc} (hi : ρ i = some p) {off n : Nat} {l : List SVal} (h : firstOf H i off n = some l) :
    ∃ vs : List Value, denL ρ l = some vs ∧ vs.length = n ∧ (loadCells ⟨p.b, off, none⟩ n).run P w = .ok vs.toArray w := by
  unfold firstOf at h
  split at h
  case h_2 => cases h
  rename_i l' hl'
  split at h
  case isFalse => cases h
  rename_i hlen
  cases h
  obtain ⟨a, vs, ha, hs, hd, hc⟩ := cellsFrom_ok (noGlob_holds w0) hR (x := .ptr i off) (v := .pointer (some ⟨p.b, off, none⟩)) (by simp only [den, hi]) hl'
  cases ha
  have hd' := denL_take n hd
  have hl := denL_length hd'
  refine ⟨vs.take n, hd', by rw [hl]; exact hlen, loadCells_ok _ rfl n _ (by rw [hl]; exact hlen) fun k u hk => hc k u ?_⟩
  rw [List.getElem?_take] at hk
  split at hk
  · exact hk
  · cases hk

def bytesE (P : Program) (H : SHeap) (dst src : TypeId) (x : SVal) : Option SVal :=
  match sliceAtOf x with
  | some (i, off, len) =>
    match pureRun P (underlying src), pureRun P (underlying dst) with
    | some (.slice e), some .string => match pureRun P (underlying e) with
      | some (.int .u8) => match firstOf H i off len with
        | some l => match vOfL l with
          | some vs => match pureRun P (bytesLoop vs.toArray) with
              | some s => some (.v s)
              | none => none
          | none => none
        | none => none
      | _ => none
    | _, _ => none
  | _ => none

theorem bytes_ok (hR : Rel w0 ρ H w) {dst src : TypeId} {x y : SVal} {v : Value} (hx : den ρ x = some v) (h : bytesE P H dst src x = some y) :
    SemOk w0 H ρ y H ((convert src dst v).run P w) := by
  unfold bytesE at h
  split at h
  case h_2 => cases h
  rename_i i off len hsl
  split at h
  case h_2 => cases h
  rename_i e hs hd
  split at h
  case h_2 => cases h
  rename_i he
  split at h
  case h_2 => cases h
  rename_i l hl
  split at h
  case h_2 => cases h
  rename_i vs hvs
  split at h
  case h_2 => cases h
  rename_i s hs'
  cases h
  obtain ⟨p, cap, hρ, rfl⟩ := sliceAtOf_ok hx hsl
  obtain ⟨us, h1, h2, h3⟩ := firstOf_ok (P := P) hR hρ hl
  have h4 := denL_of_vOfL (ρ := ρ) _ hvs
  rw [h1] at h4
  simp only [Option.some.injEq] at h4
  subst h4
  refine SemOk.here hR (v := s) ?_ (by simp [den])
  unfold convert
  rw [run_bind_pure hs]
  rw [run_bind_pure hd]
  simp only
  rw [run_bind_pure he]
  simp only
  rw [bytesToString_eq]
  rw [run_bind_ok h3]
  exact run_of_pure hs' w

/-! ### copy -/
/-- The first n elements (of `size` cells) of a slice or a string. -/
def copySrc (H : SHeap) (n size : Nat) : SVal → Option (List SVal)
  | .v (.string s) => some (((s.extract 0 n).data.map fun b => Value.int .u8 b.toNat).toList.map .v)
  | .v (.slice none _ _) => some []
  | .sym s => match Env.rs s with
    | some (_, l) => if (l.take (n * size)).length = n * size then some (l.take (n * size)) else none
    | none => none
  | x => match sliceAtOf x with
    | some (i, off, _) => firstOf H i off (n * size)
    | none => none

def lenE : SVal → Option Nat
  | .v (.string s) => some s.size
  | .v (.slice none n _) => some n
  | .sym s => match Env.rs s with
    | some (n, _) => some n
    | none => none
  | x => match sliceAtOf x with
    | some (_, _, n) => some n
    | none => none

theorem copySrc_ok (hR : Rel w0 ρ H w) {n size : Nat} {s : SVal} {v : Value} (hx : den ρ s = some v) {xs : List SVal} (h : copySrc H n size s = some xs) :
    ∃ vs : List Value, denL ρ xs = some vs ∧ (Builtin.firstCells size n v).run P w = .ok vs.toArray w := by
  unfold copySrc at h
  split at h
  · rename_i s
    cases h
    simp only [den, Option.some.injEq] at hx
    subst hx
    refine ⟨_, denL_map_v _, ?_⟩
    simp only [Array.toArray_toList]
    rfl
  · cases h
    simp only [den, Option.some.injEq] at hx
    subst hx
    exact ⟨[], rfl, rfl⟩
  · rename_i s
    split at h
    case h_2 => cases h
    rename_i m l hs
    split at h
    case isFalse => cases h
    rename_i hlen
    cases h
    obtain ⟨a, cap, h1, h2⟩ := hR.below.here.rs s m l hs
    obtain ⟨vs, h3, h4⟩ := h2.cells
    simp only [den, Option.some.injEq] at hx
    have hd := denL_take (n * size) (h3 ρ)
    have hl := denL_length hd
    refine ⟨vs.take (n * size), hd, ?_⟩
    rw [← hx, h1]
    by_cases hne : l = []
    · subst hne
      have hz : n * size = 0 := by simpa using hlen.symm
      show (loadCells a (n * size)).run P w = _
      rw [hz]
      rfl
    refine loadCells_ok a (h2.plain hne) (n * size) _ (by rw [hl]; exact hlen) fun k u hk => ?_
    rw [List.getElem?_take] at hk
    split at hk
    case isFalse => cases hk
    have := h4 k u hk
    obtain ⟨ab, ao, as⟩ := a
    have hs : as = none := h2.plain hne
    subst hs
    exact this
  · split at h
    case h_2 => cases h
    rename_i i off len hsl
    obtain ⟨p, cap, hρ, rfl⟩ := sliceAtOf_ok hx hsl
    obtain ⟨us, h1, h2, h3⟩ := firstOf_ok (P := P) hR hρ h
    exact ⟨us, h1, h3⟩

theorem lenE_ok (hR : Rel w0 ρ H w) {s : SVal} {v : Value} (hx : den ρ s = some v) {n : Nat} (h : lenE s = some n) : (Builtin.lenOf v).run P w = .ok n w := by
  unfold lenE at h
  split at h
  · cases h; simp only [den, Option.some.injEq] at hx; subst hx; rfl
  · cases h; simp only [den, Option.some.injEq] at hx; subst hx; rfl
  · rename_i s
    split at h
    case h_2 => cases h
    rename_i m l hs
    cases h
    obtain ⟨a, cap, h1, _⟩ := hR.below.here.rs s _ _ hs
    simp only [den, Option.some.injEq] at hx
    rw [← hx, h1]
    rfl
  · split at h
    · rename_i hsl
      cases h
      obtain ⟨p, cap, hρ, rfl⟩ := sliceAtOf_ok hx hsl
      rfl
    · cases h

def copyE (P : Program) (H : SHeap) (ty : TypeId) (d s : SVal) : Option Res :=
  match sliceAtOf d with
  | some (i, off, dLen) => match pureRun P (underlying ty) with
    | some (.slice elem) => match pureRun P (sizeOf elem) with
      | some size => match lenE s with
        | some ls => match copySrc H (Nat.min ls dLen) size s with
          | some xs => match writeE H i off xs with
            | some H' => some (.val (.v (goInt (Nat.min ls dLen))) H')
            | none => none
          | none => none
        | none => none
      | none => none
    | _ => none
  | _ => none

theorem copy_ok (hR : Rel w0 ρ H w) {ty sTy rTy : TypeId} {d s : SVal} {dv sv : Value} (hd : den ρ d = some dv) (hs : den ρ s = some sv) {r : Res} (h : copyE P H ty d s = some r) :
    ∃ x H', r = .val x H' ∧ SemOk w0 H ρ x H' ((Builtin.copy_ #[ty, sTy] rTy #[dv, sv]).run P w) := by
  unfold copyE at h
  split at h
  case h_2 => cases h
  rename_i i off dLen hsl
  split at h
  case h_2 => cases h
  rename_i elem hu
  split at h
  case h_2 => cases h
  rename_i size hsz
  split at h
  case h_2 => cases h
  rename_i ls hls
  split at h
  case h_2 => cases h
  rename_i xs hxs
  split at h
  case h_2 => cases h
  rename_i H' hw
  cases h
  refine ⟨_, _, rfl, ?_⟩
  obtain ⟨p, cap, hb, rfl⟩ := sliceAtOf_ok hd hsl
  obtain ⟨vs, hvs, hrun⟩ := copySrc_ok (P := P) hR hs hxs
  obtain ⟨w', h0, h1, h2⟩ := writeE_ok (P := P) hR hb hvs hw
  refine ⟨ρ, goInt (Nat.min ls dLen), w', ?_, h0, by simp [den], h1⟩
  unfold Builtin.copy_
  simp only [List.getElem?_toArray, List.getElem?_cons_zero, List.getElem?_cons_succ]
  rw [run_bind_pure hu]
  simp only
  rw [run_bind_ok (lenE_ok hR hs hls)]
  rw [run_bind_pure hsz]
  rw [run_bind_ok hrun]
  simp only
  rw [run_bind_ok h2]
  rfl

/-! ### append -/
def appendXs (P : Program) (H : SHeap) (ty xTy : TypeId) (x : SVal) : Option (TypeId × Nat × Nat × Nat × List SVal) :=
  match pureRun P (underlying ty) with
  | some (.slice elem) => match pureRun P (typeInfo elem) with
    | some info => match pureRun P (zeroValue elem), pureRun P (underlying xTy) with
      | some z, some d =>
        if z.cells.size = info.size then
          match d with
          | .int _ => none
          | _ => match lenE x with
            | some n => match copySrc H n info.size x with
              | some xs => some (elem, info.size, info.bytes, n, xs)
              | none => none
            | none => none
        else none
      | _, _ => none
    | none => none
  | _ => none

/-- May this row be appended to, where it ends? No other row of its group tells of cells behind its end. -/
def tipOf (g n : Nat) (H : SHeap) : Bool := H.all fun o => match o with
  | .row l _ _ g' => !(g' == g) || decide (l.length ≤ n)
  | _ => true

def appendE (P : Program) (H : SHeap) (ty xTy : TypeId) (s x : SVal) : Option Res :=
  match appendXs P H ty xTy x with
  | none => none
  | some (elem, size, bytes, n, xs) =>
    if size = 0 ∨ bytes = 0 ∨ 65536 < bytes ∨ ¬ xs.length = n * size then none else
    match s with
    | .v (.slice none 0 0) =>
      if n = 0 then some (.val s H) else
      if n ≤ 65536 then some (.val (.row H.length 0 0 n) (H ++ [.row xs elem size H.length])) else none
    | .slice i off len cap =>
      if len + n ≤ cap then
        match writeE H i (off + len * size) xs with
        | some H' => some (.val (.slice i off (len + n) cap) H')
        | none => none
      else if cap ≤ 65536 ∧ len + n ≤ 65536 then
        match firstOf H i off (len * size) with
        | some old => some (.val (.row H.length 0 0 (len + n)) (H ++ [.row (old ++ xs) elem size H.length]))
        | none => none
      else none
    | .row i 0 0 len =>
      if n = 0 then some (.val s H) else
      match H[i]? with
      | some (.row l e sz g) =>
        if e = elem ∧ sz = size ∧ l.length = len * size ∧ tipOf g (len * size) H = true ∧ xs.all sOne = true ∧ len + n ≤ 65536 then
          some (.val (.row H.length 0 0 (len + n)) (H ++ [.row (l ++ xs) elem size g]))
        else if sz = size ∧ (len + n) * size ≤ l.length then
          match writeE H i (0 + len * size) xs with
          | some H' => some (.val (.row i 0 0 (len + n)) H')
          | none => none
        else none
      | _ => none
    | _ => none

/-- The world behind a draw. -/
def drew1 (w : World) : World := { w with drawn := w.drawn + 1 }

theorem Rel.behindDraw {w0 w : World} {ρ : Ren} {H : SHeap} (hR : Rel w0 ρ H w) : Rel w0 ρ H (drew1 w) :=
  ⟨hR.below.trans ⟨rfl, rfl, rfl, Nat.le_refl _, fun _ _ => rfl⟩, hR.fresh, hR.inj, hR.obj⟩

/-- What an append's arguments come to. -/
structure AppArgs (P : Program) (w : World) (ρ : Ren) (ty xTy : TypeId) (xv : Value) (elem size bytes n : Nat) (xs : List SVal) (vs : List Value) : Prop where
  slice : pureRun P (underlying ty) = some (.slice elem)
  info : ∃ info, pureRun P (typeInfo elem) = some info ∧ info.size = size ∧ info.bytes = bytes
  zero : ∃ z, pureRun P (zeroValue elem) = some z ∧ z.cells.size = size
  noint : ∃ d, pureRun P (underlying xTy) = some d ∧ (d matches .int _) = false
  len : (Builtin.lenOf xv).run P w = .ok n w
  first : (Builtin.firstCells size n xv).run P w = .ok vs.toArray w
  first1 : (Builtin.firstCells size n xv).run P (drew1 w) = .ok vs.toArray (drew1 w)
  den : denL ρ xs = some vs

theorem appendXs_ok (hR : Rel w0 ρ H w) {ty xTy : TypeId} {x : SVal} {xv : Value} (hx : den ρ x = some xv) {elem size bytes n : Nat} {xs : List SVal} (h : appendXs P H ty xTy x = some (elem, size, bytes, n, xs)) :
    ∃ vs, AppArgs P w ρ ty xTy xv elem size bytes n xs vs := by
  unfold appendXs at h
  split at h
  case h_2 => cases h
  rename_i elem' hu
  split at h
  case h_2 => cases h
  rename_i info hi
  split at h
  case h_2 => cases h
  rename_i z d hz hd
  split at h
  case isFalse => cases h
  rename_i hzs
  split at h
  · cases h
  rename_i hni
  split at h
  case h_2 => cases h
  rename_i n' hn
  split at h
  case h_2 => cases h
  rename_i xs' hxs
  cases h
  obtain ⟨vs, h1, h2⟩ := copySrc_ok (P := P) hR hx hxs
  obtain ⟨vs', h1', h2'⟩ := copySrc_ok (P := P) hR.behindDraw hx hxs
  obtain rfl : vs = vs' := Option.some.inj (h1.symm.trans h1')
  exact ⟨vs, hu, ⟨info, hi, rfl, rfl⟩, ⟨z, hz, hzs⟩, ⟨d, hd, by cases d <;> first | rfl | exact absurd rfl (hni _)⟩, lenE_ok hR hx hn, h2, h2', h1⟩

 omit [Env] in
theorem zeroCells_size (z : Array Value) (n : Nat) : (Builtin.zeroCells z n).size = n * z.size := by simp [Builtin.zeroCells]

 omit [Env] in
theorem nextcap_le {need old : Nat} (h1 : need ≤ 65536) (h2 : old ≤ 65536) : Builtin.nextslicecap need old ≤ 131072 + 768 := by
  have grow : ∀ (r c : Nat), c ≤ 131072 → need ≤ 65536 → Builtin.growBy need r c ≤ 131072 + 768 := by
    intro r
    induction r with
    | zero => intro c hc _; simp [Builtin.growBy]; omega
    | succ r ih =>
      intro c hc hn
      simp only [Builtin.growBy]
      split
      · omega
      · exact ih _ (by omega) hn
  unfold Builtin.nextslicecap
  split
  · omega
  · split
    · omega
    · exact grow 4 old (by omega) h1

/-- An append that makes a new row. -/
theorem append_grow {ty xTy rTy : TypeId} {xv sv : Value} {elem size bytes n : Nat} {xs : List SVal} {vs : List Value} (hA : AppArgs P w ρ ty xTy xv elem size bytes n xs vs) (hb : bytes ≤ 65536) (hb0 : bytes ≠ 0)
    {base : Option Addr} {len cap : Nat} (hs : sv = .slice base len cap) (hneed : ¬ len + n ≤ cap) (hle : len + n ≤ 65536) (hcap : cap ≤ 65536) {old : List Value} (hold : (Builtin.firstCells size len sv).run P (drew1 w) = .ok old.toArray (drew1 w)) :
    ∃ c, len + n ≤ c ∧ ∃ rest : List Value, rest.length = (c - (len + n)) * size ∧
      (Builtin.append_ #[ty, xTy] rTy #[sv, xv]).run P w = .ok (.slice (some ⟨w.heap.size, 0, none⟩) (len + n) c) { drew1 w with heap := w.heap.push (.cells (old ++ vs ++ rest).toArray elem (0, 0)) } := by
  obtain ⟨info, hi, rfl, rfl⟩ := hA.info
  obtain ⟨z, hz, hzs⟩ := hA.zero
  obtain ⟨d, hd, hdi⟩ := hA.noint
  subst hs
  refine ⟨(Question.appendCap (len + n) cap elem).cut (w.tape w.drawn (.appendCap (len + n) cap elem)), by simp [Question.cut], (Builtin.zeroCells z.cells ((Question.appendCap (len + n) cap elem).cut (w.tape w.drawn (.appendCap (len + n) cap elem)) - (len + n))).toList, ?_, ?_⟩
  · simp [zeroCells_size, hzs]
  · unfold Builtin.append_
    simp only [List.getElem?_toArray, List.getElem?_cons_zero, List.getElem?_cons_succ]
    rw [run_bind_pure hA.slice]
    simp only
    rw [run_bind_ok (sizeOf_of_info hi)]
    rw [run_bind_pure hd]
    rw [run_pure_bind]
    split
    · cases hdi
    simp only [Bool.not_false, if_true, Bool.false_eq_true, if_false]
    rw [run_bind_ok hA.len]
    rw [if_neg hneed]
    rw [run_bind_pure hi]
    rw [if_neg (by simp only [false_or]; exact fun h => hb0 h.2)]
    rw [run_bind_pure hi]
    rw [if_neg (by
      have h1 := nextcap_le hle hcap
      have h2 : Builtin.nextslicecap (len + n) cap * info.bytes ≤ (131072 + 768) * 65536 := Nat.mul_le_mul h1 hb
      omega)]
    have hch : (choose (.appendCap (len + n) cap elem)).run P w = .ok ((Question.appendCap (len + n) cap elem).cut (w.tape w.drawn (.appendCap (len + n) cap elem))) (drew1 w) := by
      simp [choose, Sem.run, Question.forced, drew1]
    rw [run_bind_ok hch]
    rw [run_bind_pure hi]
    rw [run_bind_ok (a := ()) (w' := drew1 w) (by unfold askRoom; split <;> rfl)]
    rw [run_bind_ok hold]
    rw [run_bind_ok hA.first1]
    rw [run_bind_pure hz]
    have e : ∀ zc : Array Value, old.toArray ++ vs.toArray ++ zc = (old ++ vs ++ zc.toList).toArray := fun zc => Array.toList_inj.1 (by simp)
    rw [e]
    rfl

/-- An append within the room. -/
theorem append_here {ty xTy rTy : TypeId} {xv sv : Value} {elem size bytes n : Nat} {xs : List SVal} {vs : List Value} (hA : AppArgs P w ρ ty xTy xv elem size bytes n xs vs)
    {b : Nat} {off len cap : Nat} (hs : sv = .slice (some ⟨b, off, none⟩) len cap) (hneed : len + n ≤ cap) {w' : World} (hst : (storeCells ⟨b, off + len * size, none⟩ vs).run P w = .ok () w') :
    (Builtin.append_ #[ty, xTy] rTy #[sv, xv]).run P w = .ok (.slice (some ⟨b, off, none⟩) (len + n) cap) w' := by
  obtain ⟨info, hi, rfl, rfl⟩ := hA.info
  obtain ⟨d, hd, hdi⟩ := hA.noint
  subst hs
  unfold Builtin.append_
  simp only [List.getElem?_toArray, List.getElem?_cons_zero, List.getElem?_cons_succ]
  rw [run_bind_pure hA.slice]
  simp only
  rw [run_bind_ok (sizeOf_of_info hi)]
  rw [run_bind_pure hd]
  rw [run_pure_bind]
  split
  · cases hdi
  simp only [Bool.not_false, if_true, Bool.false_eq_true, if_false]
  rw [run_bind_ok hA.len]
  rw [if_pos hneed]
  rw [run_bind_ok hA.first]
  simp only
  rw [addr_add _ _ rfl]
  rw [run_bind_ok hst]
  rfl

 omit [Env] in
/-- Cells behind what is known, overwritten. -/
theorem storeRaw : ∀ (vs : List Value) {w : World} {b off j : Nat} {e : TypeId} {fz : Nat × Nat} (pre rest : List Value) (_ : w.heap[b]? = some (.cells (pre ++ rest).toArray e fz)) (_ : off + j = pre.length) (_ : vs.length ≤ rest.length)
    (_ : ∀ k, k < (pre ++ rest).length → (decide (fz.1 ≤ k) && decide (k < fz.2)) = false) (_ : ∀ v ∈ vs, oneV v = true),
    ∃ w', (storeCells ⟨b, off, none⟩ vs j).run P w = .ok () w' ∧ w'.os = w.os ∧ w'.tape = w.tape ∧ w'.output = w.output ∧ w'.heap.size = w.heap.size ∧ (∀ k, k ≠ b → w'.heap[k]? = w.heap[k]?) ∧
      w'.heap[b]? = some (.cells (pre ++ vs ++ rest.drop vs.length).toArray e fz)
  | [], w, b, off, j, e, fz, pre, rest, hb, _, _, _, _ => ⟨w, rfl, rfl, rfl, rfl, rfl, fun _ _ => rfl, by simpa using hb⟩
  | v :: vs, w, b, off, j, e, fz, pre, rest, hb, hoff, hlen, hfz, hone => by
    cases rest with
    | nil => simp at hlen
    | cons r rest =>
      have hcell : w.cell? ⟨b, off + j, none⟩ = some r := by
        simp only [World.cell?, hb]
        simp [hoff]
      have hfr : w.frozen? ⟨b, off + j, none⟩ = false := by
        simp only [World.frozen?, hb]
        exact hfz (off + j) (by simp; omega)
      have hnew : (w.setCell ⟨b, off + j, none⟩ v).heap[b]? = some (.cells ((pre ++ [v]) ++ rest).toArray e fz) := by
        simp only [World.setCell, Array.getElem?_modify, if_true, hb]
        simp [hoff]
      obtain ⟨w', h1, h2, h3, h4, h5, h6, h7⟩ := storeRaw vs (off := off) (j := j + 1) (pre ++ [v]) rest hnew (by simp; omega) (by simpa using hlen) (by
        intro k hk; exact hfz k (by simpa using hk)) (fun u hu => hone u (List.mem_cons_of_mem _ hu))
      refine ⟨w', ?_, h2, h3, h4, by rw [h5]; simp [World.setCell], fun k hk => by rw [h6 k hk]; exact Below.heap_setCell _ _ _ _ hk, by simpa using h7⟩
      rw [storeCells]
      show ((Sem.store .plain _ v (.pure ())).bind _).run P w = _
      rw [show (Addr.add ⟨b, off, none⟩ j) = ⟨b, off + j, none⟩ from addr_add _ _ rfl]
      simp only [Sem.bind]
      have ho := hone v (by simp)
      have hrun : ∀ k : Sem Unit, (Sem.store .plain ⟨b, off + j, none⟩ v k).run P w = k.run P (w.setCell ⟨b, off + j, none⟩ v) := by
        intro k
        cases v <;> first | (simp [oneV] at ho; done) | (simp only [Sem.run, hcell, hfr]; rfl)
      rw [hrun]
      exact h1

theorem sOne_all {xs : List SVal} {vs : List Value} : ∀ (_ : denL ρ xs = some vs) (_ : xs.all sOne = true), ∀ v ∈ vs, oneV v = true := by
  induction xs generalizing vs with
  | nil => intro h _; simp [denL] at h; subst h; simp
  | cons x xs ih =>
    intro h hall
    obtain ⟨a, b, ha, hb, rfl⟩ := denL_cons.1 h
    simp only [List.all_cons, Bool.and_eq_true] at hall
    intro v hv
    rcases List.mem_cons.1 hv with rfl | hv
    · exact oneCell_of_sOne ha hall.1
    · exact ih hb hall.2 v hv

theorem firstCells_first (hR : Rel w0 ρ H w) {i : Nat} {p : Loc} (hi : ρ i = some p) {off len size cap : Nat} {l : List SVal} (h : firstOf H i off (len * size) = some l) :
    ∃ vs, denL ρ l = some vs ∧ vs.length = len * size ∧ (Builtin.firstCells size len (.slice (some ⟨p.b, off, none⟩) len cap)).run P (drew1 w) = .ok vs.toArray (drew1 w) := by
  obtain ⟨us, h1, h2, h3⟩ := firstOf_ok (P := P) hR.behindDraw hi h
  exact ⟨us, h1, h2, h3⟩

/-- A new row with room behind what is known. -/
theorem Rel.newRoom (hR : Rel w0 ρ H w) {l : List SVal} {vs rest : List Value} (hl : denL ρ l = some vs) {e : TypeId} {sz c g : Nat} (hsz : (vs ++ rest).length = c * sz) :
    Rel w0 (ρ.with H.length ⟨w.heap.size, c⟩) (H ++ [.row l e sz g]) { drew1 w with heap := w.heap.push (.cells (vs ++ rest).toArray e (0, 0)) } :=
  hR.behindDraw.push (o := .row l e sz g) (ob := .cells (vs ++ rest).toArray e (0, 0)) (c := c) ⟨vs, hl, rest, (0, 0), rfl, hsz, fun k _ => by simp⟩

theorem append_ok (hR : Rel w0 ρ H w) {ty xTy rTy : TypeId} {s x : SVal} {sv xv : Value} (hs : den ρ s = some sv) (hx : den ρ x = some xv) {r : Res} (h : appendE P H ty xTy s x = some r) :
    ∃ y H', r = .val y H' ∧ SemOk w0 H ρ y H' ((Builtin.append_ #[ty, xTy] rTy #[sv, xv]).run P w) := by
  unfold appendE at h
  split at h
  · cases h
  rename_i elem size bytes n xs hxs
  obtain ⟨vs, hA⟩ := appendXs_ok hR hx hxs
  split at h
  · cases h
  rename_i hc
  have hsize : size ≠ 0 := fun e => hc (.inl e)
  have hbytes : bytes ≠ 0 := fun e => hc (.inr (.inl e))
  have hb : bytes ≤ 65536 := by rcases Nat.lt_or_ge 65536 bytes with h' | h'; exact absurd (.inr (.inr (.inl h'))) hc; exact h'
  have hn : xs.length = n * size := Decidable.byContradiction fun e => hc (.inr (.inr (.inr e)))
  have hvl : vs.length = n * size := by rw [denL_length hA.den]; exact hn
  split at h
  · -- nil
    simp only [den, Option.some.injEq] at hs
    subst hs
    split at h
    · rename_i hn0
      cases h
      refine ⟨_, _, rfl, ρ, .slice none 0 0, w, ?_, Ext.refl _ _, by simp [den], hR⟩
      obtain ⟨info, hi, rfl, rfl⟩ := hA.info
      obtain ⟨d, hd, hdi⟩ := hA.noint
      unfold Builtin.append_
      simp only [List.getElem?_toArray, List.getElem?_cons_zero, List.getElem?_cons_succ]
      rw [run_bind_pure hA.slice]
      simp only
      rw [run_bind_ok (sizeOf_of_info hi)]
      rw [run_bind_pure hd]
      rw [run_pure_bind]
      split
      · cases hdi
      simp only [Bool.not_false, if_true, Bool.false_eq_true, if_false]
      rw [run_bind_ok hA.len]
      rw [if_pos (by omega)]
      rw [run_bind_ok hA.first]
      subst hn0
      rfl
    · rename_i hn0
      split at h
      case isFalse => cases h
      rename_i hle
      cases h
      obtain ⟨c, hcap, rest, hrl, hrun⟩ := append_grow (P := P) (rTy := rTy) hA hb hbytes (base := none) (len := 0) (cap := 0) rfl (by omega) (by omega) (by omega) (old := []) rfl
      have hlen : (vs ++ rest).length = c * size := by
        rw [List.length_append, hvl, hrl, ← Nat.add_mul]
        congr 1; omega
      have hR' := hR.newRoom (e := elem) (sz := size) (c := c) (g := H.length) hA.den hlen
      refine ⟨_, _, rfl, _, .slice (some ⟨w.heap.size, 0, none⟩) (0 + n) c, _, by rw [hrun]; simp only [List.nil_append], Ext.push _ _ _ _, ?_, hR'⟩
      simp only [den, Ren.with, if_true]
      rw [if_pos (by omega)]
      simp
  · -- known room
    rename_i i off len cap
    obtain ⟨p, hρ, rfl⟩ := den_slice hs
    split at h
    · rename_i hneed
      split at h
      case h_2 => cases h
      rename_i H' hw
      cases h
      obtain ⟨w', h0, h1, h2⟩ := writeE_ok (P := P) hR hρ hA.den hw
      refine ⟨_, _, rfl, ρ, .slice (some ⟨p.b, off, none⟩) (len + n) cap, w', append_here hA rfl hneed h2, h0, by simp only [den, hρ], h1⟩
    · rename_i hneed
      split at h
      case isFalse => cases h
      rename_i hle
      split at h
      case h_2 => cases h
      rename_i old hold
      cases h
      obtain ⟨us, hu1, hu2, hu3⟩ := firstCells_first (P := P) (cap := cap) hR hρ hold
      obtain ⟨c, hcap, rest, hrl, hrun⟩ := append_grow (P := P) (rTy := rTy) hA hb hbytes rfl hneed hle.2 hle.1 hu3
      have hlen : (us ++ vs ++ rest).length = c * size := by
        rw [List.length_append, List.length_append, hu2, hvl, hrl, ← Nat.add_mul, ← Nat.add_mul]
        congr 1; omega
      have hR' := hR.newRoom (e := elem) (sz := size) (c := c) (g := H.length) (denL_append hA.den hu1) hlen
      refine ⟨_, _, rfl, _, .slice (some ⟨w.heap.size, 0, none⟩) (len + n) c, _, hrun, Ext.push _ _ _ _, ?_, hR'⟩
      simp only [den, Ren.with, if_true]
      rw [if_pos (by omega)]
      simp
  · -- a row
    rename_i i len
    have hs' := hs
    obtain ⟨p, hρ, hpc, rfl⟩ := den_row hs
    split at h
    · rename_i hn0
      cases h
      subst hn0
      refine ⟨_, _, rfl, ρ, .slice (some ⟨p.b, 0, none⟩) len (p.c - 0), w, ?_, Ext.refl _ _, hs', hR⟩
      have hvs : vs = [] := by simpa using hvl
      subst hvs
      exact append_here hA rfl (by omega) rfl
    rename_i hn0
    split at h
    case h_2 => cases h
    rename_i l e sz g hH
    split at h
    case isFalse =>
      split at h
      case isFalse => cases h
      rename_i hcond
      obtain ⟨rfl, hroom⟩ := hcond
      split at h
      case h_2 => cases h
      rename_i H' hw
      cases h
      obtain ⟨o', ob, g1, g2, g3⟩ := hR.obj i p hρ
      rw [hH] at g1
      cases g1
      obtain ⟨us, hu1, rest, fz, rfl, hu2, hu3⟩ := g3
      have hcap : len + n ≤ p.c := by
        have h1 : (len + n) * sz ≤ p.c * sz := by
          rw [← hu2, List.length_append, denL_length hu1]
          omega
        exact Nat.le_of_mul_le_mul_right h1 (by omega)
      obtain ⟨w', h0, h1, h2⟩ := writeE_ok (P := P) hR hρ hA.den hw
      refine ⟨_, _, rfl, ρ, .slice (some ⟨p.b, 0, none⟩) (len + n) (p.c - 0), w', append_here hA rfl (by omega) h2, h0, ?_, h1⟩
      simp only [den, hρ]
      rw [if_pos (by omega)]
    rename_i hcond
    obtain ⟨rfl, rfl, hll, htip, hone, hle⟩ := hcond
    cases h
    obtain ⟨o', ob, g1, g2, g3⟩ := hR.obj i p hρ
    rw [hH] at g1
    cases g1
    obtain ⟨us, hu1, rest, fz, rfl, hu2, hu3⟩ := g3
    have hul : us.length = len * sz := by rw [denL_length hu1]; exact hll
    by_cases hneed : len + n ≤ p.c
    · -- there is room
      have hrl : n * sz ≤ rest.length := by
        have h1 : (len + n) * sz ≤ p.c * sz := Nat.mul_le_mul_right sz hneed
        rw [← hu2, List.length_append, hul, Nat.add_mul] at h1
        omega
      obtain ⟨w', k1, k2, k3, k4, k5, k6, k7⟩ := storeRaw (P := P) vs (off := 0 + len * sz) (j := 0) us rest g2 (by omega) (by omega) hu3 (sOne_all hA.den hone)
      have hnew : ObjRel ρ p (.row (l ++ xs) e sz g) (.cells (us ++ vs ++ rest.drop vs.length).toArray e fz) := by
        refine ⟨us ++ vs, denL_append hA.den hu1, rest.drop vs.length, fz, rfl, ?_, ?_⟩
        · rw [← hu2]; simp; omega
        · intro k hk; exact hu3 k (by simp at hk ⊢; omega)
      have hle' := Ren.le_with hR p
      refine ⟨_, _, rfl, ρ.with H.length p, .slice (some ⟨p.b, 0, none⟩) (len + n) (p.c - 0), w', append_here hA rfl (by omega) k1, Ext.push _ _ _ _, ?_, ?_⟩
      · simp only [den, Ren.with, if_true]
        rw [if_pos (by omega)]
      · -- the relation
        have tip : ∀ j q, ρ j = some q → q.b = p.b → H[j]? = some .dead ∨ ∃ l' e' sz', H[j]? = some (.row l' e' sz' g) ∧ l'.length ≤ len * sz := fun j q hj hb => by
          rcases hR.inj j i q p hj hρ hb with e1 | ⟨l1, e1, sz1, l2, e2, sz2, g', hh | hh | hh⟩
          · subst e1; exact .inr ⟨l, e, sz, hH, by omega⟩
          · rw [hH] at hh
            have := hh.2
            cases this
            refine .inr ⟨l1, e1, sz1, hh.1, ?_⟩
            unfold tipOf at htip
            rw [List.all_eq_true] at htip
            have := htip _ (List.mem_of_getElem? hh.1)
            simpa using this
          · exact .inl hh
          · rw [hH] at hh; cases hh
        refine ⟨hR.below.trans ⟨k2, k3, k4, by omega, fun k hk => k6 k (by have := (hR.fresh i p hρ).1; omega)⟩, ?_, ?_, ?_⟩
        · intro j q hj
          rw [k5]
          unfold Ren.with at hj
          split at hj
          · cases hj; exact hR.fresh i p hρ
          · exact hR.fresh j q hj
        · intro j k q r hj hk hb
          have look : ∀ j q, ρ j = some q → q.b = p.b → Alike (H ++ [.row (l ++ xs) e sz g]) j H.length ∧ Alike (H ++ [.row (l ++ xs) e sz g]) H.length j := fun j q hj hb => by
            have hlast : (H ++ [SObj.row (l ++ xs) e sz g])[H.length]? = some (.row (l ++ xs) e sz g) := by simp
            have hlt := hR.lt hj
            rcases tip j q hj hb with hd | ⟨l', e', sz', hr, _⟩
            · have hd' : (H ++ [SObj.row (l ++ xs) e sz g])[j]? = some .dead := by rw [List.getElem?_append_left hlt]; exact hd
              exact ⟨.inr ⟨[], 0, 0, [], 0, 0, 0, .inr (.inl hd')⟩, .inr ⟨[], 0, 0, [], 0, 0, 0, .inr (.inr hd')⟩⟩
            · have hr' : (H ++ [SObj.row (l ++ xs) e sz g])[j]? = some (.row l' e' sz' g) := by rw [List.getElem?_append_left hlt]; exact hr
              exact ⟨.inr ⟨_, _, _, _, _, _, g, .inl ⟨hr', hlast⟩⟩, .inr ⟨_, _, _, _, _, _, g, .inl ⟨hlast, hr'⟩⟩⟩
          unfold Ren.with at hj hk
          split at hj <;> split at hk
          · exact .inl (by omega)
          · rename_i hjn _
            cases hj
            rw [hjn]
            exact (look k r hk hb.symm).2
          · rename_i _ hkn
            cases hk
            rw [hkn]
            exact (look j q hj hb).1
          · exact (hR.inj j k q r hj hk hb).append
        · intro j q hj
          by_cases hjn : j = H.length
          · subst hjn
            simp only [Ren.with, if_true, Option.some.injEq] at hj
            subst hj
            exact ⟨_, _, by simp, k7, hnew.mono hle'⟩
          · have hj' : ρ j = some q := by simpa [Ren.with, hjn] using hj
            have hlt := hR.lt hj'
            obtain ⟨o2, ob2, m1, m2, m3⟩ := hR.obj j q hj'
            by_cases hb' : q.b = p.b
            · rcases tip j q hj' hb' with hd | ⟨l', e', sz', hr, hl'⟩
              · exact ⟨.dead, _, by rw [List.getElem?_append_left hlt]; exact hd, by rw [hb']; exact k7, trivial⟩
              · rw [hr] at m1
                cases m1
                rw [hb', g2] at m2
                cases m2
                obtain ⟨us', v1, rest', fz', v2, v3, v4⟩ := m3
                refine ⟨_, _, by rw [List.getElem?_append_left hlt]; exact hr, by rw [hb']; exact k7, ObjRel.mono hle' ?_⟩
                simp only [Obj.cells.injEq] at v2
                obtain ⟨v2, rfl, rfl⟩ := v2
                have hcs : us ++ rest = us' ++ rest' := by simpa using v2
                have hus' : us'.length ≤ us.length := by rw [denL_length v1, hul]; exact hl'
                have hpre : us = us' ++ us.drop us'.length := by
                  have h1 : us' = (us ++ rest).take us'.length := by rw [hcs]; simp
                  rw [List.take_append_of_le_length hus'] at h1
                  conv => lhs; rw [← List.take_append_drop us'.length us, ← h1]
                refine ⟨us', v1, us.drop us'.length ++ vs ++ rest.drop vs.length, fz, ?_, ?_, ?_⟩
                · have : us ++ vs ++ rest.drop vs.length = us' ++ (us.drop us'.length ++ vs ++ rest.drop vs.length) := by
                    conv => lhs; rw [hpre]
                    simp
                  rw [this]
                · rw [← v3, ← hcs]; simp; omega
                · intro k hk; exact v4 k (by rw [← hcs]; simp at hk ⊢; omega)
            · exact ⟨o2, ob2, by rw [List.getElem?_append_left hlt]; exact m1, by rw [k6 _ hb']; exact m2, m3.mono hle'⟩
    · -- a new row
      have hpc' : p.c ≤ 65536 := by omega
      have hfirst : firstOf H i 0 (len * sz) = some l := by
        unfold firstOf
        simp only [cellsFrom, hH, List.drop_zero]
        have : l.take (len * sz) = l := List.take_of_length_le (by omega)
        rw [this, if_pos hll]
      obtain ⟨us', q1, q2, q3⟩ := firstCells_first (P := P) (cap := p.c - 0) hR hρ hfirst
      obtain ⟨c, hcap, rest', hrl, hrun⟩ := append_grow (P := P) (rTy := rTy) hA hb hbytes (base := some ⟨p.b, 0, none⟩) (len := len) (cap := p.c - 0) rfl (by omega) hle (by omega) q3
      have hlen : (us' ++ vs ++ rest').length = c * sz := by
        rw [List.length_append, List.length_append, q2, hvl, hrl, ← Nat.add_mul, ← Nat.add_mul]
        congr 1; omega
      have hR' := hR.newRoom (e := e) (sz := sz) (c := c) (g := g) (denL_append hA.den q1) hlen
      refine ⟨_, _, rfl, _, .slice (some ⟨w.heap.size, 0, none⟩) (len + n) c, _, hrun, Ext.push _ _ _ _, ?_, hR'⟩
      simp only [den, Ren.with, if_true]
      rw [if_pos (by omega)]
      simp
  · cases h

/-! ### A string's bytes -/
def bytesV (s : ByteArray) : List Value := (s.data.map fun (b : UInt8) => Value.int .u8 b.toNat).toList

 omit [Env] in
theorem bytesV_len (s : ByteArray) : (bytesV s).length = s.size := by
  simp [bytesV]

def strBytesE (P : Program) (H : SHeap) (dst src : TypeId) (x : SVal) : Option Res :=
  match x with
  | .v (.string s) => match pureRun P (underlying src), pureRun P (underlying dst) with
    | some .string, some (.slice e) => match pureRun P (underlying e) with
      | some (.int .u8) => some (.val (.row H.length 0 0 s.size) (H ++ [.row ((bytesV s).map .v) e 1 H.length]))
      | _ => none
    | _, _ => none
  | _ => none

theorem strBytes_ok (hR : Rel w0 ρ H w) {dst src : TypeId} {x : SVal} {v : Value} (hx : den ρ x = some v) {r : Res} (h : strBytesE P H dst src x = some r) :
    ∃ y H', r = .val y H' ∧ SemOk w0 H ρ y H' ((convert src dst v).run P w) := by
  unfold strBytesE at h
  split at h
  case h_2 => cases h
  rename_i s
  split at h
  case h_2 => cases h
  rename_i e hs hd
  split at h
  case h_2 => cases h
  rename_i he
  cases h
  simp only [den, Option.some.injEq] at hx
  subst hx
  refine ⟨_, _, rfl, ?_⟩
  obtain ⟨c, hc, hcut⟩ : ∃ c, s.size ≤ c ∧ c = (Question.appendCap s.size 0 e).cut (w.tape w.drawn (.appendCap s.size 0 e)) := ⟨_, by simp [Question.cut], rfl⟩
  have hch : (choose (.appendCap s.size 0 e)).run P w = .ok c (drew1 w) := by
    simp [choose, Sem.run, Question.forced, drew1, hcut]
  have hvs := denL_map_v (ρ := ρ) (bytesV s)
  have hsz : (bytesV s ++ List.replicate (c - s.size) (Value.int .u8 0)).length = c := by
    simp [bytesV_len]; omega
  have hpush := hR.behindDraw.push (o := .row ((bytesV s).map .v) e 1 H.length) (c := c)
    (ob := .cells (bytesV s ++ List.replicate (c - s.size) (Value.int .u8 0)).toArray e (c, c + 1))
    ⟨_, hvs, List.replicate (c - s.size) (Value.int .u8 0), (c, c + 1), rfl, by rw [hsz]; simp, fun k hk => by rw [hsz] at hk; simp; omega⟩
  refine ⟨_, .slice (some ⟨w.heap.size, 0, none⟩) s.size c, _, ?_, Ext.push _ _ _ _, ?_, hpush⟩
  · unfold convert
    rw [run_bind_pure hs]
    rw [run_bind_pure hd]
    simp only
    rw [run_bind_pure he]
    simp only
    unfold Conv.stringToBytes
    rw [run_bind_ok hch]
    have earr : (s.data.map fun (b : UInt8) => Value.int .u8 b.toNat) ++ Array.replicate (c - s.size) (Value.int .u8 0) = (bytesV s ++ List.replicate (c - s.size) (Value.int .u8 0)).toArray := Array.toList_inj.1 (by simp [bytesV])
    simp only
    rw [earr]
    rw [run_bind_ok (a := (⟨w.heap.size, 0, none⟩ : Addr)) (w' := { drew1 w with heap := w.heap.push (.cells (bytesV s ++ List.replicate (c - s.size) (Value.int .u8 0)).toArray e (0, 0)) }) rfl]
    rw [run_bind_ok (a := ()) (w' := { drew1 w with heap := w.heap.push (.cells (bytesV s ++ List.replicate (c - s.size) (Value.int .u8 0)).toArray e (c, c + 1)) })]
    · rfl
    · unfold markStringish
      rw [run_bind_ok (a := some (e, c)) (w' := { drew1 w with heap := w.heap.push (.cells (bytesV s ++ List.replicate (c - s.size) (Value.int .u8 0)).toArray e (0, 0)) })]
      · simp only [freeze, Sem.run, World.freeze, Nat.one_ne_zero, if_false]
        congr 2
        apply Array.ext_getElem?
        intro k
        rw [Array.getElem?_modify]
        split
        · rename_i hk
          subst hk
          simp
        · rename_i hk
          rw [Array.getElem?_push, Array.getElem?_push, if_neg (Ne.symm hk), if_neg (Ne.symm hk)]
      · simp only [shape, Sem.run, World.shape?]
        simp only [Array.getElem?_push_size, List.size_toArray, hsz]
  · simp only [den, Ren.with, if_true]
    rw [if_pos (by omega)]
    simp [drew1]

/-! ### Bytes seen as a string -/
def pushBytes : List Value → ByteArray → Option ByteArray
  | [], acc => some acc
  | .int .u8 b :: vs, acc => pushBytes vs (acc.push b.toNat.toUInt8)
  | _ :: _, _ => none

 omit [Env] in
theorem loadBytes_ok : ∀ (vs : List Value) (a : Addr) (acc s : ByteArray), a.spot = none → pushBytes vs acc = some s → (∀ k u, vs[k]? = some u → w.cell? { a with off := a.off + k } = some u) → (loadBytes a acc vs.length).run P w = .ok s w
  | [], a, acc, s, _, h, _ => by cases h; rfl
  | v :: vs, a, acc, s, ha, h, hc => by
    unfold pushBytes at h
    split at h
    · rename_i heq; cases heq
    · rename_i acc' b vs' heq
      simp only [List.cons.injEq] at heq
      obtain ⟨rfl, rfl⟩ := heq
      have h0 := hc 0 (.int .u8 b) (by simp)
      simp only [Nat.add_zero] at h0
      rw [List.length_cons, loadBytes]
      rw [run_bind_ok (a := .int .u8 b) (w' := w) (by simp only [load, Sem.run, h0])]
      simp only
      refine loadBytes_ok vs (a.add 1) _ s ?_ h fun k u hk => ?_
      · rw [addr_add a 1 ha]; exact ha
      · rw [addr_add a 1 ha]
        have := hc (k + 1) u (by simpa using hk)
        simp only at this ⊢
        rw [show a.off + 1 + k = a.off + (k + 1) by omega]
        exact this
    · cases h

def strAtE (P : Program) (H : SHeap) (pt : TypeId) (p n : SVal) : Option Res :=
  match p, n with
  | .ptr i off, .v (.int _ m) =>
    if 0 < m ∧ m ≤ 65536 then
      match H[i]? with
      | some (.cells l e (0, 0)) => match pureRun P (elemOf pt) with
        | some u =>
          if liesAt P P.depth e (l.length / P.cellsOf e) off u m.toNat then
            match vOfL ((l.drop off).take m.toNat) with
            | some vs => if vs.length = m.toNat then
                match pushBytes vs .empty with
                | some s => some (.val (.v (.string s)) (H.set i (.cells l e (off, off + m.toNat))))
                | none => none
              else none
            | none => none
          else none
        | none => none
      | some (.row l e _ g) => match pureRun P (elemOf pt) with
        | some u =>
          if off = 0 ∧ u = e ∧ P.cellsOf e = 1 ∧ m.toNat ≤ l.length then
            match vOfL (l.take m.toNat) with
            | some vs => match pushBytes vs .empty with
              | some s => some (.val (.v (.string s)) ((killFrom g i 0 H).set i .dead))
              | none => none
            | none => none
          else none
        | none => none
      | _ => none
    else none
  | _, _ => none

theorem strAt_ok (hR : Rel w0 ρ H w) {pt nt rTy : TypeId} {p n : SVal} {pv nv : Value} (hp : den ρ p = some pv) (hn : den ρ n = some nv) {r : Res} (h : strAtE P H pt p n = some r) :
    ∃ y H', r = .val y H' ∧ SemOk w0 H ρ y H' ((Builtin.unsafeString_ #[pt, nt] rTy #[pv, nv]).run P w) := by
  unfold strAtE at h
  split at h
  case h_2 => cases h
  rename_i i off k m
  split at h
  case isFalse => cases h
  rename_i hm
  split at h
  case h_3 => cases h
  case h_2 =>
    rename_i l e sz g hH
    split at h
    case h_2 => cases h
    rename_i u hu
    split at h
    case isFalse => cases h
    rename_i hif
    obtain ⟨rfl, rfl, hc1, hml⟩ := hif
    split at h
    case h_2 => cases h
    rename_i vs hvs
    split at h
    case h_2 => cases h
    rename_i s hs
    cases h
    simp only [den, Option.some.injEq] at hn
    subst hn
    obtain ⟨q, hρ, rfl⟩ := den_ptr hp
    obtain ⟨o', ob, g1, g2, g3⟩ := hR.obj i q hρ
    rw [hH] at g1
    cases g1
    obtain ⟨us, hus, rest, fz, rfl, hsz, hfz⟩ := g3
    have hul := denL_length hus
    have h1 : denL ρ (l.take m.toNat) = some (us.take m.toNat) := denL_take _ hus
    have h2 := denL_of_vOfL (ρ := ρ) _ hvs
    rw [h1] at h2
    simp only [Option.some.injEq] at h2
    have hlen : vs.length = m.toNat := by rw [← h2]; simp; omega
    have hcells : ∀ k x, vs[k]? = some x → w.cell? ⟨q.b, 0 + k, none⟩ = some x := fun k x hk => by
      rw [← h2, List.getElem?_take] at hk
      split at hk
      · rw [Nat.zero_add]
        exact cell_known (vs := us) (rest := rest) g2 hk
      · cases hk
    have hK : Rel w0 ρ ((killFrom g i 0 H).set i .dead) (w.freeze ⟨q.b, 0, none⟩ m.toNat) := by
      have hmne : m.toNat ≠ 0 := by omega
      unfold World.freeze
      rw [if_neg hmne]
      have hsome : ∀ F : Obj → Obj, ∃ ob', (w.heap.modify q.b F)[q.b]? = some ob' := fun F => by
        rw [Array.getElem?_modify, if_pos rfl, g2]
        exact ⟨_, rfl⟩
      obtain ⟨ob', hob'⟩ := hsome _
      refine (hR.kill g i).setObj hρ (hR.own_killed hρ hH) (o := .dead) (ob := ob') trivial rfl rfl rfl (by simp) (fun k hk => ?_) hob'
      simp only [Array.getElem?_modify]
      rw [if_neg (Ne.symm hk)]
    refine ⟨_, _, rfl, ρ, .string s, w.freeze ⟨q.b, 0, none⟩ m.toNat, ?_, (Ext.kill g i).trans (Ext.set hρ _) (by rw [killFrom_len]; exact Nat.le_refl _), by simp [den], hK⟩
    show ((asInt (.int k m)) >>= _ : Sem Value).run P w = _
    rw [run_bind_ok (a := m) (w' := w) rfl]
    simp only [List.getElem?_toArray, List.getElem?_cons_zero]
    rw [if_neg (by omega), if_neg (by simp [IntKind.max, IntKind.bits, IntKind.signed]; omega), if_neg (by omega)]
    rw [run_bind_pure hu]
    rw [run_bind_ok (a := true) (w' := w)]
    · simp only [if_true]
      have := loadBytes_ok (P := P) (w := w) vs ⟨q.b, 0, none⟩ .empty s rfl hs (fun k x hk => hcells k x hk)
      rw [hlen] at this
      rw [run_bind_ok this]
      rfl
    · unfold variablesAt
      rw [run_bind_pure (a := P) rfl]
      rw [run_bind_ok (a := some (u, (us ++ rest).length)) (w' := w) (by simp only [shape, Sem.run, World.shape?, g2]; simp)]
      simp only
      rw [Lib.liesAt_bytes hc1 _ _ (by rw [hc1]; simp; omega)]
      rfl
  rename_i l e hH
  split at h
  case h_2 => cases h
  rename_i u hu
  split at h
  case isFalse => cases h
  rename_i hlies
  split at h
  case h_2 => cases h
  rename_i vs hvs
  split at h
  case isFalse => cases h
  rename_i hlen
  split at h
  case h_2 => cases h
  rename_i s hs
  cases h
  simp only [den, Option.some.injEq] at hn
  subst hn
  obtain ⟨q, hρ, rfl⟩ := den_ptr hp
  obtain ⟨o', ob, g1, g2, g3⟩ := hR.obj i q hρ
  rw [hH] at g1
  cases g1
  obtain ⟨us, hus, rfl⟩ := g3
  have hul := denL_length hus
  have h1 : denL ρ ((l.drop off).take m.toNat) = some ((us.drop off).take m.toNat) := denL_take _ (denL_drop off hus)
  have h2 := denL_of_vOfL (ρ := ρ) _ hvs
  rw [h1] at h2
  simp only [Option.some.injEq] at h2
  have hcells : ∀ k x, vs[k]? = some x → w.cell? ⟨q.b, off + k, none⟩ = some x := fun k x hk => by
    rw [← h2, List.getElem?_take] at hk
    split at hk
    · exact cell_known (vs := us) (rest := []) (by simpa using g2) (by simpa using hk)
    · cases hk
  refine ⟨_, _, rfl, ρ, .string s, w.freeze ⟨q.b, off, none⟩ m.toNat, ?_, Ext.set hρ _, by simp [den], ?_⟩
  · show ((asInt (.int k m)) >>= _ : Sem Value).run P w = _
    rw [run_bind_ok (a := m) (w' := w) rfl]
    simp only [List.getElem?_toArray, List.getElem?_cons_zero]
    rw [if_neg (by omega), if_neg (by simp [IntKind.max, IntKind.bits, IntKind.signed]; omega), if_neg (by omega)]
    rw [run_bind_pure hu]
    rw [run_bind_ok (a := true) (w' := w)]
    · simp only [if_true]
      have := loadBytes_ok (P := P) (w := w) vs ⟨q.b, off, none⟩ .empty s rfl hs (fun k x hk => hcells k x hk)
      rw [hlen] at this
      rw [run_bind_ok this]
      rfl
    · unfold variablesAt
      rw [run_bind_pure (a := P) rfl]
      rw [run_bind_ok (a := some (e, us.length)) (w' := w) (by simp only [shape, Sem.run, World.shape?, g2]; simp)]
      simp only
      rw [hul, hlies]
      rfl
  · have hmne : m.toNat ≠ 0 := by omega
    unfold World.freeze
    rw [if_neg hmne]
    refine hR.setObj hρ (hR.own hρ hH (fun _ _ _ _ e => by cases e) (fun e => by cases e)) (o := .cells l e (off, off + m.toNat)) (ob := .cells us.toArray e (off, off + m.toNat)) ⟨us, hus, rfl⟩ rfl rfl rfl (by simp) (fun k hk => ?_) ?_
    · simp only [Array.getElem?_modify]
      rw [if_neg (Ne.symm hk)]
    · simp only [Array.getElem?_modify, if_true, g2]
      simp

/-! ### Elements of a slice set to zero -/
def clearE (P : Program) (H : SHeap) (ty : TypeId) (s : SVal) : Option Res :=
  match pureRun P (underlying ty) with
  | some (.slice elem) => match s with
    | .tail _ _ _ _ => some (.val (.tuple []) H)
    | .v (.slice none _ _) => some (.val (.tuple []) H)
    | s => match sliceAtOf s with
      | some (_, _, 0) => some (.val (.tuple []) H)
      | some (i, off, n + 1) => match pureRun P (zeroValue elem) with
        | some z => match writeE H i off ((Builtin.zeroCells z.cells (n + 1)).toList.map .v) with
          | some H' => some (.val (.tuple []) H')
          | none => none
        | none => none
      | none => none
  | _ => none

theorem clear_ok (hR : Rel w0 ρ H w) {ty rTy : TypeId} {s : SVal} {sv : Value} (hs : den ρ s = some sv) {r : Res} (h : clearE P H ty s = some r) :
    ∃ y H', r = .val y H' ∧ SemOk w0 H ρ y H' ((Builtin.clear_ #[ty] rTy #[sv]).run P w) := by
  unfold clearE at h
  split at h
  case h_2 => cases h
  rename_i elem hu
  have hre : (.tuple #[] : Value) = .tuple #[] := rfl
  split at h
  · cases h
    simp only [den] at hs
    split at hs
    case h_2 => cases hs
    split at hs
    case isFalse => cases hs
    cases hs
    refine ⟨_, _, rfl, ρ, .tuple #[], w, ?_, Ext.refl _ _, by simp [den, denL], hR⟩
    unfold Builtin.clear_
    simp only [List.getElem?_toArray, List.getElem?_cons_zero]
    rw [run_bind_pure hu]
    rfl
  · cases h
    simp only [den, Option.some.injEq] at hs
    subst hs
    refine ⟨_, _, rfl, ρ, .tuple #[], w, ?_, Ext.refl _ _, by simp [den, denL], hR⟩
    unfold Builtin.clear_
    simp only [List.getElem?_toArray, List.getElem?_cons_zero]
    rw [run_bind_pure hu]
    rfl
  · split at h
    case h_3 => cases h
    · rename_i hsl
      cases h
      obtain ⟨p, cap, hb, rfl⟩ := sliceAtOf_ok hs hsl
      refine ⟨_, _, rfl, ρ, .tuple #[], w, ?_, Ext.refl _ _, by simp [den, denL], hR⟩
      unfold Builtin.clear_
      simp only [List.getElem?_toArray, List.getElem?_cons_zero]
      rw [run_bind_pure hu]
      rfl
    · rename_i i off n hsl
      split at h
      case h_2 => cases h
      rename_i z hz
      split at h
      case h_2 => cases h
      rename_i H' hw
      cases h
      obtain ⟨p, cap, hb, rfl⟩ := sliceAtOf_ok hs hsl
      obtain ⟨w', h0, h1, h2⟩ := writeE_ok (P := P) hR hb (denL_map_v _) hw
      refine ⟨_, _, rfl, ρ, .tuple #[], w', ?_, h0, by simp [den, denL], h1⟩
      unfold Builtin.clear_
      simp only [List.getElem?_toArray, List.getElem?_cons_zero]
      rw [run_bind_pure hu]
      simp only
      rw [run_bind_pure hz]
      rw [run_bind_ok h2]
      rfl

/-! ### Strings ranged over -/
def rangeE (P : Program) (H : SHeap) (ty : TypeId) (x : SVal) : Option Res :=
  match x with
  | .v (.string s) => match pureRun P (underlying ty) with
    | some .string => some (.val (.ptr H.length 0) (H ++ [.iter s 0]))
    | _ => none
  | _ => none

theorem range_ok (hR : Rel w0 ρ H w) {ty : TypeId} {x : SVal} {v : Value} (hx : den ρ x = some v) {r : Res} (h : rangeE P H ty x = some r) :
    ∃ y H', r = .val y H' ∧ SemOk w0 H ρ y H' ((Instr.range ty v).run P w) := by
  unfold rangeE at h
  split at h
  case h_2 => cases h
  rename_i s
  split at h
  case h_2 => cases h
  rename_i hu
  cases h
  simp only [den, Option.some.injEq] at hx
  subst hx
  refine ⟨_, _, rfl, ρ.with H.length ⟨w.heap.size, 0⟩, .pointer (some ⟨w.heap.size, 0, none⟩), _, ?_, Ext.push _ _ _ _, by simp [den, Ren.with], hR.push (o := .iter s 0) (ob := .stringIter s 0) rfl⟩
  unfold Instr.range
  rw [run_bind_pure hu]
  simp only
  rfl

def nextE (H : SHeap) (x : SVal) (isString : Bool) : Option Res :=
  match x with
  | .ptr i 0 => match H[i]? with
    | some (.iter s pos) =>
      if isString then
        if pos < s.size then
          match Utf8.decode s pos with
          | (c, width) => some (.val (.v (.tuple #[.bool true, goInt pos, .int .i32 c])) (H.set i (.iter s (pos + width))))
        else some (.val (.v (.tuple #[.bool false])) H)
      else none
    | _ => none
  | _ => none

theorem next_ok (hR : Rel w0 ρ H w) {x : SVal} {v : Value} (hx : den ρ x = some v) {isString : Bool} {rt : TypeId} {r : Res} (h : nextE H x isString = some r) :
    ∃ y H', r = .val y H' ∧ SemOk w0 H ρ y H' ((Instr.next v isString rt).run P w) := by
  unfold nextE at h
  split at h
  case h_2 => cases h
  rename_i i
  split at h
  case h_2 => cases h
  rename_i s pos hH
  split at h
  case isFalse => cases h
  rename_i hstr
  subst hstr
  obtain ⟨b, hb, rfl⟩ := den_ptr hx
  obtain ⟨o', ob, h1, h2, h3⟩ := hR.obj i b hb
  rw [hH] at h1
  cases h1
  obtain rfl : ob = .stringIter s pos := h3
  have hget : (getObj b.b).run P w = .ok (.stringIter s pos) w := by
    simp only [getObj, Sem.run, h2]
  split at h
  · rename_i hpos
    split at h
    rename_i c width hdec
    cases h
    have hlt : b.b < w.heap.size := (hR.fresh _ _ hb).2
    refine ⟨_, _, rfl, ρ, .tuple #[.bool true, goInt pos, .int .i32 c], { w with heap := w.heap.setIfInBounds b.b (.stringIter s (pos + width)) }, ?_, Ext.set hb _, by simp [den], ?_⟩
    · unfold Instr.next
      simp only
      rw [run_bind_ok hget]
      simp only [hpos, if_true, hdec]
      rw [run_bind_ok (a := ()) (w' := { w with heap := w.heap.setIfInBounds b.b (.stringIter s (pos + width)) }) (by simp only [Go.setObj, Sem.run, h2])]
      rfl
    · refine hR.setObj hb (hR.own hb hH (fun _ _ _ _ e => by cases e) (fun e => by cases e)) (o := .iter s (pos + width)) rfl rfl rfl rfl (by simp) (fun k hk => ?_) ?_
      · simp only
        rw [Array.getElem?_setIfInBounds_ne (Ne.symm hk)]
      · simp [hlt]
  · rename_i hpos
    cases h
    refine ⟨_, _, rfl, ?_⟩
    refine SemOk.here hR (v := .tuple #[.bool false]) ?_ (by simp [den])
    unfold Instr.next
    simp only
    rw [run_bind_ok hget]
    simp only [hpos, if_false]
    rfl

/-! ### Calls -/
def calleeOf : SVal → Option (FuncId × List SVal × List SVal)
  | .v (.func (.func f) fs cs) => some (f, fs.toList.map .v, cs.toList.map .v)
  | .func (.func f) fs cs => some (f, fs, cs)
  | _ => none

def callE (P : Program) (t : List SVal) (f : Operand) (args : List Operand) : Option PRes :=
  match calleeOf (seval t f) with
  | some (g, fs, cs) => match P.funcs[g]? with
    | some fn => if fn.body.isSome then some (.call g (fs ++ sevalL t args ++ cs)) else none
    | none => none
  | none => match seval t f with
    | .yield i => some (.yld i (sevalL t args))
    | _ => none

theorem calleeOf_ok {x : SVal} {v : Value} (hx : den ρ x = some v) {g : FuncId} {fs cs : List SVal} (h : calleeOf x = some (g, fs, cs)) :
    ∃ us ws : Array Value, v = .func (.func g) us ws ∧ denL ρ fs = some us.toList ∧ denL ρ cs = some ws.toList := by
  unfold calleeOf at h
  split at h
  · rename_i f us ws
    simp only [Option.some.injEq, Prod.mk.injEq] at h
    obtain ⟨rfl, rfl, rfl⟩ := h
    simp only [den, Option.some.injEq] at hx
    subst hx
    exact ⟨us, ws, rfl, denL_map_v _, denL_map_v _⟩
  · rename_i f us ws
    simp only [Option.some.injEq, Prod.mk.injEq] at h
    obtain ⟨rfl, rfl, rfl⟩ := h
    simp only [den] at hx
    split at hx <;> simp at hx
    rename_i u' w' h1 h2
    exact ⟨u'.toArray, w'.toArray, hx.symm, by simpa using h1, by simpa using h2⟩
  · cases h

/-- What is asked of the program, and of the facts. -/
structure NamesOk (P : Program) : Prop where
  names : ∀ (f : FuncId) (fn : Func), P.funcs[f]? = some fn → fn.body.isSome = true → (fn.name == "runtime.NumGoroutine") = false
  facts : ∀ (op : Op) (xs : List SVal) (y : SVal), Env.fact op xs = some y → ∀ (ρ : Ren) (f : Operand → Value) (o : Oper) (w : World), o.op = op → denL ρ xs = some (op.operands.toList.map f) →
    ∃ v, (execOp f o).run P w = .ok (.value v) w ∧ den ρ y = some v

theorem call_ok (hN : NamesOk P) (ht : denL ρ t = some a.tmps.toList) {f : Operand} {args : Array Operand} {argTypes : Array TypeId} {ty : TypeId} {r : PRes} (h : callE P t f args.toList = some r) :
    PResOk ρ w r ((do let d ← resolve a.eval { callee := .value f, args, argTypes } ty; invoke d.target d.args : Sem Next).run P w) := by
  unfold callE at h
  split at h
  case h_2 =>
    split at h
    case h_2 => cases h
    rename_i i hi
    cases h
    have hd := den_seval ht f
    rw [hi] at hd
    simp only [den] at hd
    split at hd
    case h_2 => cases hd
    rename_i p hp
    refine ⟨p, args.map a.eval, hp, ?_, fun r hr hs => ?_⟩
    · simp only [Array.toList_map]
      exact denL_sevalL ht _
    · simp only [resolve, ← Option.some.inj hd, Deferred.ofValue]
      rw [run_pure_bind]
      simp only [invoke, Array.empty_append]
      exact run_yield hr hs
  rename_i g fs cs hc
  split at h
  case h_2 => cases h
  rename_i fn hfn
  split at h
  case isFalse => cases h
  rename_i hbody
  cases h
  obtain ⟨us, ws, hv, h1, h2⟩ := calleeOf_ok (den_seval ht f) hc
  refine ⟨us ++ args.map a.eval ++ ws, ?_, ?_⟩
  · simp only [resolve, hv, Deferred.ofValue]
    rw [run_pure_bind]
    simp only [invoke, callFunc]
    show (Sem.program .pure >>= _ : Sem Next).run P w = _
    rw [run_bind_pure (a := P) rfl]
    simp only [hfn, hN.names g fn hfn hbody, Bool.false_eq_true, if_false]
    have hb : fn.body.isNone = false := by cases hh : fn.body <;> simp_all
    simp only [hb, Bool.false_eq_true, if_false]
    rfl
  · simp only [Array.toList_append, Array.toList_map]
    exact denL_append h2 (denL_append (denL_sevalL ht _) h1)

theorem builtin_resP {b : Builtin} {s : Sem Value} {args : Array Operand} {argTypes : Array TypeId} {ty : TypeId} {x : SVal}
    (hb : ∀ cs, invoke (.builtin b argTypes ty cs) (args.map a.eval) = (do pure (Next.value (← s)) : Sem Next)) (hs : PSemOk ρ x w (s.run P w)) :
    PResOk ρ w (.val x) ((do let d ← resolve a.eval { callee := .builtin b, args, argTypes } ty; invoke d.target d.args : Sem Next).run P w) := by
  simp only [resolve]
  rw [run_pure_bind, hb]
  exact PResOk.of_sem hs

theorem builtin_res {b : Builtin} {s : Sem Value} {args : Array Operand} {argTypes : Array TypeId} {ty : TypeId} {x : SVal} {H' : SHeap}
    (hb : ∀ cs, invoke (.builtin b argTypes ty cs) (args.map a.eval) = (do pure (Next.value (← s)) : Sem Next)) (hs : SemOk w0 H ρ x H' (s.run P w)) :
    ResOk w0 H ρ w (.val x H') ((do let d ← resolve a.eval { callee := .builtin b, args, argTypes } ty; invoke d.target d.args : Sem Next).run P w) := by
  simp only [resolve]
  rw [run_pure_bind, hb]
  exact ResOk.of_sem hs

/-! ### One operation -/
/-- A slice's length. -/
def lenAtOf : SVal → Option Nat
  | .tail _ _ _ _ => some 0
  | x => match sliceAtOf x with
    | some (_, _, n) => some n
    | none => none
theorem lenAtOf_ok {x : SVal} {v : Value} (hx : den ρ x = some v) {n : Nat} (h : lenAtOf x = some n) : ∃ b cap, v = .slice (some b) n cap := by
  unfold lenAtOf at h
  split at h
  · cases h
    simp only [den] at hx
    split at hx
    · split at hx <;> cases hx
      exact ⟨_, _, rfl⟩
    · cases hx
  · split at h
    · rename_i hs
      cases h
      obtain ⟨p, cap, _, hv⟩ := sliceAtOf_ok hx hs
      exact ⟨_, cap, hv⟩
    · cases h
def lenOpE (P : Program) (t : List SVal) (b : Builtin) (args : List Operand) (argTypes : List TypeId) : Option PRes :=
  match b, args, argTypes with
  | .len, [x], [ty] => match lenAtOf (seval t x) with
    | some n => match pureRun P (underlying ty) with
      | some (.slice _) => some (.val (.v (goInt n)))
      | _ => none
    | _ => none
  | .unsafeSliceData, [x], _ => match seval t x with
    | .row i off _ n => if 0 < n then some (.val (.ptr i off)) else none
    | _ => none
  | _, _, _ => none

def copyOpE (P : Program) (t : List SVal) (H : SHeap) (b : Builtin) (args : List Operand) (argTypes : List TypeId) : Option Res :=
  match b, args, argTypes with
  | .copy, [d, s], [ty, _] => copyE P H ty (seval t d) (seval t s)
  | .append, [s, x], [ty, xTy] => appendE P H ty xTy (seval t s) (seval t x)
  | .unsafeString, [p, n], [pt, _] => strAtE P H pt (seval t p) (seval t n)
  | .clear, [s], [ty] => clearE P H ty (seval t s)
  | _, _, _ => none

theorem lenOpE_ok (ht : denL ρ t = some a.tmps.toList) {b : Builtin} {args : Array Operand} {argTypes : Array TypeId} {ty : TypeId} {r : PRes}
    (h : lenOpE P t b args.toList argTypes.toList = some r) :
    PResOk ρ w r ((do let d ← resolve a.eval { callee := .builtin b, args, argTypes } ty; invoke d.target d.args : Sem Next).run P w) := by
  unfold lenOpE at h
  split at h
  · rename_i x ty' hargs htys
    obtain rfl : args = #[x] := Array.toList_inj.1 hargs
    obtain rfl : argTypes = #[ty'] := Array.toList_inj.1 htys
    split at h
    case h_2 => cases h
    rename_i i off n hx
    split at h
    case h_2 => cases h
    rename_i e hu
    cases h
    obtain ⟨bl, cap, hv⟩ := lenAtOf_ok (den_seval ht x) hx
    refine builtin_resP (s := Builtin.len_ #[ty'] ty #[a.eval x]) (fun _ => by simp [invoke, builtin]) (PSemOk.here (v := goInt n) ?_ (by simp [den]))
    unfold Builtin.len_
    simp only [List.getElem?_toArray, List.getElem?_cons_zero, hv]
    rw [run_bind_pure hu]
    rfl
  · rename_i x hargs
    obtain rfl : args = #[x] := Array.toList_inj.1 hargs
    split at h
    case h_2 => cases h
    rename_i i off eoff n hx
    split at h
    case isFalse => cases h
    rename_i hn0
    cases h
    have hv := den_seval ht x
    rw [hx] at hv
    simp only [den] at hv
    split at hv
    case h_2 => cases hv
    rename_i p hp
    split at hv
    case isFalse => cases hv
    rename_i hle
    refine builtin_resP (s := Builtin.unsafeSliceData_ argTypes ty #[a.eval x]) (fun _ => by simp [invoke, builtin]) ⟨.pointer (some ⟨p.b, off, none⟩), ?_, by simp only [den, hp]⟩
    rw [← Option.some.inj hv]
    exact Lib.run_unsafeSliceData_row _ _ _ _ _ _ (by omega)
  · cases h

theorem copyOpE_ok (hR : Rel w0 ρ H w) (ht : denL ρ t = some a.tmps.toList) {b : Builtin} {args : Array Operand} {argTypes : Array TypeId} {ty : TypeId} {r : Res}
    (h : copyOpE P t H b args.toList argTypes.toList = some r) :
    ResOk w0 H ρ w r ((do let d ← resolve a.eval { callee := .builtin b, args, argTypes } ty; invoke d.target d.args : Sem Next).run P w) := by
  unfold copyOpE at h
  split at h
  · rename_i d s ty' ty2 hargs htys
    obtain rfl : args = #[d, s] := Array.toList_inj.1 hargs
    obtain rfl : argTypes = #[ty', ty2] := Array.toList_inj.1 htys
    obtain ⟨x, H', rfl, hs⟩ := copy_ok (P := P) (sTy := ty2) (rTy := ty) hR (den_seval ht d) (den_seval ht s) h
    exact builtin_res (s := Builtin.copy_ #[ty', ty2] ty #[a.eval d, a.eval s]) (fun _ => by simp [invoke, builtin]) hs
  · rename_i s x ty' ty2 hargs htys
    obtain rfl : args = #[s, x] := Array.toList_inj.1 hargs
    obtain rfl : argTypes = #[ty', ty2] := Array.toList_inj.1 htys
    obtain ⟨y, H', rfl, hs⟩ := append_ok (P := P) (rTy := ty) hR (den_seval ht s) (den_seval ht x) h
    exact builtin_res (s := Builtin.append_ #[ty', ty2] ty #[a.eval s, a.eval x]) (fun _ => by simp [invoke, builtin]) hs
  · rename_i p n ty' ty2 hargs htys
    obtain rfl : args = #[p, n] := Array.toList_inj.1 hargs
    obtain rfl : argTypes = #[ty', ty2] := Array.toList_inj.1 htys
    obtain ⟨y, H', rfl, hs⟩ := strAt_ok (P := P) (nt := ty2) (rTy := ty) hR (den_seval ht p) (den_seval ht n) h
    exact builtin_res (s := Builtin.unsafeString_ #[ty', ty2] ty #[a.eval p, a.eval n]) (fun _ => by simp [invoke, builtin]) hs
  · rename_i s ty' hargs htys
    obtain rfl : args = #[s] := Array.toList_inj.1 hargs
    obtain rfl : argTypes = #[ty'] := Array.toList_inj.1 htys
    obtain ⟨y, H', rfl, hs⟩ := clear_ok (P := P) (rTy := ty) hR (den_seval ht s) h
    exact builtin_res (s := Builtin.clear_ #[ty'] ty #[a.eval s]) (fun _ => by simp [invoke, builtin]) hs
  · cases h

/-- A part of a row that goes beyond its length, as far as its block is known. -/
def sliceHE (P : Program) (H : SHeap) (ty : TypeId) (lo hi mx : Option Value) : SVal → Option SVal
  | .row i off eoff len => match pureRun P (underlying ty), mx, H[i]? with
    | some (.slice elem), none, some (.row l _ sz _) => match natOr 0 lo, natOr len hi, pureRun P (sizeOf elem) with
      | some a, some b, some s => if sz = s ∧ 0 < s ∧ a < b ∧ (eoff + b) * s ≤ l.length then some (.row i (off + a * s) (eoff + a) (b - a)) else none
      | _, _, _ => none
    | _, _, _ => none
  | _ => none

theorem sliceH_ok (hR : Rel w0 ρ H w) {ty : TypeId} {lo hi mx : Option Value} {x y : SVal} {v : Value} (hx : den ρ x = some v) (h : sliceHE P H ty lo hi mx x = some y) :
    PSemOk ρ y w ((Instr.sliceAt ty v lo hi mx).run P w) := by
  unfold sliceHE at h
  split at h
  case h_2 => cases h
  rename_i i off eoff len
  split at h
  case h_2 => cases h
  rename_i elem l e sz g hu hH
  split at h
  case h_2 => cases h
  rename_i a b s ha hb hs
  split at h
  case isFalse => cases h
  rename_i hc
  obtain ⟨rfl, h0, hab, hroom⟩ := hc
  cases h
  obtain ⟨p, hρ, hle, rfl⟩ := den_row hx
  obtain ⟨o', ob, g1, g2, g3⟩ := hR.obj i p hρ
  rw [hH] at g1
  cases g1
  obtain ⟨us, hu1, rest, fz, rfl, hu2, hu3⟩ := g3
  have hcap : eoff + b ≤ p.c := by
    have h1 : (eoff + b) * sz ≤ p.c * sz := by
      rw [← hu2, List.length_append, denL_length hu1]
      omega
    exact Nat.le_of_mul_le_mul_right h1 h0
  have e1 : ∀ {d : Nat} {x : Option Value} {n : Nat}, natOr d x = some n → (x = none ∧ n = d) ∨ ∃ k m, x = some (.int k m) ∧ 0 ≤ m ∧ n = m.toNat := by
    intro d x n h
    unfold natOr at h
    split at h
    · cases h; exact .inl ⟨rfl, rfl⟩
    · rename_i k m
      split at h
      · rename_i hm; cases h; exact .inr ⟨k, m, rfl, hm, rfl⟩
      · cases h
    · cases h
  have sb : ∀ {k : IntKind} {m : Int} {y : Nat} {code : BoundsCode}, 0 ≤ m → m.toNat ≤ y → (Instr.sliceBound (.int k m) y code).run P w = .ok m.toNat w := by
    intro k m y code h0 h1
    simp only [Instr.sliceBound, asIntOf]
    rw [run_pure_bind]
    simp only
    rw [if_pos ⟨h0, by omega⟩]
    rfl
  have hbs : (Instr.sliceBounds true len (p.c - eoff) lo hi none).run P w = .ok (a, b, p.c - eoff) w := by
    unfold Instr.sliceBounds
    rw [run_pure_bind]
    rcases e1 hb with ⟨rfl, rfl⟩ | ⟨k, m, rfl, hm, rfl⟩ <;> rcases e1 ha with ⟨rfl, rfl⟩ | ⟨k', m', rfl, hm', rfl⟩ <;> simp only
    · rfl
    · rw [run_pure_bind, run_bind_ok (sb hm' (by omega))]; rfl
    · rw [run_bind_ok (sb hm (by omega))]; rfl
    · rw [run_bind_ok (sb hm (by omega)), run_bind_ok (sb hm' (by omega))]; rfl
  refine PSemOk.here (v := .slice (some ⟨p.b, off + a * sz, none⟩) (b - a) (p.c - eoff - a)) ?_ ?_
  · unfold Instr.sliceAt
    rw [run_bind_pure hu]
    simp only
    unfold Instr.slice
    rw [run_bind_pure hu]
    simp only
    rw [run_bind_ok hbs]
    simp only
    rw [run_bind_pure hs]
    simp only [Option.map_some]
    rw [addr_add _ _ rfl, if_neg (by omega)]
    rfl
  · simp only [den, hρ]
    rw [if_pos (by omega), Nat.sub_sub]

def orPure (P : Program) (t : List SVal) (o : Oper) : Option PRes → Option PRes
  | some r => some r
  | none => pureOp P t o

def val? : Option SVal → Option PRes
  | some x => some (.val x)
  | none => none

/-- An operation that does not look at the heap. -/
def opP0 (P : Program) (t : List SVal) (o : Oper) : Option PRes :=
  match o.op with
  | .move x | .assign x => some (.val (seval t x))
  | .fieldAddr s x f => orPure P t o (val? (fieldAddrE P s f (seval t x)))
  | .indexAddr ty x ix => orPure P t o (val? (indexAddrE P ty (seval t ix) (seval t x)))
  | .slice ty x lo hi mx => match optV t lo, optV t hi, optV t mx with
    | some l, some h, some m => orPure P t o (val? (sliceE P ty l h m (seval t x)))
    | _, _, _ => none
  | .field s x f => orPure P t o (val? (fieldE P s f (seval t x)))
  | .index ty x ix => orPure P t o (val? (indexE P ty (seval t ix) (seval t x)))
  | .extract x ix => orPure P t o (val? (extractE ix (seval t x)))
  | .build ty parts => val? (buildE P t ty parts.toList)
  | .nilCheck x => orPure P t o (val? (nilCheckE (seval t x)))
  | .makeFunc fn fs cs => some (.val (.func fn (sevalL t fs.toList) (sevalL t cs.toList)))
  | .makeInterface ty x => orPure P t o (match vOf (seval t x) with
    | some _ => none
    | none => match pureRun P (underlying ty) with
      | some (.interface _) => none
      | some _ => some (.val (.iface ty (seval t x)))
      | none => none)
  | .binOp op ty x y _ => orPure P t o (val? (eqNilE P op ty (seval t x) (seval t y)))
  | .call c => match c.callee with
    | .value f => orPure P t o (callE P t f c.args.toList)
    | .builtin b => orPure P t o (lenOpE P t b c.args.toList c.argTypes.toList)
    | _ => none
  | .defer _ => none
  | _ => pureOp P t o

/-- What the facts say of an operation. -/
def isDefer : Op → Bool
  | .defer _ => true
  | _ => false

def factOf (t : List SVal) (o : Oper) : Option PRes :=
  if isDefer o.op then none else
  match Env.fact o.op (o.op.operands.toList.map (seval t)) with
  | some y => some (.val y)
  | none => none

def opP (P : Program) (t : List SVal) (o : Oper) : Option PRes :=
  match opP0 P t o with
  | some r => some r
  | none => factOf t o

/-- An operation that does. -/
def opH (P : Program) (G : Glob) (t : List SVal) (H : SHeap) (o : Oper) : Option Res :=
  match o.op with
  | .alloc e => allocE P H e
  | .box e x => some (.val (.ptr H.length 0) (H ++ [.cells (scells (seval t x)) e (0, 0)]))
  | .load ty x => match loadE P G H ty (seval t x) with
    | some y => some (.val y H)
    | none => none
  | .store ty p x => match storeE P H ty (seval t p) (seval t x) with
    | some H' => some (.skip H')
    | none => none
  | .buildSlice ty len parts => buildSliceE P t H ty len parts.toList
  | .makeSlice ty l c => makeSliceE P H ty (seval t l) (seval t c)
  | .convert src dst x => match bytesE P H dst src (seval t x) with
    | some y => some (.val y H)
    | none => strBytesE P H dst src (seval t x)
  | .range ty x => rangeE P H ty (seval t x)
  | .next x s => nextE H (seval t x) s
  | .makeMap ty r => makeMapE P t H ty r
  | .mapUpdate ty m k x => match mapUpdateE P H ty (seval t m) (seval t k) (seval t x) with
    | some H' => some (.skip H')
    | none => none
  | .lookup ty x k ok => match lookupE P H ty (seval t x) (seval t k) ok with
    | some y => some (.val y H)
    | none => none
  | .slice ty x lo hi mx => match optV t lo, optV t hi, optV t mx with
    | some l, some h, some m => match sliceHE P H ty l h m (seval t x) with
      | some y => some (.val y H)
      | none => none
    | _, _, _ => none
  | .call c => match c.callee with
    | .builtin b => copyOpE P t H b c.args.toList c.argTypes.toList
    | _ => none
  | _ => none

/-- Is it one of those that look at the heap? (A conversion, a builtin: either.) -/
def heapFirst : Op → Bool
  | .alloc _ | .box .. | .load .. | .store .. | .buildSlice .. | .makeSlice .. | .range .. | .next .. | .makeMap .. | .mapUpdate .. => true
  | _ => false

def opE (P : Program) (G : Glob) (t : List SVal) (H : SHeap) (o : Oper) : Option Res :=
  if heapFirst o.op then opH P G t H o else
  match opP P t o with
  | some r => some (r.on H)
  | none => opH P G t H o

theorem orPure_ok (ht : denL ρ t = some a.tmps.toList) {e : Option PRes} {r : PRes} (h : orPure P t o e = some r)
    (he : ∀ r, e = some r → PResOk ρ w r ((execOp a.eval o).run P w)) : PResOk ρ w r ((execOp a.eval o).run P w) := by
  unfold orPure at h
  split at h
  · cases h; exact he _ rfl
  · exact pureOp_ok ht h

 omit [Env] in
theorem val?_some {e : Option SVal} {r : PRes} (h : val? e = some r) : ∃ x, e = some x ∧ r = .val x := by
  unfold val? at h
  split at h
  · cases h; exact ⟨_, rfl, rfl⟩
  · cases h

theorem nilCheck_ok {x y : SVal} {v : Value} (hx : den ρ x = some v) (h : nilCheckE x = some y) (o : Oper) (xo : Operand) (ρv : Operand → Value) (hop : o.op = .nilCheck xo) (hv : ρv xo = v) :
    PResOk ρ w (.val y) ((execOp ρv o).run P w) := by
  unfold nilCheckE at h
  unfold execOp
  simp only [hop, hv]
  split at h
  · cases h
    obtain ⟨b, hb, rfl⟩ := den_ptr hx
    exact ⟨_, rfl, hx⟩
  · cases h
    obtain ⟨us, ws, rfl, _, _⟩ := calleeOf_ok hx rfl
    exact ⟨_, rfl, hx⟩
  · cases h
    have hx' := hx
    simp only [den] at hx
    split at hx
    · cases hx
      exact ⟨_, rfl, hx'⟩
    · cases hx
  · cases h

theorem opP0_ok (hN : NamesOk P) (ht : denL ρ t = some a.tmps.toList) {r : PRes} (h : opP0 P t o = some r) :
    PResOk ρ w r ((execOp a.eval o).run P w) := by
  have hev := fun x => den_seval ht x
  obtain ⟨dst, op, type, pos, after, guard⟩ := o
  cases op with
  | move x => simp only [opP0, Option.some.injEq] at h; subst h; exact ⟨_, rfl, hev x⟩
  | assign x => simp only [opP0, Option.some.injEq] at h; subst h; exact ⟨_, rfl, hev x⟩
  | fieldAddr s x f =>
    simp only [opP0] at h
    refine orPure_ok ht h fun r hr => ?_
    obtain ⟨y, hy, rfl⟩ := val?_some hr
    exact PResOk.of_sem (fieldAddr_ok (hev x) hy)
  | indexAddr ty x ix =>
    simp only [opP0] at h
    refine orPure_ok ht h fun r hr => ?_
    obtain ⟨y, hy, rfl⟩ := val?_some hr
    exact PResOk.of_sem (indexAddr_ok (hev x) (hev ix) hy)
  | slice ty x lo hi mx =>
    simp only [opP0] at h
    split at h
    case h_2 => cases h
    rename_i l hh m hl hhh hm
    refine orPure_ok ht h fun r hr => ?_
    obtain ⟨y, hy, rfl⟩ := val?_some hr
    have := slice_ok (P := P) (w := w) (hev x) hy
    rw [← optV_ok ht hl, ← optV_ok ht hhh, ← optV_ok ht hm] at this
    exact PResOk.of_sem this
  | field s x f =>
    simp only [opP0] at h
    refine orPure_ok ht h fun r hr => ?_
    obtain ⟨y, hy, rfl⟩ := val?_some hr
    exact PResOk.of_sem (field_ok (hev x) hy)
  | index ty x ix =>
    simp only [opP0] at h
    refine orPure_ok ht h fun r hr => ?_
    obtain ⟨y, hy, rfl⟩ := val?_some hr
    exact PResOk.of_sem (index_ok (hev x) (hev ix) hy)
  | extract x ix =>
    simp only [opP0] at h
    refine orPure_ok ht h fun r hr => ?_
    obtain ⟨y, hy, rfl⟩ := val?_some hr
    exact PResOk.of_sem (extract_ok (hev x) hy)
  | build ty parts =>
    simp only [opP0] at h
    obtain ⟨y, hy, rfl⟩ := val?_some h
    exact PResOk.of_sem (build_ok ht hy)
  | nilCheck x =>
    simp only [opP0] at h
    refine orPure_ok ht h fun r hr => ?_
    obtain ⟨y, hy, rfl⟩ := val?_some hr
    exact nilCheck_ok (hev x) hy _ x _ rfl rfl
  | makeFunc fn fs cs =>
    simp only [opP0, Option.some.injEq] at h
    subst h
    refine ⟨.func fn (fs.map a.eval) (cs.map a.eval), rfl, ?_⟩
    simp only [den, denL_sevalL ht]
    rw [show (fs.toList.map a.eval).toArray = fs.map a.eval from Array.toList_inj.1 (by simp), show (cs.toList.map a.eval).toArray = cs.map a.eval from Array.toList_inj.1 (by simp)]
  | makeInterface ty x =>
    simp only [opP0] at h
    refine orPure_ok ht h fun r hr => ?_
    split at hr
    · cases hr
    split at hr
    · cases hr
    · rename_i d hni hd
      cases hr
      refine ⟨.iface ty (a.eval x), ?_, by simp only [den, hev x]⟩
      show ((do pure (Next.value (← Instr.makeInterface ty (a.eval x))) : Sem Next)).run P w = _
      rw [run_bind_ok (a := .iface ty (a.eval x)) (w' := w)]
      · rfl
      · unfold Instr.makeInterface
        rw [run_bind_pure hd]
        cases d <;> first | rfl | exact absurd rfl (hni _)
    · cases hr
  | binOp op ty x y yt =>
    simp only [opP0] at h
    refine orPure_ok ht h fun r hr => ?_
    obtain ⟨z, hz, rfl⟩ := val?_some hr
    exact PResOk.of_sem (eqNil_ok (hev x) (hev y) hz x y)
  | call c =>
    obtain ⟨callee, args, argTypes⟩ := c
    simp only [opP0] at h
    split at h
    · exact orPure_ok ht h fun r hr => call_ok hN ht hr
    · exact orPure_ok ht h fun r hr => lenOpE_ok ht hr
    · cases h
  | defer c => simp only [opP0] at h; cases h
  | _ => simp only [opP0] at h; exact pureOp_ok ht h

theorem factOf_ok (hN : NamesOk P) (ht : denL ρ t = some a.tmps.toList) {r : PRes} (h : factOf t o = some r) : PResOk ρ w r ((execOp a.eval o).run P w) := by
  unfold factOf at h
  split at h
  · cases h
  split at h
  case h_2 => cases h
  rename_i y hy
  cases h
  exact hN.facts _ _ _ hy ρ a.eval o w rfl (denL_sevalL ht _)

theorem opP_ok (hN : NamesOk P) (ht : denL ρ t = some a.tmps.toList) {r : PRes} (h : opP P t o = some r) :
    PResOk ρ w r ((execOp a.eval o).run P w) := by
  unfold opP at h
  split at h
  · rename_i r' hr
    cases h
    exact opP0_ok hN ht hr
  · exact factOf_ok hN ht h

theorem opH_ok {G : Glob} (hG : G.holds w0) (hR : Rel w0 ρ H w) (ht : denL ρ t = some a.tmps.toList) {r : Res} (h : opH P G t H o = some r) :
    ResOk w0 H ρ w r ((execOp a.eval o).run P w) := by
  have hev := fun x => den_seval ht x
  obtain ⟨dst, op, type, pos, after, guard⟩ := o
  cases op with
  | alloc e =>
    simp only [opH] at h
    obtain ⟨x, H', rfl, hs⟩ := alloc_ok hR h
    exact ResOk.of_sem hs
  | box e x =>
    simp only [opH, Option.some.injEq] at h
    subst h
    exact ResOk.of_sem (newVar_ok hR (hev x) e)
  | load ty x =>
    simp only [opH] at h
    split at h
    case h_2 => cases h
    rename_i y hy
    cases h
    exact ResOk.of_sem (load_ok hG hR (hev x) hy)
  | store ty p x =>
    simp only [opH] at h
    split at h
    case h_2 => cases h
    rename_i H' hH'
    cases h
    obtain ⟨w', h0, h1, h2⟩ := store_ok hR (hev p) (hev x) hH'
    refine ⟨ρ, w', ?_, h0, h1⟩
    show ((do Instr.storeAt ty (a.eval p) (a.eval x); pure .skip : Sem Next)).run P w = _
    rw [run_bind_ok h2]
    rfl
  | buildSlice ty len parts =>
    simp only [opH] at h
    obtain ⟨y, H', rfl, hs⟩ := buildSlice_ok hR ht h
    exact ResOk.of_sem hs
  | makeSlice ty l c =>
    simp only [opH] at h
    obtain ⟨y, H', rfl, hs⟩ := makeSlice_ok hR (hev l) (hev c) h
    exact ResOk.of_sem hs
  | convert src dst x =>
    simp only [opH] at h
    split at h
    · rename_i y hy
      cases h
      exact ResOk.of_sem (bytes_ok hR (hev x) hy)
    · obtain ⟨y, H', rfl, hs⟩ := strBytes_ok hR (hev x) h
      exact ResOk.of_sem hs
  | range ty x =>
    simp only [opH] at h
    obtain ⟨y, H', rfl, hs⟩ := range_ok hR (hev x) h
    exact ResOk.of_sem hs
  | next x s =>
    simp only [opH] at h
    obtain ⟨y, H', rfl, hs⟩ := next_ok (rt := type) hR (hev x) h
    exact ResOk.of_sem hs
  | makeMap ty r =>
    simp only [opH] at h
    obtain ⟨y, H', rfl, hs⟩ := makeMap_ok (P := P) (ty := ty) hR ht h
    exact ResOk.of_sem hs
  | mapUpdate ty m k x =>
    simp only [opH] at h
    split at h
    case h_2 => cases h
    rename_i H' hH'
    cases h
    obtain ⟨w', h0, h1, h2⟩ := mapUpdate_ok hR (hev m) (hev k) (hev x) hH'
    refine ⟨ρ, w', ?_, h0, h1⟩
    show ((do Instr.mapUpdate ty (a.eval m) (a.eval k) (a.eval x); pure .skip : Sem Next)).run P w = _
    rw [run_bind_ok h2]
    rfl
  | lookup ty x k ok =>
    simp only [opH] at h
    split at h
    case h_2 => cases h
    rename_i y hy
    cases h
    exact ResOk.of_sem (lookup_ok hR (hev x) (hev k) hy)
  | slice ty x lo hi mx =>
    simp only [opH] at h
    split at h
    case h_2 => cases h
    rename_i l hh m hl hhi hm
    split at h
    case h_2 => cases h
    rename_i y hy
    cases h
    have h1 := optV_ok ht hl
    have h2 := optV_ok ht hhi
    have h3 := optV_ok ht hm
    obtain ⟨v, hv1, hv2⟩ := sliceH_ok hR (hev x) hy
    refine ResOk.of_sem (s := Instr.sliceAt ty (a.eval x) (lo.map a.eval) (hi.map a.eval) (mx.map a.eval)) ⟨ρ, v, w, ?_, Ext.refl _ _, hv2, hR⟩
    rw [h1, h2, h3]
    exact hv1
  | call c =>
    obtain ⟨callee, args, argTypes⟩ := c
    simp only [opH] at h
    split at h
    · exact copyOpE_ok hR ht h
    · cases h
  | _ => simp only [opH] at h; cases h

theorem opE_ok {G : Glob} (hG : G.holds w0) (hN : NamesOk P) (hR : Rel w0 ρ H w) (ht : denL ρ t = some a.tmps.toList) {r : Res} (h : opE P G t H o = some r) :
    ResOk w0 H ρ w r ((execOp a.eval o).run P w) := by
  unfold opE at h
  split at h
  · exact opH_ok hG hR ht h
  · split at h
    · rename_i r' hr'
      cases h
      exact (opP_ok hN ht hr').on hR
    · exact opH_ok hG hR ht h

theorem opP_nd {r : PRes} (h : opP P t o = some r) : ∀ c, o.op ≠ .defer c := fun c e => by
  unfold opP opP0 factOf at h
  rw [e] at h
  simp [isDefer] at h

theorem opE_nd {G : Glob} {r : Res} (h : opE P G t H o = some r) : ∀ c, o.op ≠ .defer c := fun c e => by
  unfold opE at h
  split at h
  · unfold opH at h; rw [e] at h; cases h
  · split at h
    · rename_i r' hr'
      exact opP_nd hr' c e
    · unfold opH at h; rw [e] at h; cases h

end
end
end Go.RX
