import Derived.Test.YtiomdkghnbbmcaaGreatDoorRX3
namespace Go.RX
noncomputable section
open Go.RowKit (Below)

variable [Env]

section
variable {P : Program} {w0 w : World} {ρ : Ren} {H : SHeap} {t : List SVal} {a : Act} {o : Oper}

/-! ### Maps -/
 omit [Env] in
theorem entries_get {ks : List (Value × Nat)} {vs : List Value} (i : Nat) :
    (entries ks vs)[i]? = match ks[i]?, vs[i]? with
      | some k, some v => some { key := k.1, val := v, born := k.2 }
      | _, _ => none := by
  unfold entries
  rw [List.getElem?_zipWith]
  cases ks[i]? <;> cases vs[i]? <;> rfl

 omit [Env] in
theorem entries_length {ks : List (Value × Nat)} {vs : List Value} (h : ks.length = vs.length) : (entries ks vs).length = ks.length := by
  unfold entries
  rw [List.length_zipWith, h, Nat.min_self]

/-- The value that a key has. -/
def keyOf : SVal → Option Value
  | .sym i => some (Env.val i)
  | x => vOf x

theorem keyOf_ok {x : SVal} {k : Value} (h : keyOf x = some k) : den ρ x = some k := by
  unfold keyOf at h
  split at h
  · cases h; rfl
  · exact den_of_vOf _ h

def findK (kd : TypeDesc) (key : SVal) (k : Value) (ks : List (Value × Nat)) : Option (Option (Nat × Value)) :=
  match key with
  | .sym i => match kd with
    | .string => match Env.key i ks with
      | some r => some (r.map fun j => (j, undef))
      | none => none
    | _ => none
  | _ => Instr.findNow kd k (bare ks) 0

theorem findK_ok {kd : TypeDesc} {key : SVal} {k : Value} {ks : List (Value × Nat)} {r : Option (Nat × Value)} (hk : keyOf key = some k) (h : findK kd key k ks = some r) : Instr.findNow kd k (bare ks) 0 = some r := by
  unfold findK at h
  split at h
  · rename_i i
    split at h
    · split at h
      · rename_i r' hr
        cases h
        simp only [keyOf, Option.some.injEq] at hk
        subst hk
        exact Env.keyOk i ks r' hr
      · cases h
    · cases h
  · exact h

 omit [Env] in
theorem findNow_bare {kd : TypeDesc} {k : Value} : ∀ (ks : List (Value × Nat)) (vs : List Value), ks.length = vs.length → ∀ i,
    Instr.findNow kd k (entries ks vs) i = (match Instr.findNow kd k (bare ks) i with
      | some (some (j, _)) => some (some (j, vs.getD (j - i) undef))
      | some none => some none
      | none => none) ∧ (∀ j u, Instr.findNow kd k (bare ks) i = some (some (j, u)) → i ≤ j ∧ j - i < ks.length)
  | [], vs, h, i => by
    refine ⟨rfl, fun j u h => by simp [bare, Instr.findNow] at h⟩
  | x :: ks, [], h, i => by simp at h
  | x :: ks, v :: vs, h, i => by
    obtain ⟨ih1, ih2⟩ := findNow_bare (kd := kd) (k := k) ks vs (by simpa using h) (i + 1)
    simp only [entries, bare, List.zipWith_cons_cons, List.map_cons, Instr.findNow]
    change (match Instr.sameNow kd k x.1 with
      | some true => some (some (i, v))
      | some false => Instr.findNow kd k (entries ks vs) (i + 1)
      | none => none) = _ ∧ ∀ j u, (match Instr.sameNow kd k x.1 with
      | some true => some (some (i, undef))
      | some false => Instr.findNow kd k (bare ks) (i + 1)
      | none => none) = _ → _
    cases hs : Instr.sameNow kd k x.1 with
    | none => exact ⟨rfl, fun j u h => by simp at h⟩
    | some b =>
      cases b with
      | true => exact ⟨by simp, fun j u h => by simp at h; simp [← h.1]⟩
      | false =>
        simp only
        change _ = (match Instr.findNow kd k (bare ks) (i + 1) with
          | some (some (j, _)) => some (some (j, (v :: vs).getD (j - i) undef))
          | some none => some none
          | none => none) ∧ _
        rw [ih1]
        constructor
        · cases hf : Instr.findNow kd k (bare ks) (i + 1) with
          | none => rfl
          | some r =>
            cases r with
            | none => rfl
            | some ju =>
              obtain ⟨j, u⟩ := ju
              have := (ih2 j u hf).1
              simp only [Option.some.injEq, Prod.mk.injEq, true_and]
              rw [show j - i = (j - (i + 1)) + 1 by omega]
              rfl
        · intro j u hju
          have := ih2 j u hju
          simp only [List.length_cons]
          omega

def makeMapE (H : SHeap) (r : Option Operand) : Option Res :=
  match r with
  | none => some (.val (.map H.length) (H ++ [.map [] [] 0]))
  | some _ => none

theorem makeMap_ok (hR : Rel w0 ρ H w) {ty : TypeId} {x : Option Operand} {r : Res} (h : makeMapE H x = some r) (f : Operand → Value) :
    ∃ y H', r = .val y H' ∧ SemOk w0 H ρ y H' ((Instr.makeMap ty (x.map f)).run P w) := by
  unfold makeMapE at h
  split at h
  case h_2 => cases h
  cases h
  refine ⟨_, _, rfl, ρ.with H.length ⟨w.heap.size, 0⟩, .map (some w.heap.size), _, ?_, Ext.push _ _ _ _, by simp [den, Ren.with], hR.push (o := .map [] [] 0) (ob := .map #[] 0) ⟨[], rfl, rfl, rfl⟩⟩
  rfl

/-- The map that x is, and where its key stands: (the map's name, its keys, values and clock; the key; its place). -/
def mapAt (P : Program) (H : SHeap) (ty : TypeId) (empty : Bool) (m key : SVal) : Option (Nat × List (Value × Nat) × List SVal × Nat × Value × TypeId × Option Nat) :=
  match m with
  | .map i => match H[i]? with
    | some (.map ks vals clock) => match keyOf key with
      | some k => match pureRun P (underlying ty) with
        | some (.map kt elem) => match pureRun P (Instr.checkKey (empty && ks.isEmpty) 10000 kt k) with
          | some () => match pureRun P (underlying kt) with
            | some kd => match findK kd key k ks with
              | some (some (j, _)) => some (i, ks, vals, clock, k, elem, some j)
              | some none => some (i, ks, vals, clock, k, elem, none)
              | none => none
            | none => none
          | none => none
        | _ => none
      | none => none
    | _ => none
  | _ => none

theorem mapAt_ok (hR : Rel w0 ρ H w) {ty : TypeId} {empty : Bool} {m key : SVal} {mv kv : Value} (hm : den ρ m = some mv) (hk : den ρ key = some kv)
    {i : Nat} {ks : List (Value × Nat)} {vals : List SVal} {clock : Nat} {k : Value} {elem : TypeId} {j : Option Nat} (h : mapAt P H ty empty m key = some (i, ks, vals, clock, k, elem, j)) :
    ∃ (p : Loc) (vs : List Value) (kt : TypeId), ρ i = some p ∧ mv = .map (some p.b) ∧ kv = k ∧ H[i]? = some (.map ks vals clock) ∧ denL ρ vals = some vs ∧ ks.length = vs.length ∧
      w.heap[p.b]? = some (.map (entries ks vs).toArray clock) ∧ (∀ w, (underlying ty).run P w = .ok (.map kt elem) w) ∧ (∀ w, (Instr.checkKey (empty && ks.isEmpty) 10000 kt k).run P w = .ok () w) ∧
      (∀ w, (Instr.findKey kt k (entries ks vs)).run P w = .ok (j.map fun j => (j, vs.getD j undef)) w) ∧ ∀ j', j = some j' → j' < ks.length := by
  unfold mapAt at h
  split at h
  case h_2 => cases h
  rename_i i'
  split at h
  case h_2 => cases h
  rename_i ks' vals' clock' hH
  split at h
  case h_2 => cases h
  rename_i k' hk'
  split at h
  case h_2 => cases h
  rename_i kt elem' hu
  split at h
  case h_2 => cases h
  rename_i hc
  split at h
  case h_2 => cases h
  rename_i kd hkd
  have key1 : ∀ {jj : Option Nat}, (i', ks', vals', clock', k', elem', jj) = (i, ks, vals, clock, k, elem, j) → (match Instr.findNow kd k' (bare ks') 0 with
      | some (some (j, _)) => some (some j)
      | some none => some none
      | none => none) = some jj → ∃ (p : Loc) (vs : List Value) (kt : TypeId), ρ i = some p ∧ mv = .map (some p.b) ∧ kv = k ∧ H[i]? = some (.map ks vals clock) ∧ denL ρ vals = some vs ∧ ks.length = vs.length ∧
      w.heap[p.b]? = some (.map (entries ks vs).toArray clock) ∧ (∀ w, (underlying ty).run P w = .ok (.map kt elem) w) ∧ (∀ w, (Instr.checkKey (empty && ks.isEmpty) 10000 kt k).run P w = .ok () w) ∧
      (∀ w, (Instr.findKey kt k (entries ks vs)).run P w = .ok (j.map fun j => (j, vs.getD j undef)) w) ∧ ∀ j', j = some j' → j' < ks.length := by
    intro jj e hf
    simp only [Prod.mk.injEq] at e
    obtain ⟨rfl, rfl, rfl, rfl, rfl, rfl, rfl⟩ := e
    simp only [den] at hm
    split at hm
    case h_2 => cases hm
    rename_i p hp
    cases hm
    have h1 := keyOf_ok (ρ := ρ) hk'
    rw [hk] at h1
    obtain ⟨ob', ob, g1, g2, g3⟩ := hR.obj _ p hp
    rw [hH] at g1
    cases g1
    obtain ⟨vs, f1, f2, rfl⟩ := g3
    have hl : ks'.length = vs.length := by rw [f2, denL_length f1]
    have hfn := findNow_bare (kd := kd) (k := k') ks' vs hl 0
    refine ⟨p, vs, kt, hp, rfl, Option.some.inj h1, hH, f1, hl, g2, fun w => run_of_pure hu w, fun w => run_of_pure hc w, fun w => ?_, fun j' hj' => ?_⟩
    · unfold Instr.findKey
      rw [run_bind_pure hkd, hfn.1]
      cases hb : Instr.findNow kd k' (bare ks') 0 with
      | none => simp [hb] at hf
      | some r =>
        cases r with
        | none =>
          simp only [hb, Option.some.injEq] at hf
          subst hf
          rfl
        | some ju =>
          simp only [hb, Option.some.injEq] at hf
          subst hf
          rfl
    · subst hj'
      cases hb : Instr.findNow kd k' (bare ks') 0 with
      | none => simp [hb] at hf
      | some r =>
        cases r with
        | none => simp [hb] at hf
        | some ju =>
          simp only [hb, Option.some.injEq] at hf
          have := hfn.2 _ _ hb
          omega
  split at h
  · rename_i hf
    exact key1 (Option.some.inj h) (by rw [findK_ok hk' hf])
  · rename_i hf
    exact key1 (Option.some.inj h) (by rw [findK_ok hk' hf])
  · cases h

 omit [Env] in
theorem run_getMap {r : Nat} {es : Array MapEntry} {c : Nat} (h : w.heap[r]? = some (.map es c)) : (getObj r).run P w = .ok (.map es c) w := by simp only [getObj, Sem.run, h]
 omit [Env] in
theorem run_setMap {r : Nat} {es : Array MapEntry} {c : Nat} {o' : Obj} (h : w.heap[r]? = some (.map es c)) : (setObj r o').run P w = .ok () { w with heap := w.heap.setIfInBounds r o' } := by simp only [Go.setObj, Sem.run, h]

def mapUpdateE (P : Program) (H : SHeap) (ty : TypeId) (m key x : SVal) : Option SHeap :=
  match mapAt P H ty false m key with
  | some (i, ks, vals, clock, k, _, some j) => match ks[j]? with
    | some (old, b) => if Instr.sameBits 10000 old k then some (H.set i (.map (ks.set j (k, b)) (vals.set j x) clock)) else none
    | none => none
  | some (i, ks, vals, clock, k, _, none) => some (H.set i (.map (ks ++ [(k, clock)]) (vals ++ [x]) (clock + 1)))
  | none => none

 omit [Env] in
theorem entries_append {ks : List (Value × Nat)} {vs : List Value} (h : ks.length = vs.length) (k : Value × Nat) (v : Value) : entries (ks ++ [k]) (vs ++ [v]) = entries ks vs ++ [{ key := k.1, val := v, born := k.2 }] := by
  unfold entries
  rw [List.zipWith_append h]
  rfl

 omit [Env] in
theorem entries_modify {ks : List (Value × Nat)} {vs : List Value} (h : ks.length = vs.length) {j : Nat} {old k v : Value} {b : Nat} (hj : ks[j]? = some (old, b)) :
    (entries ks vs).modify j (fun e => { e with key := k, val := v }) = entries (ks.set j (k, b)) (vs.set j v) := by
  refine List.ext_getElem? fun i => ?_
  rw [List.getElem?_modify, entries_get, entries_get]
  have hlt := (List.getElem?_eq_some_iff.1 hj).1
  have hv : vs[j]? = some vs[j] := List.getElem?_eq_getElem (by omega)
  by_cases hij : j = i
  · subst hij
    have hj' : ks[j] = (old, b) := by have := (List.getElem?_eq_some_iff.1 hj).2; exact this
    simp [hlt, show j < vs.length by omega, hj']
  · rw [List.getElem?_set_ne hij, List.getElem?_set_ne hij]
    simp [hij]

theorem mapUpdate_ok (hR : Rel w0 ρ H w) {ty : TypeId} {m key x : SVal} {mv kv xv : Value} (hm : den ρ m = some mv) (hk : den ρ key = some kv) (hx : den ρ x = some xv) {H' : SHeap}
    (h : mapUpdateE P H ty m key x = some H') : ∃ w', Ext ρ H ρ H' ∧ Rel w0 ρ H' w' ∧ (Instr.mapUpdate ty mv kv xv).run P w = .ok () w' := by
  unfold mapUpdateE at h
  have main : ∀ {i : Nat} {ks : List (Value × Nat)} {vals : List SVal} {clock : Nat} {k : Value} {elem : TypeId} {j : Option Nat}, mapAt P H ty false m key = some (i, ks, vals, clock, k, elem, j) →
      ∀ {ks' : List (Value × Nat)} {vals' : List SVal} {clock' : Nat},
      (∀ vs, denL ρ vals = some vs → ks.length = vs.length → ∃ vs', denL ρ vals' = some vs' ∧ ks'.length = vals'.length ∧ ∀ (p : Loc), w.heap[p.b]? = some (.map (entries ks vs).toArray clock) →
        (do match (j.map fun j => (j, vs.getD j undef)) with
          | some (i, _) => do
            let key ← Instr.keyThatStays ((((entries ks vs).toArray[i]?).map (·.key)).getD k) k
            setObj p.b (.map ((entries ks vs).toArray.modify i fun e => { e with key, val := xv }) clock)
          | none => setObj p.b (.map ((entries ks vs).toArray.push { key := k, val := xv, born := clock }) (clock + 1)) : Sem Unit).run P w = .ok () { w with heap := w.heap.setIfInBounds p.b (.map (entries ks' vs').toArray clock') }) →
      ∃ w', Ext ρ H ρ (H.set i (.map ks' vals' clock')) ∧ Rel w0 ρ (H.set i (.map ks' vals' clock')) w' ∧ (Instr.mapUpdate ty mv kv xv).run P w = .ok () w' := by
    intro i ks vals clock k elem j hat ks' vals' clock' hgo
    obtain ⟨p, vs, kt, h1, h2, h3, h4, h5, h6, h7, h8, h9, h10, h11⟩ := mapAt_ok hR hm hk hat
    subst h2 h3
    obtain ⟨vs', g1, g2, g3⟩ := hgo vs h5 h6
    have hlt : p.b < w.heap.size := (hR.fresh _ _ h1).2
    refine ⟨_, Ext.set h1 _, hR.setObj (o := .map ks' vals' clock') (ob := .map (entries ks' vs').toArray clock') (w' := { w with heap := w.heap.setIfInBounds p.b (.map (entries ks' vs').toArray clock') })
      h1 (hR.own h1 h4 (fun _ _ _ _ e => by cases e) (fun e => by cases e)) ⟨vs', g1, g2, rfl⟩ rfl rfl rfl (by simp) (fun q hq => ?_) (by simp [hlt]), ?_⟩
    · simp only
      rw [Array.getElem?_setIfInBounds_ne (Ne.symm hq)]
    · unfold Instr.mapUpdate
      rw [run_bind_ok (h8 w)]
      simp only
      rw [run_bind_ok (run_getMap h7)]
      simp only
      simp only [Bool.false_and] at h9
      rw [run_bind_ok (h9 w)]
      have h10' : (Instr.findKey kt kv (entries ks vs).toArray.toList).run P w = .ok (j.map fun j => (j, vs.getD j undef)) w := h10 w
      rw [run_bind_ok h10']
      exact g3 p h7
  split at h
  · rename_i i ks vals clock k elem j hat
    split at h
    case h_2 => cases h
    rename_i old b hkj
    split at h
    case isFalse => cases h
    rename_i hsame
    cases h
    refine main hat fun vs hvs hlen => ⟨vs.set j xv, denL_set hx hvs j, by simp [hlen, denL_length hvs], fun p hp => ?_⟩
    simp only [Option.map_some]
    have hget : (((entries ks vs).toArray[j]?).map (·.key)).getD k = old := by
      rw [List.getElem?_toArray, entries_get, hkj]
      have hlt := (List.getElem?_eq_some_iff.1 hkj).1
      rw [List.getElem?_eq_getElem (show j < vs.length by omega)]
      rfl
    have hstay : (Instr.keyThatStays ((((entries ks vs).toArray[j]?).map (·.key)).getD k) k).run P w = .ok k w := by
      rw [hget]
      unfold Instr.keyThatStays
      rw [if_pos hsame]
      rfl
    rw [run_bind_ok hstay, run_setMap hp]
    have : (entries ks vs).toArray.modify j (fun e => { e with key := k, val := xv }) = (entries (ks.set j (k, b)) (vs.set j xv)).toArray := by
      rw [← Array.toList_inj, Array.toList_modify]
      exact entries_modify hlen hkj
    rw [this]
  · rename_i i ks vals clock k elem hat
    cases h
    refine main hat fun vs hvs hlen => ⟨vs ++ [xv], denL_append (denL_cons.2 ⟨xv, [], hx, rfl, rfl⟩) hvs, by simp [hlen, denL_length hvs], fun p hp => ?_⟩
    simp only [Option.map_none]
    rw [run_setMap hp, entries_append hlen]
    simp
  · cases h

def lookupE (P : Program) (H : SHeap) (ty : TypeId) (m key : SVal) (commaOk : Bool) : Option SVal :=
  match mapAt P H ty true m key with
  | some (_, _, vals, _, _, _, some j) => if commaOk then some (mkTuple [vals.getD j (.v undef), .v (.bool true)]) else some (vals.getD j (.v undef))
  | some (_, _, _, _, _, elem, none) => match pureRun P (zeroValue elem) with
    | some z => if commaOk then some (.v (.tuple #[z, .bool false])) else some (.v z)
    | none => none
  | none => none

theorem denL_getD {l : List SVal} {vs : List Value} (h : denL ρ l = some vs) (j : Nat) : den ρ (l.getD j (.v undef)) = some (vs.getD j undef) := by
  simp only [List.getD_eq_getElem?_getD]
  cases hx : l[j]? with
  | none =>
    have h1 := List.getElem?_eq_none_iff.1 hx
    rw [List.getElem?_eq_none (by rw [denL_length h]; exact h1)]
    simp [den]
  | some x =>
    obtain ⟨y, hy, hd⟩ := denL_get h j x hx
    rw [hy]
    exact hd

theorem lookup_ok (hR : Rel w0 ρ H w) {ty : TypeId} {m key y : SVal} {mv kv : Value} {commaOk : Bool} (hm : den ρ m = some mv) (hk : den ρ key = some kv) (h : lookupE P H ty m key commaOk = some y) :
    SemOk w0 H ρ y H ((Instr.lookup ty mv kv commaOk).run P w) := by
  unfold lookupE at h
  have main : ∀ {i : Nat} {ks : List (Value × Nat)} {vals : List SVal} {clock : Nat} {k : Value} {elem : TypeId} {j : Option Nat}, mapAt P H ty true m key = some (i, ks, vals, clock, k, elem, j) →
      ∃ vs, denL ρ vals = some vs ∧ ∀ u b, (match j with
        | some j => u = vs.getD j undef ∧ b = true
        | none => (zeroValue elem).run P w = .ok u w ∧ b = false) → (Instr.lookup ty mv kv commaOk).run P w = .ok (if commaOk then .tuple #[u, .bool b] else u) w := by
    intro i ks vals clock k elem j hat
    obtain ⟨p, vs, kt, h1, h2, h3, h4, h5, h6, h7, h8, h9, h10, h11⟩ := mapAt_ok hR hm hk hat
    subst h2 h3
    refine ⟨vs, h5, fun u b hub => ?_⟩
    unfold Instr.lookup
    rw [run_bind_ok (h8 w)]
    simp only
    rw [run_bind_ok (run_getMap h7)]
    simp only
    rw [run_pure_bind]
    have he : (entries ks vs).toArray.isEmpty = (true && ks.isEmpty) := by
      cases ks with
      | nil => rfl
      | cons x xs =>
        cases vs with
        | nil => simp at h6
        | cons y ys => rfl
    rw [he, run_bind_ok (h9 w)]
    have h10' : (Instr.findKey kt kv (entries ks vs).toArray.toList).run P w = .ok (j.map fun j => (j, vs.getD j undef)) w := h10 w
    rw [run_bind_ok h10']
    cases j with
    | some j =>
      obtain ⟨rfl, rfl⟩ := hub
      cases commaOk <;> rfl
    | none =>
      obtain ⟨hz, rfl⟩ := hub
      simp only [Option.map_none]
      rw [run_bind_ok hz]
      cases commaOk <;> rfl
  split at h
  · rename_i i ks vals clock k elem j hat
    obtain ⟨vs, hvs, hgo⟩ := main hat
    have := hgo (vs.getD j undef) true ⟨rfl, rfl⟩
    have hd := denL_getD hvs j
    split at h
    · rename_i hc
      cases h
      refine SemOk.here hR this ?_
      simp only [hc, if_true]
      exact den_mkTuple (denL_cons.2 ⟨_, _, hd, denL_cons.2 ⟨.bool true, [], by simp [den], rfl, rfl⟩, rfl⟩)
    · rename_i hc
      cases h
      refine SemOk.here hR this ?_
      simp only [hc, if_false, Bool.false_eq_true]
      exact hd
  · rename_i i ks vals clock k elem hat
    obtain ⟨vs, hvs, hgo⟩ := main hat
    split at h
    case h_2 => cases h
    rename_i z hz
    have := hgo z false ⟨run_of_pure hz w, rfl⟩
    split at h
    · rename_i hc
      cases h
      refine SemOk.here hR this ?_
      simp [hc, den]
    · rename_i hc
      cases h
      refine SemOk.here hR this ?_
      simp [hc, den]
  · cases h

end
end
end Go.RX
