import Derived.Test.YtiomdkghnbbmcaaGreatDoorRX1
namespace Go.RX
noncomputable section
open Go.RowKit (Below)

variable [Env]

def getSImpl (l : List SVal) (k : Nat) : SVal := l.getD k (.v undef)
/-- What stands at a place of a row: by the recursors themselves, for the kernel's sake. -/
def getS (l : List SVal) : Nat → SVal :=
  List.rec (motive := fun _ => Nat → SVal) (fun _ => .v undef) (fun x _ ih k => Nat.rec (motive := fun _ => SVal) x (fun k' _ => ih k') k) l
 omit [Env] in
theorem getS_eq : ∀ (l : List SVal) (k : Nat), getS l k = l.getD k (.v undef)
  | [], _ => rfl
  | _ :: _, 0 => rfl
  | _ :: xs, k + 1 => getS_eq xs k

def setSImpl (l : List SVal) (k : Nat) (y : SVal) : List SVal := l.set k y
def setS (l : List SVal) (k : Nat) (y : SVal) : List SVal :=
  List.rec (motive := fun _ => Nat → List SVal) (fun _ => []) (fun x xs ih k => Nat.rec (motive := fun _ => List SVal) (y :: xs) (fun k' _ => x :: ih k') k) l k
 omit [Env] in
theorem setS_eq : ∀ (l : List SVal) (k : Nat) (y : SVal), setS l k y = l.set k y
  | [], _, _ => rfl
  | _ :: _, 0, _ => rfl
  | x :: xs, k + 1, y => by
    show x :: setS xs k y = _
    rw [setS_eq xs k y]
    rfl

def seval (t : List SVal) : Operand → SVal
  | .tmp k => getS t k
  | .const v => .v v
  | .global g => .v (.pointer (some ⟨g, 0, none⟩))
  | .func f => .v (.func (.func f) #[] #[])

theorem den_seval {ρ : Ren} {t : List SVal} {a : Act} (h : denL ρ t = some a.tmps.toList) (x : Operand) : den ρ (seval t x) = some (a.eval x) := by
  cases x with
  | tmp k =>
    simp only [seval, Act.eval, getS_eq, List.getD_eq_getElem?_getD]
    cases hk : t[k]? with
    | none =>
      have hl := denL_length h
      have : a.tmps.size ≤ k := by
        have := List.getElem?_eq_none_iff.1 hk
        simp at hl
        omega
      simp [den, Array.getD, Nat.not_lt.2 this]
    | some y =>
      obtain ⟨z, hz, hd⟩ := denL_get h k y hk
      simp only [Option.getD_some]
      rw [hd]
      have hlt : k < a.tmps.size := by
        have := (List.getElem?_eq_some_iff.1 hz).1
        simpa using this
      have : a.tmps[k] = z := by
        have := (List.getElem?_eq_some_iff.1 hz).2
        simpa using this
      simp [Array.getD, hlt, this]
  | const v => rfl
  | global g => rfl
  | func f => rfl

inductive Res where
  | val (x : SVal) (H : SHeap)
  | skip (H : SHeap)
  | call (f : FuncId) (args : List SVal)
  | yld (i : Nat) (args : List SVal)
  deriving Inhabited

/-- What a call of yield answers: the next round of its loop. -/
def YldRes (ρ : Ren) (w : World) (i : Nat) (args : List SVal) (run : Result Next) : Prop :=
  ∃ (p : Loc) (vs : Array Value), ρ i = some p ∧ denL ρ args = some vs.toList ∧ ∀ r : Loop, w.heap[p.b]? = some (.loop r) → vs.size = r.params.size →
    run = .ok (.round p.b r.fn ((r.params.zip vs).foldl (fun tmps (t, a) => tmps.setIfInBounds t a) r.tmps) r.assign r.body) w

/-- What the machine's answer has to be. -/
def ResOk (w0 : World) (H : SHeap) (ρ : Ren) (w : World) (r : Res) (run : Result Next) : Prop :=
  match r with
  | .val x H' => ∃ ρ' v w', run = .ok (.value v) w' ∧ Ext ρ H ρ' H' ∧ den ρ' x = some v ∧ Rel w0 ρ' H' w'
  | .skip H' => ∃ ρ' w', run = .ok .skip w' ∧ Ext ρ H ρ' H' ∧ Rel w0 ρ' H' w'
  | .call f args => ∃ vs : Array Value, run = .ok (.enter f vs) w ∧ denL ρ args = some vs.toList
  | .yld i args => YldRes ρ w i args run

/-- A Sem that hands back one value. -/
def SemOk (w0 : World) (H : SHeap) (ρ : Ren) (x : SVal) (H' : SHeap) (run : Result Value) : Prop :=
  ∃ ρ' v w', run = .ok v w' ∧ Ext ρ H ρ' H' ∧ den ρ' x = some v ∧ Rel w0 ρ' H' w'

theorem ResOk.of_sem {w0 : World} {H : SHeap} {ρ : Ren} {w : World} {x : SVal} {H' : SHeap} {P : Program} {s : Sem Value} (h : SemOk w0 H ρ x H' (s.run P w)) :
    ResOk w0 H ρ w (.val x H') ((do pure (Next.value (← s)) : Sem Next).run P w) := by
  obtain ⟨ρ', v, w', h1, h2, h3, h4⟩ := h
  exact ⟨ρ', v, w', by rw [run_bind_ok h1]; rfl, h2, h3, h4⟩

def vEval (t : List SVal) (x : Operand) : Value := (vOf (seval t x)).getD undef

def notSelect : Op → Bool
  | .select _ _ => false
  | _ => true

inductive PRes where
  | val (x : SVal)
  | skip
  | call (f : FuncId) (args : List SVal)
  | yld (i : Nat) (args : List SVal)
  deriving Inhabited

def PRes.on (H : SHeap) : PRes → Res
  | .val x => .val x H
  | .skip => .skip H
  | .call f args => .call f args
  | .yld i args => .yld i args

/-- What the machine's answer has to be, at an operation that does not look at the heap. -/
def PResOk (ρ : Ren) (w : World) (r : PRes) (run : Result Next) : Prop :=
  match r with
  | .val x => ∃ v, run = .ok (.value v) w ∧ den ρ x = some v
  | .skip => run = .ok .skip w
  | .call f args => ∃ vs : Array Value, run = .ok (.enter f vs) w ∧ denL ρ args = some vs.toList
  | .yld i args => YldRes ρ w i args run

theorem PResOk.on {w0 : World} {H : SHeap} {ρ : Ren} {w : World} {r : PRes} {run : Result Next} (hR : Rel w0 ρ H w) (h : PResOk ρ w r run) : ResOk w0 H ρ w (r.on H) run := by
  cases r with
  | val x => obtain ⟨v, h1, h2⟩ := h; exact ⟨ρ, v, w, h1, Ext.refl _ _, h2, hR⟩
  | skip => exact ⟨ρ, w, h, Ext.refl _ _, hR⟩
  | call f args => exact h
  | yld i args => exact h

def PSemOk (ρ : Ren) (x : SVal) (w : World) (run : Result Value) : Prop := ∃ v, run = .ok v w ∧ den ρ x = some v

theorem PResOk.of_sem {ρ : Ren} {w : World} {x : SVal} {P : Program} {s : Sem Value} (h : PSemOk ρ x w (s.run P w)) :
    PResOk ρ w (.val x) ((do pure (Next.value (← s)) : Sem Next).run P w) := by
  obtain ⟨v, h1, h2⟩ := h
  exact ⟨v, by rw [run_bind_ok h1]; rfl, h2⟩

def pureOp (P : Program) (t : List SVal) (o : Oper) : Option PRes :=
  if o.op.operands.toList.all (fun x => (vOf (seval t x)).isSome) && notSelect o.op then
    match pureRun P (execOp (vEval t) o) with
    | some (.value x) => some (.val (.v x))
    | some .skip => some .skip
    | some (.enter f args) => some (.call f (args.toList.map .v))
    | _ => none
  else none

section
variable {P : Program} {w0 w : World} {ρ : Ren} {H : SHeap} {t : List SVal} {a : Act} {o : Oper}

theorem pureOp_ok (ht : denL ρ t = some a.tmps.toList) {r : PRes} (h : pureOp P t o = some r) : PResOk ρ w r ((execOp a.eval o).run P w) := by
  unfold pureOp at h
  split at h
  case isFalse => cases h
  case isTrue hc =>
    simp only [Bool.and_eq_true, List.all_eq_true] at hc
    obtain ⟨hall, hns⟩ := hc
    have he : execOp a.eval o = execOp (vEval t) o := by
      refine execOp_congr o (fun cs b e => by rw [e] at hns; cases hns) fun x hx => ?_
      have hx' := hall x (by simpa using hx)
      obtain ⟨v, hv⟩ := Option.isSome_iff_exists.1 hx'
      have h1 := den_of_vOf (ρ := ρ) _ hv
      rw [den_seval ht] at h1
      simp only [vEval, hv, Option.getD_some]
      exact Option.some.inj h1
    rw [he]
    split at h
    · rename_i x hp
      cases h
      exact ⟨x, run_of_pure hp w, by simp [den]⟩
    · rename_i hp
      cases h
      exact run_of_pure hp w
    · rename_i f args hp
      cases h
      exact ⟨args, run_of_pure hp w, denL_map_v _⟩
    · cases h

/-! ### Cells -/
def scells : SVal → List SVal
  | .agg l => l
  | .v (.agg cs) => cs.toList.map .v
  | x => [x]

theorem den_scells {x : SVal} {v : Value} (h : den ρ x = some v) : denL ρ (scells x) = some v.cells.toList := by
  cases x with
  | agg l =>
    simp only [den] at h
    cases hl : denL ρ l with
    | none => simp [hl] at h
    | some vs => simp only [hl, Option.some.injEq] at h; subst h; simpa [scells, Value.cells] using hl
  | v y =>
    simp only [den, Option.some.injEq] at h
    subst h
    cases y <;> simp [scells, Value.cells, denL, den, denL_map_v]
  | ptr i off =>
    simp only [den] at h
    split at h <;> simp at h
    subst h
    rename_i b hb
    simp [scells, Value.cells, denL, den, hb]
  | slice i off len cap =>
    simp only [den] at h
    split at h <;> simp at h
    subst h
    rename_i b hb
    simp [scells, Value.cells, denL, den, hb]
  | row i off eoff len =>
    have h' := h
    simp only [den] at h
    split at h
    · split at h <;> simp at h
      subst h
      simp [scells, Value.cells, denL, h']
    · cases h
  | tuple l =>
    simp only [den] at h
    split at h <;> simp at h
    subst h
    rename_i b hb
    simp [scells, Value.cells, denL, den, hb]
  | func fn f c =>
    simp only [den] at h
    split at h <;> simp at h
    subst h
    rename_i b d hb hd
    simp [scells, Value.cells, denL, den, hb, hd]
  | iface ty y =>
    simp only [den] at h
    split at h <;> simp at h
    subst h
    rename_i b hb
    simp [scells, Value.cells, denL, den, hb]
  | yield i => simp only [den] at h; split at h <;> simp at h; subst h; rename_i b hb; simp [scells, Value.cells, denL, den, hb]
  | map i => simp only [den] at h; split at h <;> simp at h; subst h; rename_i b hb; simp [scells, Value.cells, denL, den, hb]
  | sym i =>
    simp only [den, Option.some.injEq] at h
    subst h
    have := Env.flat i
    have hc : (Env.val i).cells = #[Env.val i] := by
      unfold Value.cells
      split
      · rename_i heq; rw [heq] at this; exact this.elim
      · rfl
    rw [hc]
    simp [scells, denL, den]

def mkAgg (l : List SVal) : SVal :=
  match vOfL l with
  | some vs => .v (.agg vs.toArray)
  | none => .agg l

theorem den_mkAgg {l : List SVal} {vs : List Value} (h : denL ρ l = some vs) : den ρ (mkAgg l) = some (.agg vs.toArray) := by
  unfold mkAgg
  split
  · rename_i us hu
    have := denL_of_vOfL (ρ := ρ) l hu
    rw [h] at this
    simp only [Option.some.injEq] at this
    simp [den, this]
  · simp [den, h]

def mkTuple (l : List SVal) : SVal :=
  match vOfL l with
  | some vs => .v (.tuple vs.toArray)
  | none => .tuple l

theorem den_mkTuple {l : List SVal} {vs : List Value} (h : denL ρ l = some vs) : den ρ (mkTuple l) = some (.tuple vs.toArray) := by
  unfold mkTuple
  split
  · rename_i us hu
    have := denL_of_vOfL (ρ := ρ) l hu
    rw [h] at this
    simp only [Option.some.injEq] at this
    simp [den, this]
  · simp [den, h]

/-- What is known of package-level variables: the cells of a variable's block. -/
abbrev Glob := Nat → Option (List Value)
def Glob.holds (G : Glob) (w : World) : Prop := ∀ g l, G g = some l → ∀ k v, l[k]? = some v → w.cell? ⟨g, k, none⟩ = some v

 omit [Env] in
theorem Glob.holds.later {G : Glob} {w0 w : World} (h : G.holds w0) (hb : Below w0.heap.size w0 w) : G.holds w := by
  intro g l hg k v hk
  have h1 := h g l hg k v hk
  have hlt : g < w0.heap.size := by
    unfold World.cell? at h1
    rcases Nat.lt_or_ge g w0.heap.size with h' | h'
    · exact h'
    · simp [Array.getElem?_eq_none h'] at h1
  rw [hb.cell (p := ⟨g, k, none⟩) hlt]
  exact h1

/-- The cells from an address on. -/
def cellsFrom (G : Glob) (H : SHeap) : SVal → Option (List SVal)
  | .ptr i off => match H[i]? with
    | some (.cells l _ _) => some (l.drop off)
    | some (.row l _ _ _) => some (l.drop off)
    | _ => none
  | .v (.pointer (some ⟨g, off, none⟩)) => match G g with
    | some l => some ((l.drop off).map .v)
    | none => none
  | _ => none

/-- The cells of a named block: those that are known, and what lies behind them. -/
theorem Rel.cells {i : Nat} {p : Loc} (hR : Rel w0 ρ H w) (hi : ρ i = some p) {o : SObj} (hH : H[i]? = some o) {l : List SVal} {e : TypeId} (ho : (∃ fz, o = .cells l e fz) ∨ ∃ sz g, o = .row l e sz g) :
    ∃ (vs rest : List Value) (fz : Nat × Nat), denL ρ l = some vs ∧ w.heap[p.b]? = some (.cells (vs ++ rest).toArray e fz) := by
  obtain ⟨o', ob, h1, h2, h3⟩ := hR.obj i p hi
  rw [hH] at h1
  cases h1
  rcases ho with ⟨fz, rfl⟩ | ⟨sz, g, rfl⟩
  · obtain ⟨vs, h4, rfl⟩ := h3
    exact ⟨vs, [], fz, h4, by simpa using h2⟩
  · obtain ⟨vs, h4, rest, fz, rfl, _⟩ := h3
    exact ⟨vs, rest, fz, h4, h2⟩

 omit [Env] in
theorem cell_known {b : Nat} {vs rest : List Value} {e : TypeId} {fz : Nat × Nat} (h : w.heap[b]? = some (.cells (vs ++ rest).toArray e fz)) {k : Nat} {u : Value} (hk : vs[k]? = some u) :
    w.cell? ⟨b, k, none⟩ = some u := by
  have hlt := (List.getElem?_eq_some_iff.1 hk).1
  simp only [World.cell?, h]
  simp [List.getElem?_append_left hlt, hk]

/-- The cells from an address on are there. -/
theorem cellsFrom_ok {G : Glob} (hG : G.holds w0) (hR : Rel w0 ρ H w) {x : SVal} {v : Value} (hx : den ρ x = some v) {l : List SVal} (hl : cellsFrom G H x = some l) :
    ∃ (a : Addr) (vs : List Value), v = .pointer (some a) ∧ a.spot = none ∧ denL ρ l = some vs ∧ ∀ k u, vs[k]? = some u → w.cell? { a with off := a.off + k } = some u := by
  unfold cellsFrom at hl
  split at hl
  · rename_i i off
    simp only [den] at hx
    split at hx <;> simp at hx
    rename_i p hb
    subst hx
    have fin : ∀ {o : SObj} {l' : List SVal} {e : TypeId}, H[i]? = some o → ((∃ fz, o = .cells l' e fz) ∨ ∃ sz g, o = .row l' e sz g) → l = l'.drop off →
        ∃ (a : Addr) (vs : List Value), Value.pointer (some ⟨p.b, off, none⟩) = .pointer (some a) ∧ a.spot = none ∧ denL ρ l = some vs ∧ ∀ k u, vs[k]? = some u → w.cell? { a with off := a.off + k } = some u := by
      intro o l' e hH ho hl'
      obtain ⟨vs, rest, fz, h1, h2⟩ := hR.cells hb hH ho
      refine ⟨⟨p.b, off, none⟩, vs.drop off, rfl, rfl, by rw [hl']; exact denL_drop off h1, fun k u hk => cell_known h2 (by simpa using hk)⟩
    split at hl
    · rename_i l' e fz hH
      exact fin hH (.inl ⟨fz, rfl⟩) (Option.some.inj hl).symm
    · rename_i l' e sz g hH
      exact fin hH (.inr ⟨sz, g, rfl⟩) (Option.some.inj hl).symm
    · cases hl
  · rename_i g off
    split at hl <;> simp at hl
    rename_i l' hg
    subst hl
    simp only [den, Option.some.injEq] at hx
    subst hx
    refine ⟨⟨g, off, none⟩, l'.drop off, rfl, rfl, by rw [← List.map_drop]; exact denL_map_v _, fun k u hk => ?_⟩
    exact (hG.later hR.below) g l' hg (off + k) u (by simpa using hk)
  · cases hl

 omit [Env] in
theorem addr_add (a : Addr) (n : Nat) (h : a.spot = none) : a.add n = { a with off := a.off + n } := by
  unfold Addr.add
  split
  · subst n; rfl
  · cases a; simp_all

 omit [Env] in
theorem loadCellsFrom_ok (a : Addr) (hs : a.spot = none) : ∀ (n i : Nat) (acc : Array Value) (vs : List Value), vs.length = n →
    (∀ k u, vs[k]? = some u → w.cell? { a with off := a.off + (i + k) } = some u) →
    (loadCellsFrom a i n acc).run P w = .ok (acc ++ vs.toArray) w
  | 0, i, acc, vs, hl, _ => by
    have : vs = [] := by simpa using hl
    subst this
    simp [loadCellsFrom, pure]
  | n + 1, i, acc, vs, hl, h => by
    cases vs with
    | nil => simp at hl
    | cons v vs =>
      have h0 := h 0 v (by simp)
      rw [loadCellsFrom]
      rw [run_bind_ok (a := v) (w' := w) (by
        simp only [load, Sem.run]
        rw [addr_add a i hs]
        simp only [Nat.add_zero] at h0
        rw [h0])]
      have := loadCellsFrom_ok a hs n (i + 1) (acc.push v) vs (by simpa using hl) (fun k u hk => by
        have := h (k + 1) u (by simpa using hk)
        rw [show i + 1 + k = i + (k + 1) by omega]
        exact this)
      rw [this]
      simp

 omit [Env] in
theorem loadCells_ok (a : Addr) (hs : a.spot = none) (n : Nat) (vs : List Value) (hl : vs.length = n)
    (h : ∀ k u, vs[k]? = some u → w.cell? { a with off := a.off + k } = some u) : (loadCells a n).run P w = .ok vs.toArray w := by
  unfold loadCells
  rw [loadCellsFrom_ok a hs n 0 #[] vs hl (fun k u hk => by rw [Nat.zero_add]; exact h k u hk)]
  simp

def loadE (P : Program) (G : Glob) (H : SHeap) (t : TypeId) (x : SVal) : Option SVal :=
  match cellsFrom G H x with
  | none => none
  | some l => match pureRun P (isAgg t) with
    | some false => match l with
      | [] => none
      | y :: _ => some y
    | some true => match pureRun P (sizeOf t) with
      | none => none
      | some n => if (l.take n).length = n then some (mkAgg (l.take n)) else none
    | none => none

theorem loadVar_ok {G : Glob} (hG : G.holds w0) (hR : Rel w0 ρ H w) {ty : TypeId} {x y : SVal} {v : Value} (hx : den ρ x = some v) (h : loadE P G H ty x = some y) :
    ∃ a u, v = .pointer (some a) ∧ (loadVar ty a).run P w = .ok u w ∧ den ρ y = some u := by
  unfold loadE at h
  split at h
  · cases h
  rename_i l hl
  obtain ⟨a, vs, rfl, hs, hd, hc⟩ := cellsFrom_ok hG hR hx hl
  refine ⟨a, ?_⟩
  unfold loadVar
  split at h
  · rename_i hag
    split at h
    · cases h
    rename_i y' l'
    simp only [Option.some.injEq] at h
    subst h
    obtain ⟨u, us, hu, _, rfl⟩ := denL_cons.1 hd
    refine ⟨u, rfl, ?_, hu⟩
    rw [run_bind_pure hag]
    have := hc 0 u (by simp)
    simp only [Nat.add_zero] at this
    simp [load, Sem.run, this]
  · rename_i hag
    split at h
    · cases h
    rename_i n hn
    split at h
    case isFalse => cases h
    rename_i hlen
    simp only [Option.some.injEq] at h
    subst h
    have hd' := denL_take n hd
    refine ⟨.agg (vs.take n).toArray, rfl, ?_, den_mkAgg hd'⟩
    rw [run_bind_pure hag]
    simp only [if_true]
    rw [run_bind_pure hn]
    rw [run_bind_ok (loadCells_ok a hs n (vs.take n) (by rw [denL_length hd']; exact hlen) (fun k u hk => hc k u (by
      rw [List.getElem?_take] at hk
      split at hk
      · exact hk
      · cases hk)))]
    rfl
  · cases h

theorem load_ok {G : Glob} (hG : G.holds w0) (hR : Rel w0 ρ H w) {ty : TypeId} {x y : SVal} {v : Value} (hx : den ρ x = some v) (h : loadE P G H ty x = some y) :
    SemOk w0 H ρ y H ((Instr.loadAt ty v).run P w) := by
  obtain ⟨a, u, rfl, h1, h2⟩ := loadVar_ok hG hR hx h
  refine ⟨ρ, u, w, ?_, Ext.refl _ _, h2, hR⟩
  unfold Instr.loadAt Instr.sureAddr
  exact h1

/-! ### A new row -/
theorem newRow_ok (hR : Rel w0 ρ H w) {l : List SVal} {vs : List Value} (hl : denL ρ l = some vs) (e : TypeId) :
    (newRow e vs.toArray).run P w = .ok ⟨w.heap.size, 0, none⟩ { w with heap := w.heap.push (.cells vs.toArray e (0, 0)) } ∧
    Ext ρ H (ρ.with H.length ⟨w.heap.size, 0⟩) (H ++ [.cells l e (0, 0)]) ∧ (ρ.with H.length ⟨w.heap.size, 0⟩) H.length = some ⟨w.heap.size, 0⟩ ∧
    Rel w0 (ρ.with H.length ⟨w.heap.size, 0⟩) (H ++ [.cells l e (0, 0)]) { w with heap := w.heap.push (.cells vs.toArray e (0, 0)) } := by
  refine ⟨rfl, Ext.push _ _ _ _, by simp [Ren.with], hR.push ⟨vs, hl, rfl⟩⟩

def allocE (P : Program) (H : SHeap) (e : TypeId) : Option Res :=
  match pureRun P (zeroValue e) with
  | some z => some (.val (.ptr H.length 0) (H ++ [.cells (z.cells.toList.map .v) e (0, 0)]))
  | none => none

theorem newVar_ok (hR : Rel w0 ρ H w) {x : SVal} {v : Value} (hx : den ρ x = some v) (e : TypeId) :
    SemOk w0 H ρ (.ptr H.length 0) (H ++ [.cells (scells x) e (0, 0)]) ((do pure (.pointer (some (← newVar e v))) : Sem Value).run P w) := by
  obtain ⟨h1, h2, h3, h4⟩ := newRow_ok (P := P) hR (den_scells hx) e
  refine ⟨_, .pointer (some ⟨w.heap.size, 0, none⟩), _, ?_, h2, by simp only [den, h3], h4⟩
  unfold newVar
  rw [run_bind_ok (a := (⟨w.heap.size, 0, none⟩ : Addr)) (by rw [Array.toArray_toList] at h1; exact h1)]
  simp only [Array.toArray_toList]
  rfl

theorem alloc_ok (hR : Rel w0 ρ H w) {e : TypeId} {r : Res} (h : allocE P H e = some r) : ∃ x H', r = .val x H' ∧ SemOk w0 H ρ x H' ((Instr.alloc e true (.tuple #[])).run P w) := by
  unfold allocE at h
  split at h
  · rename_i z hz
    cases h
    refine ⟨_, _, rfl, ?_⟩
    have := newVar_ok (P := P) hR (x := .v z) (v := z) (by simp [den]) e
    have e1 : scells (.v z) = z.cells.toList.map .v := by cases z <;> simp [scells, Value.cells]
    rw [e1] at this
    unfold Instr.alloc
    rw [run_bind_pure hz]
    exact this
  · cases h

/-! ### A store -/
def oneV : Value → Bool
  | .agg _ | .tuple _ => false
  | _ => true

def sOne : SVal → Bool
  | .v x => oneV x
  | .agg _ | .tuple _ => false
  | _ => true

theorem oneCell_of_sOne {x : SVal} {v : Value} (hx : den ρ x = some v) (h : sOne x = true) : oneV v = true := by
  cases x with
  | v y => simp only [den, Option.some.injEq] at hx; subst hx; exact h
  | agg l => cases h
  | tuple l => cases h
  | ptr i off => simp only [den] at hx; split at hx <;> simp at hx; subst hx; rfl
  | slice i off len cap => simp only [den] at hx; split at hx <;> simp at hx; subst hx; rfl
  | row i off eoff len =>
    simp only [den] at hx
    split at hx
    · split at hx <;> simp at hx
      subst hx; rfl
    · cases hx
  | func fn f c => simp only [den] at hx; split at hx <;> simp at hx; subst hx; rfl
  | iface ty y => simp only [den] at hx; split at hx <;> simp at hx; subst hx; rfl
  | yield i => simp only [den] at hx; split at hx <;> simp at hx; subst hx; rfl
  | map i => simp only [den] at hx; split at hx <;> simp at hx; subst hx; rfl
  | sym i =>
    simp only [den, Option.some.injEq] at hx
    subst hx
    have := Env.flat i
    unfold oneV
    split
    · rename_i heq; rw [heq] at this; exact this.elim
    · rename_i heq; rw [heq] at this; exact this.elim
    · rfl

def setMany (l : List SVal) (off : Nat) : List SVal → List SVal
  | [] => l
  | x :: xs => setMany (l.set off x) (off + 1) xs

 omit [Env] in
theorem setMany_length : ∀ (xs : List SVal) (l : List SVal) (off : Nat), (setMany l off xs).length = l.length
  | [], l, off => rfl
  | x :: xs, l, off => by rw [setMany, setMany_length]; simp

/-- The two makes of a row of cells that may be written. -/
inductive RowMk (e : TypeId) : (List SVal → SObj) → Prop where
  | cells : RowMk e (fun l => .cells l e (0, 0))
  | row (sz g : Nat) : RowMk e (fun l => .row l e sz g)

theorem RowMk.open {e : TypeId} {mk : List SVal → SObj} (h : RowMk e mk) {p : Loc} {l : List SVal} {ob : Obj} (ho : ObjRel ρ p (mk l) ob) :
    ∃ (vs rest : List Value) (fz : Nat × Nat), denL ρ l = some vs ∧ ob = .cells (vs ++ rest).toArray e fz ∧ (∀ k, k < vs.length → (decide (fz.1 ≤ k) && decide (k < fz.2)) = false) ∧
      ∀ vs' l', vs'.length = vs.length → denL ρ l' = some vs' → ObjRel ρ p (mk l') (.cells (vs' ++ rest).toArray e fz) := by
  cases h with
  | cells =>
    obtain ⟨vs, h1, rfl⟩ := ho
    exact ⟨vs, [], (0, 0), h1, by simp, fun k _ => by simp, fun vs' l' _ hd => ⟨vs', hd, by simp⟩⟩
  | row sz g =>
    obtain ⟨vs, h1, rest, fz, rfl, h3, h4⟩ := ho
    refine ⟨vs, rest, fz, h1, rfl, fun k hk => h4 k (by simp; omega), fun vs' l' hl hd => ⟨vs', hd, rest, fz, rfl, ?_, ?_⟩⟩
    · simp only [List.length_append] at h3 ⊢; rw [hl]; exact h3
    · intro k hk; exact h4 k (by simp only [List.length_append] at hk ⊢; rw [← hl]; exact hk)

theorem store1_ok (hR : Rel w0 ρ H w) {i : Nat} {p : Loc} {off : Nat} (hi : ρ i = some p) (hown : Own ρ H i p) {l : List SVal} {e : TypeId} {mk : List SVal → SObj} (hmk : RowMk e mk) (hH : H[i]? = some (mk l)) (hoff : off < l.length) {x : SVal} {v : Value}
    (hx : den ρ x = some v) (h1 : sOne x = true) (m : Mode) (k : Sem Unit) :
    ∃ w', Rel w0 ρ (H.set i (mk (l.set off x))) w' ∧ (Sem.store m ⟨p.b, off, none⟩ v k).run P w = k.run P w' := by
  obtain ⟨o', ob, g1, g2, g3⟩ := hR.obj i p hi
  rw [hH] at g1
  cases g1
  obtain ⟨vs, rest, fz, hvs, rfl, hfr, hshut⟩ := hmk.open g3
  have hlen := denL_length hvs
  have hoff' : off < vs.length := by omega
  have hcell : w.cell? ⟨p.b, off, none⟩ = some (vs[off]'hoff') := cell_known g2 (by simp [hoff'])
  have hfz : w.frozen? ⟨p.b, off, none⟩ = false := by
    simp only [World.frozen?, g2]
    exact hfr off hoff'
  refine ⟨w.setCell ⟨p.b, off, none⟩ v, ?_, ?_⟩
  · have hsize : (w.setCell ⟨p.b, off, none⟩ v).heap.size = w.heap.size := by simp [World.setCell]
    refine hR.setObj hi hown (ob := .cells (vs.set off v ++ rest).toArray e fz) (hshut _ _ (by simp) (denL_set hx hvs off)) rfl rfl rfl hsize ?_ ?_
    · intro k hk
      exact Below.heap_setCell _ _ _ _ hk
    · simp only [World.setCell, Array.getElem?_modify, if_true, g2]
      simp [List.set_append_left _ _ hoff']
  · have ho := oneCell_of_sOne hx h1
    cases v <;> first | (simp [oneV] at ho; done) | (simp only [Sem.run, hcell, hfz]; rfl)

theorem storeCells_ok : ∀ (xs : List SVal) (vs : List Value) {H : SHeap} {w : World} (_ : Rel w0 ρ H w) {i : Nat} {p : Loc} {off j : Nat} (_ : ρ i = some p) (_ : Own ρ H i p) {l : List SVal} {e : TypeId} {mk : List SVal → SObj} (_ : RowMk e mk) (_ : H[i]? = some (mk l))
    (_ : off + j + xs.length ≤ l.length) (_ : denL ρ xs = some vs) (_ : xs.all sOne = true),
    ∃ w', Rel w0 ρ (H.set i (mk (setMany l (off + j) xs))) w' ∧ (storeCells ⟨p.b, off, none⟩ vs j).run P w = .ok () w'
  | [], vs, H, w, hR, i, p, off, j, hi, hown, l, e, mk, hmk, hH, hlen, hd, hall => by
    simp [denL] at hd
    subst hd
    refine ⟨w, ?_, rfl⟩
    have : H.set i (mk l) = H := by
      apply List.ext_getElem?
      intro k
      by_cases hk : k = i
      · subst hk
        rw [hH, List.getElem?_set_self (List.getElem?_eq_some_iff.1 hH).1]
      · rw [List.getElem?_set_ne (Ne.symm hk)]
    simp only [setMany]
    rw [this]
    exact hR
  | x :: xs, vs, H, w, hR, i, p, off, j, hi, hown, l, e, mk, hmk, hH, hlen, hd, hall => by
    obtain ⟨u, us, hu, hus, rfl⟩ := denL_cons.1 hd
    simp only [List.all_cons, Bool.and_eq_true] at hall
    simp only [List.length_cons] at hlen
    obtain ⟨w1, hR1, hrun⟩ := store1_ok (P := P) hR hi hown hmk hH (off := off + j) (by omega) hu hall.1 .plain (storeCells ⟨p.b, off, none⟩ us (j + 1))
    have hlt : i < H.length := (List.getElem?_eq_some_iff.1 hH).1
    obtain ⟨w2, hR2, hrun2⟩ := storeCells_ok xs us hR1 (off := off) (j := j + 1) hi (hown.set _) (l := l.set (off + j) x) hmk (by rw [List.getElem?_set_self hlt]) (by simp; omega) hus hall.2
    refine ⟨w2, ?_, ?_⟩
    · rw [List.set_set] at hR2
      simp only [setMany]
      rw [show off + j + 1 = off + (j + 1) by omega]
      exact hR2
    · rw [storeCells]
      show ((Sem.store .plain _ u (.pure ())).bind _).run P w = _
      rw [show (Addr.add ⟨p.b, off, none⟩ j) = ⟨p.b, off + j, none⟩ from addr_add _ _ rfl]
      simp only [Sem.bind]
      rw [hrun]
      exact hrun2

/-- Cells written from an offset on; where rows may share the block, the others are forgotten. -/
def writeE (H : SHeap) (i off : Nat) (xs : List SVal) : Option SHeap :=
  if xs.all sOne then
    match H[i]? with
    | some (.cells l e (0, 0)) => if off + xs.length ≤ l.length then some (H.set i (.cells (setMany l off xs) e (0, 0))) else none
    | some (.row l e sz g) => if off + xs.length ≤ l.length then some ((killFrom g i 0 H).set i (.row (setMany l off xs) e sz g)) else none
    | _ => none
  else none

 omit [Env] in
theorem writeE_len {i off : Nat} {xs : List SVal} {H' : SHeap} (h : writeE H i off xs = some H') : H'.length = H.length := by
  unfold writeE at h
  repeat' (split at h)
  all_goals first | (cases h; simp [killFrom_len]; done) | cases h

theorem writeE_ok (hR : Rel w0 ρ H w) {i : Nat} {p : Loc} (hi : ρ i = some p) {off : Nat} {xs : List SVal} {vs : List Value} (hxs : denL ρ xs = some vs) {H' : SHeap} (h : writeE H i off xs = some H') :
    ∃ w', Ext ρ H ρ H' ∧ Rel w0 ρ H' w' ∧ (storeCells ⟨p.b, off, none⟩ vs).run P w = .ok () w' := by
  unfold writeE at h
  split at h
  case isFalse => cases h
  rename_i hall
  split at h
  · rename_i l e hH
    split at h
    case isFalse => cases h
    rename_i hoff
    cases h
    obtain ⟨w', h1, h2⟩ := storeCells_ok (P := P) xs vs hR (off := off) (j := 0) hi (hR.own hi hH (fun _ _ _ _ e => by cases e) (fun e => by cases e)) .cells hH (by omega) hxs hall
    exact ⟨w', Ext.set hi _, h1, h2⟩
  · rename_i l e sz g hH
    split at h
    case isFalse => cases h
    rename_i hoff
    cases h
    obtain ⟨w', h1, h2⟩ := storeCells_ok (P := P) xs vs (hR.kill g i) (off := off) (j := 0) hi (hR.own_killed hi hH) (.row sz g) (killed_self hH) (by omega) hxs hall
    exact ⟨w', (Ext.kill g i).trans (Ext.set hi _) (by rw [killFrom_len]; exact Nat.le_refl _), h1, h2⟩
  · cases h

def storeE (P : Program) (H : SHeap) (ty : TypeId) (p x : SVal) : Option SHeap :=
  match p with
  | .ptr i off => match pureRun P (sizeOf ty) with
    | some n =>
      let xs := scells x
      if xs.length = n then writeE H i off xs else none
    | none => none
  | _ => none

theorem store_ok (hR : Rel w0 ρ H w) {ty : TypeId} {p x : SVal} {pv v : Value} (hp : den ρ p = some pv) (hx : den ρ x = some v) {H' : SHeap} (h : storeE P H ty p x = some H') :
    ∃ w', Ext ρ H ρ H' ∧ Rel w0 ρ H' w' ∧ (Instr.storeAt ty pv v).run P w = .ok () w' := by
  unfold storeE at h
  split at h
  case h_2 => cases h
  rename_i i off
  split at h
  case h_2 => cases h
  rename_i n hn
  simp only at h
  split at h
  case isFalse => cases h
  rename_i hlen
  simp only [den] at hp
  split at hp <;> simp at hp
  rename_i b hb
  subst hp
  have hd := den_scells hx
  obtain ⟨w', h0, h1, h2⟩ := writeE_ok (P := P) hR hb hd h
  refine ⟨w', h0, h1, ?_⟩
  unfold Instr.storeAt Instr.sureAddr storeVar
  have hsz : v.cells.size = n := by
    have := denL_length hd
    rw [hlen] at this
    simpa using this
  show ((sizeOf ty >>= fun s => _) : Sem Unit).run P w = _
  rw [run_bind_pure hn]
  simp only [hsz, ne_eq, not_true_eq_false, if_false]
  exact h2

end
end
end Go.RX
