import Derived.Orders
import Derived.LoopN
import Derived.Scope
import Derived.Below
namespace Go.RX
noncomputable section
open Go.RowKit (Below)

/-- Expressions of integers over named integers; `bin`, `sh` and `cv` are what the model's operations compute. -/
inductive IE where
  | var (i : Nat)
  | lit (n : Int)
  | bin (op : BinOp) (k : IntKind) (a b : IE)
  | sh (op : BinOp) (k : IntKind) (a b : IE)
  | cv (k : IntKind) (a : IE)
  | tri (t : Nat) (a b c : IE)
  deriving Inhabited

/-- What stands for a value that is not known by its numeral: a name, or an expression of a kind of integers. -/
inductive Sy where
  | nm (i : Nat)
  | int (k : IntKind) (e : IE)
  deriving Inhabited

/-- Values with names for the blocks that the run has made: `ptr i off` points into the block named i. -/
inductive SVal where
  | v (x : Value)
  | ptr (i off : Nat)
  | slice (i off len cap : Nat)
  | row (i off eoff len : Nat)
  | agg (l : List SVal)
  | tuple (l : List SVal)
  | func (fn : Fn) (first cap : List SVal)
  | iface (t : TypeId) (x : SVal)
  | yield (i : Nat)
  | map (i : Nat)
  | sym (i : Sy)
  deriving Inhabited

/-- What is not known by its numeral: the values that `sym` stands for; what is known of operations on them (the value that one yields; where a key stands in a map, or that it is not there). -/
def bare (ks : List (Value × Nat)) : List MapEntry := ks.map fun k => { key := k.1, val := undef, born := k.2 }

class Env where
  val : Sy → Value
  flat : ∀ i, match val i with
    | .agg _ | .tuple _ => False
    | _ => True
  fact : Op → List SVal → Option SVal
  key : Sy → List (Value × Nat) → Option (Option Nat)
  keyOk : ∀ i ks r, key i ks = some r → Instr.findNow .string (val i) (bare ks) 0 = some (r.map fun j => (j, undef))


variable [Env]

/-- Where a name's block lies; and, of a row that an append has made, how many elements it has room for. -/
structure Loc where
  b : Nat
  c : Nat

abbrev Ren := Nat → Option Loc

mutual
def den (ρ : Ren) : SVal → Option Value
  | .v x => some x
  | .ptr i off => match ρ i with
    | some p => some (.pointer (some ⟨p.b, off, none⟩))
    | none => none
  | .slice i off len cap => match ρ i with
    | some p => some (.slice (some ⟨p.b, off, none⟩) len cap)
    | none => none
  | .row i off eoff len => match ρ i with
    | some p => if eoff + len ≤ p.c then some (.slice (some ⟨p.b, off, none⟩) len (p.c - eoff)) else none
    | none => none
  | .agg l => match denL ρ l with
    | some vs => some (.agg vs.toArray)
    | none => none
  | .tuple l => match denL ρ l with
    | some vs => some (.tuple vs.toArray)
    | none => none
  | .func fn f c => match denL ρ f, denL ρ c with
    | some a, some b => some (.func fn a.toArray b.toArray)
    | _, _ => none
  | .iface t x => match den ρ x with
    | some a => some (.iface t a)
    | none => none
  | .yield i => match ρ i with
    | some p => some (.func (.yield p.b) #[] #[])
    | none => none
  | .map i => match ρ i with
    | some p => some (.map (some p.b))
    | none => none
  | .sym i => some (Env.val i)
def denL (ρ : Ren) : List SVal → Option (List Value)
  | [] => some []
  | x :: xs => match den ρ x, denL ρ xs with
    | some a, some b => some (a :: b)
    | _, _ => none
end

def Ren.le (ρ ρ' : Ren) : Prop := ∀ i b, ρ i = some b → ρ' i = some b
 omit [Env] in
theorem Ren.le.refl (ρ : Ren) : ρ.le ρ := fun _ _ h => h
 omit [Env] in
theorem Ren.le.trans {a b c : Ren} (h : a.le b) (k : b.le c) : a.le c := fun _ _ e => k _ _ (h _ _ e)

mutual
theorem den_mono {ρ ρ' : Ren} (h : ρ.le ρ') : ∀ (x : SVal) {a : Value}, den ρ x = some a → den ρ' x = some a
  | .v x, a, e => by simpa [den] using e
  | .ptr i off, a, e => by
    simp only [den] at e ⊢
    cases hi : ρ i with
    | none => simp [hi] at e
    | some b => simp only [hi] at e; rw [h _ _ hi]; exact e
  | .slice i off len cap, a, e => by
    simp only [den] at e ⊢
    cases hi : ρ i with
    | none => simp [hi] at e
    | some b => simp only [hi] at e; rw [h _ _ hi]; exact e
  | .row i off eoff len, a, e => by
    simp only [den] at e ⊢
    cases hi : ρ i with
    | none => simp [hi] at e
    | some b => simp only [hi] at e; rw [h _ _ hi]; exact e
  | .agg l, a, e => by
    simp only [den] at e ⊢
    cases hi : denL ρ l with
    | none => simp [hi] at e
    | some b => simp only [hi] at e; rw [denL_mono h l hi]; exact e
  | .tuple l, a, e => by
    simp only [den] at e ⊢
    cases hi : denL ρ l with
    | none => simp [hi] at e
    | some b => simp only [hi] at e; rw [denL_mono h l hi]; exact e
  | .func fn f c, a, e => by
    simp only [den] at e ⊢
    cases hi : denL ρ f with
    | none => simp [hi] at e
    | some b =>
      cases hj : denL ρ c with
      | none => simp [hi, hj] at e
      | some d => simp only [hi, hj] at e; rw [denL_mono h f hi, denL_mono h c hj]; exact e
  | .iface t x, a, e => by
    simp only [den] at e ⊢
    cases hi : den ρ x with
    | none => simp [hi] at e
    | some b => simp only [hi] at e; rw [den_mono h x hi]; exact e
  | .yield i, a, e => by
    simp only [den] at e ⊢
    cases hi : ρ i with
    | none => simp [hi] at e
    | some b => simp only [hi] at e; rw [h _ _ hi]; exact e
  | .map i, a, e => by
    simp only [den] at e ⊢
    cases hi : ρ i with
    | none => simp [hi] at e
    | some b => simp only [hi] at e; rw [h _ _ hi]; exact e
  | .sym i, a, e => by simpa [den] using e
theorem denL_mono {ρ ρ' : Ren} (h : ρ.le ρ') : ∀ (l : List SVal) {a : List Value}, denL ρ l = some a → denL ρ' l = some a
  | [], a, e => by simpa [denL] using e
  | x :: xs, a, e => by
    simp only [denL] at e ⊢
    cases hi : den ρ x with
    | none => simp [hi] at e
    | some b =>
      cases hj : denL ρ xs with
      | none => simp [hi, hj] at e
      | some d => simp only [hi, hj] at e; rw [den_mono h x hi, denL_mono h xs hj]; exact e
end

theorem denL_cons {ρ : Ren} {x : SVal} {xs : List SVal} {l : List Value} : denL ρ (x :: xs) = some l ↔ ∃ a b, den ρ x = some a ∧ denL ρ xs = some b ∧ l = a :: b := by
  simp only [denL]
  cases hi : den ρ x with
  | none => simp
  | some a =>
    cases hj : denL ρ xs with
    | none => simp
    | some b => simp [eq_comm]

theorem denL_get {ρ : Ren} : ∀ {l : List SVal} {vs : List Value}, denL ρ l = some vs → ∀ (i : Nat) (x : SVal), l[i]? = some x → ∃ y, vs[i]? = some y ∧ den ρ x = some y
  | [], vs, _, i, x, hx => by simp at hx
  | y :: ys, vs, h, i, x, hx => by
    obtain ⟨a, b, ha, hb, rfl⟩ := denL_cons.1 h
    cases i with
    | zero => simp at hx; subst hx; exact ⟨a, by simp, ha⟩
    | succ i => simp at hx; simpa using denL_get hb i x hx

theorem denL_length {ρ : Ren} : ∀ {l : List SVal} {vs : List Value}, denL ρ l = some vs → vs.length = l.length
  | [], vs, h => by simp [denL] at h; subst h; rfl
  | y :: ys, vs, h => by
    obtain ⟨a, b, ha, hb, rfl⟩ := denL_cons.1 h
    simp [denL_length hb]

theorem denL_set {ρ : Ren} {x : SVal} {y : Value} (hx : den ρ x = some y) : ∀ {l : List SVal} {vs : List Value}, denL ρ l = some vs → ∀ i, denL ρ (l.set i x) = some (vs.set i y)
  | [], vs, h, i => by simp [denL] at h; subst h; simp [denL]
  | z :: zs, vs, h, i => by
    obtain ⟨a, b, ha, hb, rfl⟩ := denL_cons.1 h
    cases i with
    | zero => simp only [List.set_cons_zero]; exact denL_cons.2 ⟨y, b, hx, hb, rfl⟩
    | succ i => simp only [List.set_cons_succ]; exact denL_cons.2 ⟨a, b.set i y, ha, denL_set hx hb i, rfl⟩

theorem denL_append {ρ : Ren} {m : List SVal} {ws : List Value} (hm : denL ρ m = some ws) : ∀ {l : List SVal} {vs : List Value}, denL ρ l = some vs → denL ρ (l ++ m) = some (vs ++ ws)
  | [], vs, h => by simp [denL] at h; subst h; simpa using hm
  | z :: zs, vs, h => by
    obtain ⟨a, b, ha, hb, rfl⟩ := denL_cons.1 h
    exact denL_cons.2 ⟨a, b ++ ws, ha, denL_append hm hb, rfl⟩

theorem denL_drop {ρ : Ren} : ∀ (n : Nat) {l : List SVal} {vs : List Value}, denL ρ l = some vs → denL ρ (l.drop n) = some (vs.drop n)
  | 0, l, vs, h => by simpa using h
  | n + 1, [], vs, h => by simp [denL] at h; subst h; simp [denL]
  | n + 1, z :: zs, vs, h => by
    obtain ⟨a, b, ha, hb, rfl⟩ := denL_cons.1 h
    simpa using denL_drop n hb

theorem denL_take {ρ : Ren} : ∀ (n : Nat) {l : List SVal} {vs : List Value}, denL ρ l = some vs → denL ρ (l.take n) = some (vs.take n)
  | 0, l, vs, h => by simp [denL]
  | n + 1, [], vs, h => by simp [denL] at h; subst h; simp [denL]
  | n + 1, z :: zs, vs, h => by
    obtain ⟨a, b, ha, hb, rfl⟩ := denL_cons.1 h
    simp only [List.take_succ_cons]
    exact denL_cons.2 ⟨a, b.take n, ha, denL_take n hb, rfl⟩

theorem denL_map_v {ρ : Ren} : ∀ (l : List Value), denL ρ (l.map .v) = some l
  | [] => by simp [denL]
  | z :: zs => denL_cons.2 ⟨z, zs, by simp [den], denL_map_v zs, rfl⟩

theorem denL_replicate_v {ρ : Ren} (n : Nat) (x : Value) : denL ρ (List.replicate n (.v x)) = some (List.replicate n x) := by
  have := denL_map_v (ρ := ρ) (List.replicate n x)
  simpa using this


mutual
def vOf : SVal → Option Value
  | .v x => some x
  | .agg l => match vOfL l with
    | some vs => some (.agg vs.toArray)
    | none => none
  | .tuple l => match vOfL l with
    | some vs => some (.tuple vs.toArray)
    | none => none
  | .iface t x => match vOf x with
    | some a => some (.iface t a)
    | none => none
  | _ => none
def vOfL : List SVal → Option (List Value)
  | [] => some []
  | x :: xs => match vOf x with
    | none => none
    | some a => match vOfL xs with
      | none => none
      | some b => some (a :: b)
end

mutual
theorem den_of_vOf {ρ : Ren} : ∀ (x : SVal) {a : Value}, vOf x = some a → den ρ x = some a
  | .v x, a, e => by simpa [den, vOf] using e
  | .ptr i off, a, e => by simp [vOf] at e
  | .slice i off len cap, a, e => by simp [vOf] at e
  | .row i off eoff len, a, e => by simp [vOf] at e
  | .agg l, a, e => by
    simp only [den, vOf] at e ⊢
    cases hi : vOfL l with
    | none => simp [hi] at e
    | some b => simp only [hi] at e; rw [denL_of_vOfL l hi]; exact e
  | .tuple l, a, e => by
    simp only [den, vOf] at e ⊢
    cases hi : vOfL l with
    | none => simp [hi] at e
    | some b => simp only [hi] at e; rw [denL_of_vOfL l hi]; exact e
  | .func fn f c, a, e => by simp [vOf] at e
  | .iface t x, a, e => by
    simp only [den, vOf] at e ⊢
    cases hi : vOf x with
    | none => simp [hi] at e
    | some b => simp only [hi] at e; rw [den_of_vOf x hi]; exact e
  | .yield i, a, e => by simp [vOf] at e
  | .map i, a, e => by simp [vOf] at e
  | .sym i, a, e => by simp [vOf] at e
theorem denL_of_vOfL {ρ : Ren} : ∀ (l : List SVal) {a : List Value}, vOfL l = some a → denL ρ l = some a
  | [], a, e => by simpa [denL, vOfL] using e
  | x :: xs, a, e => by
    simp only [denL, vOfL] at e ⊢
    cases hi : vOf x with
    | none => simp [hi] at e
    | some b =>
      cases hj : vOfL xs with
      | none => simp [hi, hj] at e
      | some d => simp only [hi, hj] at e; rw [den_of_vOf x hi, denL_of_vOfL xs hj]; exact e
end

/-! ### Values without a name -/
mutual
def nf : SVal → Bool
  | .v _ => true
  | .sym _ => true
  | .agg l => nfL l
  | .tuple l => nfL l
  | .iface _ x => nf x
  | _ => false
def nfL : List SVal → Bool
  | [] => true
  | x :: xs => nf x && nfL xs
end

mutual
theorem den_nf {ρ ρ' : Ren} : ∀ (x : SVal), nf x = true → den ρ x = den ρ' x
  | .v x, _ => rfl
  | .sym i, _ => rfl
  | .agg l, h => by simp only [den]; rw [denL_nf l (by simpa [nf] using h)]
  | .tuple l, h => by simp only [den]; rw [denL_nf l (by simpa [nf] using h)]
  | .iface t x, h => by simp only [den]; rw [den_nf x (by simpa [nf] using h)]
  | .ptr i off, h => by simp [nf] at h
  | .slice i off len cap, h => by simp [nf] at h
  | .row i off eoff len, h => by simp [nf] at h
  | .func fn f c, h => by simp [nf] at h
  | .yield i, h => by simp [nf] at h
  | .map i, h => by simp [nf] at h
theorem denL_nf {ρ ρ' : Ren} : ∀ (l : List SVal), nfL l = true → denL ρ l = denL ρ' l
  | [], _ => rfl
  | x :: xs, h => by
    simp only [nfL, Bool.and_eq_true] at h
    simp only [denL]
    rw [den_nf x h.1, denL_nf xs h.2]
end

/-- Blocks that the run has made. `row`: of a row that an append has made, the first cells are known (sz: the cells of an element; rows that may share a block bear one group's number); `dead`: nothing is known. -/
inductive SObj where
  | cells (l : List SVal) (elem : TypeId) (fz : Nat × Nat)
  | row (l : List SVal) (elem : TypeId) (sz grp : Nat)
  | iter (s : ByteArray) (pos : Nat)
  | dead
  | map (ks : List (Value × Nat)) (vals : List SVal) (clock : Nat)
  | marks
  | loop (st : LoopState) (pend : Option Code) (tmps : List SVal) (ps : Array Tmp) (assign body : Code) (dj : Nat)
  deriving Inhabited

def entries (ks : List (Value × Nat)) (vs : List Value) : List MapEntry := List.zipWith (fun k v => { key := k.1, val := v, born := k.2 }) ks vs

def ObjRel (ρ : Ren) (p : Loc) : SObj → Obj → Prop
  | .cells l e fz, ob => ∃ vs, denL ρ l = some vs ∧ ob = .cells vs.toArray e fz
  | .row l e sz _, ob => ∃ vs, denL ρ l = some vs ∧ ∃ (rest : List Value) (fz : Nat × Nat), ob = .cells (vs ++ rest).toArray e fz ∧ (vs ++ rest).length = p.c * sz ∧ ∀ k, k < (vs ++ rest).length → (decide (fz.1 ≤ k) && decide (k < fz.2)) = false
  | .iter s pos, ob => ob = .stringIter s pos
  | .dead, _ => True
  | .map ks vals clock, ob => ∃ vs, denL ρ vals = some vs ∧ ks.length = vals.length ∧ ob = .map (entries ks vs).toArray clock
  | .marks, ob => ob = .deferred (some [])
  | .loop st pend tmps ps assign body dj, ob => ∃ (fn : FuncId) (vs : List Value) (pd : Loc), denL ρ tmps = some vs ∧ ρ dj = some pd ∧ ob = .loop { state := st, pending := pend, fn, tmps := vs.toArray, params := ps, assign, body, defers := pd.b }

theorem ObjRel.mono {ρ ρ' : Ren} (h : ρ.le ρ') {p : Loc} : ∀ {x : SObj} {a : Obj}, ObjRel ρ p x a → ObjRel ρ' p x a
  | .cells l _ _, _, ⟨vs, h1, h2⟩ => ⟨vs, denL_mono h l h1, h2⟩
  | .row l _ _ _, _, ⟨vs, h1, h2⟩ => ⟨vs, denL_mono h l h1, h2⟩
  | .iter _ _, _, hh => hh
  | .dead, _, _ => trivial
  | .map _ l _, _, ⟨vs, h1, h2⟩ => ⟨vs, denL_mono h l h1, h2⟩
  | .marks, _, hh => hh
  | .loop _ _ l _ _ _ _, _, ⟨fn, vs, pd, h1, h2, h3⟩ => ⟨fn, vs, pd, denL_mono h l h1, h _ _ h2, h3⟩

abbrev SHeap := List SObj

/-- May two names stand for one block? -/
def Alike (H : SHeap) (i j : Nat) : Prop := i = j ∨ ∃ l e sz l' e' sz' g, H[i]? = some (.row l e sz g) ∧ H[j]? = some (.row l' e' sz' g) ∨ H[i]? = some .dead ∨ H[j]? = some .dead

/-- The world w, made out of the world w0: what w0 held is there; the blocks that have names hold what the symbolic heap says. -/
structure Rel (w0 : World) (ρ : Ren) (H : SHeap) (w : World) : Prop where
  below : Below w0.heap.size w0 w
  fresh : ∀ i p, ρ i = some p → w0.heap.size ≤ p.b ∧ p.b < w.heap.size
  inj : ∀ i j p q, ρ i = some p → ρ j = some q → p.b = q.b → Alike H i j
  obj : ∀ i p, ρ i = some p → ∃ o ob, H[i]? = some o ∧ w.heap[p.b]? = some ob ∧ ObjRel ρ p o ob

theorem Rel.start (w : World) : Rel w (fun _ => none) [] w :=
  ⟨Below.refl _ _, fun _ _ h => by simp at h, fun _ _ _ _ h => by simp at h, fun _ _ h => by simp at h⟩

/-- The new name. -/
def Ren.with (ρ : Ren) (n : Nat) (p : Loc) : Ren := fun i => if i = n then some p else ρ i

theorem Rel.none_at {w0 : World} {ρ : Ren} {H : SHeap} {w : World} (h : Rel w0 ρ H w) {i : Nat} (hi : H.length ≤ i) : ρ i = none := by
  cases hr : ρ i with
  | none => rfl
  | some b =>
    obtain ⟨o, ob, ho, _⟩ := h.obj i b hr
    rw [List.getElem?_eq_none hi] at ho
    cases ho

theorem Rel.lt {w0 : World} {ρ : Ren} {H : SHeap} {w : World} (h : Rel w0 ρ H w) {i : Nat} {p : Loc} (hi : ρ i = some p) : i < H.length := by
  rcases Nat.lt_or_ge i H.length with h' | h'
  · exact h'
  · rw [h.none_at h'] at hi; cases hi

theorem Ren.le_with {w0 : World} {ρ : Ren} {H : SHeap} {w : World} (h : Rel w0 ρ H w) (p : Loc) : ρ.le (ρ.with H.length p) := by
  intro i c hc
  unfold Ren.with
  split
  · rename_i hi
    rw [h.none_at (by omega)] at hc
    cases hc
  · exact hc

/-- ρ' says the same of the first n names. -/
def Ren.ext (n : Nat) (ρ ρ' : Ren) : Prop := ∀ i, i < n → ρ' i = ρ i
 omit [Env] in
theorem Ren.ext_with (ρ : Ren) (n : Nat) (p : Loc) : Ren.ext n ρ (ρ.with n p) := fun i hi => by simp [Ren.with, show i ≠ n by omega]
theorem Ren.ext.le {w0 : World} {ρ ρ' : Ren} {H : SHeap} {w : World} (h : Ren.ext H.length ρ ρ') (hR : Rel w0 ρ H w) : ρ.le ρ' := fun i b hb => by
  rw [h i (hR.lt hb)]; exact hb

def SObj.isCells : SObj → Bool
  | .cells .. => true
  | _ => false

/-- What a step may turn: names that were there stay with their blocks; the cells that had a name, and no block, stay as they are. -/
def Ext (ρ : Ren) (H : SHeap) (ρ' : Ren) (H' : SHeap) : Prop := ∀ i, i < H.length → ρ' i = ρ i ∧ (ρ i = none → ∀ l e fz, H[i]? = some (.cells l e fz) → H'[i]? = some (.cells l e fz))
 omit [Env] in
theorem Ext.refl (ρ : Ren) (H : SHeap) : Ext ρ H ρ H := fun _ _ => ⟨rfl, fun _ _ _ _ h => h⟩
 omit [Env] in
theorem Ext.trans {a b c : Ren} {H H1 H2 : SHeap} (h : Ext a H b H1) (k : Ext b H1 c H2) (hm : H.length ≤ H1.length) : Ext a H c H2 := fun i hi => by
  obtain ⟨h1, h2⟩ := h i hi
  obtain ⟨k1, k2⟩ := k i (by omega)
  exact ⟨k1.trans h1, fun hn l e fz hc => k2 (by rw [h1]; exact hn) l e fz (h2 hn l e fz hc)⟩
 omit [Env] in
theorem Ext.ext {ρ ρ' : Ren} {H H' : SHeap} (h : Ext ρ H ρ' H') : Ren.ext H.length ρ ρ' := fun i hi => (h i hi).1
theorem Ext.le {w0 : World} {ρ ρ' : Ren} {H H' : SHeap} {w : World} (h : Ext ρ H ρ' H') (hR : Rel w0 ρ H w) : ρ.le ρ' := h.ext.le hR
 omit [Env] in
theorem Ext.push (ρ : Ren) (H : SHeap) (p : Loc) (l : SHeap) : Ext ρ H (ρ.with H.length p) (H ++ l) := fun i hi => ⟨Ren.ext_with ρ _ _ i hi, fun _ l' e fz h => by rw [List.getElem?_append_left hi]; exact h⟩
 omit [Env] in
theorem Ext.set {ρ : Ren} {H : SHeap} {j : Nat} {p : Loc} (hj : ρ j = some p) (o : SObj) : Ext ρ H ρ (H.set j o) := fun i _ => ⟨rfl, fun hn l e fz h => by
  rw [List.getElem?_set_ne (fun e => by subst e; rw [hj] at hn; cases hn)]; exact h⟩

 omit [Env] in
theorem Alike.append {H K : SHeap} {i j : Nat} (h : Alike H i j) : Alike (H ++ K) i j := by
  have key : ∀ {i o}, H[i]? = some o → (H ++ K)[i]? = some o := fun {i o} hh => by rw [List.getElem?_append_left (List.getElem?_eq_some_iff.1 hh).1]; exact hh
  rcases h with h | ⟨l, e, sz, l', e', sz', g, h | h | h⟩
  · exact .inl h
  · exact .inr ⟨l, e, sz, l', e', sz', g, .inl ⟨key h.1, key h.2⟩⟩
  · exact .inr ⟨l, e, sz, l', e', sz', g, .inr (.inl (key h))⟩
  · exact .inr ⟨l, e, sz, l', e', sz', g, .inr (.inr (key h))⟩

theorem Rel.push {w0 : World} {ρ : Ren} {H : SHeap} {w : World} (h : Rel w0 ρ H w) {o : SObj} {ob : Obj} {c : Nat} (ho : ObjRel ρ ⟨w.heap.size, c⟩ o ob) :
    Rel w0 (ρ.with H.length ⟨w.heap.size, c⟩) (H ++ [o]) { w with heap := w.heap.push ob } := by
  have hle := Ren.le_with h ⟨w.heap.size, c⟩
  refine ⟨h.below.trans ⟨rfl, rfl, rfl, by simp, fun k hk => ?_⟩, ?_, ?_, ?_⟩
  · show (w.heap.push ob)[k]? = _
    rw [Array.getElem?_push, if_neg (by have := h.below.size; omega)]
  · intro i b hb
    unfold Ren.with at hb
    simp only [Array.size_push]
    split at hb
    · simp at hb; subst hb; exact ⟨h.below.size, by simp⟩
    · obtain ⟨h1, h2⟩ := h.fresh i b hb; exact ⟨h1, by omega⟩
  · intro i j p q hi hj hb
    unfold Ren.with at hi hj
    split at hi <;> split at hj
    · exact .inl (by omega)
    · simp at hi; subst hi; have := (h.fresh _ _ hj).2; simp at hb; omega
    · simp at hj; subst hj; have := (h.fresh _ _ hi).2; simp at hb; omega
    · exact (h.inj _ _ _ _ hi hj hb).append
  · intro i b hb
    by_cases hi : i = H.length
    · subst hi
      simp only [Ren.with, if_true, Option.some.injEq] at hb
      subst hb
      exact ⟨o, ob, by simp, by simp, ho.mono hle⟩
    · have hb' : ρ i = some b := by simpa [Ren.with, hi] using hb
      obtain ⟨o', ob', h1, h2, h3⟩ := h.obj i b hb'
      have hlt := (h.fresh i b hb').2
      refine ⟨o', ob', ?_, ?_, h3.mono hle⟩
      · rw [List.getElem?_append_left]
        · exact h1
        · exact (List.getElem?_eq_some_iff.1 h1).1
      · show (w.heap.push ob)[b.b]? = _
        rw [Array.getElem?_push, if_neg (by omega)]
        exact h2

/-- No other name tells anything of this name's block. -/
def Own (ρ : Ren) (H : SHeap) (i : Nat) (p : Loc) : Prop := ∀ j q, ρ j = some q → q.b = p.b → j ≠ i → H[j]? = some .dead

 omit [Env] in
theorem Own.set {ρ : Ren} {H : SHeap} {i : Nat} {p : Loc} (h : Own ρ H i p) (o : SObj) : Own ρ (H.set i o) i p := fun j q hj hb hne => by
  rw [List.getElem?_set_ne (Ne.symm hne)]; exact h j q hj hb hne

theorem Rel.own {w0 : World} {ρ : Ren} {H : SHeap} {w : World} (h : Rel w0 ρ H w) {i : Nat} {p : Loc} (hi : ρ i = some p) {o0 : SObj} (h0 : H[i]? = some o0) (hno : ∀ l e sz g, o0 ≠ .row l e sz g) (hnd : o0 ≠ .dead) : Own ρ H i p :=
  fun j q hj hb hne => by
    rcases h.inj j i q p hj hi hb with e | ⟨l, e, sz, l', e', sz', g, hh | hh | hh⟩
    · exact absurd e hne
    · rw [h0] at hh; exact absurd (Option.some.inj hh.2) (hno _ _ _ _)
    · exact hh
    · rw [h0] at hh; exact absurd (Option.some.inj hh) hnd

/-- One named block, of which no other name tells anything, has turned. -/
theorem Rel.setObj {w0 : World} {ρ : Ren} {H : SHeap} {w w' : World} (h : Rel w0 ρ H w) {i : Nat} {p : Loc} (hi : ρ i = some p) (hshare : Own ρ H i p) {o : SObj} {ob : Obj} (ho : ObjRel ρ p o ob)
    (hos : w'.os = w.os) (htape : w'.tape = w.tape) (hout : w'.output = w.output) (hsize : w'.heap.size = w.heap.size)
    (hsame : ∀ k, k ≠ p.b → w'.heap[k]? = w.heap[k]?) (hnew : w'.heap[p.b]? = some ob) : Rel w0 ρ (H.set i o) w' := by
  obtain ⟨f1, f2⟩ := h.fresh i p hi
  have hlt := h.lt hi
  refine ⟨h.below.trans ⟨hos, htape, hout, by omega, fun k hk => hsame k (by omega)⟩, ?_, ?_, ?_⟩
  · intro j c hc
    rw [hsize]
    exact h.fresh j c hc
  · intro j k q r hj hk hb
    by_cases hji : j = i
    · by_cases hki : k = i
      · exact .inl (by omega)
      · subst hji
        have hq : q = p := Option.some.inj (hj.symm.trans hi)
        have := hshare k r hk (by rw [← hb, hq]) hki
        exact .inr ⟨[], 0, 0, [], 0, 0, 0, .inr (.inr (by rw [List.getElem?_set_ne (Ne.symm hki)]; exact this))⟩
    · by_cases hki : k = i
      · subst hki
        have hr : r = p := Option.some.inj (hk.symm.trans hi)
        have := hshare j q hj (by rw [hb, hr]) hji
        exact .inr ⟨[], 0, 0, [], 0, 0, 0, .inr (.inl (by rw [List.getElem?_set_ne (Ne.symm hji)]; exact this))⟩
      · rcases h.inj j k q r hj hk hb with e | ⟨l, e, sz, l', e', sz', g, hh⟩
        · exact .inl e
        · refine .inr ⟨l, e, sz, l', e', sz', g, ?_⟩
          rw [List.getElem?_set_ne (Ne.symm hji), List.getElem?_set_ne (Ne.symm hki)]
          exact hh
  · intro j c hc
    by_cases hji : j = i
    · subst hji
      have : c = p := by rw [hi] at hc; exact (Option.some.inj hc).symm
      subst this
      exact ⟨o, ob, by rw [List.getElem?_set_self hlt], hnew, ho⟩
    · obtain ⟨o', ob', h1, h2, h3⟩ := h.obj j c hc
      by_cases hb : c.b = p.b
      · have hd := hshare j c hc hb hji
        exact ⟨.dead, ob, by rw [List.getElem?_set_ne (Ne.symm hji)]; exact hd, by rw [hb]; exact hnew, trivial⟩
      · exact ⟨o', ob', by rw [List.getElem?_set_ne (Ne.symm hji)]; exact h1, by rw [hsame _ hb]; exact h2, h3⟩

/-- All rows of a group but one: nothing is told of them any more. -/
def killFrom (g i : Nat) : Nat → SHeap → SHeap
  | _, [] => []
  | k, o :: os => (match o with
    | .row l e sz g' => if g' = g ∧ k ≠ i then .dead else .row l e sz g'
    | o => o) :: killFrom g i (k + 1) os

 omit [Env] in
theorem killFrom_get {g i : Nat} : ∀ (H : SHeap) (k j : Nat), (killFrom g i k H)[j]? = (H[j]?).map fun o => match o with
    | .row l e sz g' => if g' = g ∧ k + j ≠ i then .dead else .row l e sz g'
    | o => o
  | [], k, j => by simp [killFrom]
  | o :: os, k, j => by
    cases j with
    | zero => simp [killFrom]
    | succ j =>
      simp only [killFrom, List.getElem?_cons_succ]
      rw [killFrom_get os (k + 1) j]
      rw [show k + 1 + j = k + (j + 1) by omega]

 omit [Env] in
theorem killFrom_len {g i : Nat} : ∀ (H : SHeap) (k : Nat), (killFrom g i k H).length = H.length
  | [], k => rfl
  | o :: os, k => by simp [killFrom, killFrom_len os (k + 1)]

 omit [Env] in
theorem killed_eq {g i j : Nat} {H : SHeap} {o : SObj} (h : H[j]? = some o) (hno : ∀ l e sz, o ≠ .row l e sz g) : (killFrom g i 0 H)[j]? = some o := by
  rw [killFrom_get, h]
  simp only [Option.map_some]
  cases o with
  | row l e sz g' =>
    have : g' ≠ g := fun e' => hno l e sz (by rw [e'])
    simp [this]
  | _ => rfl

 omit [Env] in
theorem killed_self {g i : Nat} {H : SHeap} {o : SObj} (h : H[i]? = some o) : (killFrom g i 0 H)[i]? = some o := by
  rw [killFrom_get, h]
  cases o <;> simp

 omit [Env] in
theorem killed_dead {g i j : Nat} {H : SHeap} {l : List SVal} {e sz : Nat} (h : H[j]? = some (.row l e sz g)) (hj : j ≠ i) : (killFrom g i 0 H)[j]? = some .dead := by
  rw [killFrom_get, h]
  simp [hj]

theorem Rel.kill {w0 : World} {ρ : Ren} {H : SHeap} {w : World} (h : Rel w0 ρ H w) (g i : Nat) : Rel w0 ρ (killFrom g i 0 H) w := by
  have tell : ∀ (j : Nat) (o : SObj), H[j]? = some o → (killFrom g i 0 H)[j]? = some o ∨ (killFrom g i 0 H)[j]? = some SObj.dead := fun j o hj => by
    by_cases hji : j = i
    · subst hji; exact .inl (killed_self hj)
    · cases o with
      | row l e sz g' =>
        by_cases hg : g' = g
        · subst hg; exact .inr (killed_dead hj hji)
        · exact .inl (killed_eq hj fun _ _ _ e' => hg (by cases e'; rfl))
      | _ => exact .inl (killed_eq hj fun _ _ _ e' => by cases e')
  refine ⟨h.below, h.fresh, fun j k q r hj hk hb => ?_, fun j q hj => ?_⟩
  · rcases h.inj j k q r hj hk hb with e | ⟨l, e, sz, l', e', sz', g', hh | hh | hh⟩
    · exact .inl e
    · rcases tell j _ hh.1 with h1 | h1
      · rcases tell k _ hh.2 with h2 | h2
        · exact .inr ⟨l, e, sz, l', e', sz', g', .inl ⟨h1, h2⟩⟩
        · exact .inr ⟨l, e, sz, l', e', sz', g', .inr (.inr h2)⟩
      · exact .inr ⟨l, e, sz, l', e', sz', g', .inr (.inl h1)⟩
    · rcases tell j _ hh with h1 | h1 <;> exact .inr ⟨l, e, sz, l', e', sz', g', .inr (.inl h1)⟩
    · rcases tell k _ hh with h1 | h1 <;> exact .inr ⟨l, e, sz, l', e', sz', g', .inr (.inr h1)⟩
  · obtain ⟨o, ob, h1, h2, h3⟩ := h.obj j q hj
    rcases tell j o h1 with h4 | h4
    · exact ⟨o, ob, h4, h2, h3⟩
    · exact ⟨.dead, ob, h4, h2, trivial⟩

theorem Rel.own_killed {w0 : World} {ρ : Ren} {H : SHeap} {w : World} (h : Rel w0 ρ H w) {i : Nat} {p : Loc} (hi : ρ i = some p) {l : List SVal} {e sz g : Nat} (h0 : H[i]? = some (.row l e sz g)) : Own ρ (killFrom g i 0 H) i p :=
  fun j q hj hb hne => by
    rcases h.inj j i q p hj hi hb with e | ⟨l, e, sz, l', e', sz', g', hh | hh | hh⟩
    · exact absurd e hne
    · rw [h0] at hh
      have := hh.2
      cases this
      exact killed_dead hh.1 hne
    · exact killed_eq hh fun _ _ _ e' => by cases e'
    · rw [h0] at hh; cases hh

 omit [Env] in
theorem Ext.kill {ρ : Ren} {H : SHeap} (g i : Nat) : Ext ρ H ρ (killFrom g i 0 H) := fun j _ => ⟨rfl, fun _ l e fz h => killed_eq h fun _ _ _ e' => by cases e'⟩

/-- The pure part of a Sem. -/
def pureRun {α : Type} (p : Program) : Sem α → Option α
  | .pure a => some a
  | .program k => pureRun p (k p)
  | .mark _ k => pureRun p k
  | _ => none

 omit [Env] in
theorem run_of_pure {α : Type} {p : Program} : ∀ {s : Sem α} {a : α}, pureRun p s = some a → ∀ w, s.run p w = .ok a w
  | .pure a, b, h, w => by simp [pureRun] at h; subst h; rfl
  | .program k, b, h, w => by simp only [pureRun] at h; simp only [Sem.run]; exact run_of_pure h w
  | .mark m k, b, h, w => by simp only [pureRun] at h; simp only [Sem.run]; exact run_of_pure h w
  | .load _ _ _, b, h, w => by simp [pureRun] at h
  | .store _ _ _ _, b, h, w => by simp [pureRun] at h
  | .new _ _, b, h, w => by simp [pureRun] at h
  | .shape _ _, b, h, w => by simp [pureRun] at h
  | .freeze _ _ _, b, h, w => by simp [pureRun] at h
  | .frozen _ _, b, h, w => by simp [pureRun] at h
  | .getObj _ _, b, h, w => by simp [pureRun] at h
  | .setObj _ _ _, b, h, w => by simp [pureRun] at h
  | .choose _ _, b, h, w => by simp [pureRun] at h
  | .sys _ _, b, h, w => by simp [pureRun] at h
  | .halt _, b, h, w => by simp [pureRun] at h

 omit [Env] in
/-- What is run behind a bind. -/
theorem run_bind {α β : Type} {p : Program} (k : α → Sem β) : ∀ (s : Sem α) (w : World), (s.bind k).run p w = match s.run p w with
    | .ok a w' => (k a).run p w'
    | .halt h w' => .halt h w' := by
  intro s
  induction s with
  | pure a => intro w; rfl
  | load m a k' ih =>
    intro w
    simp only [Sem.bind, Sem.run]
    split
    · exact ih _ _
    · split
      · exact ih _ _
      · rfl
  | store m a v k' ih =>
    intro w
    cases v <;> simp only [Sem.bind, Sem.run] <;> (repeat' split) <;> first | exact ih _ | rfl | simp_all
  | new o k' ih => intro w; simp only [Sem.bind, Sem.run]; exact ih _ _
  | shape r k' ih => intro w; simp only [Sem.bind, Sem.run]; exact ih _ _
  | freeze a n k' ih => intro w; simp only [Sem.bind, Sem.run]; exact ih _
  | frozen a k' ih => intro w; simp only [Sem.bind, Sem.run]; exact ih _ _
  | getObj r k' ih =>
    intro w
    simp only [Sem.bind, Sem.run]
    split <;> first | exact ih _ _ | rfl
  | setObj r o k' ih =>
    intro w
    simp only [Sem.bind, Sem.run]
    split <;> first | exact ih _ | rfl
  | choose q k' ih =>
    intro w
    simp only [Sem.bind, Sem.run]
    split <;> exact ih _ _
  | sys c k' ih => intro w; simp only [Sem.bind, Sem.run]; exact ih _ _
  | program k' ih => intro w; simp only [Sem.bind, Sem.run]; exact ih _ _
  | mark m k' ih => intro w; simp only [Sem.bind, Sem.run]; exact ih _
  | halt h => intro w; rfl

 omit [Env] in
theorem run_bind_ok {α β : Type} {p : Program} {k : α → Sem β} {s : Sem α} {w w' : World} {a : α} (h : s.run p w = .ok a w') : (s >>= k).run p w = (k a).run p w' := by
  show (s.bind k).run p w = _
  rw [run_bind, h]

 omit [Env] in
theorem run_bind_pure {α β : Type} {p : Program} {k : α → Sem β} {s : Sem α} {w : World} {a : α} (h : pureRun p s = some a) : (s >>= k).run p w = (k a).run p w :=
  run_bind_ok (run_of_pure h w)

end
end Go.RX
