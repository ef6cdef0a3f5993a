import Derived.Orders
import Derived.LoopN
import Derived.Scope
import Derived.Below
import Derived.RangeFuncRecord
import Derived.IntWalk
import Derived.Tactics
import Derived.TacticsIn
import Derived.RangeFuncLeaves
import Derived.OrdersIn
import Derived.LoopNIn
import Derived.Still
import Derived.Laws.Sem
namespace Go.RX
noncomputable section
open Go.RowKit (Below)

/-- Expressions of integers over named integers; `bin`, `sh` and `cv` are what the model's operations compute. -/
inductive IE where
  | var (i : Nat)
  | lit (n : Int)
  | bin (op : BinOp) (k : IntKind) (a b : IE)
  | sh (op : BinOp) (k : IntKind) (a b : IE)
  | cv (k : IntKind) (a : IE)
  | tri (t : Nat) (a b c : IE)
  deriving Inhabited

/-- What stands for a value that is not known by its numeral: a name, or an expression of a kind of integers. -/
inductive Sy where
  | nm (i : Nat)
  | int (k : IntKind) (e : IE)
  deriving Inhabited

/-- Values with names for the blocks that the run has made: `ptr i off` points into the block named i. -/
inductive SVal where
  | v (x : Value)
  | ptr (i off : Nat)
  | slice (i off len cap : Nat)
  | row (i off eoff len : Nat)
  | agg (l : List SVal)
  | tuple (l : List SVal)
  | func (fn : Fn) (first cap : List SVal)
  | iface (t : TypeId) (x : SVal)
  | yield (i : Nat)
  | map (i : Nat)
  | sym (i : Sy)
  deriving Inhabited

/-- What is not known by its numeral: the values that `sym` stands for; what is known of operations on them (the value that one yields; where a key stands in a map, or that it is not there). -/
def bare (ks : List (Value × Nat)) : List MapEntry := ks.map fun k => { key := k.1, val := undef, born := k.2 }

class Env where
  val : Sy → Value
  flat : ∀ i, match val i with
    | .agg _ | .tuple _ => False
    | _ => True
  fact : Op → List SVal → Option SVal
  key : Sy → List (Value × Nat) → Option (Option Nat)
  keyOk : ∀ i ks r, key i ks = some r → Instr.findNow .string (val i) (bare ks) 0 = some (r.map fun j => (j, undef))


variable [Env]

/-- Where a name's block lies; and, of a row that an append has made, how many elements it has room for. -/
structure Loc where
  b : Nat
  c : Nat

abbrev Ren := Nat → Option Loc

mutual
def den (ρ : Ren) : SVal → Option Value
  | .v x => some x
  | .ptr i off => match ρ i with
    | some p => some (.pointer (some ⟨p.b, off, none⟩))
    | none => none
  | .slice i off len cap => match ρ i with
    | some p => some (.slice (some ⟨p.b, off, none⟩) len cap)
    | none => none
  | .row i off eoff len => match ρ i with
    | some p => if eoff + len ≤ p.c then some (.slice (some ⟨p.b, off, none⟩) len (p.c - eoff)) else none
    | none => none
  | .agg l => match denL ρ l with
    | some vs => some (.agg vs.toArray)
    | none => none
  | .tuple l => match denL ρ l with
    | some vs => some (.tuple vs.toArray)
    | none => none
  | .func fn f c => match denL ρ f, denL ρ c with
    | some a, some b => some (.func fn a.toArray b.toArray)
    | _, _ => none
  | .iface t x => match den ρ x with
    | some a => some (.iface t a)
    | none => none
  | .yield i => match ρ i with
    | some p => some (.func (.yield p.b) #[] #[])
    | none => none
  | .map i => match ρ i with
    | some p => some (.map (some p.b))
    | none => none
  | .sym i => some (Env.val i)
def denL (ρ : Ren) : List SVal → Option (List Value)
  | [] => some []
  | x :: xs => match den ρ x, denL ρ xs with
    | some a, some b => some (a :: b)
    | _, _ => none
end

def Ren.le (ρ ρ' : Ren) : Prop := ∀ i b, ρ i = some b → ρ' i = some b
 omit [Env] in
theorem Ren.le.refl (ρ : Ren) : ρ.le ρ := fun _ _ h => h
 omit [Env] in
theorem Ren.le.trans {a b c : Ren} (h : a.le b) (k : b.le c) : a.le c := fun _ _ e => k _ _ (h _ _ e)

mutual
theorem den_mono {ρ ρ' : Ren} (h : ρ.le ρ') : ∀ (x : SVal) {a : Value}, den ρ x = some a → den ρ' x = some a
  | .v x, a, e => by simpa [den] using e
  | .ptr i off, a, e => by
    simp only [den] at e ⊢
    cases hi : ρ i with
    | none => simp [hi] at e
    | some b => simp only [hi] at e; rw [h _ _ hi]; exact e
  | .slice i off len cap, a, e => by
    simp only [den] at e ⊢
    cases hi : ρ i with
    | none => simp [hi] at e
    | some b => simp only [hi] at e; rw [h _ _ hi]; exact e
  | .row i off eoff len, a, e => by
    simp only [den] at e ⊢
    cases hi : ρ i with
    | none => simp [hi] at e
    | some b => simp only [hi] at e; rw [h _ _ hi]; exact e
  | .agg l, a, e => by
    simp only [den] at e ⊢
    cases hi : denL ρ l with
    | none => simp [hi] at e
    | some b => simp only [hi] at e; rw [denL_mono h l hi]; exact e
  | .tuple l, a, e => by
    simp only [den] at e ⊢
    cases hi : denL ρ l with
    | none => simp [hi] at e
    | some b => simp only [hi] at e; rw [denL_mono h l hi]; exact e
  | .func fn f c, a, e => by
    simp only [den] at e ⊢
    cases hi : denL ρ f with
    | none => simp [hi] at e
    | some b =>
      cases hj : denL ρ c with
      | none => simp [hi, hj] at e
      | some d => simp only [hi, hj] at e; rw [denL_mono h f hi, denL_mono h c hj]; exact e
  | .iface t x, a, e => by
    simp only [den] at e ⊢
    cases hi : den ρ x with
    | none => simp [hi] at e
    | some b => simp only [hi] at e; rw [den_mono h x hi]; exact e
  | .yield i, a, e => by
    simp only [den] at e ⊢
    cases hi : ρ i with
    | none => simp [hi] at e
    | some b => simp only [hi] at e; rw [h _ _ hi]; exact e
  | .map i, a, e => by
    simp only [den] at e ⊢
    cases hi : ρ i with
    | none => simp [hi] at e
    | some b => simp only [hi] at e; rw [h _ _ hi]; exact e
  | .sym i, a, e => by simpa [den] using e
theorem denL_mono {ρ ρ' : Ren} (h : ρ.le ρ') : ∀ (l : List SVal) {a : List Value}, denL ρ l = some a → denL ρ' l = some a
  | [], a, e => by simpa [denL] using e
  | x :: xs, a, e => by
    simp only [denL] at e ⊢
    cases hi : den ρ x with
    | none => simp [hi] at e
    | some b =>
      cases hj : denL ρ xs with
      | none => simp [hi, hj] at e
      | some d => simp only [hi, hj] at e; rw [den_mono h x hi, denL_mono h xs hj]; exact e
end

theorem denL_cons {ρ : Ren} {x : SVal} {xs : List SVal} {l : List Value} : denL ρ (x :: xs) = some l ↔ ∃ a b, den ρ x = some a ∧ denL ρ xs = some b ∧ l = a :: b := by
  simp only [denL]
  cases hi : den ρ x with
  | none => simp
  | some a =>
    cases hj : denL ρ xs with
    | none => simp
    | some b => simp [eq_comm]

theorem denL_get {ρ : Ren} : ∀ {l : List SVal} {vs : List Value}, denL ρ l = some vs → ∀ (i : Nat) (x : SVal), l[i]? = some x → ∃ y, vs[i]? = some y ∧ den ρ x = some y
  | [], vs, _, i, x, hx => by simp at hx
  | y :: ys, vs, h, i, x, hx => by
    obtain ⟨a, b, ha, hb, rfl⟩ := denL_cons.1 h
    cases i with
    | zero => simp at hx; subst hx; exact ⟨a, by simp, ha⟩
    | succ i => simp at hx; simpa using denL_get hb i x hx

theorem denL_length {ρ : Ren} : ∀ {l : List SVal} {vs : List Value}, denL ρ l = some vs → vs.length = l.length
  | [], vs, h => by simp [denL] at h; subst h; rfl
  | y :: ys, vs, h => by
    obtain ⟨a, b, ha, hb, rfl⟩ := denL_cons.1 h
    simp [denL_length hb]

theorem denL_set {ρ : Ren} {x : SVal} {y : Value} (hx : den ρ x = some y) : ∀ {l : List SVal} {vs : List Value}, denL ρ l = some vs → ∀ i, denL ρ (l.set i x) = some (vs.set i y)
  | [], vs, h, i => by simp [denL] at h; subst h; simp [denL]
  | z :: zs, vs, h, i => by
    obtain ⟨a, b, ha, hb, rfl⟩ := denL_cons.1 h
    cases i with
    | zero => simp only [List.set_cons_zero]; exact denL_cons.2 ⟨y, b, hx, hb, rfl⟩
    | succ i => simp only [List.set_cons_succ]; exact denL_cons.2 ⟨a, b.set i y, ha, denL_set hx hb i, rfl⟩

theorem denL_append {ρ : Ren} {m : List SVal} {ws : List Value} (hm : denL ρ m = some ws) : ∀ {l : List SVal} {vs : List Value}, denL ρ l = some vs → denL ρ (l ++ m) = some (vs ++ ws)
  | [], vs, h => by simp [denL] at h; subst h; simpa using hm
  | z :: zs, vs, h => by
    obtain ⟨a, b, ha, hb, rfl⟩ := denL_cons.1 h
    exact denL_cons.2 ⟨a, b ++ ws, ha, denL_append hm hb, rfl⟩

theorem denL_drop {ρ : Ren} : ∀ (n : Nat) {l : List SVal} {vs : List Value}, denL ρ l = some vs → denL ρ (l.drop n) = some (vs.drop n)
  | 0, l, vs, h => by simpa using h
  | n + 1, [], vs, h => by simp [denL] at h; subst h; simp [denL]
  | n + 1, z :: zs, vs, h => by
    obtain ⟨a, b, ha, hb, rfl⟩ := denL_cons.1 h
    simpa using denL_drop n hb

theorem denL_take {ρ : Ren} : ∀ (n : Nat) {l : List SVal} {vs : List Value}, denL ρ l = some vs → denL ρ (l.take n) = some (vs.take n)
  | 0, l, vs, h => by simp [denL]
  | n + 1, [], vs, h => by simp [denL] at h; subst h; simp [denL]
  | n + 1, z :: zs, vs, h => by
    obtain ⟨a, b, ha, hb, rfl⟩ := denL_cons.1 h
    simp only [List.take_succ_cons]
    exact denL_cons.2 ⟨a, b.take n, ha, denL_take n hb, rfl⟩

theorem denL_map_v {ρ : Ren} : ∀ (l : List Value), denL ρ (l.map .v) = some l
  | [] => by simp [denL]
  | z :: zs => denL_cons.2 ⟨z, zs, by simp [den], denL_map_v zs, rfl⟩

theorem denL_replicate_v {ρ : Ren} (n : Nat) (x : Value) : denL ρ (List.replicate n (.v x)) = some (List.replicate n x) := by
  have := denL_map_v (ρ := ρ) (List.replicate n x)
  simpa using this


mutual
def vOf : SVal → Option Value
  | .v x => some x
  | .agg l => match vOfL l with
    | some vs => some (.agg vs.toArray)
    | none => none
  | .tuple l => match vOfL l with
    | some vs => some (.tuple vs.toArray)
    | none => none
  | .iface t x => match vOf x with
    | some a => some (.iface t a)
    | none => none
  | _ => none
def vOfL : List SVal → Option (List Value)
  | [] => some []
  | x :: xs => match vOf x with
    | none => none
    | some a => match vOfL xs with
      | none => none
      | some b => some (a :: b)
end

mutual
theorem den_of_vOf {ρ : Ren} : ∀ (x : SVal) {a : Value}, vOf x = some a → den ρ x = some a
  | .v x, a, e => by simpa [den, vOf] using e
  | .ptr i off, a, e => by simp [vOf] at e
  | .slice i off len cap, a, e => by simp [vOf] at e
  | .row i off eoff len, a, e => by simp [vOf] at e
  | .agg l, a, e => by
    simp only [den, vOf] at e ⊢
    cases hi : vOfL l with
    | none => simp [hi] at e
    | some b => simp only [hi] at e; rw [denL_of_vOfL l hi]; exact e
  | .tuple l, a, e => by
    simp only [den, vOf] at e ⊢
    cases hi : vOfL l with
    | none => simp [hi] at e
    | some b => simp only [hi] at e; rw [denL_of_vOfL l hi]; exact e
  | .func fn f c, a, e => by simp [vOf] at e
  | .iface t x, a, e => by
    simp only [den, vOf] at e ⊢
    cases hi : vOf x with
    | none => simp [hi] at e
    | some b => simp only [hi] at e; rw [den_of_vOf x hi]; exact e
  | .yield i, a, e => by simp [vOf] at e
  | .map i, a, e => by simp [vOf] at e
  | .sym i, a, e => by simp [vOf] at e
theorem denL_of_vOfL {ρ : Ren} : ∀ (l : List SVal) {a : List Value}, vOfL l = some a → denL ρ l = some a
  | [], a, e => by simpa [denL, vOfL] using e
  | x :: xs, a, e => by
    simp only [denL, vOfL] at e ⊢
    cases hi : vOf x with
    | none => simp [hi] at e
    | some b =>
      cases hj : vOfL xs with
      | none => simp [hi, hj] at e
      | some d => simp only [hi, hj] at e; rw [den_of_vOf x hi, denL_of_vOfL xs hj]; exact e
end

/-! ### Values without a name -/
mutual
def nf : SVal → Bool
  | .v _ => true
  | .sym _ => true
  | .agg l => nfL l
  | .tuple l => nfL l
  | .iface _ x => nf x
  | _ => false
def nfL : List SVal → Bool
  | [] => true
  | x :: xs => nf x && nfL xs
end

mutual
theorem den_nf {ρ ρ' : Ren} : ∀ (x : SVal), nf x = true → den ρ x = den ρ' x
  | .v x, _ => rfl
  | .sym i, _ => rfl
  | .agg l, h => by simp only [den]; rw [denL_nf l (by simpa [nf] using h)]
  | .tuple l, h => by simp only [den]; rw [denL_nf l (by simpa [nf] using h)]
  | .iface t x, h => by simp only [den]; rw [den_nf x (by simpa [nf] using h)]
  | .ptr i off, h => by simp [nf] at h
  | .slice i off len cap, h => by simp [nf] at h
  | .row i off eoff len, h => by simp [nf] at h
  | .func fn f c, h => by simp [nf] at h
  | .yield i, h => by simp [nf] at h
  | .map i, h => by simp [nf] at h
theorem denL_nf {ρ ρ' : Ren} : ∀ (l : List SVal), nfL l = true → denL ρ l = denL ρ' l
  | [], _ => rfl
  | x :: xs, h => by
    simp only [nfL, Bool.and_eq_true] at h
    simp only [denL]
    rw [den_nf x h.1, denL_nf xs h.2]
end

/-- Blocks that the run has made. `row`: of a row that an append has made, the first cells are known (sz: the cells of an element; rows that may share a block bear one group's number); `dead`: nothing is known. -/
inductive SObj where
  | cells (l : List SVal) (elem : TypeId) (fz : Nat × Nat)
  | row (l : List SVal) (elem : TypeId) (sz grp : Nat)
  | iter (s : ByteArray) (pos : Nat)
  | dead
  | map (ks : List (Value × Nat)) (vals : List SVal) (clock : Nat)
  | marks
  | loop (st : LoopState) (pend : Option Code) (tmps : List SVal) (ps : Array Tmp) (assign body : Code) (dj : Nat)
  deriving Inhabited

def entries (ks : List (Value × Nat)) (vs : List Value) : List MapEntry := List.zipWith (fun k v => { key := k.1, val := v, born := k.2 }) ks vs

def ObjRel (ρ : Ren) (p : Loc) : SObj → Obj → Prop
  | .cells l e fz, ob => ∃ vs, denL ρ l = some vs ∧ ob = .cells vs.toArray e fz
  | .row l e sz _, ob => ∃ vs, denL ρ l = some vs ∧ ∃ (rest : List Value) (fz : Nat × Nat), ob = .cells (vs ++ rest).toArray e fz ∧ (vs ++ rest).length = p.c * sz ∧ ∀ k, k < (vs ++ rest).length → (decide (fz.1 ≤ k) && decide (k < fz.2)) = false
  | .iter s pos, ob => ob = .stringIter s pos
  | .dead, _ => True
  | .map ks vals clock, ob => ∃ vs, denL ρ vals = some vs ∧ ks.length = vals.length ∧ ob = .map (entries ks vs).toArray clock
  | .marks, ob => ob = .deferred (some [])
  | .loop st pend tmps ps assign body dj, ob => ∃ (fn : FuncId) (vs : List Value) (pd : Loc), denL ρ tmps = some vs ∧ ρ dj = some pd ∧ ob = .loop { state := st, pending := pend, fn, tmps := vs.toArray, params := ps, assign, body, defers := pd.b }

theorem ObjRel.mono {ρ ρ' : Ren} (h : ρ.le ρ') {p : Loc} : ∀ {x : SObj} {a : Obj}, ObjRel ρ p x a → ObjRel ρ' p x a
  | .cells l _ _, _, ⟨vs, h1, h2⟩ => ⟨vs, denL_mono h l h1, h2⟩
  | .row l _ _ _, _, ⟨vs, h1, h2⟩ => ⟨vs, denL_mono h l h1, h2⟩
  | .iter _ _, _, hh => hh
  | .dead, _, _ => trivial
  | .map _ l _, _, ⟨vs, h1, h2⟩ => ⟨vs, denL_mono h l h1, h2⟩
  | .marks, _, hh => hh
  | .loop _ _ l _ _ _ _, _, ⟨fn, vs, pd, h1, h2, h3⟩ => ⟨fn, vs, pd, denL_mono h l h1, h _ _ h2, h3⟩

abbrev SHeap := List SObj

/-- May two names stand for one block? -/
def Alike (H : SHeap) (i j : Nat) : Prop := i = j ∨ ∃ l e sz l' e' sz' g, H[i]? = some (.row l e sz g) ∧ H[j]? = some (.row l' e' sz' g) ∨ H[i]? = some .dead ∨ H[j]? = some .dead

/-- The world w, made out of the world w0: what w0 held is there; the blocks that have names hold what the symbolic heap says. -/
structure Rel (w0 : World) (ρ : Ren) (H : SHeap) (w : World) : Prop where
  below : Below w0.heap.size w0 w
  fresh : ∀ i p, ρ i = some p → w0.heap.size ≤ p.b ∧ p.b < w.heap.size
  inj : ∀ i j p q, ρ i = some p → ρ j = some q → p.b = q.b → Alike H i j
  obj : ∀ i p, ρ i = some p → ∃ o ob, H[i]? = some o ∧ w.heap[p.b]? = some ob ∧ ObjRel ρ p o ob

theorem Rel.start (w : World) : Rel w (fun _ => none) [] w :=
  ⟨Below.refl _ _, fun _ _ h => by simp at h, fun _ _ _ _ h => by simp at h, fun _ _ h => by simp at h⟩

/-- The new name. -/
def Ren.with (ρ : Ren) (n : Nat) (p : Loc) : Ren := fun i => if i = n then some p else ρ i

theorem Rel.none_at {w0 : World} {ρ : Ren} {H : SHeap} {w : World} (h : Rel w0 ρ H w) {i : Nat} (hi : H.length ≤ i) : ρ i = none := by
  cases hr : ρ i with
  | none => rfl
  | some b =>
    obtain ⟨o, ob, ho, _⟩ := h.obj i b hr
    rw [List.getElem?_eq_none hi] at ho
    cases ho

theorem Rel.lt {w0 : World} {ρ : Ren} {H : SHeap} {w : World} (h : Rel w0 ρ H w) {i : Nat} {p : Loc} (hi : ρ i = some p) : i < H.length := by
  rcases Nat.lt_or_ge i H.length with h' | h'
  · exact h'
  · rw [h.none_at h'] at hi; cases hi

theorem Ren.le_with {w0 : World} {ρ : Ren} {H : SHeap} {w : World} (h : Rel w0 ρ H w) (p : Loc) : ρ.le (ρ.with H.length p) := by
  intro i c hc
  unfold Ren.with
  split
  · rename_i hi
    rw [h.none_at (by omega)] at hc
    cases hc
  · exact hc

/-- ρ' says the same of the first n names. -/
def Ren.ext (n : Nat) (ρ ρ' : Ren) : Prop := ∀ i, i < n → ρ' i = ρ i
 omit [Env] in
theorem Ren.ext_with (ρ : Ren) (n : Nat) (p : Loc) : Ren.ext n ρ (ρ.with n p) := fun i hi => by simp [Ren.with, show i ≠ n by omega]
theorem Ren.ext.le {w0 : World} {ρ ρ' : Ren} {H : SHeap} {w : World} (h : Ren.ext H.length ρ ρ') (hR : Rel w0 ρ H w) : ρ.le ρ' := fun i b hb => by
  rw [h i (hR.lt hb)]; exact hb

def SObj.isCells : SObj → Bool
  | .cells .. => true
  | _ => false

/-- What a step may turn: names that were there stay with their blocks; the cells that had a name, and no block, stay as they are. -/
def Ext (ρ : Ren) (H : SHeap) (ρ' : Ren) (H' : SHeap) : Prop := ∀ i, i < H.length → ρ' i = ρ i ∧ (ρ i = none → ∀ l e fz, H[i]? = some (.cells l e fz) → H'[i]? = some (.cells l e fz))
 omit [Env] in
theorem Ext.refl (ρ : Ren) (H : SHeap) : Ext ρ H ρ H := fun _ _ => ⟨rfl, fun _ _ _ _ h => h⟩
 omit [Env] in
theorem Ext.trans {a b c : Ren} {H H1 H2 : SHeap} (h : Ext a H b H1) (k : Ext b H1 c H2) (hm : H.length ≤ H1.length) : Ext a H c H2 := fun i hi => by
  obtain ⟨h1, h2⟩ := h i hi
  obtain ⟨k1, k2⟩ := k i (by omega)
  exact ⟨k1.trans h1, fun hn l e fz hc => k2 (by rw [h1]; exact hn) l e fz (h2 hn l e fz hc)⟩
 omit [Env] in
theorem Ext.ext {ρ ρ' : Ren} {H H' : SHeap} (h : Ext ρ H ρ' H') : Ren.ext H.length ρ ρ' := fun i hi => (h i hi).1
theorem Ext.le {w0 : World} {ρ ρ' : Ren} {H H' : SHeap} {w : World} (h : Ext ρ H ρ' H') (hR : Rel w0 ρ H w) : ρ.le ρ' := h.ext.le hR
 omit [Env] in
theorem Ext.push (ρ : Ren) (H : SHeap) (p : Loc) (l : SHeap) : Ext ρ H (ρ.with H.length p) (H ++ l) := fun i hi => ⟨Ren.ext_with ρ _ _ i hi, fun _ l' e fz h => by rw [List.getElem?_append_left hi]; exact h⟩
 omit [Env] in
theorem Ext.set {ρ : Ren} {H : SHeap} {j : Nat} {p : Loc} (hj : ρ j = some p) (o : SObj) : Ext ρ H ρ (H.set j o) := fun i _ => ⟨rfl, fun hn l e fz h => by
  rw [List.getElem?_set_ne (fun e => by subst e; rw [hj] at hn; cases hn)]; exact h⟩

 omit [Env] in
theorem Alike.append {H K : SHeap} {i j : Nat} (h : Alike H i j) : Alike (H ++ K) i j := by
  have key : ∀ {i o}, H[i]? = some o → (H ++ K)[i]? = some o := fun {i o} hh => by rw [List.getElem?_append_left (List.getElem?_eq_some_iff.1 hh).1]; exact hh
  rcases h with h | ⟨l, e, sz, l', e', sz', g, h | h | h⟩
  · exact .inl h
  · exact .inr ⟨l, e, sz, l', e', sz', g, .inl ⟨key h.1, key h.2⟩⟩
  · exact .inr ⟨l, e, sz, l', e', sz', g, .inr (.inl (key h))⟩
  · exact .inr ⟨l, e, sz, l', e', sz', g, .inr (.inr (key h))⟩

theorem Rel.push {w0 : World} {ρ : Ren} {H : SHeap} {w : World} (h : Rel w0 ρ H w) {o : SObj} {ob : Obj} {c : Nat} (ho : ObjRel ρ ⟨w.heap.size, c⟩ o ob) :
    Rel w0 (ρ.with H.length ⟨w.heap.size, c⟩) (H ++ [o]) { w with heap := w.heap.push ob } := by
  have hle := Ren.le_with h ⟨w.heap.size, c⟩
  refine ⟨h.below.trans ⟨rfl, rfl, rfl, by simp, fun k hk => ?_⟩, ?_, ?_, ?_⟩
  · show (w.heap.push ob)[k]? = _
    rw [Array.getElem?_push, if_neg (by have := h.below.size; omega)]
  · intro i b hb
    unfold Ren.with at hb
    simp only [Array.size_push]
    split at hb
    · simp at hb; subst hb; exact ⟨h.below.size, by simp⟩
    · obtain ⟨h1, h2⟩ := h.fresh i b hb; exact ⟨h1, by omega⟩
  · intro i j p q hi hj hb
    unfold Ren.with at hi hj
    split at hi <;> split at hj
    · exact .inl (by omega)
    · simp at hi; subst hi; have := (h.fresh _ _ hj).2; simp at hb; omega
    · simp at hj; subst hj; have := (h.fresh _ _ hi).2; simp at hb; omega
    · exact (h.inj _ _ _ _ hi hj hb).append
  · intro i b hb
    by_cases hi : i = H.length
    · subst hi
      simp only [Ren.with, if_true, Option.some.injEq] at hb
      subst hb
      exact ⟨o, ob, by simp, by simp, ho.mono hle⟩
    · have hb' : ρ i = some b := by simpa [Ren.with, hi] using hb
      obtain ⟨o', ob', h1, h2, h3⟩ := h.obj i b hb'
      have hlt := (h.fresh i b hb').2
      refine ⟨o', ob', ?_, ?_, h3.mono hle⟩
      · rw [List.getElem?_append_left]
        · exact h1
        · exact (List.getElem?_eq_some_iff.1 h1).1
      · show (w.heap.push ob)[b.b]? = _
        rw [Array.getElem?_push, if_neg (by omega)]
        exact h2

/-- No other name tells anything of this name's block. -/
def Own (ρ : Ren) (H : SHeap) (i : Nat) (p : Loc) : Prop := ∀ j q, ρ j = some q → q.b = p.b → j ≠ i → H[j]? = some .dead

 omit [Env] in
theorem Own.set {ρ : Ren} {H : SHeap} {i : Nat} {p : Loc} (h : Own ρ H i p) (o : SObj) : Own ρ (H.set i o) i p := fun j q hj hb hne => by
  rw [List.getElem?_set_ne (Ne.symm hne)]; exact h j q hj hb hne

theorem Rel.own {w0 : World} {ρ : Ren} {H : SHeap} {w : World} (h : Rel w0 ρ H w) {i : Nat} {p : Loc} (hi : ρ i = some p) {o0 : SObj} (h0 : H[i]? = some o0) (hno : ∀ l e sz g, o0 ≠ .row l e sz g) (hnd : o0 ≠ .dead) : Own ρ H i p :=
  fun j q hj hb hne => by
    rcases h.inj j i q p hj hi hb with e | ⟨l, e, sz, l', e', sz', g, hh | hh | hh⟩
    · exact absurd e hne
    · rw [h0] at hh; exact absurd (Option.some.inj hh.2) (hno _ _ _ _)
    · exact hh
    · rw [h0] at hh; exact absurd (Option.some.inj hh) hnd

/-- One named block, of which no other name tells anything, has turned. -/
theorem Rel.setObj {w0 : World} {ρ : Ren} {H : SHeap} {w w' : World} (h : Rel w0 ρ H w) {i : Nat} {p : Loc} (hi : ρ i = some p) (hshare : Own ρ H i p) {o : SObj} {ob : Obj} (ho : ObjRel ρ p o ob)
    (hos : w'.os = w.os) (htape : w'.tape = w.tape) (hout : w'.output = w.output) (hsize : w'.heap.size = w.heap.size)
    (hsame : ∀ k, k ≠ p.b → w'.heap[k]? = w.heap[k]?) (hnew : w'.heap[p.b]? = some ob) : Rel w0 ρ (H.set i o) w' := by
  obtain ⟨f1, f2⟩ := h.fresh i p hi
  have hlt := h.lt hi
  refine ⟨h.below.trans ⟨hos, htape, hout, by omega, fun k hk => hsame k (by omega)⟩, ?_, ?_, ?_⟩
  · intro j c hc
    rw [hsize]
    exact h.fresh j c hc
  · intro j k q r hj hk hb
    by_cases hji : j = i
    · by_cases hki : k = i
      · exact .inl (by omega)
      · subst hji
        have hq : q = p := Option.some.inj (hj.symm.trans hi)
        have := hshare k r hk (by rw [← hb, hq]) hki
        exact .inr ⟨[], 0, 0, [], 0, 0, 0, .inr (.inr (by rw [List.getElem?_set_ne (Ne.symm hki)]; exact this))⟩
    · by_cases hki : k = i
      · subst hki
        have hr : r = p := Option.some.inj (hk.symm.trans hi)
        have := hshare j q hj (by rw [hb, hr]) hji
        exact .inr ⟨[], 0, 0, [], 0, 0, 0, .inr (.inl (by rw [List.getElem?_set_ne (Ne.symm hji)]; exact this))⟩
      · rcases h.inj j k q r hj hk hb with e | ⟨l, e, sz, l', e', sz', g, hh⟩
        · exact .inl e
        · refine .inr ⟨l, e, sz, l', e', sz', g, ?_⟩
          rw [List.getElem?_set_ne (Ne.symm hji), List.getElem?_set_ne (Ne.symm hki)]
          exact hh
  · intro j c hc
    by_cases hji : j = i
    · subst hji
      have : c = p := by rw [hi] at hc; exact (Option.some.inj hc).symm
      subst this
      exact ⟨o, ob, by rw [List.getElem?_set_self hlt], hnew, ho⟩
    · obtain ⟨o', ob', h1, h2, h3⟩ := h.obj j c hc
      by_cases hb : c.b = p.b
      · have hd := hshare j c hc hb hji
        exact ⟨.dead, ob, by rw [List.getElem?_set_ne (Ne.symm hji)]; exact hd, by rw [hb]; exact hnew, trivial⟩
      · exact ⟨o', ob', by rw [List.getElem?_set_ne (Ne.symm hji)]; exact h1, by rw [hsame _ hb]; exact h2, h3⟩

/-- All rows of a group but one: nothing is told of them any more. -/
def killFrom (g i : Nat) : Nat → SHeap → SHeap
  | _, [] => []
  | k, o :: os => (match o with
    | .row l e sz g' => if g' = g ∧ k ≠ i then .dead else .row l e sz g'
    | o => o) :: killFrom g i (k + 1) os

 omit [Env] in
theorem killFrom_get {g i : Nat} : ∀ (H : SHeap) (k j : Nat), (killFrom g i k H)[j]? = (H[j]?).map fun o => match o with
    | .row l e sz g' => if g' = g ∧ k + j ≠ i then .dead else .row l e sz g'
    | o => o
  | [], k, j => by simp [killFrom]
  | o :: os, k, j => by
    cases j with
    | zero => simp [killFrom]
    | succ j =>
      simp only [killFrom, List.getElem?_cons_succ]
      rw [killFrom_get os (k + 1) j]
      rw [show k + 1 + j = k + (j + 1) by omega]

 omit [Env] in
theorem killFrom_len {g i : Nat} : ∀ (H : SHeap) (k : Nat), (killFrom g i k H).length = H.length
  | [], k => rfl
  | o :: os, k => by simp [killFrom, killFrom_len os (k + 1)]

 omit [Env] in
theorem killed_eq {g i j : Nat} {H : SHeap} {o : SObj} (h : H[j]? = some o) (hno : ∀ l e sz, o ≠ .row l e sz g) : (killFrom g i 0 H)[j]? = some o := by
  rw [killFrom_get, h]
  simp only [Option.map_some]
  cases o with
  | row l e sz g' =>
    have : g' ≠ g := fun e' => hno l e sz (by rw [e'])
    simp [this]
  | _ => rfl

 omit [Env] in
theorem killed_self {g i : Nat} {H : SHeap} {o : SObj} (h : H[i]? = some o) : (killFrom g i 0 H)[i]? = some o := by
  rw [killFrom_get, h]
  cases o <;> simp

 omit [Env] in
theorem killed_dead {g i j : Nat} {H : SHeap} {l : List SVal} {e sz : Nat} (h : H[j]? = some (.row l e sz g)) (hj : j ≠ i) : (killFrom g i 0 H)[j]? = some .dead := by
  rw [killFrom_get, h]
  simp [hj]

theorem Rel.kill {w0 : World} {ρ : Ren} {H : SHeap} {w : World} (h : Rel w0 ρ H w) (g i : Nat) : Rel w0 ρ (killFrom g i 0 H) w := by
  have tell : ∀ (j : Nat) (o : SObj), H[j]? = some o → (killFrom g i 0 H)[j]? = some o ∨ (killFrom g i 0 H)[j]? = some SObj.dead := fun j o hj => by
    by_cases hji : j = i
    · subst hji; exact .inl (killed_self hj)
    · cases o with
      | row l e sz g' =>
        by_cases hg : g' = g
        · subst hg; exact .inr (killed_dead hj hji)
        · exact .inl (killed_eq hj fun _ _ _ e' => hg (by cases e'; rfl))
      | _ => exact .inl (killed_eq hj fun _ _ _ e' => by cases e')
  refine ⟨h.below, h.fresh, fun j k q r hj hk hb => ?_, fun j q hj => ?_⟩
  · rcases h.inj j k q r hj hk hb with e | ⟨l, e, sz, l', e', sz', g', hh | hh | hh⟩
    · exact .inl e
    · rcases tell j _ hh.1 with h1 | h1
      · rcases tell k _ hh.2 with h2 | h2
        · exact .inr ⟨l, e, sz, l', e', sz', g', .inl ⟨h1, h2⟩⟩
        · exact .inr ⟨l, e, sz, l', e', sz', g', .inr (.inr h2)⟩
      · exact .inr ⟨l, e, sz, l', e', sz', g', .inr (.inl h1)⟩
    · rcases tell j _ hh with h1 | h1 <;> exact .inr ⟨l, e, sz, l', e', sz', g', .inr (.inl h1)⟩
    · rcases tell k _ hh with h1 | h1 <;> exact .inr ⟨l, e, sz, l', e', sz', g', .inr (.inr h1)⟩
  · obtain ⟨o, ob, h1, h2, h3⟩ := h.obj j q hj
    rcases tell j o h1 with h4 | h4
    · exact ⟨o, ob, h4, h2, h3⟩
    · exact ⟨.dead, ob, h4, h2, trivial⟩

theorem Rel.own_killed {w0 : World} {ρ : Ren} {H : SHeap} {w : World} (h : Rel w0 ρ H w) {i : Nat} {p : Loc} (hi : ρ i = some p) {l : List SVal} {e sz g : Nat} (h0 : H[i]? = some (.row l e sz g)) : Own ρ (killFrom g i 0 H) i p :=
  fun j q hj hb hne => by
    rcases h.inj j i q p hj hi hb with e | ⟨l, e, sz, l', e', sz', g', hh | hh | hh⟩
    · exact absurd e hne
    · rw [h0] at hh
      have := hh.2
      cases this
      exact killed_dead hh.1 hne
    · exact killed_eq hh fun _ _ _ e' => by cases e'
    · rw [h0] at hh; cases hh

 omit [Env] in
theorem Ext.kill {ρ : Ren} {H : SHeap} (g i : Nat) : Ext ρ H ρ (killFrom g i 0 H) := fun j _ => ⟨rfl, fun _ l e fz h => killed_eq h fun _ _ _ e' => by cases e'⟩

/-- The pure part of a Sem. -/
def pureRun {α : Type} (p : Program) : Sem α → Option α
  | .pure a => some a
  | .program k => pureRun p (k p)
  | .mark _ k => pureRun p k
  | _ => none

 omit [Env] in
theorem run_of_pure {α : Type} {p : Program} : ∀ {s : Sem α} {a : α}, pureRun p s = some a → ∀ w, s.run p w = .ok a w
  | .pure a, b, h, w => by simp [pureRun] at h; subst h; rfl
  | .program k, b, h, w => by simp only [pureRun] at h; simp only [Sem.run]; exact run_of_pure h w
  | .mark m k, b, h, w => by simp only [pureRun] at h; simp only [Sem.run]; exact run_of_pure h w
  | .load _ _ _, b, h, w => by simp [pureRun] at h
  | .store _ _ _ _, b, h, w => by simp [pureRun] at h
  | .new _ _, b, h, w => by simp [pureRun] at h
  | .shape _ _, b, h, w => by simp [pureRun] at h
  | .freeze _ _ _, b, h, w => by simp [pureRun] at h
  | .frozen _ _, b, h, w => by simp [pureRun] at h
  | .getObj _ _, b, h, w => by simp [pureRun] at h
  | .setObj _ _ _, b, h, w => by simp [pureRun] at h
  | .choose _ _, b, h, w => by simp [pureRun] at h
  | .sys _ _, b, h, w => by simp [pureRun] at h
  | .halt _, b, h, w => by simp [pureRun] at h

 omit [Env] in
/-- What is run behind a bind. -/
theorem run_bind {α β : Type} {p : Program} (k : α → Sem β) : ∀ (s : Sem α) (w : World), (s.bind k).run p w = match s.run p w with
    | .ok a w' => (k a).run p w'
    | .halt h w' => .halt h w' := by
  intro s
  induction s with
  | pure a => intro w; rfl
  | load m a k' ih =>
    intro w
    simp only [Sem.bind, Sem.run]
    split
    · exact ih _ _
    · split
      · exact ih _ _
      · rfl
  | store m a v k' ih =>
    intro w
    cases v <;> simp only [Sem.bind, Sem.run] <;> (repeat' split) <;> first | exact ih _ | rfl | simp_all
  | new o k' ih => intro w; simp only [Sem.bind, Sem.run]; exact ih _ _
  | shape r k' ih => intro w; simp only [Sem.bind, Sem.run]; exact ih _ _
  | freeze a n k' ih => intro w; simp only [Sem.bind, Sem.run]; exact ih _
  | frozen a k' ih => intro w; simp only [Sem.bind, Sem.run]; exact ih _ _
  | getObj r k' ih =>
    intro w
    simp only [Sem.bind, Sem.run]
    split <;> first | exact ih _ _ | rfl
  | setObj r o k' ih =>
    intro w
    simp only [Sem.bind, Sem.run]
    split <;> first | exact ih _ | rfl
  | choose q k' ih =>
    intro w
    simp only [Sem.bind, Sem.run]
    split <;> exact ih _ _
  | sys c k' ih => intro w; simp only [Sem.bind, Sem.run]; exact ih _ _
  | program k' ih => intro w; simp only [Sem.bind, Sem.run]; exact ih _ _
  | mark m k' ih => intro w; simp only [Sem.bind, Sem.run]; exact ih _
  | halt h => intro w; rfl

 omit [Env] in
theorem run_bind_ok {α β : Type} {p : Program} {k : α → Sem β} {s : Sem α} {w w' : World} {a : α} (h : s.run p w = .ok a w') : (s >>= k).run p w = (k a).run p w' := by
  show (s.bind k).run p w = _
  rw [run_bind, h]

 omit [Env] in
theorem run_bind_pure {α β : Type} {p : Program} {k : α → Sem β} {s : Sem α} {w : World} {a : α} (h : pureRun p s = some a) : (s >>= k).run p w = (k a).run p w :=
  run_bind_ok (run_of_pure h w)

end
end Go.RX

namespace Go.RX
noncomputable section
open Go.RowKit (Below)

variable [Env]

def getSImpl (l : List SVal) (k : Nat) : SVal := l.getD k (.v undef)
/-- What stands at a place of a row: by the recursors themselves, for the kernel's sake. -/
def getS (l : List SVal) : Nat → SVal :=
  List.rec (motive := fun _ => Nat → SVal) (fun _ => .v undef) (fun x _ ih k => Nat.rec (motive := fun _ => SVal) x (fun k' _ => ih k') k) l
 omit [Env] in
theorem getS_eq : ∀ (l : List SVal) (k : Nat), getS l k = l.getD k (.v undef)
  | [], _ => rfl
  | _ :: _, 0 => rfl
  | _ :: xs, k + 1 => getS_eq xs k

def setSImpl (l : List SVal) (k : Nat) (y : SVal) : List SVal := l.set k y
def setS (l : List SVal) (k : Nat) (y : SVal) : List SVal :=
  List.rec (motive := fun _ => Nat → List SVal) (fun _ => []) (fun x xs ih k => Nat.rec (motive := fun _ => List SVal) (y :: xs) (fun k' _ => x :: ih k') k) l k
 omit [Env] in
theorem setS_eq : ∀ (l : List SVal) (k : Nat) (y : SVal), setS l k y = l.set k y
  | [], _, _ => rfl
  | _ :: _, 0, _ => rfl
  | x :: xs, k + 1, y => by
    show x :: setS xs k y = _
    rw [setS_eq xs k y]
    rfl

def seval (t : List SVal) : Operand → SVal
  | .tmp k => getS t k
  | .const v => .v v
  | .global g => .v (.pointer (some ⟨g, 0, none⟩))
  | .func f => .v (.func (.func f) #[] #[])

theorem den_seval {ρ : Ren} {t : List SVal} {a : Act} (h : denL ρ t = some a.tmps.toList) (x : Operand) : den ρ (seval t x) = some (a.eval x) := by
  cases x with
  | tmp k =>
    simp only [seval, Act.eval, getS_eq, List.getD_eq_getElem?_getD]
    cases hk : t[k]? with
    | none =>
      have hl := denL_length h
      have : a.tmps.size ≤ k := by
        have := List.getElem?_eq_none_iff.1 hk
        simp at hl
        omega
      simp [den, Array.getD, Nat.not_lt.2 this]
    | some y =>
      obtain ⟨z, hz, hd⟩ := denL_get h k y hk
      simp only [Option.getD_some]
      rw [hd]
      have hlt : k < a.tmps.size := by
        have := (List.getElem?_eq_some_iff.1 hz).1
        simpa using this
      have : a.tmps[k] = z := by
        have := (List.getElem?_eq_some_iff.1 hz).2
        simpa using this
      simp [Array.getD, hlt, this]
  | const v => rfl
  | global g => rfl
  | func f => rfl

inductive Res where
  | val (x : SVal) (H : SHeap)
  | skip (H : SHeap)
  | call (f : FuncId) (args : List SVal)
  | yld (i : Nat) (args : List SVal)
  deriving Inhabited

/-- What a call of yield answers: the next round of its loop. -/
def YldRes (ρ : Ren) (w : World) (i : Nat) (args : List SVal) (run : Result Next) : Prop :=
  ∃ (p : Loc) (vs : Array Value), ρ i = some p ∧ denL ρ args = some vs.toList ∧ ∀ r : Loop, w.heap[p.b]? = some (.loop r) → vs.size = r.params.size →
    run = .ok (.round p.b r.fn ((r.params.zip vs).foldl (fun tmps (t, a) => tmps.setIfInBounds t a) r.tmps) r.assign r.body) w

/-- What the machine's answer has to be. -/
def ResOk (w0 : World) (H : SHeap) (ρ : Ren) (w : World) (r : Res) (run : Result Next) : Prop :=
  match r with
  | .val x H' => ∃ ρ' v w', run = .ok (.value v) w' ∧ Ext ρ H ρ' H' ∧ den ρ' x = some v ∧ Rel w0 ρ' H' w'
  | .skip H' => ∃ ρ' w', run = .ok .skip w' ∧ Ext ρ H ρ' H' ∧ Rel w0 ρ' H' w'
  | .call f args => ∃ vs : Array Value, run = .ok (.enter f vs) w ∧ denL ρ args = some vs.toList
  | .yld i args => YldRes ρ w i args run

/-- A Sem that hands back one value. -/
def SemOk (w0 : World) (H : SHeap) (ρ : Ren) (x : SVal) (H' : SHeap) (run : Result Value) : Prop :=
  ∃ ρ' v w', run = .ok v w' ∧ Ext ρ H ρ' H' ∧ den ρ' x = some v ∧ Rel w0 ρ' H' w'

theorem ResOk.of_sem {w0 : World} {H : SHeap} {ρ : Ren} {w : World} {x : SVal} {H' : SHeap} {P : Program} {s : Sem Value} (h : SemOk w0 H ρ x H' (s.run P w)) :
    ResOk w0 H ρ w (.val x H') ((do pure (Next.value (← s)) : Sem Next).run P w) := by
  obtain ⟨ρ', v, w', h1, h2, h3, h4⟩ := h
  exact ⟨ρ', v, w', by rw [run_bind_ok h1]; rfl, h2, h3, h4⟩

def vEval (t : List SVal) (x : Operand) : Value := (vOf (seval t x)).getD undef

def notSelect : Op → Bool
  | .select _ _ => false
  | _ => true

inductive PRes where
  | val (x : SVal)
  | skip
  | call (f : FuncId) (args : List SVal)
  | yld (i : Nat) (args : List SVal)
  deriving Inhabited

def PRes.on (H : SHeap) : PRes → Res
  | .val x => .val x H
  | .skip => .skip H
  | .call f args => .call f args
  | .yld i args => .yld i args

/-- What the machine's answer has to be, at an operation that does not look at the heap. -/
def PResOk (ρ : Ren) (w : World) (r : PRes) (run : Result Next) : Prop :=
  match r with
  | .val x => ∃ v, run = .ok (.value v) w ∧ den ρ x = some v
  | .skip => run = .ok .skip w
  | .call f args => ∃ vs : Array Value, run = .ok (.enter f vs) w ∧ denL ρ args = some vs.toList
  | .yld i args => YldRes ρ w i args run

theorem PResOk.on {w0 : World} {H : SHeap} {ρ : Ren} {w : World} {r : PRes} {run : Result Next} (hR : Rel w0 ρ H w) (h : PResOk ρ w r run) : ResOk w0 H ρ w (r.on H) run := by
  cases r with
  | val x => obtain ⟨v, h1, h2⟩ := h; exact ⟨ρ, v, w, h1, Ext.refl _ _, h2, hR⟩
  | skip => exact ⟨ρ, w, h, Ext.refl _ _, hR⟩
  | call f args => exact h
  | yld i args => exact h

def PSemOk (ρ : Ren) (x : SVal) (w : World) (run : Result Value) : Prop := ∃ v, run = .ok v w ∧ den ρ x = some v

theorem PResOk.of_sem {ρ : Ren} {w : World} {x : SVal} {P : Program} {s : Sem Value} (h : PSemOk ρ x w (s.run P w)) :
    PResOk ρ w (.val x) ((do pure (Next.value (← s)) : Sem Next).run P w) := by
  obtain ⟨v, h1, h2⟩ := h
  exact ⟨v, by rw [run_bind_ok h1]; rfl, h2⟩

def pureOp (P : Program) (t : List SVal) (o : Oper) : Option PRes :=
  if o.op.operands.toList.all (fun x => (vOf (seval t x)).isSome) && notSelect o.op then
    match pureRun P (execOp (vEval t) o) with
    | some (.value x) => some (.val (.v x))
    | some .skip => some .skip
    | some (.enter f args) => some (.call f (args.toList.map .v))
    | _ => none
  else none

section
variable {P : Program} {w0 w : World} {ρ : Ren} {H : SHeap} {t : List SVal} {a : Act} {o : Oper}

theorem pureOp_ok (ht : denL ρ t = some a.tmps.toList) {r : PRes} (h : pureOp P t o = some r) : PResOk ρ w r ((execOp a.eval o).run P w) := by
  unfold pureOp at h
  split at h
  case isFalse => cases h
  case isTrue hc =>
    simp only [Bool.and_eq_true, List.all_eq_true] at hc
    obtain ⟨hall, hns⟩ := hc
    have he : execOp a.eval o = execOp (vEval t) o := by
      refine execOp_congr o (fun cs b e => by rw [e] at hns; cases hns) fun x hx => ?_
      have hx' := hall x (by simpa using hx)
      obtain ⟨v, hv⟩ := Option.isSome_iff_exists.1 hx'
      have h1 := den_of_vOf (ρ := ρ) _ hv
      rw [den_seval ht] at h1
      simp only [vEval, hv, Option.getD_some]
      exact Option.some.inj h1
    rw [he]
    split at h
    · rename_i x hp
      cases h
      exact ⟨x, run_of_pure hp w, by simp [den]⟩
    · rename_i hp
      cases h
      exact run_of_pure hp w
    · rename_i f args hp
      cases h
      exact ⟨args, run_of_pure hp w, denL_map_v _⟩
    · cases h

/-! ### Cells -/
def scells : SVal → List SVal
  | .agg l => l
  | .v (.agg cs) => cs.toList.map .v
  | x => [x]

theorem den_scells {x : SVal} {v : Value} (h : den ρ x = some v) : denL ρ (scells x) = some v.cells.toList := by
  cases x with
  | agg l =>
    simp only [den] at h
    cases hl : denL ρ l with
    | none => simp [hl] at h
    | some vs => simp only [hl, Option.some.injEq] at h; subst h; simpa [scells, Value.cells] using hl
  | v y =>
    simp only [den, Option.some.injEq] at h
    subst h
    cases y <;> simp [scells, Value.cells, denL, den, denL_map_v]
  | ptr i off =>
    simp only [den] at h
    split at h <;> simp at h
    subst h
    rename_i b hb
    simp [scells, Value.cells, denL, den, hb]
  | slice i off len cap =>
    simp only [den] at h
    split at h <;> simp at h
    subst h
    rename_i b hb
    simp [scells, Value.cells, denL, den, hb]
  | row i off eoff len =>
    have h' := h
    simp only [den] at h
    split at h
    · split at h <;> simp at h
      subst h
      simp [scells, Value.cells, denL, h']
    · cases h
  | tuple l =>
    simp only [den] at h
    split at h <;> simp at h
    subst h
    rename_i b hb
    simp [scells, Value.cells, denL, den, hb]
  | func fn f c =>
    simp only [den] at h
    split at h <;> simp at h
    subst h
    rename_i b d hb hd
    simp [scells, Value.cells, denL, den, hb, hd]
  | iface ty y =>
    simp only [den] at h
    split at h <;> simp at h
    subst h
    rename_i b hb
    simp [scells, Value.cells, denL, den, hb]
  | yield i => simp only [den] at h; split at h <;> simp at h; subst h; rename_i b hb; simp [scells, Value.cells, denL, den, hb]
  | map i => simp only [den] at h; split at h <;> simp at h; subst h; rename_i b hb; simp [scells, Value.cells, denL, den, hb]
  | sym i =>
    simp only [den, Option.some.injEq] at h
    subst h
    have := Env.flat i
    have hc : (Env.val i).cells = #[Env.val i] := by
      unfold Value.cells
      split
      · rename_i heq; rw [heq] at this; exact this.elim
      · rfl
    rw [hc]
    simp [scells, denL, den]

def mkAgg (l : List SVal) : SVal :=
  match vOfL l with
  | some vs => .v (.agg vs.toArray)
  | none => .agg l

theorem den_mkAgg {l : List SVal} {vs : List Value} (h : denL ρ l = some vs) : den ρ (mkAgg l) = some (.agg vs.toArray) := by
  unfold mkAgg
  split
  · rename_i us hu
    have := denL_of_vOfL (ρ := ρ) l hu
    rw [h] at this
    simp only [Option.some.injEq] at this
    simp [den, this]
  · simp [den, h]

def mkTuple (l : List SVal) : SVal :=
  match vOfL l with
  | some vs => .v (.tuple vs.toArray)
  | none => .tuple l

theorem den_mkTuple {l : List SVal} {vs : List Value} (h : denL ρ l = some vs) : den ρ (mkTuple l) = some (.tuple vs.toArray) := by
  unfold mkTuple
  split
  · rename_i us hu
    have := denL_of_vOfL (ρ := ρ) l hu
    rw [h] at this
    simp only [Option.some.injEq] at this
    simp [den, this]
  · simp [den, h]

/-- What is known of package-level variables: the cells of a variable's block. -/
abbrev Glob := Nat → Option (List Value)
def Glob.holds (G : Glob) (w : World) : Prop := ∀ g l, G g = some l → ∀ k v, l[k]? = some v → w.cell? ⟨g, k, none⟩ = some v

 omit [Env] in
theorem Glob.holds.later {G : Glob} {w0 w : World} (h : G.holds w0) (hb : Below w0.heap.size w0 w) : G.holds w := by
  intro g l hg k v hk
  have h1 := h g l hg k v hk
  have hlt : g < w0.heap.size := by
    unfold World.cell? at h1
    rcases Nat.lt_or_ge g w0.heap.size with h' | h'
    · exact h'
    · simp [Array.getElem?_eq_none h'] at h1
  rw [hb.cell (p := ⟨g, k, none⟩) hlt]
  exact h1

/-- The cells from an address on. -/
def cellsFrom (G : Glob) (H : SHeap) : SVal → Option (List SVal)
  | .ptr i off => match H[i]? with
    | some (.cells l _ _) => some (l.drop off)
    | some (.row l _ _ _) => some (l.drop off)
    | _ => none
  | .v (.pointer (some ⟨g, off, none⟩)) => match G g with
    | some l => some ((l.drop off).map .v)
    | none => none
  | _ => none

/-- The cells of a named block: those that are known, and what lies behind them. -/
theorem Rel.cells {i : Nat} {p : Loc} (hR : Rel w0 ρ H w) (hi : ρ i = some p) {o : SObj} (hH : H[i]? = some o) {l : List SVal} {e : TypeId} (ho : (∃ fz, o = .cells l e fz) ∨ ∃ sz g, o = .row l e sz g) :
    ∃ (vs rest : List Value) (fz : Nat × Nat), denL ρ l = some vs ∧ w.heap[p.b]? = some (.cells (vs ++ rest).toArray e fz) := by
  obtain ⟨o', ob, h1, h2, h3⟩ := hR.obj i p hi
  rw [hH] at h1
  cases h1
  rcases ho with ⟨fz, rfl⟩ | ⟨sz, g, rfl⟩
  · obtain ⟨vs, h4, rfl⟩ := h3
    exact ⟨vs, [], fz, h4, by simpa using h2⟩
  · obtain ⟨vs, h4, rest, fz, rfl, _⟩ := h3
    exact ⟨vs, rest, fz, h4, h2⟩

 omit [Env] in
theorem cell_known {b : Nat} {vs rest : List Value} {e : TypeId} {fz : Nat × Nat} (h : w.heap[b]? = some (.cells (vs ++ rest).toArray e fz)) {k : Nat} {u : Value} (hk : vs[k]? = some u) :
    w.cell? ⟨b, k, none⟩ = some u := by
  have hlt := (List.getElem?_eq_some_iff.1 hk).1
  simp only [World.cell?, h]
  simp [List.getElem?_append_left hlt, hk]

/-- The cells from an address on are there. -/
theorem cellsFrom_ok {G : Glob} (hG : G.holds w0) (hR : Rel w0 ρ H w) {x : SVal} {v : Value} (hx : den ρ x = some v) {l : List SVal} (hl : cellsFrom G H x = some l) :
    ∃ (a : Addr) (vs : List Value), v = .pointer (some a) ∧ a.spot = none ∧ denL ρ l = some vs ∧ ∀ k u, vs[k]? = some u → w.cell? { a with off := a.off + k } = some u := by
  unfold cellsFrom at hl
  split at hl
  · rename_i i off
    simp only [den] at hx
    split at hx <;> simp at hx
    rename_i p hb
    subst hx
    have fin : ∀ {o : SObj} {l' : List SVal} {e : TypeId}, H[i]? = some o → ((∃ fz, o = .cells l' e fz) ∨ ∃ sz g, o = .row l' e sz g) → l = l'.drop off →
        ∃ (a : Addr) (vs : List Value), Value.pointer (some ⟨p.b, off, none⟩) = .pointer (some a) ∧ a.spot = none ∧ denL ρ l = some vs ∧ ∀ k u, vs[k]? = some u → w.cell? { a with off := a.off + k } = some u := by
      intro o l' e hH ho hl'
      obtain ⟨vs, rest, fz, h1, h2⟩ := hR.cells hb hH ho
      refine ⟨⟨p.b, off, none⟩, vs.drop off, rfl, rfl, by rw [hl']; exact denL_drop off h1, fun k u hk => cell_known h2 (by simpa using hk)⟩
    split at hl
    · rename_i l' e fz hH
      exact fin hH (.inl ⟨fz, rfl⟩) (Option.some.inj hl).symm
    · rename_i l' e sz g hH
      exact fin hH (.inr ⟨sz, g, rfl⟩) (Option.some.inj hl).symm
    · cases hl
  · rename_i g off
    split at hl <;> simp at hl
    rename_i l' hg
    subst hl
    simp only [den, Option.some.injEq] at hx
    subst hx
    refine ⟨⟨g, off, none⟩, l'.drop off, rfl, rfl, by rw [← List.map_drop]; exact denL_map_v _, fun k u hk => ?_⟩
    exact (hG.later hR.below) g l' hg (off + k) u (by simpa using hk)
  · cases hl

 omit [Env] in
theorem addr_add (a : Addr) (n : Nat) (h : a.spot = none) : a.add n = { a with off := a.off + n } := by
  unfold Addr.add
  split
  · subst n; rfl
  · cases a; simp_all

 omit [Env] in
theorem loadCellsFrom_ok (a : Addr) (hs : a.spot = none) : ∀ (n i : Nat) (acc : Array Value) (vs : List Value), vs.length = n →
    (∀ k u, vs[k]? = some u → w.cell? { a with off := a.off + (i + k) } = some u) →
    (loadCellsFrom a i n acc).run P w = .ok (acc ++ vs.toArray) w
  | 0, i, acc, vs, hl, _ => by
    have : vs = [] := by simpa using hl
    subst this
    simp [loadCellsFrom, pure]
  | n + 1, i, acc, vs, hl, h => by
    cases vs with
    | nil => simp at hl
    | cons v vs =>
      have h0 := h 0 v (by simp)
      rw [loadCellsFrom]
      rw [run_bind_ok (a := v) (w' := w) (by
        simp only [load, Sem.run]
        rw [addr_add a i hs]
        simp only [Nat.add_zero] at h0
        rw [h0])]
      have := loadCellsFrom_ok a hs n (i + 1) (acc.push v) vs (by simpa using hl) (fun k u hk => by
        have := h (k + 1) u (by simpa using hk)
        rw [show i + 1 + k = i + (k + 1) by omega]
        exact this)
      rw [this]
      simp

 omit [Env] in
theorem loadCells_ok (a : Addr) (hs : a.spot = none) (n : Nat) (vs : List Value) (hl : vs.length = n)
    (h : ∀ k u, vs[k]? = some u → w.cell? { a with off := a.off + k } = some u) : (loadCells a n).run P w = .ok vs.toArray w := by
  unfold loadCells
  rw [loadCellsFrom_ok a hs n 0 #[] vs hl (fun k u hk => by rw [Nat.zero_add]; exact h k u hk)]
  simp

def loadE (P : Program) (G : Glob) (H : SHeap) (t : TypeId) (x : SVal) : Option SVal :=
  match cellsFrom G H x with
  | none => none
  | some l => match pureRun P (isAgg t) with
    | some false => match l with
      | [] => none
      | y :: _ => some y
    | some true => match pureRun P (sizeOf t) with
      | none => none
      | some n => if (l.take n).length = n then some (mkAgg (l.take n)) else none
    | none => none

theorem loadVar_ok {G : Glob} (hG : G.holds w0) (hR : Rel w0 ρ H w) {ty : TypeId} {x y : SVal} {v : Value} (hx : den ρ x = some v) (h : loadE P G H ty x = some y) :
    ∃ a u, v = .pointer (some a) ∧ (loadVar ty a).run P w = .ok u w ∧ den ρ y = some u := by
  unfold loadE at h
  split at h
  · cases h
  rename_i l hl
  obtain ⟨a, vs, rfl, hs, hd, hc⟩ := cellsFrom_ok hG hR hx hl
  refine ⟨a, ?_⟩
  unfold loadVar
  split at h
  · rename_i hag
    split at h
    · cases h
    rename_i y' l'
    simp only [Option.some.injEq] at h
    subst h
    obtain ⟨u, us, hu, _, rfl⟩ := denL_cons.1 hd
    refine ⟨u, rfl, ?_, hu⟩
    rw [run_bind_pure hag]
    have := hc 0 u (by simp)
    simp only [Nat.add_zero] at this
    simp [load, Sem.run, this]
  · rename_i hag
    split at h
    · cases h
    rename_i n hn
    split at h
    case isFalse => cases h
    rename_i hlen
    simp only [Option.some.injEq] at h
    subst h
    have hd' := denL_take n hd
    refine ⟨.agg (vs.take n).toArray, rfl, ?_, den_mkAgg hd'⟩
    rw [run_bind_pure hag]
    simp only [if_true]
    rw [run_bind_pure hn]
    rw [run_bind_ok (loadCells_ok a hs n (vs.take n) (by rw [denL_length hd']; exact hlen) (fun k u hk => hc k u (by
      rw [List.getElem?_take] at hk
      split at hk
      · exact hk
      · cases hk)))]
    rfl
  · cases h

theorem load_ok {G : Glob} (hG : G.holds w0) (hR : Rel w0 ρ H w) {ty : TypeId} {x y : SVal} {v : Value} (hx : den ρ x = some v) (h : loadE P G H ty x = some y) :
    SemOk w0 H ρ y H ((Instr.loadAt ty v).run P w) := by
  obtain ⟨a, u, rfl, h1, h2⟩ := loadVar_ok hG hR hx h
  refine ⟨ρ, u, w, ?_, Ext.refl _ _, h2, hR⟩
  unfold Instr.loadAt Instr.sureAddr
  exact h1

/-! ### A new row -/
theorem newRow_ok (hR : Rel w0 ρ H w) {l : List SVal} {vs : List Value} (hl : denL ρ l = some vs) (e : TypeId) :
    (newRow e vs.toArray).run P w = .ok ⟨w.heap.size, 0, none⟩ { w with heap := w.heap.push (.cells vs.toArray e (0, 0)) } ∧
    Ext ρ H (ρ.with H.length ⟨w.heap.size, 0⟩) (H ++ [.cells l e (0, 0)]) ∧ (ρ.with H.length ⟨w.heap.size, 0⟩) H.length = some ⟨w.heap.size, 0⟩ ∧
    Rel w0 (ρ.with H.length ⟨w.heap.size, 0⟩) (H ++ [.cells l e (0, 0)]) { w with heap := w.heap.push (.cells vs.toArray e (0, 0)) } := by
  refine ⟨rfl, Ext.push _ _ _ _, by simp [Ren.with], hR.push ⟨vs, hl, rfl⟩⟩

def allocE (P : Program) (H : SHeap) (e : TypeId) : Option Res :=
  match pureRun P (zeroValue e) with
  | some z => some (.val (.ptr H.length 0) (H ++ [.cells (z.cells.toList.map .v) e (0, 0)]))
  | none => none

theorem newVar_ok (hR : Rel w0 ρ H w) {x : SVal} {v : Value} (hx : den ρ x = some v) (e : TypeId) :
    SemOk w0 H ρ (.ptr H.length 0) (H ++ [.cells (scells x) e (0, 0)]) ((do pure (.pointer (some (← newVar e v))) : Sem Value).run P w) := by
  obtain ⟨h1, h2, h3, h4⟩ := newRow_ok (P := P) hR (den_scells hx) e
  refine ⟨_, .pointer (some ⟨w.heap.size, 0, none⟩), _, ?_, h2, by simp only [den, h3], h4⟩
  unfold newVar
  rw [run_bind_ok (a := (⟨w.heap.size, 0, none⟩ : Addr)) (by rw [Array.toArray_toList] at h1; exact h1)]
  simp only [Array.toArray_toList]
  rfl

theorem alloc_ok (hR : Rel w0 ρ H w) {e : TypeId} {r : Res} (h : allocE P H e = some r) : ∃ x H', r = .val x H' ∧ SemOk w0 H ρ x H' ((Instr.alloc e true (.tuple #[])).run P w) := by
  unfold allocE at h
  split at h
  · rename_i z hz
    cases h
    refine ⟨_, _, rfl, ?_⟩
    have := newVar_ok (P := P) hR (x := .v z) (v := z) (by simp [den]) e
    have e1 : scells (.v z) = z.cells.toList.map .v := by cases z <;> simp [scells, Value.cells]
    rw [e1] at this
    unfold Instr.alloc
    rw [run_bind_pure hz]
    exact this
  · cases h

/-! ### A store -/
def oneV : Value → Bool
  | .agg _ | .tuple _ => false
  | _ => true

def sOne : SVal → Bool
  | .v x => oneV x
  | .agg _ | .tuple _ => false
  | _ => true

theorem oneCell_of_sOne {x : SVal} {v : Value} (hx : den ρ x = some v) (h : sOne x = true) : oneV v = true := by
  cases x with
  | v y => simp only [den, Option.some.injEq] at hx; subst hx; exact h
  | agg l => cases h
  | tuple l => cases h
  | ptr i off => simp only [den] at hx; split at hx <;> simp at hx; subst hx; rfl
  | slice i off len cap => simp only [den] at hx; split at hx <;> simp at hx; subst hx; rfl
  | row i off eoff len =>
    simp only [den] at hx
    split at hx
    · split at hx <;> simp at hx
      subst hx; rfl
    · cases hx
  | func fn f c => simp only [den] at hx; split at hx <;> simp at hx; subst hx; rfl
  | iface ty y => simp only [den] at hx; split at hx <;> simp at hx; subst hx; rfl
  | yield i => simp only [den] at hx; split at hx <;> simp at hx; subst hx; rfl
  | map i => simp only [den] at hx; split at hx <;> simp at hx; subst hx; rfl
  | sym i =>
    simp only [den, Option.some.injEq] at hx
    subst hx
    have := Env.flat i
    unfold oneV
    split
    · rename_i heq; rw [heq] at this; exact this.elim
    · rename_i heq; rw [heq] at this; exact this.elim
    · rfl

def setMany (l : List SVal) (off : Nat) : List SVal → List SVal
  | [] => l
  | x :: xs => setMany (l.set off x) (off + 1) xs

 omit [Env] in
theorem setMany_length : ∀ (xs : List SVal) (l : List SVal) (off : Nat), (setMany l off xs).length = l.length
  | [], l, off => rfl
  | x :: xs, l, off => by rw [setMany, setMany_length]; simp

/-- The two makes of a row of cells that may be written. -/
inductive RowMk (e : TypeId) : (List SVal → SObj) → Prop where
  | cells : RowMk e (fun l => .cells l e (0, 0))
  | row (sz g : Nat) : RowMk e (fun l => .row l e sz g)

theorem RowMk.open {e : TypeId} {mk : List SVal → SObj} (h : RowMk e mk) {p : Loc} {l : List SVal} {ob : Obj} (ho : ObjRel ρ p (mk l) ob) :
    ∃ (vs rest : List Value) (fz : Nat × Nat), denL ρ l = some vs ∧ ob = .cells (vs ++ rest).toArray e fz ∧ (∀ k, k < vs.length → (decide (fz.1 ≤ k) && decide (k < fz.2)) = false) ∧
      ∀ vs' l', vs'.length = vs.length → denL ρ l' = some vs' → ObjRel ρ p (mk l') (.cells (vs' ++ rest).toArray e fz) := by
  cases h with
  | cells =>
    obtain ⟨vs, h1, rfl⟩ := ho
    exact ⟨vs, [], (0, 0), h1, by simp, fun k _ => by simp, fun vs' l' _ hd => ⟨vs', hd, by simp⟩⟩
  | row sz g =>
    obtain ⟨vs, h1, rest, fz, rfl, h3, h4⟩ := ho
    refine ⟨vs, rest, fz, h1, rfl, fun k hk => h4 k (by simp; omega), fun vs' l' hl hd => ⟨vs', hd, rest, fz, rfl, ?_, ?_⟩⟩
    · simp only [List.length_append] at h3 ⊢; rw [hl]; exact h3
    · intro k hk; exact h4 k (by simp only [List.length_append] at hk ⊢; rw [← hl]; exact hk)

theorem store1_ok (hR : Rel w0 ρ H w) {i : Nat} {p : Loc} {off : Nat} (hi : ρ i = some p) (hown : Own ρ H i p) {l : List SVal} {e : TypeId} {mk : List SVal → SObj} (hmk : RowMk e mk) (hH : H[i]? = some (mk l)) (hoff : off < l.length) {x : SVal} {v : Value}
    (hx : den ρ x = some v) (h1 : sOne x = true) (m : Mode) (k : Sem Unit) :
    ∃ w', Rel w0 ρ (H.set i (mk (l.set off x))) w' ∧ (Sem.store m ⟨p.b, off, none⟩ v k).run P w = k.run P w' := by
  obtain ⟨o', ob, g1, g2, g3⟩ := hR.obj i p hi
  rw [hH] at g1
  cases g1
  obtain ⟨vs, rest, fz, hvs, rfl, hfr, hshut⟩ := hmk.open g3
  have hlen := denL_length hvs
  have hoff' : off < vs.length := by omega
  have hcell : w.cell? ⟨p.b, off, none⟩ = some (vs[off]'hoff') := cell_known g2 (by simp [hoff'])
  have hfz : w.frozen? ⟨p.b, off, none⟩ = false := by
    simp only [World.frozen?, g2]
    exact hfr off hoff'
  refine ⟨w.setCell ⟨p.b, off, none⟩ v, ?_, ?_⟩
  · have hsize : (w.setCell ⟨p.b, off, none⟩ v).heap.size = w.heap.size := by simp [World.setCell]
    refine hR.setObj hi hown (ob := .cells (vs.set off v ++ rest).toArray e fz) (hshut _ _ (by simp) (denL_set hx hvs off)) rfl rfl rfl hsize ?_ ?_
    · intro k hk
      exact Below.heap_setCell _ _ _ _ hk
    · simp only [World.setCell, Array.getElem?_modify, if_true, g2]
      simp [List.set_append_left _ _ hoff']
  · have ho := oneCell_of_sOne hx h1
    cases v <;> first | (simp [oneV] at ho; done) | (simp only [Sem.run, hcell, hfz]; rfl)

theorem storeCells_ok : ∀ (xs : List SVal) (vs : List Value) {H : SHeap} {w : World} (_ : Rel w0 ρ H w) {i : Nat} {p : Loc} {off j : Nat} (_ : ρ i = some p) (_ : Own ρ H i p) {l : List SVal} {e : TypeId} {mk : List SVal → SObj} (_ : RowMk e mk) (_ : H[i]? = some (mk l))
    (_ : off + j + xs.length ≤ l.length) (_ : denL ρ xs = some vs) (_ : xs.all sOne = true),
    ∃ w', Rel w0 ρ (H.set i (mk (setMany l (off + j) xs))) w' ∧ (storeCells ⟨p.b, off, none⟩ vs j).run P w = .ok () w'
  | [], vs, H, w, hR, i, p, off, j, hi, hown, l, e, mk, hmk, hH, hlen, hd, hall => by
    simp [denL] at hd
    subst hd
    refine ⟨w, ?_, rfl⟩
    have : H.set i (mk l) = H := by
      apply List.ext_getElem?
      intro k
      by_cases hk : k = i
      · subst hk
        rw [hH, List.getElem?_set_self (List.getElem?_eq_some_iff.1 hH).1]
      · rw [List.getElem?_set_ne (Ne.symm hk)]
    simp only [setMany]
    rw [this]
    exact hR
  | x :: xs, vs, H, w, hR, i, p, off, j, hi, hown, l, e, mk, hmk, hH, hlen, hd, hall => by
    obtain ⟨u, us, hu, hus, rfl⟩ := denL_cons.1 hd
    simp only [List.all_cons, Bool.and_eq_true] at hall
    simp only [List.length_cons] at hlen
    obtain ⟨w1, hR1, hrun⟩ := store1_ok (P := P) hR hi hown hmk hH (off := off + j) (by omega) hu hall.1 .plain (storeCells ⟨p.b, off, none⟩ us (j + 1))
    have hlt : i < H.length := (List.getElem?_eq_some_iff.1 hH).1
    obtain ⟨w2, hR2, hrun2⟩ := storeCells_ok xs us hR1 (off := off) (j := j + 1) hi (hown.set _) (l := l.set (off + j) x) hmk (by rw [List.getElem?_set_self hlt]) (by simp; omega) hus hall.2
    refine ⟨w2, ?_, ?_⟩
    · rw [List.set_set] at hR2
      simp only [setMany]
      rw [show off + j + 1 = off + (j + 1) by omega]
      exact hR2
    · rw [storeCells]
      show ((Sem.store .plain _ u (.pure ())).bind _).run P w = _
      rw [show (Addr.add ⟨p.b, off, none⟩ j) = ⟨p.b, off + j, none⟩ from addr_add _ _ rfl]
      simp only [Sem.bind]
      rw [hrun]
      exact hrun2

/-- Cells written from an offset on; where rows may share the block, the others are forgotten. -/
def writeE (H : SHeap) (i off : Nat) (xs : List SVal) : Option SHeap :=
  if xs.all sOne then
    match H[i]? with
    | some (.cells l e (0, 0)) => if off + xs.length ≤ l.length then some (H.set i (.cells (setMany l off xs) e (0, 0))) else none
    | some (.row l e sz g) => if off + xs.length ≤ l.length then some ((killFrom g i 0 H).set i (.row (setMany l off xs) e sz g)) else none
    | _ => none
  else none

 omit [Env] in
theorem writeE_len {i off : Nat} {xs : List SVal} {H' : SHeap} (h : writeE H i off xs = some H') : H'.length = H.length := by
  unfold writeE at h
  repeat' (split at h)
  all_goals first | (cases h; simp [killFrom_len]; done) | cases h

theorem writeE_ok (hR : Rel w0 ρ H w) {i : Nat} {p : Loc} (hi : ρ i = some p) {off : Nat} {xs : List SVal} {vs : List Value} (hxs : denL ρ xs = some vs) {H' : SHeap} (h : writeE H i off xs = some H') :
    ∃ w', Ext ρ H ρ H' ∧ Rel w0 ρ H' w' ∧ (storeCells ⟨p.b, off, none⟩ vs).run P w = .ok () w' := by
  unfold writeE at h
  split at h
  case isFalse => cases h
  rename_i hall
  split at h
  · rename_i l e hH
    split at h
    case isFalse => cases h
    rename_i hoff
    cases h
    obtain ⟨w', h1, h2⟩ := storeCells_ok (P := P) xs vs hR (off := off) (j := 0) hi (hR.own hi hH (fun _ _ _ _ e => by cases e) (fun e => by cases e)) .cells hH (by omega) hxs hall
    exact ⟨w', Ext.set hi _, h1, h2⟩
  · rename_i l e sz g hH
    split at h
    case isFalse => cases h
    rename_i hoff
    cases h
    obtain ⟨w', h1, h2⟩ := storeCells_ok (P := P) xs vs (hR.kill g i) (off := off) (j := 0) hi (hR.own_killed hi hH) (.row sz g) (killed_self hH) (by omega) hxs hall
    exact ⟨w', (Ext.kill g i).trans (Ext.set hi _) (by rw [killFrom_len]; exact Nat.le_refl _), h1, h2⟩
  · cases h

def storeE (P : Program) (H : SHeap) (ty : TypeId) (p x : SVal) : Option SHeap :=
  match p with
  | .ptr i off => match pureRun P (sizeOf ty) with
    | some n =>
      let xs := scells x
      if xs.length = n then writeE H i off xs else none
    | none => none
  | _ => none

theorem store_ok (hR : Rel w0 ρ H w) {ty : TypeId} {p x : SVal} {pv v : Value} (hp : den ρ p = some pv) (hx : den ρ x = some v) {H' : SHeap} (h : storeE P H ty p x = some H') :
    ∃ w', Ext ρ H ρ H' ∧ Rel w0 ρ H' w' ∧ (Instr.storeAt ty pv v).run P w = .ok () w' := by
  unfold storeE at h
  split at h
  case h_2 => cases h
  rename_i i off
  split at h
  case h_2 => cases h
  rename_i n hn
  simp only at h
  split at h
  case isFalse => cases h
  rename_i hlen
  simp only [den] at hp
  split at hp <;> simp at hp
  rename_i b hb
  subst hp
  have hd := den_scells hx
  obtain ⟨w', h0, h1, h2⟩ := writeE_ok (P := P) hR hb hd h
  refine ⟨w', h0, h1, ?_⟩
  unfold Instr.storeAt Instr.sureAddr storeVar
  have hsz : v.cells.size = n := by
    have := denL_length hd
    rw [hlen] at this
    simpa using this
  show ((sizeOf ty >>= fun s => _) : Sem Unit).run P w = _
  rw [run_bind_pure hn]
  simp only [hsz, ne_eq, not_true_eq_false, if_false]
  exact h2

end
end
end Go.RX

namespace Go.RX
noncomputable section
open Go.RowKit (Below)

variable [Env]

section
variable {P : Program} {w0 w : World} {ρ : Ren} {H : SHeap} {t : List SVal} {a : Act} {o : Oper}

 omit [Env] in
theorem run_pure_bind {α β : Type} (x : α) (k : α → Sem β) (w : World) : ((pure x : Sem α) >>= k).run P w = (k x).run P w := rfl

theorem PSemOk.here {x : SVal} {v : Value} {s : Sem Value} (hr : s.run P w = .ok v w) (hx : den ρ x = some v) : PSemOk ρ x w (s.run P w) := ⟨v, hr, hx⟩

theorem SemOk.here {x : SVal} {v : Value} {s : Sem Value} (hR : Rel w0 ρ H w) (hr : s.run P w = .ok v w) (hx : den ρ x = some v) : SemOk w0 H ρ x H (s.run P w) :=
  ⟨ρ, v, w, hr, Ext.refl _ _, hx, hR⟩

theorem den_ptr {i off : Nat} {v : Value} (h : den ρ (.ptr i off) = some v) : ∃ p, ρ i = some p ∧ v = .pointer (some ⟨p.b, off, none⟩) := by
  simp only [den] at h
  split at h <;> simp at h
  rename_i b hb
  exact ⟨b, hb, h.symm⟩

theorem den_slice {i off len cap : Nat} {v : Value} (h : den ρ (.slice i off len cap) = some v) : ∃ p, ρ i = some p ∧ v = .slice (some ⟨p.b, off, none⟩) len cap := by
  simp only [den] at h
  split at h <;> simp at h
  rename_i b hb
  exact ⟨b, hb, h.symm⟩

theorem den_row {i off eoff len : Nat} {v : Value} (h : den ρ (.row i off eoff len) = some v) : ∃ p, ρ i = some p ∧ eoff + len ≤ p.c ∧ v = .slice (some ⟨p.b, off, none⟩) len (p.c - eoff) := by
  simp only [den] at h
  split at h
  · rename_i p hp
    split at h <;> simp at h
    rename_i hle
    exact ⟨p, hp, hle, h.symm⟩
  · cases h

theorem den_agg {l : List SVal} {v : Value} (h : den ρ (.agg l) = some v) : ∃ vs, denL ρ l = some vs ∧ v = .agg vs.toArray := by
  simp only [den] at h
  split at h <;> simp at h
  rename_i b hb
  exact ⟨b, hb, h.symm⟩

theorem den_tuple {l : List SVal} {v : Value} (h : den ρ (.tuple l) = some v) : ∃ vs, denL ρ l = some vs ∧ v = .tuple vs.toArray := by
  simp only [den] at h
  split at h <;> simp at h
  rename_i b hb
  exact ⟨b, hb, h.symm⟩

/-! ### Addresses -/
def fieldOff (P : Program) (s : TypeId) (f : Nat) : Option Nat :=
  match pureRun P (underlying s) with
  | some (.struct fields) => match fields[f]? with
    | some fl => match pureRun P (sizeOf fl.type) with
      | some (_ + 1) => some fl.offset
      | _ => none
    | none => none
  | _ => none

def fieldAddrE (P : Program) (s : TypeId) (f : Nat) : SVal → Option SVal
  | .ptr i off => match fieldOff P s f with
    | some d => some (.ptr i (off + d))
    | none => none
  | _ => none

theorem fieldAddr_ok {s : TypeId} {f : Nat} {x y : SVal} {v : Value} (hx : den ρ x = some v) (h : fieldAddrE P s f x = some y) :
    PSemOk ρ y w ((Instr.fieldAt s v f).run P w) := by
  unfold fieldAddrE at h
  split at h
  case h_2 => cases h
  rename_i i off
  obtain ⟨b, hb, rfl⟩ := den_ptr hx
  unfold fieldOff at h
  split at h
  case h_2 => cases h
  rename_i d hd
  cases h
  split at hd
  case h_2 => cases hd
  rename_i fields hf
  split at hd
  case h_2 => cases hd
  rename_i fl hfl
  split at hd
  case h_2 => cases hd
  rename_i n hn
  cases hd
  refine PSemOk.here (v := .pointer (some ⟨b.b, off + fl.offset, none⟩)) ?_ (by simp only [den, hb])
  unfold Instr.fieldAt
  rw [run_bind_pure hf]
  simp only [hfl]
  unfold Instr.sureAddr
  rw [run_pure_bind]
  unfold fieldPlace
  rw [run_bind_ok (a := (⟨b.b, off + fl.offset, none⟩ : Addr)) (w' := w)]
  · rfl
  · rw [run_bind_pure hn]
    rw [if_neg (Nat.succ_ne_zero n), addr_add _ _ rfl]
    rfl

def indexAddrE (P : Program) (ty : TypeId) (ix : SVal) : SVal → Option SVal
  | .ptr i off => match ix with
    | .v (.int _ n) => match pureRun P (underlying ty) with
      | some (.array len elem) => match pureRun P (sizeOf elem) with
        | some sz => if 0 ≤ n ∧ n < (len : Int) then some (.ptr i (off + n.toNat * sz)) else none
        | none => none
      | _ => none
    | _ => none
  | .slice i off len _ => match ix with
    | .v (.int _ n) => match pureRun P (underlying ty) with
      | some (.slice elem) => match pureRun P (sizeOf elem) with
        | some sz => if 0 ≤ n ∧ n < (len : Int) then some (.ptr i (off + n.toNat * sz)) else none
        | none => none
      | _ => none
    | _ => none
  | .row i off _ len => match ix with
    | .v (.int _ n) => match pureRun P (underlying ty) with
      | some (.slice elem) => match pureRun P (sizeOf elem) with
        | some sz => if 0 ≤ n ∧ n < (len : Int) then some (.ptr i (off + n.toNat * sz)) else none
        | none => none
      | _ => none
    | _ => none
  | _ => none

theorem indexAddr_ok {ty : TypeId} {ix x y : SVal} {v iv : Value} (hx : den ρ x = some v) (hix : den ρ ix = some iv) (h : indexAddrE P ty ix x = some y) :
    PSemOk ρ y w ((Instr.indexAt ty v iv).run P w) := by
  unfold indexAddrE at h
  split at h
  case h_4 => cases h
  case h_1 i off =>
    split at h
    case h_2 => cases h
    rename_i k n
    split at h
    case h_2 => cases h
    rename_i len elem hu
    split at h
    case h_2 => cases h
    rename_i sz hsz
    split at h
    case isFalse => cases h
    rename_i hr
    cases h
    obtain ⟨b, hb, rfl⟩ := den_ptr hx
    simp only [den, Option.some.injEq] at hix
    subst hix
    refine PSemOk.here (v := .pointer (some ⟨b.b, off + n.toNat * sz, none⟩)) ?_ (by simp only [den, hb])
    unfold Instr.indexAt asIntOf
    rw [run_pure_bind]
    simp only
    rw [run_bind_pure hu]
    simp only [Instr.sureAddr]
    rw [run_pure_bind, run_pure_bind]
    rw [run_bind_pure hu]
    simp only [hr, and_self, if_true]
    rw [run_bind_pure hsz, addr_add _ _ rfl]
    rfl
  case h_2 i off len cap =>
    split at h
    case h_2 => cases h
    rename_i k n
    split at h
    case h_2 => cases h
    rename_i elem hu
    split at h
    case h_2 => cases h
    rename_i sz hsz
    split at h
    case isFalse => cases h
    rename_i hr
    cases h
    obtain ⟨b, hb, rfl⟩ := den_slice hx
    simp only [den, Option.some.injEq] at hix
    subst hix
    refine PSemOk.here (v := .pointer (some ⟨b.b, off + n.toNat * sz, none⟩)) ?_ (by simp only [den, hb])
    unfold Instr.indexAt asIntOf
    rw [run_pure_bind]
    simp only
    rw [run_bind_pure hu]
    simp only
    rw [run_pure_bind]
    rw [run_bind_pure hu]
    simp only [hr, and_self, if_true]
    rw [run_bind_pure hsz, addr_add _ _ rfl]
    rfl
  case h_3 i off eoff len =>
    split at h
    case h_2 => cases h
    rename_i k n
    split at h
    case h_2 => cases h
    rename_i elem hu
    split at h
    case h_2 => cases h
    rename_i sz hsz
    split at h
    case isFalse => cases h
    rename_i hr
    cases h
    obtain ⟨b, hb, _, rfl⟩ := den_row hx
    simp only [den, Option.some.injEq] at hix
    subst hix
    refine PSemOk.here (v := .pointer (some ⟨b.b, off + n.toNat * sz, none⟩)) ?_ (by simp only [den, hb])
    unfold Instr.indexAt asIntOf
    rw [run_pure_bind]
    simp only
    rw [run_bind_pure hu]
    simp only
    rw [run_pure_bind]
    rw [run_bind_pure hu]
    simp only [hr, and_self, if_true]
    rw [run_bind_pure hsz, addr_add _ _ rfl]
    rfl

def optV (t : List SVal) : Option Operand → Option (Option Value)
  | none => some none
  | some x => match seval t x with
    | .v y => some (some y)
    | _ => none

theorem optV_ok (ht : denL ρ t = some a.tmps.toList) {x : Option Operand} {y : Option Value} (h : optV t x = some y) : x.map a.eval = y := by
  cases x with
  | none => simp only [optV, Option.some.injEq] at h; subst h; rfl
  | some x =>
    have hd := den_seval ht x
    unfold optV at h
    split at h
    · rename_i heq; cases heq
    · rename_i z heq
      cases heq
      split at h
      · rename_i u hu
        rw [hu] at hd
        simp only [den, Option.some.injEq] at hd
        cases h
        simp [hd]
      · cases h

def natOr (d : Nat) : Option Value → Option Nat
  | none => some d
  | some (.int _ n) => if 0 ≤ n then some n.toNat else none
  | _ => none

def sliceE (P : Program) (ty : TypeId) (lo hi mx : Option Value) : SVal → Option SVal
  | .ptr i off => match pureRun P (underlying ty) with
    | some (.array n elem) => match pureRun P (Instr.sliceBounds false n n lo hi mx) with
      | some (l, h, m) => match pureRun P (sizeOf elem) with
        | some sz => some (if m = l then .slice i off (h - l) (m - l) else .slice i (off + l * sz) (h - l) (m - l))
        | none => none
      | none => none
    | _ => none
  | .slice i off len cap => match pureRun P (underlying ty) with
    | some (.slice elem) => match pureRun P (Instr.sliceBounds true len cap lo hi mx) with
      | some (l, h, m) => match pureRun P (sizeOf elem) with
        | some sz => some (if m = l then .slice i off (h - l) (m - l) else .slice i (off + l * sz) (h - l) (m - l))
        | none => none
      | none => none
    | _ => none
  | .row i off eoff len => match pureRun P (underlying ty), mx with
    | some (.slice elem), none => match natOr 0 lo, natOr len hi with
      | some l, some h => match pureRun P (sizeOf elem) with
        | some sz => if l ≤ h ∧ h ≤ len ∧ l < len then some (.row i (off + l * sz) (eoff + l) (h - l)) else none
        | none => none
      | _, _ => none
    | _, _ => none
  | _ => none

theorem slice_ok {ty : TypeId} {lo hi mx : Option Value} {x y : SVal} {v : Value} (hx : den ρ x = some v) (h : sliceE P ty lo hi mx x = some y) :
    PSemOk ρ y w ((Instr.sliceAt ty v lo hi mx).run P w) := by
  unfold sliceE at h
  split at h
  case h_4 => cases h
  case h_1 i off =>
    split at h
    case h_2 => cases h
    rename_i n elem hu
    split at h
    case h_2 => cases h
    rename_i l h' m hb
    split at h
    case h_2 => cases h
    rename_i sz hsz
    cases h
    obtain ⟨b, hρ, rfl⟩ := den_ptr hx
    refine PSemOk.here (v := .slice (some (if m = l then ⟨b.b, off, none⟩ else ⟨b.b, off + l * sz, none⟩)) (h' - l) (m - l)) ?_ ?_
    · unfold Instr.sliceAt Instr.sureAddr
      rw [run_bind_pure hu]
      simp only
      rw [run_pure_bind, run_bind_pure hb]
      simp only
      rw [run_bind_pure hsz, addr_add _ _ rfl]
      rfl
    · split <;> simp only [den, hρ]
  case h_2 i off len cap =>
    split at h
    case h_2 => cases h
    rename_i elem hu
    split at h
    case h_2 => cases h
    rename_i l h' m hb
    split at h
    case h_2 => cases h
    rename_i sz hsz
    cases h
    obtain ⟨b, hρ, rfl⟩ := den_slice hx
    refine PSemOk.here (v := .slice (some (if m = l then ⟨b.b, off, none⟩ else ⟨b.b, off + l * sz, none⟩)) (h' - l) (m - l)) ?_ ?_
    · unfold Instr.sliceAt
      rw [run_bind_pure hu]
      simp only
      unfold Instr.slice
      rw [run_bind_pure hu]
      simp only
      rw [run_bind_pure hb]
      simp only
      rw [run_bind_pure hsz]
      simp only [Option.map_some]
      rw [addr_add _ _ rfl]
      split <;> rfl
    · split <;> simp only [den, hρ]
  case h_3 i off eoff len =>
    split at h
    case h_2 => cases h
    rename_i elem hu
    split at h
    case h_2 => cases h
    rename_i l h' hl hh
    split at h
    case h_2 => cases h
    rename_i sz hsz
    split at h
    case isFalse => cases h
    rename_i hb
    cases h
    obtain ⟨p, hρ, hle, rfl⟩ := den_row hx
    have hbs : (Instr.sliceBounds true len (p.c - eoff) lo hi none).run P w = .ok (l, h', p.c - eoff) w := by
      have e1 : ∀ {d : Nat} {x : Option Value} {n : Nat}, natOr d x = some n → (x = none ∧ n = d) ∨ ∃ k m, x = some (.int k m) ∧ 0 ≤ m ∧ n = m.toNat := by
        intro d x n h
        unfold natOr at h
        split at h
        · cases h; exact .inl ⟨rfl, rfl⟩
        · rename_i k m
          split at h
          · rename_i hm; cases h; exact .inr ⟨k, m, rfl, hm, rfl⟩
          · cases h
        · cases h
      have sb : ∀ {k : IntKind} {m : Int} {y : Nat} {code : BoundsCode}, 0 ≤ m → m.toNat ≤ y → (Instr.sliceBound (.int k m) y code).run P w = .ok m.toNat w := by
        intro k m y code h0 h1
        simp only [Instr.sliceBound, asIntOf]
        rw [run_pure_bind]
        simp only
        rw [if_pos ⟨h0, by omega⟩]
        rfl
      unfold Instr.sliceBounds
      rw [run_pure_bind]
      rcases e1 hh with ⟨rfl, rfl⟩ | ⟨k, m, rfl, hm, rfl⟩ <;> rcases e1 hl with ⟨rfl, rfl⟩ | ⟨k', m', rfl, hm', rfl⟩ <;> simp only
      · rfl
      · rw [run_pure_bind, run_bind_ok (sb hm' (by omega))]; rfl
      · rw [run_bind_ok (sb hm (by omega))]; rfl
      · rw [run_bind_ok (sb hm (by omega)), run_bind_ok (sb hm' (by omega))]; rfl
    refine PSemOk.here (v := .slice (some ⟨p.b, off + l * sz, none⟩) (h' - l) (p.c - eoff - l)) ?_ ?_
    · unfold Instr.sliceAt
      rw [run_bind_pure hu]
      simp only
      unfold Instr.slice
      rw [run_bind_pure hu]
      simp only
      rw [run_bind_ok hbs]
      simp only
      rw [run_bind_pure hsz]
      simp only [Option.map_some]
      rw [addr_add _ _ rfl, if_neg (by omega)]
      rfl
    · simp only [den, hρ]
      rw [if_pos (by omega), Nat.sub_sub]

/-! ### Parts of aggregates -/
def partE (P : Program) (ty : TypeId) (l : List SVal) (off : Nat) : Option SVal :=
  match pureRun P (isAgg ty) with
  | some true => match pureRun P (sizeOf ty) with
    | some n => some (mkAgg ((l.drop off).take n))
    | none => none
  | some false => l[off]?
  | none => none

theorem part_ok {ty : TypeId} {l : List SVal} {vs : List Value} (hl : denL ρ l = some vs) {off : Nat} {y : SVal} (h : partE P ty l off = some y) :
    ∃ u, (part ty vs.toArray off).run P w = .ok u w ∧ den ρ y = some u := by
  unfold partE at h
  split at h
  · rename_i hag
    split at h
    case h_2 => cases h
    rename_i n hn
    cases h
    refine ⟨.agg ((vs.drop off).take n).toArray, ?_, den_mkAgg (denL_take n (denL_drop off hl))⟩
    unfold part
    rw [run_bind_pure hag]
    simp only [if_true]
    rw [run_bind_pure hn]
    show Result.ok _ _ = _
    congr 2
    apply Array.toList_inj.1
    simp [List.take_drop]
  · rename_i hag
    obtain ⟨u, hu, hd⟩ := denL_get hl off y h
    refine ⟨u, ?_, hd⟩
    unfold part
    rw [run_bind_pure hag]
    simp [hu]
  · cases h

def fieldE (P : Program) (s : TypeId) (f : Nat) : SVal → Option SVal
  | .agg l => match pureRun P (underlying s) with
    | some (.struct fields) => match fields[f]? with
      | some fl => partE P fl.type l fl.offset
      | none => none
    | _ => none
  | _ => none

theorem field_ok {s : TypeId} {f : Nat} {x y : SVal} {v : Value} (hx : den ρ x = some v) (h : fieldE P s f x = some y) :
    PSemOk ρ y w ((Instr.field s v f).run P w) := by
  unfold fieldE at h
  split at h
  case h_2 => cases h
  rename_i l
  split at h
  case h_2 => cases h
  rename_i fields hf
  split at h
  case h_2 => cases h
  rename_i fl hfl
  obtain ⟨vs, hvs, rfl⟩ := den_agg hx
  obtain ⟨u, hu, hd⟩ := part_ok (w := w) hvs h
  refine PSemOk.here (v := u) ?_ hd
  unfold Instr.field asAgg
  rw [run_bind_pure hf]
  simp only [hfl]
  rw [run_pure_bind]
  exact hu

def indexE (P : Program) (ty : TypeId) (ix : SVal) : SVal → Option SVal
  | .agg l => match ix with
    | .v (.int _ n) => match pureRun P (underlying ty) with
      | some (.array len elem) => match pureRun P (sizeOf elem) with
        | some sz => if 0 ≤ n ∧ n < (len : Int) then partE P elem l (n.toNat * sz) else none
        | none => none
      | _ => none
    | _ => none
  | _ => none

theorem index_ok {ty : TypeId} {ix x y : SVal} {v iv : Value} (hx : den ρ x = some v) (hix : den ρ ix = some iv) (h : indexE P ty ix x = some y) :
    PSemOk ρ y w ((Instr.index ty v iv).run P w) := by
  unfold indexE at h
  split at h
  case h_2 => cases h
  rename_i l
  split at h
  case h_2 => cases h
  rename_i k n
  split at h
  case h_2 => cases h
  rename_i len elem hu
  split at h
  case h_2 => cases h
  rename_i sz hsz
  split at h
  case isFalse => cases h
  rename_i hr
  obtain ⟨vs, hvs, rfl⟩ := den_agg hx
  simp only [den, Option.some.injEq] at hix
  subst hix
  obtain ⟨u, hu', hd⟩ := part_ok (w := w) hvs h
  refine PSemOk.here (v := u) ?_ hd
  unfold Instr.index asIntOf
  rw [run_pure_bind]
  simp only
  rw [run_bind_pure hu]
  simp only [hr, and_self, if_true]
  rw [run_bind_pure hsz]
  exact hu'

def extractE (ix : Nat) : SVal → Option SVal
  | .tuple l => l[ix]?
  | _ => none

theorem extract_ok {ix : Nat} {x y : SVal} {v : Value} (hx : den ρ x = some v) (h : extractE ix x = some y) : PSemOk ρ y w ((Instr.extract v ix).run P w) := by
  unfold extractE at h
  split at h
  case h_2 => cases h
  rename_i l
  obtain ⟨vs, hvs, rfl⟩ := den_tuple hx
  obtain ⟨u, hu, hd⟩ := denL_get hvs ix y h
  refine PSemOk.here (v := u) ?_ hd
  simp [Instr.extract, hu]

/-! ### Building -/
def sevalL (t : List SVal) (l : List Operand) : List SVal := l.map (seval t)

theorem denL_sevalL (ht : denL ρ t = some a.tmps.toList) : ∀ (l : List Operand), denL ρ (sevalL t l) = some (l.map a.eval)
  | [] => by simp [sevalL, denL]
  | x :: xs => denL_cons.2 ⟨a.eval x, xs.map a.eval, den_seval ht x, denL_sevalL ht xs, rfl⟩

theorem setMany_den : ∀ (xs : List SVal) (us : List Value) {l : List SVal} {vs : List Value} (off : Nat), denL ρ xs = some us → denL ρ l = some vs →
    denL ρ (setMany l off xs) = some ((us.zipIdx 0).foldl (fun cs (c, j) => cs.set (off + j) c) vs)
  | [], us, l, vs, off, h, hl => by simp [denL] at h; subst h; simpa [setMany] using hl
  | x :: xs, us, l, vs, off, h, hl => by
    obtain ⟨u, us', hu, hus, rfl⟩ := denL_cons.1 h
    simp only [setMany, List.zipIdx_cons, List.foldl_cons, Nat.add_zero]
    have := setMany_den xs us' (off + 1) hus (denL_set hu hl off)
    rw [this]
    congr 1
    have e : ∀ (ys : List Value) (k : Nat) (cs : List Value), (ys.zipIdx k).foldl (fun cs (c, j) => cs.set (off + 1 + j) c) cs = (ys.zipIdx (k + 1)).foldl (fun cs (c, j) => cs.set (off + j) c) cs := by
      intro ys
      induction ys with
      | nil => intro k cs; rfl
      | cons y ys ih =>
        intro k cs
        simp only [List.zipIdx_cons, List.foldl_cons]
        rw [show off + 1 + k = off + (k + 1) by omega]
        exact ih _ _
    exact e us' 0 _

def sfill (place : Nat → Option (Nat × Nat)) (cells : List SVal) : List (Nat × SVal) → Option (List SVal)
  | [] => some cells
  | (i, v) :: rest => match place i with
    | none => none
    | some (off, size) =>
      let xs := scells v
      if xs.length = size then
        if off + size ≤ cells.length then sfill place (setMany cells off xs) rest else none
      else none

/-- Parts by number. -/
def PartsRel (ρ : Ren) : List (Nat × SVal) → List (Nat × Value) → Prop
  | [], [] => True
  | (i, x) :: xs, (j, v) :: vs => i = j ∧ den ρ x = some v ∧ PartsRel ρ xs vs
  | _, _ => False

 omit [Env] in
theorem foldl_toArray (f : Nat → Nat) : ∀ (us : List (Value × Nat)) (vs : List Value),
    us.foldl (fun (cs : Array Value) (c, j) => cs.setIfInBounds (f j) c) vs.toArray = (us.foldl (fun cs (c, j) => cs.set (f j) c) vs).toArray
  | [], vs => rfl
  | (u, j) :: us, vs => by
    simp only [List.foldl_cons]
    rw [show vs.toArray.setIfInBounds (f j) u = (vs.set (f j) u).toArray by simp]
    exact foldl_toArray f us _

theorem sfill_ok {place : Nat → Option (Nat × Nat)} : ∀ {parts : List (Nat × SVal)} {vparts : List (Nat × Value)} {cells : List SVal} {vs : List Value}, PartsRel ρ parts vparts → denL ρ cells = some vs →
    ∀ {r : List SVal}, sfill place cells parts = some r → ∃ us, denL ρ r = some us ∧ Instr.fill place vs.toArray vparts = some us.toArray
  | [], [], cells, vs, _, hc, r, h => by
    simp only [sfill, Option.some.injEq] at h
    subst h
    exact ⟨vs, hc, rfl⟩
  | [], _ :: _, _, _, hp, _, _, _ => hp.elim
  | _ :: _, [], _, _, hp, _, _, _ => by simp [PartsRel] at hp
  | (i, x) :: xs, (j, v) :: ys, cells, vs, hp, hc, r, h => by
    obtain ⟨rfl, hx, hp'⟩ := hp
    simp only [sfill] at h
    split at h
    case h_1 => cases h
    rename_i off size hpl
    split at h
    case isFalse => cases h
    rename_i hsz
    split at h
    case isFalse => cases h
    rename_i hoff
    have hxs := den_scells hx
    have hl := denL_length hxs
    have hlc := denL_length hc
    have hset := setMany_den (scells x) v.cells.toList off hxs hc
    obtain ⟨us, hu1, hu2⟩ := sfill_ok hp' hset h
    refine ⟨us, hu1, ?_⟩
    simp only [Instr.fill, hpl]
    have hvs : v.cells.size = size := by rw [← hsz, ← hl]; simp
    rw [if_neg (by simp [hvs]; omega)]
    rw [← hu2]
    congr 1
    rw [← foldl_toArray (fun j => off + j)]
    rw [show v.cells.zipIdx = (v.cells.toList.zipIdx 0).toArray by
      apply Array.toList_inj.1
      simp]
    simp

def partsOf (t : List SVal) (parts : List (Nat × Operand)) : List (Nat × SVal) := parts.map fun p => (p.1, seval t p.2)

theorem partsOf_rel (ht : denL ρ t = some a.tmps.toList) : ∀ (parts : List (Nat × Operand)), PartsRel ρ (partsOf t parts) (parts.map fun (i, x) => (i, a.eval x))
  | [] => trivial
  | (_, x) :: xs => ⟨rfl, den_seval ht x, partsOf_rel ht xs⟩

/-- The places of a struct's fields, or an array's elements. -/
def buildE (P : Program) (t : List SVal) (ty : TypeId) (parts : List (Nat × Operand)) : Option SVal :=
  match pureRun P (zeroValue ty) with
  | none => none
  | some z => match pureRun P (underlying ty) with
    | some (.struct fields) => match pureRun P (fields.mapM (m := Sem) fun f => do pure (f.offset, ← sizeOf f.type)) with
      | some places => match sfill (places[·]?) (z.cells.toList.map .v) (partsOf t parts) with
        | some l => some (mkAgg l)
        | none => none
      | none => none
    | some (.array _ elem) => match pureRun P (sizeOf elem) with
      | some size => match sfill (fun i => some (i * size, size)) (z.cells.toList.map .v) (partsOf t parts) with
        | some l => some (mkAgg l)
        | none => none
      | none => none
    | _ => none

theorem build_ok (ht : denL ρ t = some a.tmps.toList) {ty : TypeId} {parts : Array (Nat × Operand)} {y : SVal} (h : buildE P t ty parts.toList = some y) :
    PSemOk ρ y w ((Instr.build ty (parts.map fun (i, x) => (i, a.eval x))).run P w) := by
  unfold buildE at h
  split at h
  case h_1 => cases h
  rename_i z hz
  have hz' : denL ρ (z.cells.toList.map .v) = some z.cells.toList := denL_map_v _
  have hp := partsOf_rel ht parts.toList
  split at h
  case h_3 => cases h
  case h_1 fields hf =>
    split at h
    case h_2 => cases h
    rename_i places hpl
    split at h
    case h_2 => cases h
    rename_i l hl
    cases h
    obtain ⟨us, hu1, hu2⟩ := sfill_ok hp hz' hl
    refine PSemOk.here (v := .agg us.toArray) ?_ (den_mkAgg hu1)
    unfold Instr.build
    rw [run_bind_pure hz]
    simp only
    rw [run_bind_pure hf]
    simp only
    rw [run_bind_pure hpl]
    simp only [Array.toArray_toList] at hu2
    rw [Array.toList_map, hu2]
    rfl
  case h_2 n elem hf =>
    split at h
    case h_2 => cases h
    rename_i size hs
    split at h
    case h_2 => cases h
    rename_i l hl
    cases h
    obtain ⟨us, hu1, hu2⟩ := sfill_ok hp hz' hl
    refine PSemOk.here (v := .agg us.toArray) ?_ (den_mkAgg hu1)
    unfold Instr.build
    rw [run_bind_pure hz]
    simp only
    rw [run_bind_pure hf]
    simp only
    rw [run_bind_pure hs]
    simp only [Array.toArray_toList] at hu2
    rw [Array.toList_map, hu2]
    rfl

def zeroRow (z : Value) (n : Nat) : List Value := ((Array.range n).map (z.cells[· % z.cells.size]!)).toList

def buildSliceE (P : Program) (t : List SVal) (H : SHeap) (ty : TypeId) (len : Nat) (parts : List (Nat × Operand)) : Option Res :=
  match pureRun P (underlying ty) with
  | some (.slice elem) => match pureRun P (sizeOf elem) with
    | some size => match pureRun P (zeroValue elem) with
      | some z =>
        if len * size = 0 then none else
        if len * size ≤ 65536 then
          match sfill (fun i => some (i * size, size)) ((zeroRow z (len * size)).map .v) (partsOf t parts) with
          | some l => some (.val (.slice H.length 0 len len) (H ++ [.cells l elem (0, 0)]))
          | none => none
        else none
      | none => none
    | none => none
  | _ => none

theorem buildSlice_ok (hR : Rel w0 ρ H w) (ht : denL ρ t = some a.tmps.toList) {ty : TypeId} {len : Nat} {parts : Array (Nat × Operand)} {r : Res} (h : buildSliceE P t H ty len parts.toList = some r) :
    ∃ x H', r = .val x H' ∧ SemOk w0 H ρ x H' ((Instr.buildSlice ty len (parts.map fun (i, x) => (i, a.eval x))).run P w) := by
  unfold buildSliceE at h
  split at h
  case h_2 => cases h
  rename_i elem hu
  split at h
  case h_2 => cases h
  rename_i size hs
  split at h
  case h_2 => cases h
  rename_i z hz
  split at h
  case isTrue => cases h
  rename_i hne
  split at h
  case isFalse => cases h
  rename_i hle
  split at h
  case h_2 => cases h
  rename_i l hl
  cases h
  refine ⟨_, _, rfl, ?_⟩
  have hp := partsOf_rel ht parts.toList
  obtain ⟨us, hu1, hu2⟩ := sfill_ok hp (denL_map_v (ρ := ρ) (zeroRow z (len * size))) hl
  obtain ⟨h1, h2, h3, h4⟩ := newRow_ok (P := P) hR hu1 elem
  refine ⟨_, .slice (some ⟨w.heap.size, 0, none⟩) len len, _, ?_, h2, by simp only [den, h3], h4⟩
  unfold Instr.buildSlice
  rw [run_bind_pure hu]
  simp only
  rw [run_bind_pure hs]
  rw [if_neg (by omega)]
  rw [if_neg hne]
  rw [run_bind_pure hz, run_pure_bind]
  simp only [zeroRow, Array.toArray_toList] at hu2
  rw [Array.toList_map, hu2]
  simp only
  rw [run_bind_ok h1]
  rfl

end
end
end Go.RX

namespace Go.RX
noncomputable section
open Go.RowKit (Below)

variable [Env]

section
variable {P : Program} {w0 w : World} {ρ : Ren} {H : SHeap} {t : List SVal} {a : Act} {o : Oper}

/-! ### Maps -/
 omit [Env] in
theorem entries_get {ks : List (Value × Nat)} {vs : List Value} (i : Nat) :
    (entries ks vs)[i]? = match ks[i]?, vs[i]? with
      | some k, some v => some { key := k.1, val := v, born := k.2 }
      | _, _ => none := by
  unfold entries
  rw [List.getElem?_zipWith]
  cases ks[i]? <;> cases vs[i]? <;> rfl

 omit [Env] in
theorem entries_length {ks : List (Value × Nat)} {vs : List Value} (h : ks.length = vs.length) : (entries ks vs).length = ks.length := by
  unfold entries
  rw [List.length_zipWith, h, Nat.min_self]

/-- The value that a key has. -/
def keyOf : SVal → Option Value
  | .sym i => some (Env.val i)
  | x => vOf x

theorem keyOf_ok {x : SVal} {k : Value} (h : keyOf x = some k) : den ρ x = some k := by
  unfold keyOf at h
  split at h
  · cases h; rfl
  · exact den_of_vOf _ h

def findK (kd : TypeDesc) (key : SVal) (k : Value) (ks : List (Value × Nat)) : Option (Option (Nat × Value)) :=
  match key with
  | .sym i => match kd with
    | .string => match Env.key i ks with
      | some r => some (r.map fun j => (j, undef))
      | none => none
    | _ => none
  | _ => Instr.findNow kd k (bare ks) 0

theorem findK_ok {kd : TypeDesc} {key : SVal} {k : Value} {ks : List (Value × Nat)} {r : Option (Nat × Value)} (hk : keyOf key = some k) (h : findK kd key k ks = some r) : Instr.findNow kd k (bare ks) 0 = some r := by
  unfold findK at h
  split at h
  · rename_i i
    split at h
    · split at h
      · rename_i r' hr
        cases h
        simp only [keyOf, Option.some.injEq] at hk
        subst hk
        exact Env.keyOk i ks r' hr
      · cases h
    · cases h
  · exact h

 omit [Env] in
theorem findNow_bare {kd : TypeDesc} {k : Value} : ∀ (ks : List (Value × Nat)) (vs : List Value), ks.length = vs.length → ∀ i,
    Instr.findNow kd k (entries ks vs) i = (match Instr.findNow kd k (bare ks) i with
      | some (some (j, _)) => some (some (j, vs.getD (j - i) undef))
      | some none => some none
      | none => none) ∧ (∀ j u, Instr.findNow kd k (bare ks) i = some (some (j, u)) → i ≤ j ∧ j - i < ks.length)
  | [], vs, h, i => by
    refine ⟨rfl, fun j u h => by simp [bare, Instr.findNow] at h⟩
  | x :: ks, [], h, i => by simp at h
  | x :: ks, v :: vs, h, i => by
    obtain ⟨ih1, ih2⟩ := findNow_bare (kd := kd) (k := k) ks vs (by simpa using h) (i + 1)
    simp only [entries, bare, List.zipWith_cons_cons, List.map_cons, Instr.findNow]
    change (match Instr.sameNow kd k x.1 with
      | some true => some (some (i, v))
      | some false => Instr.findNow kd k (entries ks vs) (i + 1)
      | none => none) = _ ∧ ∀ j u, (match Instr.sameNow kd k x.1 with
      | some true => some (some (i, undef))
      | some false => Instr.findNow kd k (bare ks) (i + 1)
      | none => none) = _ → _
    cases hs : Instr.sameNow kd k x.1 with
    | none => exact ⟨rfl, fun j u h => by simp at h⟩
    | some b =>
      cases b with
      | true => exact ⟨by simp, fun j u h => by simp at h; simp [← h.1]⟩
      | false =>
        simp only
        change _ = (match Instr.findNow kd k (bare ks) (i + 1) with
          | some (some (j, _)) => some (some (j, (v :: vs).getD (j - i) undef))
          | some none => some none
          | none => none) ∧ _
        rw [ih1]
        constructor
        · cases hf : Instr.findNow kd k (bare ks) (i + 1) with
          | none => rfl
          | some r =>
            cases r with
            | none => rfl
            | some ju =>
              obtain ⟨j, u⟩ := ju
              have := (ih2 j u hf).1
              simp only [Option.some.injEq, Prod.mk.injEq, true_and]
              rw [show j - i = (j - (i + 1)) + 1 by omega]
              rfl
        · intro j u hju
          have := ih2 j u hju
          simp only [List.length_cons]
          omega

def makeMapE (H : SHeap) (r : Option Operand) : Option Res :=
  match r with
  | none => some (.val (.map H.length) (H ++ [.map [] [] 0]))
  | some _ => none

theorem makeMap_ok (hR : Rel w0 ρ H w) {ty : TypeId} {x : Option Operand} {r : Res} (h : makeMapE H x = some r) (f : Operand → Value) :
    ∃ y H', r = .val y H' ∧ SemOk w0 H ρ y H' ((Instr.makeMap ty (x.map f)).run P w) := by
  unfold makeMapE at h
  split at h
  case h_2 => cases h
  cases h
  refine ⟨_, _, rfl, ρ.with H.length ⟨w.heap.size, 0⟩, .map (some w.heap.size), _, ?_, Ext.push _ _ _ _, by simp [den, Ren.with], hR.push (o := .map [] [] 0) (ob := .map #[] 0) ⟨[], rfl, rfl, rfl⟩⟩
  rfl

/-- The map that x is, and where its key stands: (the map's name, its keys, values and clock; the key; its place). -/
def mapAt (P : Program) (H : SHeap) (ty : TypeId) (empty : Bool) (m key : SVal) : Option (Nat × List (Value × Nat) × List SVal × Nat × Value × TypeId × Option Nat) :=
  match m with
  | .map i => match H[i]? with
    | some (.map ks vals clock) => match keyOf key with
      | some k => match pureRun P (underlying ty) with
        | some (.map kt elem) => match pureRun P (Instr.checkKey (empty && ks.isEmpty) 10000 kt k) with
          | some () => match pureRun P (underlying kt) with
            | some kd => match findK kd key k ks with
              | some (some (j, _)) => some (i, ks, vals, clock, k, elem, some j)
              | some none => some (i, ks, vals, clock, k, elem, none)
              | none => none
            | none => none
          | none => none
        | _ => none
      | none => none
    | _ => none
  | _ => none

theorem mapAt_ok (hR : Rel w0 ρ H w) {ty : TypeId} {empty : Bool} {m key : SVal} {mv kv : Value} (hm : den ρ m = some mv) (hk : den ρ key = some kv)
    {i : Nat} {ks : List (Value × Nat)} {vals : List SVal} {clock : Nat} {k : Value} {elem : TypeId} {j : Option Nat} (h : mapAt P H ty empty m key = some (i, ks, vals, clock, k, elem, j)) :
    ∃ (p : Loc) (vs : List Value) (kt : TypeId), ρ i = some p ∧ mv = .map (some p.b) ∧ kv = k ∧ H[i]? = some (.map ks vals clock) ∧ denL ρ vals = some vs ∧ ks.length = vs.length ∧
      w.heap[p.b]? = some (.map (entries ks vs).toArray clock) ∧ (∀ w, (underlying ty).run P w = .ok (.map kt elem) w) ∧ (∀ w, (Instr.checkKey (empty && ks.isEmpty) 10000 kt k).run P w = .ok () w) ∧
      (∀ w, (Instr.findKey kt k (entries ks vs)).run P w = .ok (j.map fun j => (j, vs.getD j undef)) w) ∧ ∀ j', j = some j' → j' < ks.length := by
  unfold mapAt at h
  split at h
  case h_2 => cases h
  rename_i i'
  split at h
  case h_2 => cases h
  rename_i ks' vals' clock' hH
  split at h
  case h_2 => cases h
  rename_i k' hk'
  split at h
  case h_2 => cases h
  rename_i kt elem' hu
  split at h
  case h_2 => cases h
  rename_i hc
  split at h
  case h_2 => cases h
  rename_i kd hkd
  have key1 : ∀ {jj : Option Nat}, (i', ks', vals', clock', k', elem', jj) = (i, ks, vals, clock, k, elem, j) → (match Instr.findNow kd k' (bare ks') 0 with
      | some (some (j, _)) => some (some j)
      | some none => some none
      | none => none) = some jj → ∃ (p : Loc) (vs : List Value) (kt : TypeId), ρ i = some p ∧ mv = .map (some p.b) ∧ kv = k ∧ H[i]? = some (.map ks vals clock) ∧ denL ρ vals = some vs ∧ ks.length = vs.length ∧
      w.heap[p.b]? = some (.map (entries ks vs).toArray clock) ∧ (∀ w, (underlying ty).run P w = .ok (.map kt elem) w) ∧ (∀ w, (Instr.checkKey (empty && ks.isEmpty) 10000 kt k).run P w = .ok () w) ∧
      (∀ w, (Instr.findKey kt k (entries ks vs)).run P w = .ok (j.map fun j => (j, vs.getD j undef)) w) ∧ ∀ j', j = some j' → j' < ks.length := by
    intro jj e hf
    simp only [Prod.mk.injEq] at e
    obtain ⟨rfl, rfl, rfl, rfl, rfl, rfl, rfl⟩ := e
    simp only [den] at hm
    split at hm
    case h_2 => cases hm
    rename_i p hp
    cases hm
    have h1 := keyOf_ok (ρ := ρ) hk'
    rw [hk] at h1
    obtain ⟨ob', ob, g1, g2, g3⟩ := hR.obj _ p hp
    rw [hH] at g1
    cases g1
    obtain ⟨vs, f1, f2, rfl⟩ := g3
    have hl : ks'.length = vs.length := by rw [f2, denL_length f1]
    have hfn := findNow_bare (kd := kd) (k := k') ks' vs hl 0
    refine ⟨p, vs, kt, hp, rfl, Option.some.inj h1, hH, f1, hl, g2, fun w => run_of_pure hu w, fun w => run_of_pure hc w, fun w => ?_, fun j' hj' => ?_⟩
    · unfold Instr.findKey
      rw [run_bind_pure hkd, hfn.1]
      cases hb : Instr.findNow kd k' (bare ks') 0 with
      | none => simp [hb] at hf
      | some r =>
        cases r with
        | none =>
          simp only [hb, Option.some.injEq] at hf
          subst hf
          rfl
        | some ju =>
          simp only [hb, Option.some.injEq] at hf
          subst hf
          rfl
    · subst hj'
      cases hb : Instr.findNow kd k' (bare ks') 0 with
      | none => simp [hb] at hf
      | some r =>
        cases r with
        | none => simp [hb] at hf
        | some ju =>
          simp only [hb, Option.some.injEq] at hf
          have := hfn.2 _ _ hb
          omega
  split at h
  · rename_i hf
    exact key1 (Option.some.inj h) (by rw [findK_ok hk' hf])
  · rename_i hf
    exact key1 (Option.some.inj h) (by rw [findK_ok hk' hf])
  · cases h

 omit [Env] in
theorem run_getMap {r : Nat} {es : Array MapEntry} {c : Nat} (h : w.heap[r]? = some (.map es c)) : (getObj r).run P w = .ok (.map es c) w := by simp only [getObj, Sem.run, h]
 omit [Env] in
theorem run_setMap {r : Nat} {es : Array MapEntry} {c : Nat} {o' : Obj} (h : w.heap[r]? = some (.map es c)) : (setObj r o').run P w = .ok () { w with heap := w.heap.setIfInBounds r o' } := by simp only [Go.setObj, Sem.run, h]

def mapUpdateE (P : Program) (H : SHeap) (ty : TypeId) (m key x : SVal) : Option SHeap :=
  match mapAt P H ty false m key with
  | some (i, ks, vals, clock, k, _, some j) => match ks[j]? with
    | some (old, b) => if Instr.sameBits 10000 old k then some (H.set i (.map (ks.set j (k, b)) (vals.set j x) clock)) else none
    | none => none
  | some (i, ks, vals, clock, k, _, none) => some (H.set i (.map (ks ++ [(k, clock)]) (vals ++ [x]) (clock + 1)))
  | none => none

 omit [Env] in
theorem entries_append {ks : List (Value × Nat)} {vs : List Value} (h : ks.length = vs.length) (k : Value × Nat) (v : Value) : entries (ks ++ [k]) (vs ++ [v]) = entries ks vs ++ [{ key := k.1, val := v, born := k.2 }] := by
  unfold entries
  rw [List.zipWith_append h]
  rfl

 omit [Env] in
theorem entries_modify {ks : List (Value × Nat)} {vs : List Value} (h : ks.length = vs.length) {j : Nat} {old k v : Value} {b : Nat} (hj : ks[j]? = some (old, b)) :
    (entries ks vs).modify j (fun e => { e with key := k, val := v }) = entries (ks.set j (k, b)) (vs.set j v) := by
  refine List.ext_getElem? fun i => ?_
  rw [List.getElem?_modify, entries_get, entries_get]
  have hlt := (List.getElem?_eq_some_iff.1 hj).1
  have hv : vs[j]? = some vs[j] := List.getElem?_eq_getElem (by omega)
  by_cases hij : j = i
  · subst hij
    have hj' : ks[j] = (old, b) := by have := (List.getElem?_eq_some_iff.1 hj).2; exact this
    simp [hlt, show j < vs.length by omega, hj']
  · rw [List.getElem?_set_ne hij, List.getElem?_set_ne hij]
    simp [hij]

theorem mapUpdate_ok (hR : Rel w0 ρ H w) {ty : TypeId} {m key x : SVal} {mv kv xv : Value} (hm : den ρ m = some mv) (hk : den ρ key = some kv) (hx : den ρ x = some xv) {H' : SHeap}
    (h : mapUpdateE P H ty m key x = some H') : ∃ w', Ext ρ H ρ H' ∧ Rel w0 ρ H' w' ∧ (Instr.mapUpdate ty mv kv xv).run P w = .ok () w' := by
  unfold mapUpdateE at h
  have main : ∀ {i : Nat} {ks : List (Value × Nat)} {vals : List SVal} {clock : Nat} {k : Value} {elem : TypeId} {j : Option Nat}, mapAt P H ty false m key = some (i, ks, vals, clock, k, elem, j) →
      ∀ {ks' : List (Value × Nat)} {vals' : List SVal} {clock' : Nat},
      (∀ vs, denL ρ vals = some vs → ks.length = vs.length → ∃ vs', denL ρ vals' = some vs' ∧ ks'.length = vals'.length ∧ ∀ (p : Loc), w.heap[p.b]? = some (.map (entries ks vs).toArray clock) →
        (do match (j.map fun j => (j, vs.getD j undef)) with
          | some (i, _) => do
            let key ← Instr.keyThatStays ((((entries ks vs).toArray[i]?).map (·.key)).getD k) k
            setObj p.b (.map ((entries ks vs).toArray.modify i fun e => { e with key, val := xv }) clock)
          | none => setObj p.b (.map ((entries ks vs).toArray.push { key := k, val := xv, born := clock }) (clock + 1)) : Sem Unit).run P w = .ok () { w with heap := w.heap.setIfInBounds p.b (.map (entries ks' vs').toArray clock') }) →
      ∃ w', Ext ρ H ρ (H.set i (.map ks' vals' clock')) ∧ Rel w0 ρ (H.set i (.map ks' vals' clock')) w' ∧ (Instr.mapUpdate ty mv kv xv).run P w = .ok () w' := by
    intro i ks vals clock k elem j hat ks' vals' clock' hgo
    obtain ⟨p, vs, kt, h1, h2, h3, h4, h5, h6, h7, h8, h9, h10, h11⟩ := mapAt_ok hR hm hk hat
    subst h2 h3
    obtain ⟨vs', g1, g2, g3⟩ := hgo vs h5 h6
    have hlt : p.b < w.heap.size := (hR.fresh _ _ h1).2
    refine ⟨_, Ext.set h1 _, hR.setObj (o := .map ks' vals' clock') (ob := .map (entries ks' vs').toArray clock') (w' := { w with heap := w.heap.setIfInBounds p.b (.map (entries ks' vs').toArray clock') })
      h1 (hR.own h1 h4 (fun _ _ _ _ e => by cases e) (fun e => by cases e)) ⟨vs', g1, g2, rfl⟩ rfl rfl rfl (by simp) (fun q hq => ?_) (by simp [hlt]), ?_⟩
    · simp only
      rw [Array.getElem?_setIfInBounds_ne (Ne.symm hq)]
    · unfold Instr.mapUpdate
      rw [run_bind_ok (h8 w)]
      simp only
      rw [run_bind_ok (run_getMap h7)]
      simp only
      simp only [Bool.false_and] at h9
      rw [run_bind_ok (h9 w)]
      have h10' : (Instr.findKey kt kv (entries ks vs).toArray.toList).run P w = .ok (j.map fun j => (j, vs.getD j undef)) w := h10 w
      rw [run_bind_ok h10']
      exact g3 p h7
  split at h
  · rename_i i ks vals clock k elem j hat
    split at h
    case h_2 => cases h
    rename_i old b hkj
    split at h
    case isFalse => cases h
    rename_i hsame
    cases h
    refine main hat fun vs hvs hlen => ⟨vs.set j xv, denL_set hx hvs j, by simp [hlen, denL_length hvs], fun p hp => ?_⟩
    simp only [Option.map_some]
    have hget : (((entries ks vs).toArray[j]?).map (·.key)).getD k = old := by
      rw [List.getElem?_toArray, entries_get, hkj]
      have hlt := (List.getElem?_eq_some_iff.1 hkj).1
      rw [List.getElem?_eq_getElem (show j < vs.length by omega)]
      rfl
    have hstay : (Instr.keyThatStays ((((entries ks vs).toArray[j]?).map (·.key)).getD k) k).run P w = .ok k w := by
      rw [hget]
      unfold Instr.keyThatStays
      rw [if_pos hsame]
      rfl
    rw [run_bind_ok hstay, run_setMap hp]
    have : (entries ks vs).toArray.modify j (fun e => { e with key := k, val := xv }) = (entries (ks.set j (k, b)) (vs.set j xv)).toArray := by
      rw [← Array.toList_inj, Array.toList_modify]
      exact entries_modify hlen hkj
    rw [this]
  · rename_i i ks vals clock k elem hat
    cases h
    refine main hat fun vs hvs hlen => ⟨vs ++ [xv], denL_append (denL_cons.2 ⟨xv, [], hx, rfl, rfl⟩) hvs, by simp [hlen, denL_length hvs], fun p hp => ?_⟩
    simp only [Option.map_none]
    rw [run_setMap hp, entries_append hlen]
    simp
  · cases h

def lookupE (P : Program) (H : SHeap) (ty : TypeId) (m key : SVal) (commaOk : Bool) : Option SVal :=
  match mapAt P H ty true m key with
  | some (_, _, vals, _, _, _, some j) => if commaOk then some (mkTuple [vals.getD j (.v undef), .v (.bool true)]) else some (vals.getD j (.v undef))
  | some (_, _, _, _, _, elem, none) => match pureRun P (zeroValue elem) with
    | some z => if commaOk then some (.v (.tuple #[z, .bool false])) else some (.v z)
    | none => none
  | none => none

theorem denL_getD {l : List SVal} {vs : List Value} (h : denL ρ l = some vs) (j : Nat) : den ρ (l.getD j (.v undef)) = some (vs.getD j undef) := by
  simp only [List.getD_eq_getElem?_getD]
  cases hx : l[j]? with
  | none =>
    have h1 := List.getElem?_eq_none_iff.1 hx
    rw [List.getElem?_eq_none (by rw [denL_length h]; exact h1)]
    simp [den]
  | some x =>
    obtain ⟨y, hy, hd⟩ := denL_get h j x hx
    rw [hy]
    exact hd

theorem lookup_ok (hR : Rel w0 ρ H w) {ty : TypeId} {m key y : SVal} {mv kv : Value} {commaOk : Bool} (hm : den ρ m = some mv) (hk : den ρ key = some kv) (h : lookupE P H ty m key commaOk = some y) :
    SemOk w0 H ρ y H ((Instr.lookup ty mv kv commaOk).run P w) := by
  unfold lookupE at h
  have main : ∀ {i : Nat} {ks : List (Value × Nat)} {vals : List SVal} {clock : Nat} {k : Value} {elem : TypeId} {j : Option Nat}, mapAt P H ty true m key = some (i, ks, vals, clock, k, elem, j) →
      ∃ vs, denL ρ vals = some vs ∧ ∀ u b, (match j with
        | some j => u = vs.getD j undef ∧ b = true
        | none => (zeroValue elem).run P w = .ok u w ∧ b = false) → (Instr.lookup ty mv kv commaOk).run P w = .ok (if commaOk then .tuple #[u, .bool b] else u) w := by
    intro i ks vals clock k elem j hat
    obtain ⟨p, vs, kt, h1, h2, h3, h4, h5, h6, h7, h8, h9, h10, h11⟩ := mapAt_ok hR hm hk hat
    subst h2 h3
    refine ⟨vs, h5, fun u b hub => ?_⟩
    unfold Instr.lookup
    rw [run_bind_ok (h8 w)]
    simp only
    rw [run_bind_ok (run_getMap h7)]
    simp only
    rw [run_pure_bind]
    have he : (entries ks vs).toArray.isEmpty = (true && ks.isEmpty) := by
      cases ks with
      | nil => rfl
      | cons x xs =>
        cases vs with
        | nil => simp at h6
        | cons y ys => rfl
    rw [he, run_bind_ok (h9 w)]
    have h10' : (Instr.findKey kt kv (entries ks vs).toArray.toList).run P w = .ok (j.map fun j => (j, vs.getD j undef)) w := h10 w
    rw [run_bind_ok h10']
    cases j with
    | some j =>
      obtain ⟨rfl, rfl⟩ := hub
      cases commaOk <;> rfl
    | none =>
      obtain ⟨hz, rfl⟩ := hub
      simp only [Option.map_none]
      rw [run_bind_ok hz]
      cases commaOk <;> rfl
  split at h
  · rename_i i ks vals clock k elem j hat
    obtain ⟨vs, hvs, hgo⟩ := main hat
    have := hgo (vs.getD j undef) true ⟨rfl, rfl⟩
    have hd := denL_getD hvs j
    split at h
    · rename_i hc
      cases h
      refine SemOk.here hR this ?_
      simp only [hc, if_true]
      exact den_mkTuple (denL_cons.2 ⟨_, _, hd, denL_cons.2 ⟨.bool true, [], by simp [den], rfl, rfl⟩, rfl⟩)
    · rename_i hc
      cases h
      refine SemOk.here hR this ?_
      simp only [hc, if_false, Bool.false_eq_true]
      exact hd
  · rename_i i ks vals clock k elem hat
    obtain ⟨vs, hvs, hgo⟩ := main hat
    split at h
    case h_2 => cases h
    rename_i z hz
    have := hgo z false ⟨run_of_pure hz w, rfl⟩
    split at h
    · rename_i hc
      cases h
      refine SemOk.here hR this ?_
      simp [hc, den]
    · rename_i hc
      cases h
      refine SemOk.here hR this ?_
      simp [hc, den]
  · cases h

end
end
end Go.RX

namespace Go.RX
noncomputable section
open Go.RowKit (Below)

variable [Env]

section
variable {P : Program} {w0 w : World} {ρ : Ren} {H : SHeap} {t : List SVal} {a : Act} {o : Oper}

/-! ### Nil -/
def nilCheckE (x : SVal) : Option SVal :=
  match x with
  | .ptr i off => some (.ptr i off)
  | .func (.func f) fs cs => some (.func (.func f) fs cs)
  | .yield i => some (.yield i)
  | _ => none

/-- Does an operand with a name in it differ from nil? -/
def nonNil : SVal → Value → Bool
  | .ptr _ _, .pointer none => true
  | .slice _ _ _ _, .slice none _ _ => true
  | .row _ _ _ _, .slice none _ _ => true
  | .iface _ _, .nilIface => true
  | .func _ _ _, .nilFunc => true
  | _, _ => false

def nilTy : SVal → TypeDesc → Bool
  | .ptr _ _, .pointer _ => true
  | .slice _ _ _ _, .slice _ => true
  | .row _ _ _ _, .slice _ => true
  | .iface _ _, .interface _ => true
  | .func _ _ _, .func _ _ _ => true
  | _, _ => false

def eqNilE (P : Program) (op : BinOp) (ty : TypeId) (x y : SVal) : Option SVal :=
  match y with
  | .v n =>
    if nonNil x n then
      match pureRun P (underlying ty) with
      | some d => if nilTy x d then
          match op with
          | .eql => some (.v (.bool false))
          | .neq => some (.v (.bool true))
          | _ => none
        else none
      | none => none
    else none
  | _ => none

theorem equal_nil {ty : TypeId} {d : TypeDesc} (hd : pureRun P (underlying ty) = some d) {x : SVal} {n : Value} (hn : nonNil x n = true) (ht : nilTy x d = true) {v : Value} (hx : den ρ x = some v) :
    (Op.equal ty v n).run P w = .ok false w := by
  unfold Op.equal Op.maxDepth
  rw [show (10000 : Nat) = 9999 + 1 from rfl, Op.equalIn]
  rw [run_bind_pure hd]
  cases x <;> cases n <;> simp [nonNil] at hn <;> cases d <;> simp [nilTy] at ht
  · rename_i p e
    cases p <;> simp at hn
    obtain ⟨b, _, rfl⟩ := den_ptr hx
    rfl
  · rename_i p e l c
    cases p <;> simp at hn
    obtain ⟨b, _, rfl⟩ := den_slice hx
    rfl
  · rename_i p e l c
    cases p <;> simp at hn
    obtain ⟨b, _, _, rfl⟩ := den_row hx
    rfl
  · simp only [den] at hx
    split at hx <;> simp at hx
    subst hx
    rfl
  · simp only [den] at hx
    split at hx <;> simp at hx
    subst hx
    rfl

theorem eqNil_ok {op : BinOp} {ty : TypeId} {x y r : SVal} {v u : Value} (hx : den ρ x = some v) (hy : den ρ y = some u) (h : eqNilE P op ty x y = some r) (xo yo : Operand) :
    PSemOk ρ r w ((do eqGuard op ty xo yo v u; binOp op ty v u : Sem Value).run P w) := by
  unfold eqNilE at h
  split at h
  case h_2 => cases h
  rename_i n
  simp only [den, Option.some.injEq] at hy
  subst hy
  split at h
  case isFalse => cases h
  rename_i hn
  split at h
  case h_2 => cases h
  rename_i d hd
  split at h
  case isFalse => cases h
  rename_i ht
  have heq := equal_nil (w := w) hd hn ht hx
  have hv : (∃ a, v = .pointer (some a) ∧ n = .pointer none) ∨ (∃ a l c, v = .slice (some a) l c ∧ ∃ l' c', n = .slice none l' c') ∨ (∃ t y, v = .iface t y ∧ n = .nilIface) ∨ (∃ f a b, v = .func f a b ∧ n = .nilFunc) := by
    cases x <;> cases n <;> simp [nonNil] at hn
    · rename_i q; cases q <;> simp at hn
      obtain ⟨b, _, rfl⟩ := den_ptr hx; exact .inl ⟨_, rfl, rfl⟩
    · rename_i q _ _; cases q <;> simp at hn
      obtain ⟨b, _, rfl⟩ := den_slice hx; exact .inr (.inl ⟨_, _, _, rfl, _, _, rfl⟩)
    · rename_i q _ _; cases q <;> simp at hn
      obtain ⟨b, _, _, rfl⟩ := den_row hx; exact .inr (.inl ⟨_, _, _, rfl, _, _, rfl⟩)
    · simp only [den] at hx; split at hx <;> simp at hx; subst hx; exact .inr (.inr (.inr ⟨_, _, _, rfl, rfl⟩))
    · simp only [den] at hx; split at hx <;> simp at hx; subst hx; exact .inr (.inr (.inl ⟨_, _, rfl, rfl⟩))
  have hg : (eqGuard op ty xo yo v n).run P w = .ok () w := by
    unfold eqGuard
    rcases hv with ⟨_, rfl, rfl⟩ | ⟨_, _, _, rfl, _, _, rfl⟩ | ⟨_, _, rfl, rfl⟩ | ⟨_, _, _, rfl, rfl⟩ <;> split <;> rfl
  have hb : ∀ b : Bool, (op = .eql ∧ b = false) ∨ (op = .neq ∧ b = true) → (binOp op ty v n).run P w = .ok (.bool b) w := by
    rintro b (⟨rfl, rfl⟩ | ⟨rfl, rfl⟩) <;> rcases hv with ⟨_, rfl, rfl⟩ | ⟨_, _, _, rfl, _, _, rfl⟩ | ⟨_, _, rfl, rfl⟩ | ⟨_, _, _, rfl, rfl⟩ <;> simp only [binOp] <;> rw [run_bind_ok heq] <;> rfl
  split at h
  · cases h
    exact PSemOk.here (by rw [run_bind_ok hg]; exact hb false (.inl ⟨rfl, rfl⟩)) (by simp [den])
  · cases h
    exact PSemOk.here (by rw [run_bind_ok hg]; exact hb true (.inr ⟨rfl, rfl⟩)) (by simp [den])
  · cases h

/-! ### Making slices; bytes -/
def makeSliceE (P : Program) (H : SHeap) (ty : TypeId) (l c : SVal) : Option Res :=
  match l, c with
  | .v (.int _ ln), .v (.int _ cn) =>
    if 0 ≤ ln ∧ ln ≤ cn ∧ cn ≤ 65536 then
      match pureRun P (underlying ty) with
      | some (.slice elem) => match pureRun P (typeInfo elem) with
        | some i => match pureRun P (zeroValue elem) with
          | some z => if i.bytes * 65536 ≤ 140737488355328 then some (.val (.slice H.length 0 ln.toNat cn.toNat) (H ++ [.cells ((zeroRow z (cn.toNat * i.size)).map .v) elem (0, 0)])) else none
          | none => none
        | none => none
      | _ => none
    else none
  | _, _ => none

 omit [Env] in
theorem wrap64_small {n : Int} (h0 : 0 ≤ n) (h1 : n ≤ 65536) : IntKind.i64.wrap n = n :=
  Go.IntWalk.i64_in n (by omega)

 omit [Env] in
theorem sizeOf_of_info {ty : TypeId} {i : TypeInfo} (h : pureRun P (typeInfo ty) = some i) : (sizeOf ty).run P w = .ok i.size w := by
  unfold sizeOf
  rw [run_bind_pure h]
  rfl

theorem makeSlice_ok (hR : Rel w0 ρ H w) {ty : TypeId} {l c : SVal} {lv cv : Value} (hl : den ρ l = some lv) (hc : den ρ c = some cv) {r : Res} (h : makeSliceE P H ty l c = some r) :
    ∃ x H', r = .val x H' ∧ SemOk w0 H ρ x H' ((Instr.makeSlice ty lv cv).run P w) := by
  unfold makeSliceE at h
  split at h
  case h_2 => cases h
  rename_i k1 ln k2 cn
  split at h
  case isFalse => cases h
  rename_i hb
  split at h
  case h_2 => cases h
  rename_i elem hu
  split at h
  case h_2 => cases h
  rename_i i hi
  split at h
  case h_2 => cases h
  rename_i z hz
  split at h
  case isFalse => cases h
  rename_i hbb
  cases h
  simp only [den, Option.some.injEq] at hl hc
  subst hl hc
  refine ⟨_, _, rfl, ?_⟩
  obtain ⟨h1, h2, h3, h4⟩ := newRow_ok (P := P) hR (denL_map_v (ρ := ρ) (zeroRow z (cn.toNat * i.size))) elem
  refine ⟨_, .slice (some ⟨w.heap.size, 0, none⟩) ln.toNat cn.toNat, _, ?_, h2, by simp only [den, h3], h4⟩
  unfold Instr.makeSlice asInt asIntOf
  rw [run_bind_pure hu]
  simp only
  have e1 : IntKind.i64.wrap ln = ln := wrap64_small hb.1 (by omega)
  have e2 : IntKind.i64.wrap cn = cn := wrap64_small (by omega) hb.2.2
  have hbytes : ((i.bytes : Int) * cn) ≤ 2 ^ 48 := by
    have h5 : (i.bytes : Int) * cn ≤ (i.bytes : Int) * 65536 := Int.mul_le_mul_of_nonneg_left hb.2.2 (by omega)
    have h6 : (i.bytes : Int) * 65536 ≤ 140737488355328 := by have := hbb; omega
    have h7 : (2 : Int) ^ 48 = 281474976710656 := by decide
    omega
  rw [run_bind_ok (a := ln) (w' := w) rfl, run_bind_ok (a := cn) (w' := w) rfl]
  rw [run_bind_pure hi]
  simp only [e1, e2]
  rw [if_neg (by
    simp only [Bool.or_eq_true, decide_eq_true_eq, not_or]
    exact ⟨⟨⟨by omega, by omega⟩, by omega⟩, by omega⟩)]
  rw [run_bind_ok (a := ()) (w' := w) (by unfold askRoom; split <;> rfl)]
  rw [run_bind_ok (sizeOf_of_info hi)]
  by_cases hn : cn.toNat * i.size = 0
  · rw [if_pos hn, run_pure_bind]
    have e0 : ∀ f : Nat → Value, (Array.range 0).map f = #[] := fun f => by simp [Array.range]
    simp only [zeroRow, hn, e0] at h1 ⊢
    rw [run_bind_ok h1]
    rfl
  · rw [if_neg hn]
    rw [run_bind_pure hz, run_pure_bind]
    simp only [zeroRow, Array.toArray_toList] at h1
    rw [run_bind_ok h1]
    simp only [zeroRow, Array.toArray_toList]
    rfl

def bytesLoop (cs : Array Value) : Sem Value := do
  let mut s := ByteArray.empty
  for c in cs do
    let .int .u8 n := c | stuck "bytesToString: byte expected"
    s := s.push (UInt8.ofNat n.toNat)
  pure (.string s)

 omit [Env] in
theorem bytesToString_eq (a : Addr) (len cap : Nat) : Conv.bytesToString (.slice (some a) len cap) = loadCells a len >>= bytesLoop := rfl

/-- A slice's place and length. -/
def sliceAtOf : SVal → Option (Nat × Nat × Nat)
  | .slice i off len _ => some (i, off, len)
  | .row i off _ len => some (i, off, len)
  | _ => none

theorem sliceAtOf_ok {x : SVal} {v : Value} (hx : den ρ x = some v) {i off len : Nat} (h : sliceAtOf x = some (i, off, len)) : ∃ p cap, ρ i = some p ∧ v = .slice (some ⟨p.b, off, none⟩) len cap := by
  unfold sliceAtOf at h
  split at h
  · cases h
    obtain ⟨p, h1, h2⟩ := den_slice hx
    exact ⟨p, _, h1, h2⟩
  · cases h
    obtain ⟨p, h1, _, h2⟩ := den_row hx
    exact ⟨p, _, h1, h2⟩
  · cases h

def noGlob : Glob := fun _ => none

 omit [Env] in
theorem noGlob_holds (w : World) : noGlob.holds w := fun _ _ h => by cases h

/-- The first n cells of a slice. -/
def firstOf (H : SHeap) (i off n : Nat) : Option (List SVal) :=
  match cellsFrom noGlob H (.ptr i off) with
  | some l => if (l.take n).length = n then some (l.take n) else none
  | none => none

theorem firstOf_ok (hR : Rel w0 ρ H w) {i : Nat} {p : Loc} (hi : ρ i = some p) {off n : Nat} {l : List SVal} (h : firstOf H i off n = some l) :
    ∃ vs : List Value, denL ρ l = some vs ∧ vs.length = n ∧ (loadCells ⟨p.b, off, none⟩ n).run P w = .ok vs.toArray w := by
  unfold firstOf at h
  split at h
  case h_2 => cases h
  rename_i l' hl'
  split at h
  case isFalse => cases h
  rename_i hlen
  cases h
  obtain ⟨a, vs, ha, hs, hd, hc⟩ := cellsFrom_ok (noGlob_holds w0) hR (x := .ptr i off) (v := .pointer (some ⟨p.b, off, none⟩)) (by simp only [den, hi]) hl'
  cases ha
  have hd' := denL_take n hd
  have hl := denL_length hd'
  refine ⟨vs.take n, hd', by rw [hl]; exact hlen, loadCells_ok _ rfl n _ (by rw [hl]; exact hlen) fun k u hk => hc k u ?_⟩
  rw [List.getElem?_take] at hk
  split at hk
  · exact hk
  · cases hk

def bytesE (P : Program) (H : SHeap) (dst src : TypeId) (x : SVal) : Option SVal :=
  match sliceAtOf x with
  | some (i, off, len) =>
    match pureRun P (underlying src), pureRun P (underlying dst) with
    | some (.slice e), some .string => match pureRun P (underlying e) with
      | some (.int .u8) => match firstOf H i off len with
        | some l => match vOfL l with
          | some vs => match pureRun P (bytesLoop vs.toArray) with
              | some s => some (.v s)
              | none => none
          | none => none
        | none => none
      | _ => none
    | _, _ => none
  | _ => none

theorem bytes_ok (hR : Rel w0 ρ H w) {dst src : TypeId} {x y : SVal} {v : Value} (hx : den ρ x = some v) (h : bytesE P H dst src x = some y) :
    SemOk w0 H ρ y H ((convert src dst v).run P w) := by
  unfold bytesE at h
  split at h
  case h_2 => cases h
  rename_i i off len hsl
  split at h
  case h_2 => cases h
  rename_i e hs hd
  split at h
  case h_2 => cases h
  rename_i he
  split at h
  case h_2 => cases h
  rename_i l hl
  split at h
  case h_2 => cases h
  rename_i vs hvs
  split at h
  case h_2 => cases h
  rename_i s hs'
  cases h
  obtain ⟨p, cap, hρ, rfl⟩ := sliceAtOf_ok hx hsl
  obtain ⟨us, h1, h2, h3⟩ := firstOf_ok (P := P) hR hρ hl
  have h4 := denL_of_vOfL (ρ := ρ) _ hvs
  rw [h1] at h4
  simp only [Option.some.injEq] at h4
  subst h4
  refine SemOk.here hR (v := s) ?_ (by simp [den])
  unfold convert
  rw [run_bind_pure hs]
  rw [run_bind_pure hd]
  simp only
  rw [run_bind_pure he]
  simp only
  rw [bytesToString_eq]
  rw [run_bind_ok h3]
  exact run_of_pure hs' w

/-! ### copy -/
/-- The first n elements (of `size` cells) of a slice or a string. -/
def copySrc (H : SHeap) (n size : Nat) : SVal → Option (List SVal)
  | .v (.string s) => some (((s.extract 0 n).data.map fun b => Value.int .u8 b.toNat).toList.map .v)
  | .v (.slice none _ _) => some []
  | x => match sliceAtOf x with
    | some (i, off, _) => firstOf H i off (n * size)
    | none => none

def lenE : SVal → Option Nat
  | .v (.string s) => some s.size
  | .v (.slice none n _) => some n
  | x => match sliceAtOf x with
    | some (_, _, n) => some n
    | none => none

theorem copySrc_ok (hR : Rel w0 ρ H w) {n size : Nat} {s : SVal} {v : Value} (hx : den ρ s = some v) {xs : List SVal} (h : copySrc H n size s = some xs) :
    ∃ vs : List Value, denL ρ xs = some vs ∧ (Builtin.firstCells size n v).run P w = .ok vs.toArray w := by
  unfold copySrc at h
  split at h
  · rename_i s
    cases h
    simp only [den, Option.some.injEq] at hx
    subst hx
    refine ⟨_, denL_map_v _, ?_⟩
    simp only [Array.toArray_toList]
    rfl
  · cases h
    simp only [den, Option.some.injEq] at hx
    subst hx
    exact ⟨[], rfl, rfl⟩
  · split at h
    case h_2 => cases h
    rename_i i off len hsl
    obtain ⟨p, cap, hρ, rfl⟩ := sliceAtOf_ok hx hsl
    obtain ⟨us, h1, h2, h3⟩ := firstOf_ok (P := P) hR hρ h
    exact ⟨us, h1, h3⟩

theorem lenE_ok {s : SVal} {v : Value} (hx : den ρ s = some v) {n : Nat} (h : lenE s = some n) : (Builtin.lenOf v).run P w = .ok n w := by
  unfold lenE at h
  split at h
  · cases h; simp only [den, Option.some.injEq] at hx; subst hx; rfl
  · cases h; simp only [den, Option.some.injEq] at hx; subst hx; rfl
  · split at h
    · rename_i hsl
      cases h
      obtain ⟨p, cap, hρ, rfl⟩ := sliceAtOf_ok hx hsl
      rfl
    · cases h

def copyE (P : Program) (H : SHeap) (ty : TypeId) (d s : SVal) : Option Res :=
  match sliceAtOf d with
  | some (i, off, dLen) => match pureRun P (underlying ty) with
    | some (.slice elem) => match pureRun P (sizeOf elem) with
      | some size => match lenE s with
        | some ls => match copySrc H (Nat.min ls dLen) size s with
          | some xs => match writeE H i off xs with
            | some H' => some (.val (.v (goInt (Nat.min ls dLen))) H')
            | none => none
          | none => none
        | none => none
      | none => none
    | _ => none
  | _ => none

theorem copy_ok (hR : Rel w0 ρ H w) {ty sTy rTy : TypeId} {d s : SVal} {dv sv : Value} (hd : den ρ d = some dv) (hs : den ρ s = some sv) {r : Res} (h : copyE P H ty d s = some r) :
    ∃ x H', r = .val x H' ∧ SemOk w0 H ρ x H' ((Builtin.copy_ #[ty, sTy] rTy #[dv, sv]).run P w) := by
  unfold copyE at h
  split at h
  case h_2 => cases h
  rename_i i off dLen hsl
  split at h
  case h_2 => cases h
  rename_i elem hu
  split at h
  case h_2 => cases h
  rename_i size hsz
  split at h
  case h_2 => cases h
  rename_i ls hls
  split at h
  case h_2 => cases h
  rename_i xs hxs
  split at h
  case h_2 => cases h
  rename_i H' hw
  cases h
  refine ⟨_, _, rfl, ?_⟩
  obtain ⟨p, cap, hb, rfl⟩ := sliceAtOf_ok hd hsl
  obtain ⟨vs, hvs, hrun⟩ := copySrc_ok (P := P) hR hs hxs
  obtain ⟨w', h0, h1, h2⟩ := writeE_ok (P := P) hR hb hvs hw
  refine ⟨ρ, goInt (Nat.min ls dLen), w', ?_, h0, by simp [den], h1⟩
  unfold Builtin.copy_
  simp only [List.getElem?_toArray, List.getElem?_cons_zero, List.getElem?_cons_succ]
  rw [run_bind_pure hu]
  simp only
  rw [run_bind_ok (lenE_ok hs hls)]
  rw [run_bind_pure hsz]
  rw [run_bind_ok hrun]
  simp only
  rw [run_bind_ok h2]
  rfl

/-! ### append -/
def appendXs (P : Program) (H : SHeap) (ty xTy : TypeId) (x : SVal) : Option (TypeId × Nat × Nat × Nat × List SVal) :=
  match pureRun P (underlying ty) with
  | some (.slice elem) => match pureRun P (typeInfo elem) with
    | some info => match pureRun P (zeroValue elem), pureRun P (underlying xTy) with
      | some z, some d =>
        if z.cells.size = info.size then
          match d with
          | .int _ => none
          | _ => match lenE x with
            | some n => match copySrc H n info.size x with
              | some xs => some (elem, info.size, info.bytes, n, xs)
              | none => none
            | none => none
        else none
      | _, _ => none
    | none => none
  | _ => none

/-- May this row be appended to, where it ends? No other row of its group tells of cells behind its end. -/
def tipOf (g n : Nat) (H : SHeap) : Bool := H.all fun o => match o with
  | .row l _ _ g' => !(g' == g) || decide (l.length ≤ n)
  | _ => true

def appendE (P : Program) (H : SHeap) (ty xTy : TypeId) (s x : SVal) : Option Res :=
  match appendXs P H ty xTy x with
  | none => none
  | some (elem, size, bytes, n, xs) =>
    if size = 0 ∨ bytes = 0 ∨ 65536 < bytes ∨ ¬ xs.length = n * size then none else
    match s with
    | .v (.slice none 0 0) =>
      if n = 0 then some (.val s H) else
      if n ≤ 65536 then some (.val (.row H.length 0 0 n) (H ++ [.row xs elem size H.length])) else none
    | .slice i off len cap =>
      if len + n ≤ cap then
        match writeE H i (off + len * size) xs with
        | some H' => some (.val (.slice i off (len + n) cap) H')
        | none => none
      else if cap ≤ 65536 ∧ len + n ≤ 65536 then
        match firstOf H i off (len * size) with
        | some old => some (.val (.row H.length 0 0 (len + n)) (H ++ [.row (old ++ xs) elem size H.length]))
        | none => none
      else none
    | .row i 0 0 len =>
      if n = 0 then some (.val s H) else
      match H[i]? with
      | some (.row l e sz g) =>
        if e = elem ∧ sz = size ∧ l.length = len * size ∧ tipOf g (len * size) H = true ∧ xs.all sOne = true ∧ len + n ≤ 65536 then
          some (.val (.row H.length 0 0 (len + n)) (H ++ [.row (l ++ xs) elem size g]))
        else none
      | _ => none
    | _ => none

/-- The world behind a draw. -/
def drew1 (w : World) : World := { w with drawn := w.drawn + 1 }

theorem Rel.behindDraw {w0 w : World} {ρ : Ren} {H : SHeap} (hR : Rel w0 ρ H w) : Rel w0 ρ H (drew1 w) :=
  ⟨hR.below.trans ⟨rfl, rfl, rfl, Nat.le_refl _, fun _ _ => rfl⟩, hR.fresh, hR.inj, hR.obj⟩

/-- What an append's arguments come to. -/
structure AppArgs (P : Program) (w : World) (ρ : Ren) (ty xTy : TypeId) (xv : Value) (elem size bytes n : Nat) (xs : List SVal) (vs : List Value) : Prop where
  slice : pureRun P (underlying ty) = some (.slice elem)
  info : ∃ info, pureRun P (typeInfo elem) = some info ∧ info.size = size ∧ info.bytes = bytes
  zero : ∃ z, pureRun P (zeroValue elem) = some z ∧ z.cells.size = size
  noint : ∃ d, pureRun P (underlying xTy) = some d ∧ (d matches .int _) = false
  len : (Builtin.lenOf xv).run P w = .ok n w
  first : (Builtin.firstCells size n xv).run P w = .ok vs.toArray w
  first1 : (Builtin.firstCells size n xv).run P (drew1 w) = .ok vs.toArray (drew1 w)
  den : denL ρ xs = some vs

theorem appendXs_ok (hR : Rel w0 ρ H w) {ty xTy : TypeId} {x : SVal} {xv : Value} (hx : den ρ x = some xv) {elem size bytes n : Nat} {xs : List SVal} (h : appendXs P H ty xTy x = some (elem, size, bytes, n, xs)) :
    ∃ vs, AppArgs P w ρ ty xTy xv elem size bytes n xs vs := by
  unfold appendXs at h
  split at h
  case h_2 => cases h
  rename_i elem' hu
  split at h
  case h_2 => cases h
  rename_i info hi
  split at h
  case h_2 => cases h
  rename_i z d hz hd
  split at h
  case isFalse => cases h
  rename_i hzs
  split at h
  · cases h
  rename_i hni
  split at h
  case h_2 => cases h
  rename_i n' hn
  split at h
  case h_2 => cases h
  rename_i xs' hxs
  cases h
  obtain ⟨vs, h1, h2⟩ := copySrc_ok (P := P) hR hx hxs
  obtain ⟨vs', h1', h2'⟩ := copySrc_ok (P := P) hR.behindDraw hx hxs
  obtain rfl : vs = vs' := Option.some.inj (h1.symm.trans h1')
  exact ⟨vs, hu, ⟨info, hi, rfl, rfl⟩, ⟨z, hz, hzs⟩, ⟨d, hd, by cases d <;> first | rfl | exact absurd rfl (hni _)⟩, lenE_ok hx hn, h2, h2', h1⟩

 omit [Env] in
theorem zeroCells_size (z : Array Value) (n : Nat) : (Builtin.zeroCells z n).size = n * z.size := by simp [Builtin.zeroCells]

 omit [Env] in
theorem nextcap_le {need old : Nat} (h1 : need ≤ 65536) (h2 : old ≤ 65536) : Builtin.nextslicecap need old ≤ 131072 + 768 := by
  have grow : ∀ (r c : Nat), c ≤ 131072 → need ≤ 65536 → Builtin.growBy need r c ≤ 131072 + 768 := by
    intro r
    induction r with
    | zero => intro c hc _; simp [Builtin.growBy]; omega
    | succ r ih =>
      intro c hc hn
      simp only [Builtin.growBy]
      split
      · omega
      · exact ih _ (by omega) hn
  unfold Builtin.nextslicecap
  split
  · omega
  · split
    · omega
    · exact grow 4 old (by omega) h1

/-- An append that makes a new row. -/
theorem append_grow {ty xTy rTy : TypeId} {xv sv : Value} {elem size bytes n : Nat} {xs : List SVal} {vs : List Value} (hA : AppArgs P w ρ ty xTy xv elem size bytes n xs vs) (hb : bytes ≤ 65536) (hb0 : bytes ≠ 0)
    {base : Option Addr} {len cap : Nat} (hs : sv = .slice base len cap) (hneed : ¬ len + n ≤ cap) (hle : len + n ≤ 65536) (hcap : cap ≤ 65536) {old : List Value} (hold : (Builtin.firstCells size len sv).run P (drew1 w) = .ok old.toArray (drew1 w)) :
    ∃ c, len + n ≤ c ∧ ∃ rest : List Value, rest.length = (c - (len + n)) * size ∧
      (Builtin.append_ #[ty, xTy] rTy #[sv, xv]).run P w = .ok (.slice (some ⟨w.heap.size, 0, none⟩) (len + n) c) { drew1 w with heap := w.heap.push (.cells (old ++ vs ++ rest).toArray elem (0, 0)) } := by
  obtain ⟨info, hi, rfl, rfl⟩ := hA.info
  obtain ⟨z, hz, hzs⟩ := hA.zero
  obtain ⟨d, hd, hdi⟩ := hA.noint
  subst hs
  refine ⟨(Question.appendCap (len + n) cap elem).cut (w.tape w.drawn (.appendCap (len + n) cap elem)), by simp [Question.cut], (Builtin.zeroCells z.cells ((Question.appendCap (len + n) cap elem).cut (w.tape w.drawn (.appendCap (len + n) cap elem)) - (len + n))).toList, ?_, ?_⟩
  · simp [zeroCells_size, hzs]
  · unfold Builtin.append_
    simp only [List.getElem?_toArray, List.getElem?_cons_zero, List.getElem?_cons_succ]
    rw [run_bind_pure hA.slice]
    simp only
    rw [run_bind_ok (sizeOf_of_info hi)]
    rw [run_bind_pure hd]
    rw [run_pure_bind]
    split
    · cases hdi
    simp only [Bool.not_false, if_true, Bool.false_eq_true, if_false]
    rw [run_bind_ok hA.len]
    rw [if_neg hneed]
    rw [run_bind_pure hi]
    rw [if_neg (by simp only [false_or]; exact fun h => hb0 h.2)]
    rw [run_bind_pure hi]
    rw [if_neg (by
      have h1 := nextcap_le hle hcap
      have h2 : Builtin.nextslicecap (len + n) cap * info.bytes ≤ (131072 + 768) * 65536 := Nat.mul_le_mul h1 hb
      omega)]
    have hch : (choose (.appendCap (len + n) cap elem)).run P w = .ok ((Question.appendCap (len + n) cap elem).cut (w.tape w.drawn (.appendCap (len + n) cap elem))) (drew1 w) := by
      simp [choose, Sem.run, Question.forced, drew1]
    rw [run_bind_ok hch]
    rw [run_bind_pure hi]
    rw [run_bind_ok (a := ()) (w' := drew1 w) (by unfold askRoom; split <;> rfl)]
    rw [run_bind_ok hold]
    rw [run_bind_ok hA.first1]
    rw [run_bind_pure hz]
    have e : ∀ zc : Array Value, old.toArray ++ vs.toArray ++ zc = (old ++ vs ++ zc.toList).toArray := fun zc => Array.toList_inj.1 (by simp)
    rw [e]
    rfl

/-- An append within the room. -/
theorem append_here {ty xTy rTy : TypeId} {xv sv : Value} {elem size bytes n : Nat} {xs : List SVal} {vs : List Value} (hA : AppArgs P w ρ ty xTy xv elem size bytes n xs vs)
    {b : Nat} {off len cap : Nat} (hs : sv = .slice (some ⟨b, off, none⟩) len cap) (hneed : len + n ≤ cap) {w' : World} (hst : (storeCells ⟨b, off + len * size, none⟩ vs).run P w = .ok () w') :
    (Builtin.append_ #[ty, xTy] rTy #[sv, xv]).run P w = .ok (.slice (some ⟨b, off, none⟩) (len + n) cap) w' := by
  obtain ⟨info, hi, rfl, rfl⟩ := hA.info
  obtain ⟨d, hd, hdi⟩ := hA.noint
  subst hs
  unfold Builtin.append_
  simp only [List.getElem?_toArray, List.getElem?_cons_zero, List.getElem?_cons_succ]
  rw [run_bind_pure hA.slice]
  simp only
  rw [run_bind_ok (sizeOf_of_info hi)]
  rw [run_bind_pure hd]
  rw [run_pure_bind]
  split
  · cases hdi
  simp only [Bool.not_false, if_true, Bool.false_eq_true, if_false]
  rw [run_bind_ok hA.len]
  rw [if_pos hneed]
  rw [run_bind_ok hA.first]
  simp only
  rw [addr_add _ _ rfl]
  rw [run_bind_ok hst]
  rfl

 omit [Env] in
/-- Cells behind what is known, overwritten. -/
theorem storeRaw : ∀ (vs : List Value) {w : World} {b off j : Nat} {e : TypeId} {fz : Nat × Nat} (pre rest : List Value) (_ : w.heap[b]? = some (.cells (pre ++ rest).toArray e fz)) (_ : off + j = pre.length) (_ : vs.length ≤ rest.length)
    (_ : ∀ k, k < (pre ++ rest).length → (decide (fz.1 ≤ k) && decide (k < fz.2)) = false) (_ : ∀ v ∈ vs, oneV v = true),
    ∃ w', (storeCells ⟨b, off, none⟩ vs j).run P w = .ok () w' ∧ w'.os = w.os ∧ w'.tape = w.tape ∧ w'.output = w.output ∧ w'.heap.size = w.heap.size ∧ (∀ k, k ≠ b → w'.heap[k]? = w.heap[k]?) ∧
      w'.heap[b]? = some (.cells (pre ++ vs ++ rest.drop vs.length).toArray e fz)
  | [], w, b, off, j, e, fz, pre, rest, hb, _, _, _, _ => ⟨w, rfl, rfl, rfl, rfl, rfl, fun _ _ => rfl, by simpa using hb⟩
  | v :: vs, w, b, off, j, e, fz, pre, rest, hb, hoff, hlen, hfz, hone => by
    cases rest with
    | nil => simp at hlen
    | cons r rest =>
      have hcell : w.cell? ⟨b, off + j, none⟩ = some r := by
        simp only [World.cell?, hb]
        simp [hoff]
      have hfr : w.frozen? ⟨b, off + j, none⟩ = false := by
        simp only [World.frozen?, hb]
        exact hfz (off + j) (by simp; omega)
      have hnew : (w.setCell ⟨b, off + j, none⟩ v).heap[b]? = some (.cells ((pre ++ [v]) ++ rest).toArray e fz) := by
        simp only [World.setCell, Array.getElem?_modify, if_true, hb]
        simp [hoff]
      obtain ⟨w', h1, h2, h3, h4, h5, h6, h7⟩ := storeRaw vs (off := off) (j := j + 1) (pre ++ [v]) rest hnew (by simp; omega) (by simpa using hlen) (by
        intro k hk; exact hfz k (by simpa using hk)) (fun u hu => hone u (List.mem_cons_of_mem _ hu))
      refine ⟨w', ?_, h2, h3, h4, by rw [h5]; simp [World.setCell], fun k hk => by rw [h6 k hk]; exact Below.heap_setCell _ _ _ _ hk, by simpa using h7⟩
      rw [storeCells]
      show ((Sem.store .plain _ v (.pure ())).bind _).run P w = _
      rw [show (Addr.add ⟨b, off, none⟩ j) = ⟨b, off + j, none⟩ from addr_add _ _ rfl]
      simp only [Sem.bind]
      have ho := hone v (by simp)
      have hrun : ∀ k : Sem Unit, (Sem.store .plain ⟨b, off + j, none⟩ v k).run P w = k.run P (w.setCell ⟨b, off + j, none⟩ v) := by
        intro k
        cases v <;> first | (simp [oneV] at ho; done) | (simp only [Sem.run, hcell, hfr]; rfl)
      rw [hrun]
      exact h1

theorem sOne_all {xs : List SVal} {vs : List Value} : ∀ (_ : denL ρ xs = some vs) (_ : xs.all sOne = true), ∀ v ∈ vs, oneV v = true := by
  induction xs generalizing vs with
  | nil => intro h _; simp [denL] at h; subst h; simp
  | cons x xs ih =>
    intro h hall
    obtain ⟨a, b, ha, hb, rfl⟩ := denL_cons.1 h
    simp only [List.all_cons, Bool.and_eq_true] at hall
    intro v hv
    rcases List.mem_cons.1 hv with rfl | hv
    · exact oneCell_of_sOne ha hall.1
    · exact ih hb hall.2 v hv

theorem firstCells_first (hR : Rel w0 ρ H w) {i : Nat} {p : Loc} (hi : ρ i = some p) {off len size cap : Nat} {l : List SVal} (h : firstOf H i off (len * size) = some l) :
    ∃ vs, denL ρ l = some vs ∧ vs.length = len * size ∧ (Builtin.firstCells size len (.slice (some ⟨p.b, off, none⟩) len cap)).run P (drew1 w) = .ok vs.toArray (drew1 w) := by
  obtain ⟨us, h1, h2, h3⟩ := firstOf_ok (P := P) hR.behindDraw hi h
  exact ⟨us, h1, h2, h3⟩

/-- A new row with room behind what is known. -/
theorem Rel.newRoom (hR : Rel w0 ρ H w) {l : List SVal} {vs rest : List Value} (hl : denL ρ l = some vs) {e : TypeId} {sz c g : Nat} (hsz : (vs ++ rest).length = c * sz) :
    Rel w0 (ρ.with H.length ⟨w.heap.size, c⟩) (H ++ [.row l e sz g]) { drew1 w with heap := w.heap.push (.cells (vs ++ rest).toArray e (0, 0)) } :=
  hR.behindDraw.push (o := .row l e sz g) (ob := .cells (vs ++ rest).toArray e (0, 0)) (c := c) ⟨vs, hl, rest, (0, 0), rfl, hsz, fun k _ => by simp⟩

theorem append_ok (hR : Rel w0 ρ H w) {ty xTy rTy : TypeId} {s x : SVal} {sv xv : Value} (hs : den ρ s = some sv) (hx : den ρ x = some xv) {r : Res} (h : appendE P H ty xTy s x = some r) :
    ∃ y H', r = .val y H' ∧ SemOk w0 H ρ y H' ((Builtin.append_ #[ty, xTy] rTy #[sv, xv]).run P w) := by
  unfold appendE at h
  split at h
  · cases h
  rename_i elem size bytes n xs hxs
  obtain ⟨vs, hA⟩ := appendXs_ok hR hx hxs
  split at h
  · cases h
  rename_i hc
  have hsize : size ≠ 0 := fun e => hc (.inl e)
  have hbytes : bytes ≠ 0 := fun e => hc (.inr (.inl e))
  have hb : bytes ≤ 65536 := by rcases Nat.lt_or_ge 65536 bytes with h' | h'; exact absurd (.inr (.inr (.inl h'))) hc; exact h'
  have hn : xs.length = n * size := Decidable.byContradiction fun e => hc (.inr (.inr (.inr e)))
  have hvl : vs.length = n * size := by rw [denL_length hA.den]; exact hn
  split at h
  · -- nil
    simp only [den, Option.some.injEq] at hs
    subst hs
    split at h
    · rename_i hn0
      cases h
      refine ⟨_, _, rfl, ρ, .slice none 0 0, w, ?_, Ext.refl _ _, by simp [den], hR⟩
      obtain ⟨info, hi, rfl, rfl⟩ := hA.info
      obtain ⟨d, hd, hdi⟩ := hA.noint
      unfold Builtin.append_
      simp only [List.getElem?_toArray, List.getElem?_cons_zero, List.getElem?_cons_succ]
      rw [run_bind_pure hA.slice]
      simp only
      rw [run_bind_ok (sizeOf_of_info hi)]
      rw [run_bind_pure hd]
      rw [run_pure_bind]
      split
      · cases hdi
      simp only [Bool.not_false, if_true, Bool.false_eq_true, if_false]
      rw [run_bind_ok hA.len]
      rw [if_pos (by omega)]
      rw [run_bind_ok hA.first]
      subst hn0
      rfl
    · rename_i hn0
      split at h
      case isFalse => cases h
      rename_i hle
      cases h
      obtain ⟨c, hcap, rest, hrl, hrun⟩ := append_grow (P := P) (rTy := rTy) hA hb hbytes (base := none) (len := 0) (cap := 0) rfl (by omega) (by omega) (by omega) (old := []) rfl
      have hlen : (vs ++ rest).length = c * size := by
        rw [List.length_append, hvl, hrl, ← Nat.add_mul]
        congr 1; omega
      have hR' := hR.newRoom (e := elem) (sz := size) (c := c) (g := H.length) hA.den hlen
      refine ⟨_, _, rfl, _, .slice (some ⟨w.heap.size, 0, none⟩) (0 + n) c, _, by rw [hrun]; simp only [List.nil_append], Ext.push _ _ _ _, ?_, hR'⟩
      simp only [den, Ren.with, if_true]
      rw [if_pos (by omega)]
      simp
  · -- known room
    rename_i i off len cap
    obtain ⟨p, hρ, rfl⟩ := den_slice hs
    split at h
    · rename_i hneed
      split at h
      case h_2 => cases h
      rename_i H' hw
      cases h
      obtain ⟨w', h0, h1, h2⟩ := writeE_ok (P := P) hR hρ hA.den hw
      refine ⟨_, _, rfl, ρ, .slice (some ⟨p.b, off, none⟩) (len + n) cap, w', append_here hA rfl hneed h2, h0, by simp only [den, hρ], h1⟩
    · rename_i hneed
      split at h
      case isFalse => cases h
      rename_i hle
      split at h
      case h_2 => cases h
      rename_i old hold
      cases h
      obtain ⟨us, hu1, hu2, hu3⟩ := firstCells_first (P := P) (cap := cap) hR hρ hold
      obtain ⟨c, hcap, rest, hrl, hrun⟩ := append_grow (P := P) (rTy := rTy) hA hb hbytes rfl hneed hle.2 hle.1 hu3
      have hlen : (us ++ vs ++ rest).length = c * size := by
        rw [List.length_append, List.length_append, hu2, hvl, hrl, ← Nat.add_mul, ← Nat.add_mul]
        congr 1; omega
      have hR' := hR.newRoom (e := elem) (sz := size) (c := c) (g := H.length) (denL_append hA.den hu1) hlen
      refine ⟨_, _, rfl, _, .slice (some ⟨w.heap.size, 0, none⟩) (len + n) c, _, hrun, Ext.push _ _ _ _, ?_, hR'⟩
      simp only [den, Ren.with, if_true]
      rw [if_pos (by omega)]
      simp
  · -- a row
    rename_i i len
    have hs' := hs
    obtain ⟨p, hρ, hpc, rfl⟩ := den_row hs
    split at h
    · rename_i hn0
      cases h
      subst hn0
      refine ⟨_, _, rfl, ρ, .slice (some ⟨p.b, 0, none⟩) len (p.c - 0), w, ?_, Ext.refl _ _, hs', hR⟩
      have hvs : vs = [] := by simpa using hvl
      subst hvs
      exact append_here hA rfl (by omega) rfl
    rename_i hn0
    split at h
    case h_2 => cases h
    rename_i l e sz g hH
    split at h
    case isFalse => cases h
    rename_i hcond
    obtain ⟨rfl, rfl, hll, htip, hone, hle⟩ := hcond
    cases h
    obtain ⟨o', ob, g1, g2, g3⟩ := hR.obj i p hρ
    rw [hH] at g1
    cases g1
    obtain ⟨us, hu1, rest, fz, rfl, hu2, hu3⟩ := g3
    have hul : us.length = len * sz := by rw [denL_length hu1]; exact hll
    by_cases hneed : len + n ≤ p.c
    · -- there is room
      have hrl : n * sz ≤ rest.length := by
        have h1 : (len + n) * sz ≤ p.c * sz := Nat.mul_le_mul_right sz hneed
        rw [← hu2, List.length_append, hul, Nat.add_mul] at h1
        omega
      obtain ⟨w', k1, k2, k3, k4, k5, k6, k7⟩ := storeRaw (P := P) vs (off := 0 + len * sz) (j := 0) us rest g2 (by omega) (by omega) hu3 (sOne_all hA.den hone)
      have hnew : ObjRel ρ p (.row (l ++ xs) e sz g) (.cells (us ++ vs ++ rest.drop vs.length).toArray e fz) := by
        refine ⟨us ++ vs, denL_append hA.den hu1, rest.drop vs.length, fz, rfl, ?_, ?_⟩
        · rw [← hu2]; simp; omega
        · intro k hk; exact hu3 k (by simp at hk ⊢; omega)
      have hle' := Ren.le_with hR p
      refine ⟨_, _, rfl, ρ.with H.length p, .slice (some ⟨p.b, 0, none⟩) (len + n) (p.c - 0), w', append_here hA rfl (by omega) k1, Ext.push _ _ _ _, ?_, ?_⟩
      · simp only [den, Ren.with, if_true]
        rw [if_pos (by omega)]
      · -- the relation
        have tip : ∀ j q, ρ j = some q → q.b = p.b → H[j]? = some .dead ∨ ∃ l' e' sz', H[j]? = some (.row l' e' sz' g) ∧ l'.length ≤ len * sz := fun j q hj hb => by
          rcases hR.inj j i q p hj hρ hb with e1 | ⟨l1, e1, sz1, l2, e2, sz2, g', hh | hh | hh⟩
          · subst e1; exact .inr ⟨l, e, sz, hH, by omega⟩
          · rw [hH] at hh
            have := hh.2
            cases this
            refine .inr ⟨l1, e1, sz1, hh.1, ?_⟩
            unfold tipOf at htip
            rw [List.all_eq_true] at htip
            have := htip _ (List.mem_of_getElem? hh.1)
            simpa using this
          · exact .inl hh
          · rw [hH] at hh; cases hh
        refine ⟨hR.below.trans ⟨k2, k3, k4, by omega, fun k hk => k6 k (by have := (hR.fresh i p hρ).1; omega)⟩, ?_, ?_, ?_⟩
        · intro j q hj
          rw [k5]
          unfold Ren.with at hj
          split at hj
          · cases hj; exact hR.fresh i p hρ
          · exact hR.fresh j q hj
        · intro j k q r hj hk hb
          have look : ∀ j q, ρ j = some q → q.b = p.b → Alike (H ++ [.row (l ++ xs) e sz g]) j H.length ∧ Alike (H ++ [.row (l ++ xs) e sz g]) H.length j := fun j q hj hb => by
            have hlast : (H ++ [SObj.row (l ++ xs) e sz g])[H.length]? = some (.row (l ++ xs) e sz g) := by simp
            have hlt := hR.lt hj
            rcases tip j q hj hb with hd | ⟨l', e', sz', hr, _⟩
            · have hd' : (H ++ [SObj.row (l ++ xs) e sz g])[j]? = some .dead := by rw [List.getElem?_append_left hlt]; exact hd
              exact ⟨.inr ⟨[], 0, 0, [], 0, 0, 0, .inr (.inl hd')⟩, .inr ⟨[], 0, 0, [], 0, 0, 0, .inr (.inr hd')⟩⟩
            · have hr' : (H ++ [SObj.row (l ++ xs) e sz g])[j]? = some (.row l' e' sz' g) := by rw [List.getElem?_append_left hlt]; exact hr
              exact ⟨.inr ⟨_, _, _, _, _, _, g, .inl ⟨hr', hlast⟩⟩, .inr ⟨_, _, _, _, _, _, g, .inl ⟨hlast, hr'⟩⟩⟩
          unfold Ren.with at hj hk
          split at hj <;> split at hk
          · exact .inl (by omega)
          · rename_i hjn _
            cases hj
            rw [hjn]
            exact (look k r hk hb.symm).2
          · rename_i _ hkn
            cases hk
            rw [hkn]
            exact (look j q hj hb).1
          · exact (hR.inj j k q r hj hk hb).append
        · intro j q hj
          by_cases hjn : j = H.length
          · subst hjn
            simp only [Ren.with, if_true, Option.some.injEq] at hj
            subst hj
            exact ⟨_, _, by simp, k7, hnew.mono hle'⟩
          · have hj' : ρ j = some q := by simpa [Ren.with, hjn] using hj
            have hlt := hR.lt hj'
            obtain ⟨o2, ob2, m1, m2, m3⟩ := hR.obj j q hj'
            by_cases hb' : q.b = p.b
            · rcases tip j q hj' hb' with hd | ⟨l', e', sz', hr, hl'⟩
              · exact ⟨.dead, _, by rw [List.getElem?_append_left hlt]; exact hd, by rw [hb']; exact k7, trivial⟩
              · rw [hr] at m1
                cases m1
                rw [hb', g2] at m2
                cases m2
                obtain ⟨us', v1, rest', fz', v2, v3, v4⟩ := m3
                refine ⟨_, _, by rw [List.getElem?_append_left hlt]; exact hr, by rw [hb']; exact k7, ObjRel.mono hle' ?_⟩
                simp only [Obj.cells.injEq] at v2
                obtain ⟨v2, rfl, rfl⟩ := v2
                have hcs : us ++ rest = us' ++ rest' := by simpa using v2
                have hus' : us'.length ≤ us.length := by rw [denL_length v1, hul]; exact hl'
                have hpre : us = us' ++ us.drop us'.length := by
                  have h1 : us' = (us ++ rest).take us'.length := by rw [hcs]; simp
                  rw [List.take_append_of_le_length hus'] at h1
                  conv => lhs; rw [← List.take_append_drop us'.length us, ← h1]
                refine ⟨us', v1, us.drop us'.length ++ vs ++ rest.drop vs.length, fz, ?_, ?_, ?_⟩
                · have : us ++ vs ++ rest.drop vs.length = us' ++ (us.drop us'.length ++ vs ++ rest.drop vs.length) := by
                    conv => lhs; rw [hpre]
                    simp
                  rw [this]
                · rw [← v3, ← hcs]; simp; omega
                · intro k hk; exact v4 k (by rw [← hcs]; simp at hk ⊢; omega)
            · exact ⟨o2, ob2, by rw [List.getElem?_append_left hlt]; exact m1, by rw [k6 _ hb']; exact m2, m3.mono hle'⟩
    · -- a new row
      have hpc' : p.c ≤ 65536 := by omega
      have hfirst : firstOf H i 0 (len * sz) = some l := by
        unfold firstOf
        simp only [cellsFrom, hH, List.drop_zero]
        have : l.take (len * sz) = l := List.take_of_length_le (by omega)
        rw [this, if_pos hll]
      obtain ⟨us', q1, q2, q3⟩ := firstCells_first (P := P) (cap := p.c - 0) hR hρ hfirst
      obtain ⟨c, hcap, rest', hrl, hrun⟩ := append_grow (P := P) (rTy := rTy) hA hb hbytes (base := some ⟨p.b, 0, none⟩) (len := len) (cap := p.c - 0) rfl (by omega) hle (by omega) q3
      have hlen : (us' ++ vs ++ rest').length = c * sz := by
        rw [List.length_append, List.length_append, q2, hvl, hrl, ← Nat.add_mul, ← Nat.add_mul]
        congr 1; omega
      have hR' := hR.newRoom (e := e) (sz := sz) (c := c) (g := g) (denL_append hA.den q1) hlen
      refine ⟨_, _, rfl, _, .slice (some ⟨w.heap.size, 0, none⟩) (len + n) c, _, hrun, Ext.push _ _ _ _, ?_, hR'⟩
      simp only [den, Ren.with, if_true]
      rw [if_pos (by omega)]
      simp
  · cases h

/-! ### A string's bytes -/
def bytesV (s : ByteArray) : List Value := (s.data.map fun (b : UInt8) => Value.int .u8 b.toNat).toList

 omit [Env] in
theorem bytesV_len (s : ByteArray) : (bytesV s).length = s.size := by
  simp [bytesV]

def strBytesE (P : Program) (H : SHeap) (dst src : TypeId) (x : SVal) : Option Res :=
  match x with
  | .v (.string s) => match pureRun P (underlying src), pureRun P (underlying dst) with
    | some .string, some (.slice e) => match pureRun P (underlying e) with
      | some (.int .u8) => some (.val (.row H.length 0 0 s.size) (H ++ [.row ((bytesV s).map .v) e 1 H.length]))
      | _ => none
    | _, _ => none
  | _ => none

theorem strBytes_ok (hR : Rel w0 ρ H w) {dst src : TypeId} {x : SVal} {v : Value} (hx : den ρ x = some v) {r : Res} (h : strBytesE P H dst src x = some r) :
    ∃ y H', r = .val y H' ∧ SemOk w0 H ρ y H' ((convert src dst v).run P w) := by
  unfold strBytesE at h
  split at h
  case h_2 => cases h
  rename_i s
  split at h
  case h_2 => cases h
  rename_i e hs hd
  split at h
  case h_2 => cases h
  rename_i he
  cases h
  simp only [den, Option.some.injEq] at hx
  subst hx
  refine ⟨_, _, rfl, ?_⟩
  obtain ⟨c, hc, hcut⟩ : ∃ c, s.size ≤ c ∧ c = (Question.appendCap s.size 0 e).cut (w.tape w.drawn (.appendCap s.size 0 e)) := ⟨_, by simp [Question.cut], rfl⟩
  have hch : (choose (.appendCap s.size 0 e)).run P w = .ok c (drew1 w) := by
    simp [choose, Sem.run, Question.forced, drew1, hcut]
  have hvs := denL_map_v (ρ := ρ) (bytesV s)
  have hsz : (bytesV s ++ List.replicate (c - s.size) (Value.int .u8 0)).length = c := by
    simp [bytesV_len]; omega
  have hpush := hR.behindDraw.push (o := .row ((bytesV s).map .v) e 1 H.length) (c := c)
    (ob := .cells (bytesV s ++ List.replicate (c - s.size) (Value.int .u8 0)).toArray e (c, c + 1))
    ⟨_, hvs, List.replicate (c - s.size) (Value.int .u8 0), (c, c + 1), rfl, by rw [hsz]; simp, fun k hk => by rw [hsz] at hk; simp; omega⟩
  refine ⟨_, .slice (some ⟨w.heap.size, 0, none⟩) s.size c, _, ?_, Ext.push _ _ _ _, ?_, hpush⟩
  · unfold convert
    rw [run_bind_pure hs]
    rw [run_bind_pure hd]
    simp only
    rw [run_bind_pure he]
    simp only
    unfold Conv.stringToBytes
    rw [run_bind_ok hch]
    have earr : (s.data.map fun (b : UInt8) => Value.int .u8 b.toNat) ++ Array.replicate (c - s.size) (Value.int .u8 0) = (bytesV s ++ List.replicate (c - s.size) (Value.int .u8 0)).toArray := Array.toList_inj.1 (by simp [bytesV])
    simp only
    rw [earr]
    rw [run_bind_ok (a := (⟨w.heap.size, 0, none⟩ : Addr)) (w' := { drew1 w with heap := w.heap.push (.cells (bytesV s ++ List.replicate (c - s.size) (Value.int .u8 0)).toArray e (0, 0)) }) rfl]
    rw [run_bind_ok (a := ()) (w' := { drew1 w with heap := w.heap.push (.cells (bytesV s ++ List.replicate (c - s.size) (Value.int .u8 0)).toArray e (c, c + 1)) })]
    · rfl
    · unfold markStringish
      rw [run_bind_ok (a := some (e, c)) (w' := { drew1 w with heap := w.heap.push (.cells (bytesV s ++ List.replicate (c - s.size) (Value.int .u8 0)).toArray e (0, 0)) })]
      · simp only [freeze, Sem.run, World.freeze, Nat.one_ne_zero, if_false]
        congr 2
        apply Array.ext_getElem?
        intro k
        rw [Array.getElem?_modify]
        split
        · rename_i hk
          subst hk
          simp
        · rename_i hk
          rw [Array.getElem?_push, Array.getElem?_push, if_neg (Ne.symm hk), if_neg (Ne.symm hk)]
      · simp only [shape, Sem.run, World.shape?]
        simp only [Array.getElem?_push_size, List.size_toArray, hsz]
  · simp only [den, Ren.with, if_true]
    rw [if_pos (by omega)]
    simp [drew1]

/-! ### Bytes seen as a string -/
def pushBytes : List Value → ByteArray → Option ByteArray
  | [], acc => some acc
  | .int .u8 b :: vs, acc => pushBytes vs (acc.push b.toNat.toUInt8)
  | _ :: _, _ => none

 omit [Env] in
theorem loadBytes_ok : ∀ (vs : List Value) (a : Addr) (acc s : ByteArray), a.spot = none → pushBytes vs acc = some s → (∀ k u, vs[k]? = some u → w.cell? { a with off := a.off + k } = some u) → (loadBytes a acc vs.length).run P w = .ok s w
  | [], a, acc, s, _, h, _ => by cases h; rfl
  | v :: vs, a, acc, s, ha, h, hc => by
    unfold pushBytes at h
    split at h
    · rename_i heq; cases heq
    · rename_i acc' b vs' heq
      simp only [List.cons.injEq] at heq
      obtain ⟨rfl, rfl⟩ := heq
      have h0 := hc 0 (.int .u8 b) (by simp)
      simp only [Nat.add_zero] at h0
      rw [List.length_cons, loadBytes]
      rw [run_bind_ok (a := .int .u8 b) (w' := w) (by simp only [load, Sem.run, h0])]
      simp only
      refine loadBytes_ok vs (a.add 1) _ s ?_ h fun k u hk => ?_
      · rw [addr_add a 1 ha]; exact ha
      · rw [addr_add a 1 ha]
        have := hc (k + 1) u (by simpa using hk)
        simp only at this ⊢
        rw [show a.off + 1 + k = a.off + (k + 1) by omega]
        exact this
    · cases h

def strAtE (P : Program) (H : SHeap) (pt : TypeId) (p n : SVal) : Option Res :=
  match p, n with
  | .ptr i off, .v (.int _ m) =>
    if 0 < m ∧ m ≤ 65536 then
      match H[i]? with
      | some (.cells l e (0, 0)) => match pureRun P (elemOf pt) with
        | some u =>
          if liesAt P P.depth e (l.length / P.cellsOf e) off u m.toNat then
            match vOfL ((l.drop off).take m.toNat) with
            | some vs => if vs.length = m.toNat then
                match pushBytes vs .empty with
                | some s => some (.val (.v (.string s)) (H.set i (.cells l e (off, off + m.toNat))))
                | none => none
              else none
            | none => none
          else none
        | none => none
      | _ => none
    else none
  | _, _ => none

theorem strAt_ok (hR : Rel w0 ρ H w) {pt nt rTy : TypeId} {p n : SVal} {pv nv : Value} (hp : den ρ p = some pv) (hn : den ρ n = some nv) {r : Res} (h : strAtE P H pt p n = some r) :
    ∃ y H', r = .val y H' ∧ SemOk w0 H ρ y H' ((Builtin.unsafeString_ #[pt, nt] rTy #[pv, nv]).run P w) := by
  unfold strAtE at h
  split at h
  case h_2 => cases h
  rename_i i off k m
  split at h
  case isFalse => cases h
  rename_i hm
  split at h
  case h_2 => cases h
  rename_i l e hH
  split at h
  case h_2 => cases h
  rename_i u hu
  split at h
  case isFalse => cases h
  rename_i hlies
  split at h
  case h_2 => cases h
  rename_i vs hvs
  split at h
  case isFalse => cases h
  rename_i hlen
  split at h
  case h_2 => cases h
  rename_i s hs
  cases h
  simp only [den, Option.some.injEq] at hn
  subst hn
  obtain ⟨q, hρ, rfl⟩ := den_ptr hp
  obtain ⟨o', ob, g1, g2, g3⟩ := hR.obj i q hρ
  rw [hH] at g1
  cases g1
  obtain ⟨us, hus, rfl⟩ := g3
  have hul := denL_length hus
  have h1 : denL ρ ((l.drop off).take m.toNat) = some ((us.drop off).take m.toNat) := denL_take _ (denL_drop off hus)
  have h2 := denL_of_vOfL (ρ := ρ) _ hvs
  rw [h1] at h2
  simp only [Option.some.injEq] at h2
  have hcells : ∀ k x, vs[k]? = some x → w.cell? ⟨q.b, off + k, none⟩ = some x := fun k x hk => by
    rw [← h2, List.getElem?_take] at hk
    split at hk
    · exact cell_known (vs := us) (rest := []) (by simpa using g2) (by simpa using hk)
    · cases hk
  refine ⟨_, _, rfl, ρ, .string s, w.freeze ⟨q.b, off, none⟩ m.toNat, ?_, Ext.set hρ _, by simp [den], ?_⟩
  · show ((asInt (.int k m)) >>= _ : Sem Value).run P w = _
    rw [run_bind_ok (a := m) (w' := w) rfl]
    simp only [List.getElem?_toArray, List.getElem?_cons_zero]
    rw [if_neg (by omega), if_neg (by simp [IntKind.max, IntKind.bits, IntKind.signed]; omega), if_neg (by omega)]
    rw [run_bind_pure hu]
    rw [run_bind_ok (a := true) (w' := w)]
    · simp only [if_true]
      have := loadBytes_ok (P := P) (w := w) vs ⟨q.b, off, none⟩ .empty s rfl hs (fun k x hk => hcells k x hk)
      rw [hlen] at this
      rw [run_bind_ok this]
      rfl
    · unfold variablesAt
      rw [run_bind_pure (a := P) rfl]
      rw [run_bind_ok (a := some (e, us.length)) (w' := w) (by simp only [shape, Sem.run, World.shape?, g2]; simp)]
      simp only
      rw [hul, hlies]
      rfl
  · have hmne : m.toNat ≠ 0 := by omega
    unfold World.freeze
    rw [if_neg hmne]
    refine hR.setObj hρ (hR.own hρ hH (fun _ _ _ _ e => by cases e) (fun e => by cases e)) (o := .cells l e (off, off + m.toNat)) (ob := .cells us.toArray e (off, off + m.toNat)) ⟨us, hus, rfl⟩ rfl rfl rfl (by simp) (fun k hk => ?_) ?_
    · simp only [Array.getElem?_modify]
      rw [if_neg (Ne.symm hk)]
    · simp only [Array.getElem?_modify, if_true, g2]
      simp

/-! ### Strings ranged over -/
def rangeE (P : Program) (H : SHeap) (ty : TypeId) (x : SVal) : Option Res :=
  match x with
  | .v (.string s) => match pureRun P (underlying ty) with
    | some .string => some (.val (.ptr H.length 0) (H ++ [.iter s 0]))
    | _ => none
  | _ => none

theorem range_ok (hR : Rel w0 ρ H w) {ty : TypeId} {x : SVal} {v : Value} (hx : den ρ x = some v) {r : Res} (h : rangeE P H ty x = some r) :
    ∃ y H', r = .val y H' ∧ SemOk w0 H ρ y H' ((Instr.range ty v).run P w) := by
  unfold rangeE at h
  split at h
  case h_2 => cases h
  rename_i s
  split at h
  case h_2 => cases h
  rename_i hu
  cases h
  simp only [den, Option.some.injEq] at hx
  subst hx
  refine ⟨_, _, rfl, ρ.with H.length ⟨w.heap.size, 0⟩, .pointer (some ⟨w.heap.size, 0, none⟩), _, ?_, Ext.push _ _ _ _, by simp [den, Ren.with], hR.push (o := .iter s 0) (ob := .stringIter s 0) rfl⟩
  unfold Instr.range
  rw [run_bind_pure hu]
  simp only
  rfl

def nextE (H : SHeap) (x : SVal) (isString : Bool) : Option Res :=
  match x with
  | .ptr i 0 => match H[i]? with
    | some (.iter s pos) =>
      if isString then
        if pos < s.size then
          match Utf8.decode s pos with
          | (c, width) => some (.val (.v (.tuple #[.bool true, goInt pos, .int .i32 c])) (H.set i (.iter s (pos + width))))
        else some (.val (.v (.tuple #[.bool false])) H)
      else none
    | _ => none
  | _ => none

theorem next_ok (hR : Rel w0 ρ H w) {x : SVal} {v : Value} (hx : den ρ x = some v) {isString : Bool} {rt : TypeId} {r : Res} (h : nextE H x isString = some r) :
    ∃ y H', r = .val y H' ∧ SemOk w0 H ρ y H' ((Instr.next v isString rt).run P w) := by
  unfold nextE at h
  split at h
  case h_2 => cases h
  rename_i i
  split at h
  case h_2 => cases h
  rename_i s pos hH
  split at h
  case isFalse => cases h
  rename_i hstr
  subst hstr
  obtain ⟨b, hb, rfl⟩ := den_ptr hx
  obtain ⟨o', ob, h1, h2, h3⟩ := hR.obj i b hb
  rw [hH] at h1
  cases h1
  obtain rfl : ob = .stringIter s pos := h3
  have hget : (getObj b.b).run P w = .ok (.stringIter s pos) w := by
    simp only [getObj, Sem.run, h2]
  split at h
  · rename_i hpos
    split at h
    rename_i c width hdec
    cases h
    have hlt : b.b < w.heap.size := (hR.fresh _ _ hb).2
    refine ⟨_, _, rfl, ρ, .tuple #[.bool true, goInt pos, .int .i32 c], { w with heap := w.heap.setIfInBounds b.b (.stringIter s (pos + width)) }, ?_, Ext.set hb _, by simp [den], ?_⟩
    · unfold Instr.next
      simp only
      rw [run_bind_ok hget]
      simp only [hpos, if_true, hdec]
      rw [run_bind_ok (a := ()) (w' := { w with heap := w.heap.setIfInBounds b.b (.stringIter s (pos + width)) }) (by simp only [Go.setObj, Sem.run, h2])]
      rfl
    · refine hR.setObj hb (hR.own hb hH (fun _ _ _ _ e => by cases e) (fun e => by cases e)) (o := .iter s (pos + width)) rfl rfl rfl rfl (by simp) (fun k hk => ?_) ?_
      · simp only
        rw [Array.getElem?_setIfInBounds_ne (Ne.symm hk)]
      · simp [hlt]
  · rename_i hpos
    cases h
    refine ⟨_, _, rfl, ?_⟩
    refine SemOk.here hR (v := .tuple #[.bool false]) ?_ (by simp [den])
    unfold Instr.next
    simp only
    rw [run_bind_ok hget]
    simp only [hpos, if_false]
    rfl

/-! ### Calls -/
def calleeOf : SVal → Option (FuncId × List SVal × List SVal)
  | .v (.func (.func f) fs cs) => some (f, fs.toList.map .v, cs.toList.map .v)
  | .func (.func f) fs cs => some (f, fs, cs)
  | _ => none

def callE (P : Program) (t : List SVal) (f : Operand) (args : List Operand) : Option PRes :=
  match calleeOf (seval t f) with
  | some (g, fs, cs) => match P.funcs[g]? with
    | some fn => if fn.body.isSome then some (.call g (fs ++ sevalL t args ++ cs)) else none
    | none => none
  | none => match seval t f with
    | .yield i => some (.yld i (sevalL t args))
    | _ => none

theorem calleeOf_ok {x : SVal} {v : Value} (hx : den ρ x = some v) {g : FuncId} {fs cs : List SVal} (h : calleeOf x = some (g, fs, cs)) :
    ∃ us ws : Array Value, v = .func (.func g) us ws ∧ denL ρ fs = some us.toList ∧ denL ρ cs = some ws.toList := by
  unfold calleeOf at h
  split at h
  · rename_i f us ws
    simp only [Option.some.injEq, Prod.mk.injEq] at h
    obtain ⟨rfl, rfl, rfl⟩ := h
    simp only [den, Option.some.injEq] at hx
    subst hx
    exact ⟨us, ws, rfl, denL_map_v _, denL_map_v _⟩
  · rename_i f us ws
    simp only [Option.some.injEq, Prod.mk.injEq] at h
    obtain ⟨rfl, rfl, rfl⟩ := h
    simp only [den] at hx
    split at hx <;> simp at hx
    rename_i u' w' h1 h2
    exact ⟨u'.toArray, w'.toArray, hx.symm, by simpa using h1, by simpa using h2⟩
  · cases h

/-- What is asked of the program, and of the facts. -/
structure NamesOk (P : Program) : Prop where
  names : ∀ (f : FuncId) (fn : Func), P.funcs[f]? = some fn → fn.body.isSome = true → (fn.name == "runtime.NumGoroutine") = false
  facts : ∀ (op : Op) (xs : List SVal) (y : SVal), Env.fact op xs = some y → ∀ (ρ : Ren) (f : Operand → Value) (o : Oper) (w : World), o.op = op → denL ρ xs = some (op.operands.toList.map f) →
    ∃ v, (execOp f o).run P w = .ok (.value v) w ∧ den ρ y = some v

theorem call_ok (hN : NamesOk P) (ht : denL ρ t = some a.tmps.toList) {f : Operand} {args : Array Operand} {argTypes : Array TypeId} {ty : TypeId} {r : PRes} (h : callE P t f args.toList = some r) :
    PResOk ρ w r ((do let d ← resolve a.eval { callee := .value f, args, argTypes } ty; invoke d.target d.args : Sem Next).run P w) := by
  unfold callE at h
  split at h
  case h_2 =>
    split at h
    case h_2 => cases h
    rename_i i hi
    cases h
    have hd := den_seval ht f
    rw [hi] at hd
    simp only [den] at hd
    split at hd
    case h_2 => cases hd
    rename_i p hp
    refine ⟨p, args.map a.eval, hp, ?_, fun r hr hs => ?_⟩
    · simp only [Array.toList_map]
      exact denL_sevalL ht _
    · simp only [resolve, ← Option.some.inj hd, Deferred.ofValue]
      rw [run_pure_bind]
      simp only [invoke, Array.empty_append]
      exact run_yield hr hs
  rename_i g fs cs hc
  split at h
  case h_2 => cases h
  rename_i fn hfn
  split at h
  case isFalse => cases h
  rename_i hbody
  cases h
  obtain ⟨us, ws, hv, h1, h2⟩ := calleeOf_ok (den_seval ht f) hc
  refine ⟨us ++ args.map a.eval ++ ws, ?_, ?_⟩
  · simp only [resolve, hv, Deferred.ofValue]
    rw [run_pure_bind]
    simp only [invoke, callFunc]
    show (Sem.program .pure >>= _ : Sem Next).run P w = _
    rw [run_bind_pure (a := P) rfl]
    simp only [hfn, hN.names g fn hfn hbody, Bool.false_eq_true, if_false]
    have hb : fn.body.isNone = false := by cases hh : fn.body <;> simp_all
    simp only [hb, Bool.false_eq_true, if_false]
    rfl
  · simp only [Array.toList_append, Array.toList_map]
    exact denL_append h2 (denL_append (denL_sevalL ht _) h1)

theorem builtin_resP {b : Builtin} {s : Sem Value} {args : Array Operand} {argTypes : Array TypeId} {ty : TypeId} {x : SVal}
    (hb : ∀ cs, invoke (.builtin b argTypes ty cs) (args.map a.eval) = (do pure (Next.value (← s)) : Sem Next)) (hs : PSemOk ρ x w (s.run P w)) :
    PResOk ρ w (.val x) ((do let d ← resolve a.eval { callee := .builtin b, args, argTypes } ty; invoke d.target d.args : Sem Next).run P w) := by
  simp only [resolve]
  rw [run_pure_bind, hb]
  exact PResOk.of_sem hs

theorem builtin_res {b : Builtin} {s : Sem Value} {args : Array Operand} {argTypes : Array TypeId} {ty : TypeId} {x : SVal} {H' : SHeap}
    (hb : ∀ cs, invoke (.builtin b argTypes ty cs) (args.map a.eval) = (do pure (Next.value (← s)) : Sem Next)) (hs : SemOk w0 H ρ x H' (s.run P w)) :
    ResOk w0 H ρ w (.val x H') ((do let d ← resolve a.eval { callee := .builtin b, args, argTypes } ty; invoke d.target d.args : Sem Next).run P w) := by
  simp only [resolve]
  rw [run_pure_bind, hb]
  exact ResOk.of_sem hs

/-! ### One operation -/
def lenOpE (P : Program) (t : List SVal) (b : Builtin) (args : List Operand) (argTypes : List TypeId) : Option PRes :=
  match b, args, argTypes with
  | .len, [x], [ty] => match sliceAtOf (seval t x) with
    | some (_, _, n) => match pureRun P (underlying ty) with
      | some (.slice _) => some (.val (.v (goInt n)))
      | _ => none
    | _ => none
  | _, _, _ => none

def copyOpE (P : Program) (t : List SVal) (H : SHeap) (b : Builtin) (args : List Operand) (argTypes : List TypeId) : Option Res :=
  match b, args, argTypes with
  | .copy, [d, s], [ty, _] => copyE P H ty (seval t d) (seval t s)
  | .append, [s, x], [ty, xTy] => appendE P H ty xTy (seval t s) (seval t x)
  | .unsafeString, [p, n], [pt, _] => strAtE P H pt (seval t p) (seval t n)
  | _, _, _ => none

theorem lenOpE_ok (ht : denL ρ t = some a.tmps.toList) {b : Builtin} {args : Array Operand} {argTypes : Array TypeId} {ty : TypeId} {r : PRes}
    (h : lenOpE P t b args.toList argTypes.toList = some r) :
    PResOk ρ w r ((do let d ← resolve a.eval { callee := .builtin b, args, argTypes } ty; invoke d.target d.args : Sem Next).run P w) := by
  unfold lenOpE at h
  split at h
  · rename_i x ty' hargs htys
    obtain rfl : args = #[x] := Array.toList_inj.1 hargs
    obtain rfl : argTypes = #[ty'] := Array.toList_inj.1 htys
    split at h
    case h_2 => cases h
    rename_i i off n hx
    split at h
    case h_2 => cases h
    rename_i e hu
    cases h
    obtain ⟨bl, cap, _, hv⟩ := sliceAtOf_ok (den_seval ht x) hx
    refine builtin_resP (s := Builtin.len_ #[ty'] ty #[a.eval x]) (fun _ => by simp [invoke, builtin]) (PSemOk.here (v := goInt n) ?_ (by simp [den]))
    unfold Builtin.len_
    simp only [List.getElem?_toArray, List.getElem?_cons_zero, hv]
    rw [run_bind_pure hu]
    rfl
  · cases h

theorem copyOpE_ok (hR : Rel w0 ρ H w) (ht : denL ρ t = some a.tmps.toList) {b : Builtin} {args : Array Operand} {argTypes : Array TypeId} {ty : TypeId} {r : Res}
    (h : copyOpE P t H b args.toList argTypes.toList = some r) :
    ResOk w0 H ρ w r ((do let d ← resolve a.eval { callee := .builtin b, args, argTypes } ty; invoke d.target d.args : Sem Next).run P w) := by
  unfold copyOpE at h
  split at h
  · rename_i d s ty' ty2 hargs htys
    obtain rfl : args = #[d, s] := Array.toList_inj.1 hargs
    obtain rfl : argTypes = #[ty', ty2] := Array.toList_inj.1 htys
    obtain ⟨x, H', rfl, hs⟩ := copy_ok (P := P) (sTy := ty2) (rTy := ty) hR (den_seval ht d) (den_seval ht s) h
    exact builtin_res (s := Builtin.copy_ #[ty', ty2] ty #[a.eval d, a.eval s]) (fun _ => by simp [invoke, builtin]) hs
  · rename_i s x ty' ty2 hargs htys
    obtain rfl : args = #[s, x] := Array.toList_inj.1 hargs
    obtain rfl : argTypes = #[ty', ty2] := Array.toList_inj.1 htys
    obtain ⟨y, H', rfl, hs⟩ := append_ok (P := P) (rTy := ty) hR (den_seval ht s) (den_seval ht x) h
    exact builtin_res (s := Builtin.append_ #[ty', ty2] ty #[a.eval s, a.eval x]) (fun _ => by simp [invoke, builtin]) hs
  · rename_i p n ty' ty2 hargs htys
    obtain rfl : args = #[p, n] := Array.toList_inj.1 hargs
    obtain rfl : argTypes = #[ty', ty2] := Array.toList_inj.1 htys
    obtain ⟨y, H', rfl, hs⟩ := strAt_ok (P := P) (nt := ty2) (rTy := ty) hR (den_seval ht p) (den_seval ht n) h
    exact builtin_res (s := Builtin.unsafeString_ #[ty', ty2] ty #[a.eval p, a.eval n]) (fun _ => by simp [invoke, builtin]) hs
  · cases h

def orPure (P : Program) (t : List SVal) (o : Oper) : Option PRes → Option PRes
  | some r => some r
  | none => pureOp P t o

def val? : Option SVal → Option PRes
  | some x => some (.val x)
  | none => none

/-- An operation that does not look at the heap. -/
def opP0 (P : Program) (t : List SVal) (o : Oper) : Option PRes :=
  match o.op with
  | .move x | .assign x => some (.val (seval t x))
  | .fieldAddr s x f => orPure P t o (val? (fieldAddrE P s f (seval t x)))
  | .indexAddr ty x ix => orPure P t o (val? (indexAddrE P ty (seval t ix) (seval t x)))
  | .slice ty x lo hi mx => match optV t lo, optV t hi, optV t mx with
    | some l, some h, some m => orPure P t o (val? (sliceE P ty l h m (seval t x)))
    | _, _, _ => none
  | .field s x f => orPure P t o (val? (fieldE P s f (seval t x)))
  | .index ty x ix => orPure P t o (val? (indexE P ty (seval t ix) (seval t x)))
  | .extract x ix => orPure P t o (val? (extractE ix (seval t x)))
  | .build ty parts => val? (buildE P t ty parts.toList)
  | .nilCheck x => orPure P t o (val? (nilCheckE (seval t x)))
  | .makeFunc fn fs cs => some (.val (.func fn (sevalL t fs.toList) (sevalL t cs.toList)))
  | .makeInterface ty x => orPure P t o (match vOf (seval t x) with
    | some _ => none
    | none => match pureRun P (underlying ty) with
      | some (.interface _) => none
      | some _ => some (.val (.iface ty (seval t x)))
      | none => none)
  | .binOp op ty x y _ => orPure P t o (val? (eqNilE P op ty (seval t x) (seval t y)))
  | .call c => match c.callee with
    | .value f => orPure P t o (callE P t f c.args.toList)
    | .builtin b => orPure P t o (lenOpE P t b c.args.toList c.argTypes.toList)
    | _ => none
  | .defer _ => none
  | _ => pureOp P t o

/-- What the facts say of an operation. -/
def isDefer : Op → Bool
  | .defer _ => true
  | _ => false

def factOf (t : List SVal) (o : Oper) : Option PRes :=
  if isDefer o.op then none else
  match Env.fact o.op (o.op.operands.toList.map (seval t)) with
  | some y => some (.val y)
  | none => none

def opP (P : Program) (t : List SVal) (o : Oper) : Option PRes :=
  match opP0 P t o with
  | some r => some r
  | none => factOf t o

/-- An operation that does. -/
def opH (P : Program) (G : Glob) (t : List SVal) (H : SHeap) (o : Oper) : Option Res :=
  match o.op with
  | .alloc e => allocE P H e
  | .box e x => some (.val (.ptr H.length 0) (H ++ [.cells (scells (seval t x)) e (0, 0)]))
  | .load ty x => match loadE P G H ty (seval t x) with
    | some y => some (.val y H)
    | none => none
  | .store ty p x => match storeE P H ty (seval t p) (seval t x) with
    | some H' => some (.skip H')
    | none => none
  | .buildSlice ty len parts => buildSliceE P t H ty len parts.toList
  | .makeSlice ty l c => makeSliceE P H ty (seval t l) (seval t c)
  | .convert src dst x => match bytesE P H dst src (seval t x) with
    | some y => some (.val y H)
    | none => strBytesE P H dst src (seval t x)
  | .range ty x => rangeE P H ty (seval t x)
  | .next x s => nextE H (seval t x) s
  | .makeMap _ r => makeMapE H r
  | .mapUpdate ty m k x => match mapUpdateE P H ty (seval t m) (seval t k) (seval t x) with
    | some H' => some (.skip H')
    | none => none
  | .lookup ty x k ok => match lookupE P H ty (seval t x) (seval t k) ok with
    | some y => some (.val y H)
    | none => none
  | .call c => match c.callee with
    | .builtin b => copyOpE P t H b c.args.toList c.argTypes.toList
    | _ => none
  | _ => none

/-- Is it one of those that look at the heap? (A conversion, a builtin: either.) -/
def heapFirst : Op → Bool
  | .alloc _ | .box .. | .load .. | .store .. | .buildSlice .. | .makeSlice .. | .range .. | .next .. | .makeMap .. | .mapUpdate .. => true
  | _ => false

def opE (P : Program) (G : Glob) (t : List SVal) (H : SHeap) (o : Oper) : Option Res :=
  if heapFirst o.op then opH P G t H o else
  match opP P t o with
  | some r => some (r.on H)
  | none => opH P G t H o

theorem orPure_ok (ht : denL ρ t = some a.tmps.toList) {e : Option PRes} {r : PRes} (h : orPure P t o e = some r)
    (he : ∀ r, e = some r → PResOk ρ w r ((execOp a.eval o).run P w)) : PResOk ρ w r ((execOp a.eval o).run P w) := by
  unfold orPure at h
  split at h
  · cases h; exact he _ rfl
  · exact pureOp_ok ht h

 omit [Env] in
theorem val?_some {e : Option SVal} {r : PRes} (h : val? e = some r) : ∃ x, e = some x ∧ r = .val x := by
  unfold val? at h
  split at h
  · cases h; exact ⟨_, rfl, rfl⟩
  · cases h

theorem nilCheck_ok {x y : SVal} {v : Value} (hx : den ρ x = some v) (h : nilCheckE x = some y) (o : Oper) (xo : Operand) (ρv : Operand → Value) (hop : o.op = .nilCheck xo) (hv : ρv xo = v) :
    PResOk ρ w (.val y) ((execOp ρv o).run P w) := by
  unfold nilCheckE at h
  unfold execOp
  simp only [hop, hv]
  split at h
  · cases h
    obtain ⟨b, hb, rfl⟩ := den_ptr hx
    exact ⟨_, rfl, hx⟩
  · cases h
    obtain ⟨us, ws, rfl, _, _⟩ := calleeOf_ok hx rfl
    exact ⟨_, rfl, hx⟩
  · cases h
    have hx' := hx
    simp only [den] at hx
    split at hx
    · cases hx
      exact ⟨_, rfl, hx'⟩
    · cases hx
  · cases h

theorem opP0_ok (hN : NamesOk P) (ht : denL ρ t = some a.tmps.toList) {r : PRes} (h : opP0 P t o = some r) :
    PResOk ρ w r ((execOp a.eval o).run P w) := by
  have hev := fun x => den_seval ht x
  obtain ⟨dst, op, type, pos, after, guard⟩ := o
  cases op with
  | move x => simp only [opP0, Option.some.injEq] at h; subst h; exact ⟨_, rfl, hev x⟩
  | assign x => simp only [opP0, Option.some.injEq] at h; subst h; exact ⟨_, rfl, hev x⟩
  | fieldAddr s x f =>
    simp only [opP0] at h
    refine orPure_ok ht h fun r hr => ?_
    obtain ⟨y, hy, rfl⟩ := val?_some hr
    exact PResOk.of_sem (fieldAddr_ok (hev x) hy)
  | indexAddr ty x ix =>
    simp only [opP0] at h
    refine orPure_ok ht h fun r hr => ?_
    obtain ⟨y, hy, rfl⟩ := val?_some hr
    exact PResOk.of_sem (indexAddr_ok (hev x) (hev ix) hy)
  | slice ty x lo hi mx =>
    simp only [opP0] at h
    split at h
    case h_2 => cases h
    rename_i l hh m hl hhh hm
    refine orPure_ok ht h fun r hr => ?_
    obtain ⟨y, hy, rfl⟩ := val?_some hr
    have := slice_ok (P := P) (w := w) (hev x) hy
    rw [← optV_ok ht hl, ← optV_ok ht hhh, ← optV_ok ht hm] at this
    exact PResOk.of_sem this
  | field s x f =>
    simp only [opP0] at h
    refine orPure_ok ht h fun r hr => ?_
    obtain ⟨y, hy, rfl⟩ := val?_some hr
    exact PResOk.of_sem (field_ok (hev x) hy)
  | index ty x ix =>
    simp only [opP0] at h
    refine orPure_ok ht h fun r hr => ?_
    obtain ⟨y, hy, rfl⟩ := val?_some hr
    exact PResOk.of_sem (index_ok (hev x) (hev ix) hy)
  | extract x ix =>
    simp only [opP0] at h
    refine orPure_ok ht h fun r hr => ?_
    obtain ⟨y, hy, rfl⟩ := val?_some hr
    exact PResOk.of_sem (extract_ok (hev x) hy)
  | build ty parts =>
    simp only [opP0] at h
    obtain ⟨y, hy, rfl⟩ := val?_some h
    exact PResOk.of_sem (build_ok ht hy)
  | nilCheck x =>
    simp only [opP0] at h
    refine orPure_ok ht h fun r hr => ?_
    obtain ⟨y, hy, rfl⟩ := val?_some hr
    exact nilCheck_ok (hev x) hy _ x _ rfl rfl
  | makeFunc fn fs cs =>
    simp only [opP0, Option.some.injEq] at h
    subst h
    refine ⟨.func fn (fs.map a.eval) (cs.map a.eval), rfl, ?_⟩
    simp only [den, denL_sevalL ht]
    rw [show (fs.toList.map a.eval).toArray = fs.map a.eval from Array.toList_inj.1 (by simp), show (cs.toList.map a.eval).toArray = cs.map a.eval from Array.toList_inj.1 (by simp)]
  | makeInterface ty x =>
    simp only [opP0] at h
    refine orPure_ok ht h fun r hr => ?_
    split at hr
    · cases hr
    split at hr
    · cases hr
    · rename_i d hni hd
      cases hr
      refine ⟨.iface ty (a.eval x), ?_, by simp only [den, hev x]⟩
      show ((do pure (Next.value (← Instr.makeInterface ty (a.eval x))) : Sem Next)).run P w = _
      rw [run_bind_ok (a := .iface ty (a.eval x)) (w' := w)]
      · rfl
      · unfold Instr.makeInterface
        rw [run_bind_pure hd]
        cases d <;> first | rfl | exact absurd rfl (hni _)
    · cases hr
  | binOp op ty x y yt =>
    simp only [opP0] at h
    refine orPure_ok ht h fun r hr => ?_
    obtain ⟨z, hz, rfl⟩ := val?_some hr
    exact PResOk.of_sem (eqNil_ok (hev x) (hev y) hz x y)
  | call c =>
    obtain ⟨callee, args, argTypes⟩ := c
    simp only [opP0] at h
    split at h
    · exact orPure_ok ht h fun r hr => call_ok hN ht hr
    · exact orPure_ok ht h fun r hr => lenOpE_ok ht hr
    · cases h
  | defer c => simp only [opP0] at h; cases h
  | _ => simp only [opP0] at h; exact pureOp_ok ht h

theorem factOf_ok (hN : NamesOk P) (ht : denL ρ t = some a.tmps.toList) {r : PRes} (h : factOf t o = some r) : PResOk ρ w r ((execOp a.eval o).run P w) := by
  unfold factOf at h
  split at h
  · cases h
  split at h
  case h_2 => cases h
  rename_i y hy
  cases h
  exact hN.facts _ _ _ hy ρ a.eval o w rfl (denL_sevalL ht _)

theorem opP_ok (hN : NamesOk P) (ht : denL ρ t = some a.tmps.toList) {r : PRes} (h : opP P t o = some r) :
    PResOk ρ w r ((execOp a.eval o).run P w) := by
  unfold opP at h
  split at h
  · rename_i r' hr
    cases h
    exact opP0_ok hN ht hr
  · exact factOf_ok hN ht h

theorem opH_ok {G : Glob} (hG : G.holds w0) (hR : Rel w0 ρ H w) (ht : denL ρ t = some a.tmps.toList) {r : Res} (h : opH P G t H o = some r) :
    ResOk w0 H ρ w r ((execOp a.eval o).run P w) := by
  have hev := fun x => den_seval ht x
  obtain ⟨dst, op, type, pos, after, guard⟩ := o
  cases op with
  | alloc e =>
    simp only [opH] at h
    obtain ⟨x, H', rfl, hs⟩ := alloc_ok hR h
    exact ResOk.of_sem hs
  | box e x =>
    simp only [opH, Option.some.injEq] at h
    subst h
    exact ResOk.of_sem (newVar_ok hR (hev x) e)
  | load ty x =>
    simp only [opH] at h
    split at h
    case h_2 => cases h
    rename_i y hy
    cases h
    exact ResOk.of_sem (load_ok hG hR (hev x) hy)
  | store ty p x =>
    simp only [opH] at h
    split at h
    case h_2 => cases h
    rename_i H' hH'
    cases h
    obtain ⟨w', h0, h1, h2⟩ := store_ok hR (hev p) (hev x) hH'
    refine ⟨ρ, w', ?_, h0, h1⟩
    show ((do Instr.storeAt ty (a.eval p) (a.eval x); pure .skip : Sem Next)).run P w = _
    rw [run_bind_ok h2]
    rfl
  | buildSlice ty len parts =>
    simp only [opH] at h
    obtain ⟨y, H', rfl, hs⟩ := buildSlice_ok hR ht h
    exact ResOk.of_sem hs
  | makeSlice ty l c =>
    simp only [opH] at h
    obtain ⟨y, H', rfl, hs⟩ := makeSlice_ok hR (hev l) (hev c) h
    exact ResOk.of_sem hs
  | convert src dst x =>
    simp only [opH] at h
    split at h
    · rename_i y hy
      cases h
      exact ResOk.of_sem (bytes_ok hR (hev x) hy)
    · obtain ⟨y, H', rfl, hs⟩ := strBytes_ok hR (hev x) h
      exact ResOk.of_sem hs
  | range ty x =>
    simp only [opH] at h
    obtain ⟨y, H', rfl, hs⟩ := range_ok hR (hev x) h
    exact ResOk.of_sem hs
  | next x s =>
    simp only [opH] at h
    obtain ⟨y, H', rfl, hs⟩ := next_ok (rt := type) hR (hev x) h
    exact ResOk.of_sem hs
  | makeMap ty r =>
    simp only [opH] at h
    obtain ⟨y, H', rfl, hs⟩ := makeMap_ok (P := P) (ty := ty) hR h a.eval
    exact ResOk.of_sem hs
  | mapUpdate ty m k x =>
    simp only [opH] at h
    split at h
    case h_2 => cases h
    rename_i H' hH'
    cases h
    obtain ⟨w', h0, h1, h2⟩ := mapUpdate_ok hR (hev m) (hev k) (hev x) hH'
    refine ⟨ρ, w', ?_, h0, h1⟩
    show ((do Instr.mapUpdate ty (a.eval m) (a.eval k) (a.eval x); pure .skip : Sem Next)).run P w = _
    rw [run_bind_ok h2]
    rfl
  | lookup ty x k ok =>
    simp only [opH] at h
    split at h
    case h_2 => cases h
    rename_i y hy
    cases h
    exact ResOk.of_sem (lookup_ok hR (hev x) (hev k) hy)
  | call c =>
    obtain ⟨callee, args, argTypes⟩ := c
    simp only [opH] at h
    split at h
    · exact copyOpE_ok hR ht h
    · cases h
  | _ => simp only [opH] at h; cases h

theorem opE_ok {G : Glob} (hG : G.holds w0) (hN : NamesOk P) (hR : Rel w0 ρ H w) (ht : denL ρ t = some a.tmps.toList) {r : Res} (h : opE P G t H o = some r) :
    ResOk w0 H ρ w r ((execOp a.eval o).run P w) := by
  unfold opE at h
  split at h
  · exact opH_ok hG hR ht h
  · split at h
    · rename_i r' hr'
      cases h
      exact (opP_ok hN ht hr').on hR
    · exact opH_ok hG hR ht h

theorem opP_nd {r : PRes} (h : opP P t o = some r) : ∀ c, o.op ≠ .defer c := fun c e => by
  unfold opP opP0 factOf at h
  rw [e] at h
  simp [isDefer] at h

theorem opE_nd {G : Glob} {r : Res} (h : opE P G t H o = some r) : ∀ c, o.op ≠ .defer c := fun c e => by
  unfold opE at h
  split at h
  · unfold opH at h; rw [e] at h; cases h
  · split at h
    · rename_i r' hr'
      exact opP_nd hr' c e
    · unfold opH at h; rw [e] at h; cases h

end
end
end Go.RX

namespace Go.RX
noncomputable section
open Go.RowKit (Below)

variable [Env]

/-! ### Names moved -/
mutual
def shift (k : Nat) : SVal → SVal
  | .v x => .v x
  | .ptr i off => .ptr (k + i) off
  | .slice i off len cap => .slice (k + i) off len cap
  | .row i off eoff len => .row (k + i) off eoff len
  | .agg l => .agg (shiftL k l)
  | .tuple l => .tuple (shiftL k l)
  | .func fn f c => .func fn (shiftL k f) (shiftL k c)
  | .iface t x => .iface t (shift k x)
  | .yield i => .yield (k + i)
  | .map i => .map (k + i)
  | .sym i => .sym i
def shiftL (k : Nat) : List SVal → List SVal
  | [] => []
  | x :: xs => shift k x :: shiftL k xs
end

def Ren.comb (k : Nat) (ρ ρc : Ren) : Ren := fun i => if i < k then ρ i else ρc (i - k)

 omit [Env] in
theorem Ren.comb_add (k i : Nat) (ρ ρc : Ren) : Ren.comb k ρ ρc (k + i) = ρc i := by
  unfold Ren.comb
  rw [if_neg (by omega), Nat.add_sub_cancel_left]

mutual
theorem den_shift {k : Nat} {ρ ρc : Ren} : ∀ (x : SVal), den (Ren.comb k ρ ρc) (shift k x) = den ρc x
  | .v x => by simp [den, shift]
  | .ptr i off => by simp only [den, shift, Ren.comb_add]
  | .slice i off len cap => by simp only [den, shift, Ren.comb_add]
  | .row i off eoff len => by simp only [den, shift, Ren.comb_add]
  | .agg l => by simp only [den, shift, denL_shift l]
  | .tuple l => by simp only [den, shift, denL_shift l]
  | .func fn f c => by simp only [den, shift, denL_shift f, denL_shift c]
  | .iface t x => by simp only [den, shift, den_shift x]
  | .yield i => by simp only [den, shift, Ren.comb_add]
  | .map i => by simp only [den, shift, Ren.comb_add]
  | .sym i => rfl
theorem denL_shift {k : Nat} {ρ ρc : Ren} : ∀ (l : List SVal), denL (Ren.comb k ρ ρc) (shiftL k l) = denL ρc l
  | [] => by simp [denL, shiftL]
  | x :: xs => by simp only [denL, shiftL, den_shift x, denL_shift xs]
end

def shiftO (k : Nat) : SObj → SObj
  | .cells l e fz => .cells (shiftL k l) e fz
  | .row l e sz g => .row (shiftL k l) e sz (k + g)
  | .iter s pos => .iter s pos
  | .dead => .dead
  | .map ks l c => .map ks (shiftL k l) c
  | .marks => .marks
  | .loop st pend l ps assign body dj => .loop st pend (shiftL k l) ps assign body (k + dj)

 omit [Env] in
theorem shiftL_length (k : Nat) : ∀ l, (shiftL k l).length = l.length
  | [] => rfl
  | x :: xs => by simp [shiftL, shiftL_length k xs]

theorem objRel_shift {k : Nat} {ρ ρc : Ren} {p : Loc} {o : SObj} {ob : Obj} (h : ObjRel ρc p o ob) : ObjRel (Ren.comb k ρ ρc) p (shiftO k o) ob := by
  cases o with
  | cells l e fz => obtain ⟨vs, h1, h2⟩ := h; exact ⟨vs, by rw [denL_shift]; exact h1, h2⟩
  | row l e sz g => obtain ⟨vs, h1, h2⟩ := h; exact ⟨vs, by rw [denL_shift]; exact h1, h2⟩
  | iter s pos => exact h
  | dead => trivial
  | map ks l c => obtain ⟨vs, h1, h2, h3⟩ := h; exact ⟨vs, by rw [denL_shift]; exact h1, by rw [shiftL_length]; exact h2, h3⟩
  | marks => exact h
  | loop st pend l ps assign body dj => obtain ⟨fn, vs, pd, h1, h2, h3⟩ := h; exact ⟨fn, vs, pd, by rw [denL_shift]; exact h1, by rw [Ren.comb_add]; exact h2, h3⟩

section
variable {P : Program} {F : Fence} {dl : List Deferred} {w0 w : World} {ρ : Ren} {H : SHeap} {t : List SVal} {a : Act} {o : Oper}

/-- What lay before a call that turned nothing of it. -/
theorem Rel.later {w' : World} (hR : Rel w0 ρ H w) (hb : Below w.heap.size w w') : Rel w0 ρ H w' := by
  refine ⟨hR.below.trans (hb.mono hR.below.size), fun i b h => ?_, hR.inj, fun i b h => ?_⟩
  · obtain ⟨h1, h2⟩ := hR.fresh i b h
    exact ⟨h1, by have := hb.size; omega⟩
  · obtain ⟨o, ob, h1, h2, h3⟩ := hR.obj i b h
    exact ⟨o, ob, h1, by rw [hb.block b.b (hR.fresh i b h).2]; exact h2, h3⟩

/-- A call's own heap, laid behind the caller's. -/
theorem Rel.comb {w' : World} {ρc : Ren} {Hc : SHeap} (hR : Rel w0 ρ H w) (hc : Rel w ρc Hc w') : Rel w0 (Ren.comb H.length ρ ρc) (H ++ Hc.map (shiftO H.length)) w' := by
  have hR' := hR.later hc.below
  have hext : Ren.ext H.length ρ (Ren.comb H.length ρ ρc) := fun i hi => by simp [Ren.comb, hi]
  have hle := hext.le hR
  have at2 : ∀ i, ¬ i < H.length → (H ++ Hc.map (shiftO H.length))[i]? = (Hc[i - H.length]?).map (shiftO H.length) := fun i hi => by
    rw [List.getElem?_append_right (by omega), List.getElem?_map]
  refine ⟨hR'.below, fun i b h => ?_, fun i j p q hi hj hb => ?_, fun i b h => ?_⟩
  · unfold Ren.comb at h
    split at h
    · exact hR'.fresh i b h
    · obtain ⟨h1, h2⟩ := hc.fresh _ b h
      exact ⟨by have := hR.below.size; omega, h2⟩
  · unfold Ren.comb at hi hj
    split at hi <;> split at hj
    · exact (hR.inj i j p q hi hj hb).append
    · have h1 := (hR.fresh i p hi).2
      have h2 := (hc.fresh _ q hj).1
      omega
    · have h1 := (hR.fresh j q hj).2
      have h2 := (hc.fresh _ p hi).1
      omega
    · rename_i hi' hj'
      rcases hc.inj _ _ p q hi hj hb with e | ⟨l, e, sz, l', e', sz', g, h | h | h⟩
      · exact .inl (by omega)
      · exact .inr ⟨shiftL H.length l, e, sz, shiftL H.length l', e', sz', H.length + g, .inl ⟨by rw [at2 i hi', h.1]; rfl, by rw [at2 j hj', h.2]; rfl⟩⟩
      · exact .inr ⟨l, e, sz, l', e', sz', g, .inr (.inl (by rw [at2 i hi', h]; rfl))⟩
      · exact .inr ⟨l, e, sz, l', e', sz', g, .inr (.inr (by rw [at2 j hj', h]; rfl))⟩
  · by_cases hi : i < H.length
    · have h' : ρ i = some b := by simpa [Ren.comb, hi] using h
      obtain ⟨o, ob, h1, h2, h3⟩ := hR'.obj i b h'
      exact ⟨o, ob, by rw [List.getElem?_append_left hi]; exact h1, h2, h3.mono hle⟩
    · have h' : ρc (i - H.length) = some b := by simpa [Ren.comb, hi] using h
      obtain ⟨o, ob, h1, h2, h3⟩ := hc.obj _ b h'
      exact ⟨shiftO H.length o, ob, by rw [at2 i hi, h1]; rfl, h2, objRel_shift h3⟩

/-- The fences of a run: wide, within a round or not. -/
def Wd (F : Fence) : Prop := F = Fence.wide ∨ ∃ l, F = Fence.wide.inRound l

 omit [Env] in
theorem Wd.fn (hF : Wd F) (f : FuncId) : F.fn f := by rcases hF with rfl | ⟨l, rfl⟩ <;> trivial
 omit [Env] in
theorem Wd.depth (hF : Wd F) {n : Nat} : F.depth.isSome = true → 1 ≤ n := by rcases hF with rfl | ⟨l, rfl⟩ <;> exact fun h => by cases h
 omit [Env] in
theorem Wd.sem (hF : Wd F) {f : Operand → Value} (h : ∀ c, o.op ≠ .defer c) : o.semAt F.round f = execOp f o := by
  rcases hF with rfl | ⟨l, rfl⟩
  · rfl
  · exact Oper.semAt_some l f o h
 omit [Env] in
theorem Wd.calls (hF : Wd F) {n : Nat} {f : FuncId} {args : Array Value} {R : Ending → World → Prop} (h : Calls P f args w R) : CallsIn F n P f args w R := by
  rcases hF with rfl | ⟨l, rfl⟩
  · exact callsIn_wide.2 h
  · exact (callsIn_wide (n := n)).2 h
 omit [Env] in
theorem Wd.round (hF : Wd F) {n : Nat} {l : Nat} {f : FuncId} {tmps : Array Value} {assign body : Code} {R : Ending → World → Prop} (h : RoundIn Fence.wide n P l f tmps assign body w R) : RoundIn F n P l f tmps assign body w R := by
  rcases hF with rfl | ⟨l', rfl⟩
  · exact h
  · exact h

inductive Tgt where
  | fn (f : FuncId)
  | yield (i : Nat)

abbrev CallF := Tgt → List SVal → SHeap → Option (SVal × SHeap)

structure CallOk (P : Program) (G : Glob) (cf : CallF) : Prop where
  fn : ∀ f args H x H', cf (.fn f) args H = some (x, H') → H.length ≤ H'.length ∧
    ∀ w0 ρ w (vs : Array Value), G.holds w0 → Rel w0 ρ H w → denL ρ args = some vs.toList → Calls P f vs w fun e w' => ∃ ρ' v, e = .returned v ∧ Ext ρ H ρ' H' ∧ den ρ' x = some v ∧ Rel w0 ρ' H' w'
  yld : ∀ i args H x H', cf (.yield i) args H = some (x, H') → H.length ≤ H'.length ∧
    ∀ w0 ρ w p (vs : Array Value), G.holds w0 → Rel w0 ρ H w → ρ i = some p → denL ρ args = some vs.toList → ∃ r : Loop, w.heap[p.b]? = some (.loop r) ∧ vs.size = r.params.size ∧
      RoundIn Fence.wide 0 P p.b r.fn ((r.params.zip vs).foldl (fun tmps (t, a) => tmps.setIfInBounds t a) r.tmps) r.assign r.body w fun e w' => ∃ ρ' v, e = .returned v ∧ Ext ρ H ρ' H' ∧ den ρ' x = some v ∧ Rel w0 ρ' H' w'

def vHead : SVal → Bool
  | .v _ => true
  | _ => false

/-- A value that is known, as such. -/
def nrm (x : SVal) : SVal :=
  match vOf x with
  | some v => .v v
  | none => x

theorem den_nrm {x : SVal} {a : Value} (h : den ρ x = some a) : den ρ (nrm x) = some a := by
  unfold nrm
  split
  · rename_i v hv
    rw [den_of_vOf (ρ := ρ) _ hv] at h
    simpa [den] using h
  · exact h

theorem denL_nrm : ∀ {l : List SVal} {vs : List Value}, denL ρ l = some vs → denL ρ (l.map nrm) = some vs
  | [], vs, h => h
  | x :: xs, vs, h => by
    obtain ⟨a, b, ha, hb, rfl⟩ := denL_cons.1 h
    exact denL_cons.2 ⟨a, b, den_nrm ha, denL_nrm hb, rfl⟩

/-- A call: in a heap of its own, if no argument has a name in it. -/
def freshR (cf : CallF) (f : FuncId) (args : List SVal) : Option (SVal × SHeap) :=
  if nfL args then
    match cf (.fn f) (args.map nrm) [] with
    | none => none
    | some (x, Hc) => if nf x then some (nrm x, []) else some (x, Hc)
  else none

theorem freshR_ok {G : Glob} {cf : CallF} (hcf : CallOk P G cf) {f : FuncId} {args : List SVal} {x : SVal} {Hc : SHeap} (h : freshR cf f args = some (x, Hc)) (hG : G.holds w0) (hR : Rel w0 ρ H w)
    {vs : Array Value} (hv : denL ρ args = some vs.toList) : Calls P f vs w fun e w' => ∃ ρc v, e = .returned v ∧ den ρc x = some v ∧ Rel w ρc Hc w' := by
  unfold freshR at h
  split at h
  case isFalse => cases h
  rename_i hnf
  split at h
  · cases h
  rename_i y Hy hcall
  have h2 := (hcf.fn _ _ _ _ _ hcall).2 w (fun _ => none) w vs (hG.later hR.below) (Rel.start w) (denL_nrm (by rw [denL_nf args hnf (ρ' := ρ)]; exact hv))
  split at h
  · rename_i hy
    cases h
    refine h2.mono ?_
    rintro e w' ⟨ρ', u, rfl, _, hd, hR'⟩
    refine ⟨fun _ => none, u, rfl, den_nrm (by rw [den_nf y hy (ρ' := ρ')]; exact hd), ⟨hR'.below, fun i b h => by simp at h, fun i j p q h => by simp at h, fun i b h => by simp at h⟩⟩
  · cases h
    refine h2.mono ?_
    rintro e w' ⟨ρ', u, rfl, _, hd, hR'⟩
    exact ⟨ρ', u, rfl, hd, hR'⟩

def callR (cf : CallF) (f : FuncId) (args : List SVal) (H : SHeap) : Option (SVal × SHeap) :=
  if nfL args then match freshR cf f args with
    | none => none
    | some (x, Hc) => match Hc with
      | [] => some (x, H)
      | _ :: _ => some (shift H.length x, H ++ Hc.map (shiftO H.length))
  else cf (.fn f) args H

theorem callR_ok {G : Glob} {cf : CallF} (hcf : CallOk P G cf) : ∀ f args H x H', callR cf f args H = some (x, H') → H.length ≤ H'.length ∧
    ∀ w0 ρ w (vs : Array Value), G.holds w0 → Rel w0 ρ H w → denL ρ args = some vs.toList → Calls P f vs w fun e w' => ∃ ρ' v, e = .returned v ∧ Ext ρ H ρ' H' ∧ den ρ' x = some v ∧ Rel w0 ρ' H' w' := by
  intro f args H x H' h
  unfold callR at h
  split at h
  case isFalse => exact hcf.fn _ _ _ _ _ h
  split at h
  · cases h
  rename_i y Hc hfr
  split at h
  · cases h
    refine ⟨Nat.le_refl _, fun w0 ρ w vs hG hR hv => (freshR_ok hcf hfr hG hR hv).mono ?_⟩
    rintro e w' ⟨ρc, v, rfl, hd, hRc⟩
    refine ⟨ρ, v, rfl, Ext.refl _ _, ?_, hR.later hRc.below⟩
    refine den_mono (ρ := ρc) (fun i b hb => ?_) _ hd
    obtain ⟨o, ob, ho, _⟩ := hRc.obj i b hb
    simp at ho
  · rename_i o os
    cases h
    refine ⟨by simp, fun w0 ρ w vs hG hR hv => (freshR_ok hcf hfr hG hR hv).mono ?_⟩
    rintro e w' ⟨ρc, v, rfl, hd, hRc⟩
    exact ⟨Ren.comb H.length ρ ρc, v, rfl, fun i hi => ⟨by simp [Ren.comb, hi], fun _ l e fz hh => by rw [List.getElem?_append_left hi]; exact hh⟩, by rw [den_shift]; exact hd, hR.comb hRc⟩

/-! ### Steps -/
structure Acts (dl : List Deferred) (w0 : World) (ρ : Ren) (t : List SVal) (H : SHeap) (a : Act) (w : World) : Prop where
  tmps : denL ρ t = some a.tmps.toList
  defers : a.defers = dl
  rel : Rel w0 ρ H w

def putS (t : List SVal) (dst : Option Tmp) (x : SVal) : List SVal :=
  match dst with
  | some d => setS t d x
  | none => t

theorem Acts.put {w' : World} {ρ' : Ren} {H' : SHeap} (h : Acts dl w0 ρ t H a w) (hle : ρ.le ρ') (hR : Rel w0 ρ' H' w') (dst : Option Tmp) {x : SVal} {v : Value} (hx : den ρ' x = some v) :
    Acts dl w0 ρ' (putS t dst x) H' (a.put dst v) w' := by
  have ht := denL_mono hle _ h.tmps
  cases dst with
  | none => exact ⟨ht, h.defers, hR⟩
  | some d =>
    refine ⟨?_, h.defers, hR⟩
    simp only [putS, setS_eq, Act.put]
    rw [Array.toList_setIfInBounds]
    exact denL_set hx ht d

abbrev St := List SVal × SHeap

def stepR (P : Program) (G : Glob) (cf : CallF) (t : List SVal) (H : SHeap) (o : Oper) : Option St :=
  match opE P G t H o with
  | some (.val x H') => some (putS t o.dst x, H')
  | some (.skip H') => some (putS t o.dst (.v undef), H')
  | some (.call f args) => match callR cf f args H with
    | some (x, H') => some (putS t o.dst x, H')
    | none => none
  | some (.yld i args) => match cf (.yield i) args H with
    | some (x, H') => some (putS t o.dst x, H')
    | none => none
  | none => none

 omit [Env] in
theorem setMany_len_of_store {ty : TypeId} {p x : SVal} {H' : SHeap} (h : storeE P H ty p x = some H') : H'.length = H.length := by
  unfold storeE at h
  split at h
  case h_2 => cases h
  split at h
  case h_2 => cases h
  simp only at h
  split at h
  case isFalse => cases h
  exact writeE_len h

def Res.heap (H : SHeap) : Res → SHeap
  | .val _ H' => H'
  | .skip H' => H'
  | .call _ _ => H
  | .yld _ _ => H

theorem mapUpdate_len {ty : TypeId} {m k x : SVal} {H' : SHeap} (h : mapUpdateE P H ty m k x = some H') : H'.length = H.length := by
  unfold mapUpdateE at h
  repeat' (split at h)
  all_goals first | (cases h; simp; done) | cases h

theorem opE_len {G : Glob} {r : Res} (h : opE P G t H o = some r) : H.length ≤ (r.heap H).length := by
  have hH : ∀ {r}, opH P G t H o = some r → H.length ≤ (r.heap H).length := by
    intro r h
    obtain ⟨dst, op, type, pos, after, guard⟩ := o
    cases op with
    | alloc e =>
      simp only [opH, allocE] at h
      split at h <;> cases h
      simp [Res.heap]
    | box e x => simp only [opH, Option.some.injEq] at h; subst h; simp [Res.heap]
    | load ty x => simp only [opH] at h; split at h <;> cases h; simp [Res.heap]
    | store ty p x =>
      simp only [opH] at h
      split at h <;> cases h
      rename_i H' hH'
      simp [Res.heap, setMany_len_of_store hH']
    | buildSlice ty len parts =>
      simp only [opH, buildSliceE] at h
      repeat' (split at h)
      all_goals first | (cases h; simp [Res.heap]; done) | cases h
    | makeSlice ty l c =>
      simp only [opH, makeSliceE] at h
      repeat' (split at h)
      all_goals first | (cases h; simp [Res.heap]; done) | cases h
    | convert src dst x =>
      simp only [opH] at h
      split at h
      · cases h; simp [Res.heap]
      · simp only [strBytesE] at h
        repeat' (split at h)
        all_goals first | (cases h; simp [Res.heap]; done) | cases h
    | range ty x =>
      simp only [opH, rangeE] at h
      repeat' (split at h)
      all_goals first | (cases h; simp [Res.heap]; done) | cases h
    | next x s =>
      simp only [opH, nextE] at h
      repeat' (split at h)
      all_goals first | (cases h; simp [Res.heap]; done) | cases h
    | makeMap ty r =>
      simp only [opH, makeMapE] at h
      repeat' (split at h)
      all_goals first | (cases h; simp [Res.heap]; done) | cases h
    | mapUpdate ty m k x =>
      simp only [opH] at h
      split at h <;> cases h
      rename_i H' hH'
      simp [Res.heap, mapUpdate_len hH']
    | lookup ty x k ok => simp only [opH] at h; split at h <;> cases h; simp [Res.heap]
    | call c =>
      obtain ⟨callee, args, argTypes⟩ := c
      simp only [opH] at h
      split at h
      · simp only [copyOpE] at h
        split at h
        · simp only [copyE] at h
          repeat' (split at h)
          all_goals first | (rename_i hw; cases h; have := writeE_len hw; simp [Res.heap, this]; done) | cases h
        · simp only [appendE] at h
          repeat' (split at h)
          all_goals first | (rename_i hw; cases h; have := writeE_len hw; simp [Res.heap, this]; done) | (cases h; simp [Res.heap]; done) | cases h
        · simp only [strAtE] at h
          repeat' (split at h)
          all_goals first | (cases h; simp [Res.heap]; done) | cases h
        · cases h
      · cases h
    | _ => simp only [opH] at h; cases h
  unfold opE at h
  split at h
  · exact hH h
  · split at h
    · rename_i r' _
      cases h
      cases r' <;> simp [PRes.on, Res.heap]
    · exact hH h

theorem stepR_len {G : Glob} {cf : CallF} (hcf : CallOk P G cf) {t' : List SVal} {H' : SHeap} (h : stepR P G cf t H o = some (t', H')) : H.length ≤ H'.length := by
  unfold stepR at h
  split at h
  · rename_i x H1 he; cases h; exact opE_len he
  · rename_i H1 he; cases h; exact opE_len he
  · rename_i f args he
    split at h
    · rename_i x H1 hc; cases h; exact (callR_ok hcf _ _ _ _ _ hc).1
    · cases h
  · rename_i i args he
    split at h
    · rename_i x H1 hc; cases h; exact (hcf.yld _ _ _ _ _ hc).1
    · cases h
  · cases h

theorem stepR_ok {G : Glob} {cf : CallF} (hF : Wd F) (hcf : CallOk P G cf) (hG : G.holds w0) (hN : NamesOk P) {t' : List SVal} {H' : SHeap} (h : stepR P G cf t H o = some (t', H'))
    (hA : Acts dl w0 ρ t H a w) {next : Act → World → Prop} {Q : Exit → Act → World → Prop}
    (hn : ∀ ρ' a' w', Ext ρ H ρ' H' → Acts dl w0 ρ' t' H' a' w' → next a' w') : o.wpIn F 0 P a w next Q := by
  unfold stepR at h
  unfold Oper.wpIn
  refine ⟨fun f _ => hF.fn f, ?_⟩
  split at h
  · rename_i x H1 he
    cases h
    obtain ⟨ρ', v, w', h1, h2, h3, h4⟩ := opE_ok hG hN hA.rel hA.tmps he
    rw [hF.sem (opE_nd he), h1, Oper.uponIn_value]
    exact hn ρ' _ _ h2 (hA.put (h2.le hA.rel) h4 _ h3)
  · rename_i H1 he
    cases h
    obtain ⟨ρ', w', h1, h2, h3⟩ := opE_ok hG hN hA.rel hA.tmps he
    rw [hF.sem (opE_nd he), h1, Oper.uponIn_skip]
    exact hn ρ' _ _ h2 (hA.put (h2.le hA.rel) h3 _ (by simp [den]))
  · rename_i f args he
    obtain ⟨vs, h1, h2⟩ := opE_ok hG hN hA.rel hA.tmps he
    rw [hF.sem (opE_nd he), h1, Oper.uponIn_enter]
    split at h
    · rename_i x H1 hc
      cases h
      refine ⟨hF.depth, (hF.calls ((callR_ok hcf _ _ _ _ _ hc).2 w0 ρ w vs hG hA.rel h2)).mono ?_⟩
      rintro e w' ⟨ρ', v, rfl, h3, h4, h5⟩
      exact hn ρ' _ _ h3 (hA.put (h3.le hA.rel) h5 _ h4)
    · cases h
  · rename_i i args he
    obtain ⟨p, vs, h1, h2, h3⟩ := opE_ok hG hN hA.rel hA.tmps he
    split at h
    · rename_i x H1 hc
      cases h
      obtain ⟨r, k1, k2, k3⟩ := (hcf.yld _ _ _ _ _ hc).2 w0 ρ w p vs hG hA.rel h1 h2
      rw [hF.sem (opE_nd he), h3 r k1 k2, Oper.uponIn_round]
      refine ⟨hF.depth, (hF.round k3).mono ?_⟩
      rintro e w' ⟨ρ', v, rfl, h3, h4, h5⟩
      exact hn ρ' _ _ h3 (hA.put (h3.le hA.rel) h5 _ h4)
    · cases h
  · cases h

def boolOf : SVal → Option Bool
  | .v (.bool b) => some b
  | .sym i => match Env.val i with
    | .bool b => some b
    | _ => none
  | _ => none

def yieldedS (ops : Array Oper) (t : List SVal) (j : Nat) : Option Bool :=
  match (ops[j]?).bind (·.dst) with
  | some d => match t[d]? with
    | some x => boolOf x
    | none => none
  | none => none

theorem boolOf_eq {x : SVal} {v : Value} (hx : den ρ x = some v) : boolOf x = (match v with | .bool b => some b | _ => none) := by
  cases x with
  | v y => simp only [den, Option.some.injEq] at hx; subst hx; cases y <;> rfl
  | row i off eoff len => obtain ⟨p, _, _, rfl⟩ := den_row hx; rfl
  | ptr i off => obtain ⟨p, _, rfl⟩ := den_ptr hx; rfl
  | slice i off len cap => obtain ⟨p, _, rfl⟩ := den_slice hx; rfl
  | agg l => obtain ⟨p, _, rfl⟩ := den_agg hx; rfl
  | tuple l => obtain ⟨p, _, rfl⟩ := den_tuple hx; rfl
  | func fn f c =>
    simp only [den] at hx
    split at hx <;> simp at hx
    subst hx; rfl
  | iface t y =>
    simp only [den] at hx
    split at hx
    · cases hx; rfl
    · cases hx
  | yield i =>
    simp only [den] at hx
    split at hx
    · cases hx; rfl
    · cases hx
  | map i =>
    simp only [den] at hx
    split at hx
    · cases hx; rfl
    · cases hx
  | sym i =>
    have e : Env.val i = v := by simpa [den] using hx
    show (match Env.val i with | .bool b => some b | _ => none) = _
    rw [e]
    cases v <;> rfl

theorem yieldedS_eq (ht : denL ρ t = some a.tmps.toList) (ops : Array Oper) (j : Nat) : yieldedS ops t j = yielded ops a.tmps j := by
  unfold yieldedS yielded
  cases hd : (ops[j]?).bind (·.dst) with
  | none => rfl
  | some d =>
    simp only [Option.bind_some]
    have hlen := denL_length ht
    cases hx : t[d]? with
    | none =>
      have : a.tmps[d]? = none := by
        have h1 := List.getElem?_eq_none_iff.1 hx
        simp at hlen
        exact Array.getElem?_eq_none (by omega)
      rw [this]
    | some x =>
      obtain ⟨y, hy, hdx⟩ := denL_get ht d x hx
      have : a.tmps[d]? = some y := by simpa using hy
      rw [this]
      simp only [boolOf_eq hdx]
      cases y <;> rfl

theorem wanted_eq (ht : denL ρ t = some a.tmps.toList) (ops : Array Oper) (o : Oper) : Region.wanted o (yieldedS ops t) = Region.wanted o (yielded ops a.tmps) := by
  unfold Region.wanted
  cases o.guard with
  | none => rfl
  | some g => simp only [yieldedS_eq ht]

/-- A region whose operations go in their order. -/
def runList (P : Program) (G : Glob) (cf : CallF) (ops : Array Oper) : List Oper → List SVal → SHeap → Option St
  | [], t, H => some (t, H)
  | o :: rest, t, H =>
    if Region.wanted o (yieldedS ops t) then
      match stepR P G cf t H o with
      | some (t', H') => runList P G cf ops rest t' H'
      | none => none
    else runList P G cf ops rest (putS t o.dst (.v undef)) H

theorem runList_ok {G : Glob} {cf : CallF} (hF : Wd F) (hcf : CallOk P G cf) (hG : G.holds w0) (hN : NamesOk P) {ops : Array Oper} : ∀ (l : List Oper) {t : List SVal} {H : SHeap} {t' : List SVal} {H' : SHeap}, runList P G cf ops l t H = some (t', H') →
    H.length ≤ H'.length ∧ ∀ {ρ : Ren} {a : Act} {w : World}, Acts dl w0 ρ t H a w → ∀ {Q : Exit → Act → World → Prop}, (∀ ρ' a' w', Ext ρ H ρ' H' → Acts dl w0 ρ' t' H' a' w' → Q .normal a' w') → wpListIn F 0 P ops Q l a w
  | [], t, H, t', H', h => by
    cases h
    exact ⟨Nat.le_refl _, fun hA Q hQ => hQ _ _ _ (Ext.refl _ _) hA⟩
  | o :: rest, t, H, t', H', h => by
    simp only [runList] at h
    split at h
    · rename_i hw
      split at h
      case h_2 => cases h
      rename_i t1 H1 hs
      have h1 := stepR_len hcf hs
      obtain ⟨h2, h3⟩ := runList_ok hF hcf hG hN rest h
      refine ⟨Nat.le_trans h1 h2, fun {ρ a w} hA Q hQ => ?_⟩
      simp only [wpListIn]
      rw [← wanted_eq hA.tmps, if_pos hw]
      exact stepR_ok hF hcf hG hN hs hA fun ρ1 a1 w1 he hA1 => h3 hA1 fun ρ2 a2 w2 he2 hA2 => hQ _ _ _ (he.trans he2 h1) hA2
    · rename_i hw
      obtain ⟨h2, h3⟩ := runList_ok hF hcf hG hN rest h
      refine ⟨h2, fun {ρ a w} hA Q hQ => ?_⟩
      simp only [wpListIn]
      rw [← wanted_eq hA.tmps, if_neg hw]
      refine ⟨fun f _ => hF.fn f, ?_⟩
      exact h3 (hA.put (Ren.le.refl _) hA.rel _ (by simp [den])) hQ

end
end
end Go.RX

namespace Go.RX
noncomputable section
open Go.RowKit (Below)

variable [Env]

section
variable {P : Program} {F : Fence} {dl : List Deferred} {w0 w : World} {ρ : Ren} {H : SHeap} {t : List SVal} {a : Act} {o : Oper}

/-! ### What an operation looks at -/
 omit [Env] in
theorem pureOp_congr {t t' : List SVal} (h : ∀ x ∈ o.op.operands, seval t x = seval t' x) : pureOp P t o = pureOp P t' o := by
  unfold pureOp
  have h1 : o.op.operands.toList.all (fun x => (vOf (seval t x)).isSome) = o.op.operands.toList.all (fun x => (vOf (seval t' x)).isSome) := by
    rw [Bool.eq_iff_iff]
    simp only [List.all_eq_true]
    constructor
    · intro hh x hx; rw [← h x (by simpa using hx)]; exact hh x hx
    · intro hh x hx; rw [h x (by simpa using hx)]; exact hh x hx
  rw [h1]
  by_cases hs : notSelect o.op = true
  · have h2 : execOp (vEval t) o = execOp (vEval t') o := execOp_congr o (fun cs b e => by rw [e] at hs; cases hs) fun x hx => by unfold vEval; rw [h x hx]
    rw [h2]
  · simp only [Bool.not_eq_true] at hs
    simp [hs]

 omit [Env] in
theorem orPure_congr {t t' : List SVal} (h : ∀ x ∈ o.op.operands, seval t x = seval t' x) {e e' : Option PRes} (he : e = e') : orPure P t o e = orPure P t' o e' := by
  subst he
  unfold orPure
  rw [pureOp_congr h]

 omit [Env] in
theorem sevalL_congr {t t' : List SVal} {l : List Operand} (h : ∀ x ∈ l, seval t x = seval t' x) : sevalL t l = sevalL t' l := List.map_congr_left h

 omit [Env] in
theorem optV_congr {t t' : List SVal} {x : Option Operand} (h : ∀ y ∈ x.toList, seval t y = seval t' y) : optV t x = optV t' x := by
  cases x with
  | none => rfl
  | some y => simp only [optV]; rw [h y (by simp)]

 omit [Env] in
theorem partsOf_congr {t t' : List SVal} {parts : List (Nat × Operand)} (h : ∀ x ∈ parts.map (·.2), seval t x = seval t' x) : partsOf t parts = partsOf t' parts := by
  unfold partsOf
  refine List.map_congr_left fun p hp => ?_
  rw [h p.2 (List.mem_map.2 ⟨p, hp, rfl⟩)]

 omit [Env] in
theorem opP0_congr {t t' : List SVal} (h : ∀ x ∈ o.op.operands, seval t x = seval t' x) : opP0 P t o = opP0 P t' o := by
  have hp := pureOp_congr (P := P) h
  have ho := fun {e e' : Option PRes} (he : e = e') => orPure_congr (P := P) h he
  obtain ⟨dst, op, type, pos, after, guard⟩ := o
  cases op with
  | move x => simp only [opP0]; rw [h x (by simp [Op.operands])]
  | assign x => simp only [opP0]; rw [h x (by simp [Op.operands])]
  | fieldAddr s x f => simp only [opP0]; exact ho (by rw [h x (by simp [Op.operands])])
  | indexAddr ty x ix => simp only [opP0]; exact ho (by rw [h x (by simp [Op.operands]), h ix (by simp [Op.operands])])
  | slice ty x lo hi mx =>
    simp only [opP0]
    rw [optV_congr (x := lo) (fun y hy => h y (by simp [Op.operands]; simp at hy; simp [hy])), optV_congr (x := hi) (fun y hy => h y (by simp [Op.operands]; simp at hy; simp [hy])),
      optV_congr (x := mx) (fun y hy => h y (by simp [Op.operands]; simp at hy; simp [hy]))]
    split
    · exact ho (by rw [h x (by simp [Op.operands])])
    · rfl
  | field s x f => simp only [opP0]; exact ho (by rw [h x (by simp [Op.operands])])
  | index ty x ix => simp only [opP0]; exact ho (by rw [h x (by simp [Op.operands]), h ix (by simp [Op.operands])])
  | extract x ix => simp only [opP0]; exact ho (by rw [h x (by simp [Op.operands])])
  | build ty parts =>
    simp only [opP0, buildE]
    rw [partsOf_congr (t := t) (t' := t') (fun x hx => h x (by simpa [Op.operands] using hx))]
  | nilCheck x => simp only [opP0]; exact ho (by rw [h x (by simp [Op.operands])])
  | makeFunc fn fs cs =>
    simp only [opP0]
    rw [sevalL_congr (l := fs.toList) (fun x hx => h x (by simp [Op.operands]; simp at hx; simp [hx])), sevalL_congr (l := cs.toList) (fun x hx => h x (by simp [Op.operands]; simp at hx; simp [hx]))]
  | makeInterface ty x => simp only [opP0]; exact ho (by rw [h x (by simp [Op.operands])])
  | binOp op ty x y yt => simp only [opP0]; exact ho (by rw [h x (by simp [Op.operands]), h y (by simp [Op.operands])])
  | call c =>
    obtain ⟨callee, args, argTypes⟩ := c
    simp only [opP0]
    cases callee with
    | value f =>
      simp only
      refine ho ?_
      unfold callE
      rw [h f (by simp [Op.operands, Call.operands]), sevalL_congr (l := args.toList) (fun x hx => h x (by simp [Op.operands, Call.operands]; simp at hx; simp [hx]))]
    | invoke r m => rfl
    | builtin b =>
      simp only
      refine ho ?_
      unfold lenOpE
      split
      · rename_i x ty' hargs _
        have : x ∈ args.toList := by rw [hargs]; simp
        rw [h x (by simp [Op.operands, Call.operands]; simpa using this)]
      · rfl
  | defer c => rfl
  | _ => exact hp

theorem factOf_congr {t t' : List SVal} (h : ∀ x ∈ o.op.operands, seval t x = seval t' x) : factOf t o = factOf t' o := by
  have e : o.op.operands.toList.map (seval t) = o.op.operands.toList.map (seval t') := List.map_congr_left fun x hx => h x (by simpa using hx)
  unfold factOf
  rw [e]

theorem opP_congr {t t' : List SVal} (h : ∀ x ∈ o.op.operands, seval t x = seval t' x) : opP P t o = opP P t' o := by
  unfold opP
  rw [opP0_congr h, factOf_congr h]

theorem opH_congr {G : Glob} {t t' : List SVal} (h : ∀ x ∈ o.op.operands, seval t x = seval t' x) : opH P G t H o = opH P G t' H o := by
  obtain ⟨dst, op, type, pos, after, guard⟩ := o
  cases op with
  | box e x => simp only [opH]; rw [h x (by simp [Op.operands])]
  | load ty x => simp only [opH]; rw [h x (by simp [Op.operands])]
  | store ty p x => simp only [opH]; rw [h p (by simp [Op.operands]), h x (by simp [Op.operands])]
  | buildSlice ty len parts =>
    simp only [opH, buildSliceE]
    rw [partsOf_congr (t := t) (t' := t') (fun x hx => h x (by simpa [Op.operands] using hx))]
  | makeSlice ty l c => simp only [opH]; rw [h l (by simp [Op.operands]), h c (by simp [Op.operands])]
  | convert src dst x => simp only [opH]; rw [h x (by simp [Op.operands])]
  | range ty x => simp only [opH]; rw [h x (by simp [Op.operands])]
  | next x s => simp only [opH]; rw [h x (by simp [Op.operands])]
  | mapUpdate ty m k x => simp only [opH]; rw [h m (by simp [Op.operands]), h k (by simp [Op.operands]), h x (by simp [Op.operands])]
  | lookup ty x k ok => simp only [opH]; rw [h x (by simp [Op.operands]), h k (by simp [Op.operands])]
  | call c =>
    obtain ⟨callee, args, argTypes⟩ := c
    simp only [opH]
    split
    · unfold copyOpE
      split
      · rename_i d s ty' ty2 hargs _
        have h1 : d ∈ args.toList := by rw [hargs]; simp
        have h2 : s ∈ args.toList := by rw [hargs]; simp
        rw [h d (by simp [Op.operands, Call.operands]; simpa using h1), h s (by simp [Op.operands, Call.operands]; simpa using h2)]
      · rename_i d s ty' ty2 hargs _
        have h1 : d ∈ args.toList := by rw [hargs]; simp
        have h2 : s ∈ args.toList := by rw [hargs]; simp
        rw [h d (by simp [Op.operands, Call.operands]; simpa using h1), h s (by simp [Op.operands, Call.operands]; simpa using h2)]
      · rename_i d s ty' ty2 hargs _
        have h1 : d ∈ args.toList := by rw [hargs]; simp
        have h2 : s ∈ args.toList := by rw [hargs]; simp
        rw [h d (by simp [Op.operands, Call.operands]; simpa using h1), h s (by simp [Op.operands, Call.operands]; simpa using h2)]
      · rfl
    · rfl
  | _ => rfl

theorem opE_congr {G : Glob} {t t' : List SVal} (h : ∀ x ∈ o.op.operands, seval t x = seval t' x) : opE P G t H o = opE P G t' H o := by
  unfold opE
  rw [opP_congr h, opH_congr h]

 omit [Env] in
theorem seval_putS {dst : Option Tmp} {x : SVal} {y : Operand} (h : ∀ d, dst = some d → y ≠ .tmp d) : seval (putS t dst x) y = seval t y := by
  cases dst with
  | none => rfl
  | some d =>
    cases y with
    | tmp k =>
      have : k ≠ d := fun e => h d rfl (by rw [e])
      simp only [seval, putS, getS_eq, setS_eq, List.getD_eq_getElem?_getD]
      rw [List.getElem?_set_ne (Ne.symm this)]
    | _ => rfl

 omit [Env] in
theorem seval_put_apart {ops : Array Oper} {oj : Oper} {dst : Option Tmp} {x : SVal} (h : ∀ d, dst = some d → d ∉ oj.looksAt ops) : ∀ y ∈ oj.op.operands, seval (putS t dst x) y = seval t y := fun y hy =>
  seval_putS fun d hd hyd => h d hd (by
    subst hyd
    exact List.mem_append_left _ (List.mem_filterMap.2 ⟨.tmp d, by simpa using hy, rfl⟩))

theorem wantedS_put {ops : Array Oper} {oj : Oper} {dst : Option Tmp} {x : SVal} (h : ∀ d, dst = some d → d ∉ oj.looksAt ops) :
    Region.wanted oj (yieldedS ops (putS t dst x)) = Region.wanted oj (yieldedS ops t) := by
  cases dst with
  | none => rfl
  | some d =>
    unfold Region.wanted
    cases hg : oj.guard with
    | none => rfl
    | some gw =>
      obtain ⟨g, want⟩ := gw
      have hy : yieldedS ops (putS t (some d) x) g = yieldedS ops t g := by
        unfold yieldedS
        cases ht : (ops[g]?).bind (·.dst) with
        | none => rfl
        | some e =>
          have hne : d ≠ e := fun he => h d rfl (by subst he; simp [Oper.looksAt, hg, ht])
          simp only [putS, setS_eq]
          rw [List.getElem?_set_ne hne]
      simp only [hy]

 omit [Env] in
theorem putS_comm {d d' : Option Tmp} {x y : SVal} (h : ∀ k, d = some k → d' ≠ some k) : putS (putS t d x) d' y = putS (putS t d' y) d x := by
  cases d with
  | none => cases d' <;> rfl
  | some i =>
    cases d' with
    | none => rfl
    | some j =>
      have : i ≠ j := fun e => h i rfl (by rw [e])
      simp only [putS, setS_eq]
      exact List.set_comm _ _ this

/-! ### The kinds of operations in a region that draws its order -/
inductive Kd where
  | p    -- looks at no heap
  | l    -- lays a new variable
  | a    -- loads
  | b    -- all else

/-- Comes j behind i, by the edges? -/
def reach (ops : Array Oper) : Nat → Nat → Nat → Bool
  | 0, _, _ => false
  | n + 1, j, i => match ops[j]? with
    | none => false
    | some o => o.after.any fun e => Region.binds .any e && (e.on == i || reach ops n e.on i)

def isHeapOp : Op → Bool
  | .box .. | .store .. | .buildSlice .. | .makeSlice .. | .range .. | .next .. | .makeMap .. | .mapUpdate .. | .lookup .. => true
  | .call { callee := .builtin .copy, .. } | .call { callee := .builtin .append, .. } | .call { callee := .builtin .unsafeString, .. } => true
  | _ => false

def baseKd (o : Oper) : Kd :=
  match o.op with
  | .alloc _ => match o.guard, o.dst with
    | none, some _ => .l
    | _, _ => .b
  | .load .. => .a
  | op => if isHeapOp op then .b else .p

def isCallOp (o : Oper) : Bool :=
  match o.op with
  | .call { callee := .value _, .. } => true
  | _ => false

/-- A number, reckoned before it is handed on. -/
def forceN {α : Type} (m : Nat) (k : Nat → α) : α :=
  match m with
  | 0 => k 0
  | n + 1 => k (n + 1)

 omit [Env] in
theorem forceN_eq {α : Type} (m : Nat) (k : Nat → α) : forceN m k = k m := by cases m <;> rfl

/-- Of an operation: the bits of those that it waits for, by an edge of its own, and by edges; the bits of the temporaries that it looks at. -/
structure Inf where
  edge : Nat
  anc : Nat
  look : Nat
  dst : Option Tmp
  base : Kd
  call : Bool

def edgeBits (f : Nat → Nat) : List Edge → Nat → Nat
  | [], m => m
  | e :: es, m => if Region.binds .any e then edgeBits f es (m ||| (1 <<< e.on) ||| f e.on) else edgeBits f es m

def lookBits : List Tmp → Nat → Nat
  | [], m => m
  | t :: ts, m => lookBits ts (m ||| (1 <<< t))

 omit [Env] in
theorem testBit_one_shift {n i : Nat} : (1 <<< n).testBit i = decide (n = i) := by
  rw [Nat.one_shiftLeft, Nat.testBit_two_pow]

 omit [Env] in
theorem edgeBits_ok {f : Nat → Nat} {i : Nat} : ∀ (es : List Edge) (m : Nat), (edgeBits f es m).testBit i = true → m.testBit i = true ∨ ∃ e ∈ es, Region.binds .any e = true ∧ (e.on = i ∨ (f e.on).testBit i = true)
  | [], m, h => .inl h
  | e :: es, m, h => by
    simp only [edgeBits] at h
    split at h
    · rename_i hb
      rcases edgeBits_ok es _ h with h1 | ⟨e', he', h2⟩
      · simp only [Nat.testBit_or, Bool.or_eq_true, testBit_one_shift, decide_eq_true_eq] at h1
        rcases h1 with (h1 | h1) | h1
        · exact .inl h1
        · exact .inr ⟨e, by simp, hb, .inl h1⟩
        · exact .inr ⟨e, by simp, hb, .inr h1⟩
      · exact .inr ⟨e', by simp [he'], h2⟩
    · rcases edgeBits_ok es _ h with h1 | ⟨e', he', h2⟩
      · exact .inl h1
      · exact .inr ⟨e', by simp [he'], h2⟩

 omit [Env] in
theorem edgeBits_mono {f : Nat → Nat} {i : Nat} : ∀ (es : List Edge) (m : Nat), m.testBit i = true → (edgeBits f es m).testBit i = true
  | [], m, h => h
  | e :: es, m, h => by
    simp only [edgeBits]
    split
    · exact edgeBits_mono es _ (by simp [Nat.testBit_or, h])
    · exact edgeBits_mono es _ h

 omit [Env] in
theorem edgeBits_has {f : Nat → Nat} {e : Edge} (hb : Region.binds .any e = true) : ∀ (es : List Edge) (m : Nat), e ∈ es → (edgeBits f es m).testBit e.on = true
  | [], m, h => by simp at h
  | e' :: es, m, h => by
    simp only [edgeBits]
    rcases List.mem_cons.1 h with rfl | h'
    · rw [if_pos hb]
      exact edgeBits_mono es _ (by simp [Nat.testBit_or])
    · split
      · exact edgeBits_has hb es _ h'
      · exact edgeBits_has hb es _ h'

 omit [Env] in
theorem lookBits_mono {i : Nat} : ∀ (ts : List Tmp) (m : Nat), m.testBit i = true → (lookBits ts m).testBit i = true
  | [], m, h => h
  | t :: ts, m, h => lookBits_mono ts _ (by simp [Nat.testBit_or, h])

 omit [Env] in
theorem lookBits_has {t : Tmp} : ∀ (ts : List Tmp) (m : Nat), t ∈ ts → (lookBits ts m).testBit t = true
  | [], m, h => by simp at h
  | t' :: ts, m, h => by
    rcases List.mem_cons.1 h with rfl | h'
    · exact lookBits_mono ts _ (by simp [Nat.testBit_or])
    · exact lookBits_has ts _ h'

def ancAt (k : Nat) (acc : List Nat) (x : Nat) : Nat := if x < k then acc.getD (k - 1 - x) 0 else 0

def infsGo (ops : Array Oper) : List Oper → Nat → List Nat → List Inf
  | [], _, _ => []
  | o :: os, k, acc => forceN (edgeBits (ancAt k acc) o.after.toList 0) fun m => forceN (edgeBits (fun _ => 0) o.after.toList 0) fun e => forceN (lookBits (o.looksAt ops) 0) fun l =>
      ⟨e, m, l, o.dst, baseKd o, isCallOp o⟩ :: infsGo ops os (k + 1) (m :: acc)

def infs (ops : Array Oper) : List Inf := infsGo ops ops.toList 0 []

def AncOk (ops : Array Oper) (m j : Nat) : Prop := ∀ i, m.testBit i = true → ∃ n, reach ops n j i = true

 omit [Env] in
theorem infsGo_get {ops : Array Oper} : ∀ (os : List Oper) (k : Nat) (acc : List Nat), acc.length = k → (∀ i, os[i]? = ops[k + i]?) → (∀ j, j < k → AncOk ops (acc.getD (k - 1 - j) 0) j) → ∀ (i : Nat) (o : Oper), os[i]? = some o →
    ∃ m, (infsGo ops os k acc)[i]? = some ⟨edgeBits (fun _ => 0) o.after.toList 0, m, lookBits (o.looksAt ops) 0, o.dst, baseKd o, isCallOp o⟩ ∧ AncOk ops m (k + i)
  | [], k, acc, _, _, _, i, o, h => by simp at h
  | o' :: os, k, acc, hl, hos, hacc, i, o, h => by
    simp only [infsGo, forceN_eq]
    have hk : ops[k]? = some o' := by have := hos 0; simpa using this.symm
    have hnew : AncOk ops (edgeBits (ancAt k acc) o'.after.toList 0) k := fun i' hi' => by
      rcases edgeBits_ok _ _ hi' with h1 | ⟨e, he, hb, h1⟩
      · simp at h1
      · rcases h1 with h1 | h1
        · refine ⟨1, ?_⟩
          simp only [reach, hk]
          exact Array.any_eq_true'.2 ⟨e, by simpa using he, by simp [hb, h1]⟩
        · unfold ancAt at h1
          split at h1
          · rename_i hek
            obtain ⟨n, hn⟩ := hacc e.on hek i' h1
            refine ⟨n + 1, ?_⟩
            simp only [reach, hk]
            exact Array.any_eq_true'.2 ⟨e, by simpa using he, by simp [hb, hn]⟩
          · simp at h1
    cases i with
    | zero =>
      simp only [List.getElem?_cons_zero, Option.some.injEq] at h
      subst h
      exact ⟨edgeBits (ancAt k acc) o'.after.toList 0, by simp, by simpa using hnew⟩
    | succ i =>
      simp only [List.getElem?_cons_succ] at h ⊢
      have := infsGo_get os (k + 1) (edgeBits (ancAt k acc) o'.after.toList 0 :: acc) (by simp [hl]) (fun i => by have := hos (i + 1); simpa [Nat.add_assoc, Nat.add_comm 1 i] using this) (fun j hj => by
        by_cases hjk : j = k
        · subst hjk
          simpa using hnew
        · have : k + 1 - 1 - j = (k - 1 - j) + 1 := by omega
          rw [this]
          simpa using hacc j (by omega)) i o h
      simpa [Nat.add_assoc, Nat.add_comm 1 i] using this

def tie (x : Inf) (i : Nat) (y : Inf) (j : Nat) : Bool := if i < j then y.anc.testBit i else x.anc.testBit j

/-- Does this call stand in order with all that touch the heap? -/
def ordered (L : List (Inf × Nat)) (x : Inf) (i : Nat) : Bool :=
  L.all fun (y, j) => j == i || match y.base with
    | .l => true
    | .p => !y.call || tie x i y j
    | _ => tie x i y j

def kdOf (L : List (Inf × Nat)) (x : Inf) (i : Nat) : Kd :=
  if x.call then (if ordered L x i then .b else .p) else x.base

def kds (ops : Array Oper) : List Kd := (infs ops).zipIdx.map fun (x, i) => kdOf (infs ops).zipIdx x i

/-- May the two be exchanged? -/
def Kd.comm : Kd → Kd → Bool
  | .p, _ | .l, _ | _, .p | _, .l => true
  | .a, .a => true
  | _, _ => false

def apartM (a b : Inf) : Bool :=
  (match a.dst with
   | some d => !b.look.testBit d && b.dst != some d
   | none => true) &&
  (match b.dst with
   | some d => !a.look.testBit d
   | none => true)

def pairOk (i : Nat) (a b : Inf) (ka kb : Kd) : Bool := (b.edge.testBit i || apartM a b) && (Kd.comm ka kb || b.anc.testBit i)

def pairsOk (K : List ((Inf × Kd) × Nat)) : Bool :=
  K.all fun (b, j) => (b.1.edge >>> j) == 0 && K.all fun (a, i) => !(decide (i < j)) || pairOk i a.1 b.1 a.2 b.2

def drawOk (ops : Array Oper) : Bool := pairsOk ((infs ops).zip (kds ops)).zipIdx

/-- What is asked of a region that draws its order. -/
structure Static (ops : Array Oper) (ks : List Kd) : Prop where
  low : ∀ j o e, ops[j]? = some o → e ∈ o.after → Region.binds .any e = true → e.on < j
  free : ∀ i j oi oj, i < j → ops[i]? = some oi → ops[j]? = some oj → (∀ e ∈ oj.after, Region.binds .any e = true → e.on ≠ i) → oi.apart ops oj = true
  comm : ∀ i j oi oj, i < j → ops[i]? = some oi → ops[j]? = some oj → Kd.comm (ks.getD i .b) (ks.getD j .b) = true ∨ ∃ n, reach ops n j i = true

 omit [Env] in
theorem infs_get {ops : Array Oper} {i : Nat} {o : Oper} (h : ops[i]? = some o) :
    ∃ m, (infs ops)[i]? = some ⟨edgeBits (fun _ => 0) o.after.toList 0, m, lookBits (o.looksAt ops) 0, o.dst, baseKd o, isCallOp o⟩ ∧ AncOk ops m i := by
  have := infsGo_get (ops := ops) ops.toList 0 [] rfl (fun i => by simp) (fun j hj => by omega) i o (by simpa using h)
  unfold infs
  simpa using this

 omit [Env] in
theorem kds_get {ops : Array Oper} {i : Nat} {x : Inf} (h : (infs ops)[i]? = some x) : (kds ops)[i]? = some ((kds ops).getD i .b) := by
  have hl : (kds ops).length = (infs ops).length := by simp [kds]
  have hi := (List.getElem?_eq_some_iff.1 h).1
  rw [List.getD_eq_getElem?_getD]
  rw [List.getElem?_eq_getElem (by omega)]
  rfl

 omit [Env] in
theorem drawOk_static {ops : Array Oper} (h : drawOk ops = true) : Static ops (kds ops) := by
  unfold drawOk pairsOk at h
  simp only [List.all_eq_true] at h
  have get : ∀ {i : Nat} {o : Oper}, ops[i]? = some o → ∃ m, AncOk ops m i ∧ (((⟨edgeBits (fun _ => 0) o.after.toList 0, m, lookBits (o.looksAt ops) 0, o.dst, baseKd o, isCallOp o⟩ : Inf), (kds ops).getD i .b), i) ∈ ((infs ops).zip (kds ops)).zipIdx := by
    intro i o ho
    obtain ⟨m, h1, h2⟩ := infs_get ho
    refine ⟨m, h2, ?_⟩
    rw [List.mem_iff_getElem?]
    refine ⟨i, ?_⟩
    have hz : ((infs ops).zip (kds ops))[i]? = some (⟨edgeBits (fun _ => 0) o.after.toList 0, m, lookBits (o.looksAt ops) 0, o.dst, baseKd o, isCallOp o⟩, (kds ops).getD i .b) := List.getElem?_zip_eq_some.2 ⟨h1, kds_get h1⟩
    rw [List.getElem?_zipIdx, hz]
    simp
  refine ⟨fun j o e ho he hb => ?_, fun i j oi oj hij hi hj hno => ?_, fun i j oi oj hij hi hj => ?_⟩
  · obtain ⟨m, _, hm⟩ := get ho
    have h1 := h _ hm
    simp only [Bool.and_eq_true, beq_iff_eq] at h1
    have h2 := edgeBits_has (f := fun _ => 0) hb o.after.toList 0 (by simpa using he)
    rcases Nat.lt_or_ge e.on j with h' | h'
    · exact h'
    · have h3 : (edgeBits (fun _ => 0) o.after.toList 0 >>> j).testBit (e.on - j) = true := by
        rw [Nat.testBit_shiftRight, show j + (e.on - j) = e.on by omega]
        exact h2
      rw [h1.1] at h3
      simp at h3
  all_goals
    obtain ⟨mi, hai, hmi⟩ := get hi
    obtain ⟨mj, haj, hmj⟩ := get hj
    have h1 := h _ hmj
    simp only [Bool.and_eq_true, List.all_eq_true] at h1
    have h2 := h1.2 _ hmi
    simp only [hij, decide_true, Bool.not_true, Bool.false_or, pairOk, Bool.and_eq_true, Bool.or_eq_true] at h2
  · rcases h2.1 with h3 | h3
    · rcases edgeBits_ok _ _ h3 with h4 | ⟨e, he, hb, h4⟩
      · simp at h4
      · rcases h4 with h4 | h4
        · exact absurd h4 (hno e (by simpa using he) hb)
        · simp at h4
    · unfold apartM at h3
      simp only [Bool.and_eq_true] at h3
      unfold Oper.apart
      simp only [Bool.and_eq_true]
      constructor
      · have h4 := h3.1
        cases hd : oi.dst with
        | none => rfl
        | some d =>
          simp only [hd, Bool.and_eq_true, Bool.not_eq_true'] at h4 ⊢
          refine ⟨?_, h4.2⟩
          rw [← Bool.not_eq_true]
          intro hc
          rw [lookBits_has _ _ (by simpa using hc)] at h4
          exact absurd h4.1 (by simp)
      · have h4 := h3.2
        cases hd : oj.dst with
        | none => rfl
        | some d =>
          simp only [hd, Bool.not_eq_true'] at h4 ⊢
          rw [← Bool.not_eq_true]
          intro hc
          rw [lookBits_has _ _ (by simpa using hc)] at h4
          exact absurd h4 (by simp)
  · rcases h2.2 with h3 | h3
    · exact .inl h3
    · exact .inr (haj i h3)

def pStep (P : Program) (cf : CallF) (t : List SVal) (o : Oper) : Option SVal :=
  match opP P t o with
  | some (.val x) => some x
  | some .skip => some (.v undef)
  | some (.call f args) => match freshR cf f args with
    | some (x, []) => some x
    | _ => none
  | some (.yld _ _) => none
  | none => none

def aStep (P : Program) (G : Glob) (t : List SVal) (H : SHeap) (o : Oper) : Option SVal :=
  match o.op with
  | .load ty x => loadE P G H ty (seval t x)
  | _ => none

def bStep (P : Program) (G : Glob) (cf : CallF) (t : List SVal) (H : SHeap) (o : Oper) : Option (SVal × SHeap) :=
  match opE P G t H o with
  | some (.val x H') => some (x, H')
  | some (.skip H') => some (.v undef, H')
  | some (.call f args) => callR cf f args H
  | some (.yld i args) => cf (.yield i) args H
  | none => none

/-- What operation number i yields, and the heap that it leaves. -/
def eff (P : Program) (G : Glob) (cf : CallF) (ops : Array Oper) (k : Kd) (nm : Nat) (o : Oper) (t : List SVal) (H : SHeap) : Option (SVal × SHeap) :=
  if Region.wanted o (yieldedS ops t) then
    match k with
    | .p => match pStep P cf t o with
      | some x => some (x, H)
      | none => none
    | .l => some (.ptr nm 0, H)
    | .a => match aStep P G t H o with
      | some x => some (x, H)
      | none => none
    | .b => bStep P G cf t H o
  else some (.v undef, H)

theorem eff_congr {G : Glob} {cf : CallF} {ops : Array Oper} {k : Kd} {nm : Nat} {t t' : List SVal} (h : ∀ x ∈ o.op.operands, seval t x = seval t' x)
    (hw : Region.wanted o (yieldedS ops t) = Region.wanted o (yieldedS ops t')) : eff P G cf ops k nm o t H = eff P G cf ops k nm o t' H := by
  unfold eff pStep aStep bStep
  rw [hw, opP_congr h, opE_congr h]
  cases k with
  | a =>
    cases hop : o.op with
    | load ty x => simp only; rw [h x (by rw [hop]; simp [Op.operands])]
    | _ => rfl
  | _ => rfl

theorem eff_put {G : Glob} {cf : CallF} {ops : Array Oper} {k : Kd} {nm : Nat} {dst : Option Tmp} {x : SVal} (h : ∀ d, dst = some d → d ∉ o.looksAt ops) :
    eff P G cf ops k nm o (putS t dst x) H = eff P G cf ops k nm o t H :=
  eff_congr (seval_put_apart h) (wantedS_put h)

/-- An operation of the first two kinds: the same in every heap, which it leaves. -/
theorem eff_pl {G : Glob} {cf : CallF} {ops : Array Oper} {k : Kd} {nm : Nat} (hk : k = .p ∨ k = .l) {x : SVal} {H' : SHeap} (h : eff P G cf ops k nm o t H = some (x, H')) :
    H' = H ∧ ∀ K, eff P G cf ops k nm o t K = some (x, K) := by
  unfold eff at *
  split at h
  · rename_i hw
    rcases hk with rfl | rfl
    · simp only at h
      split at h
      · rename_i y hy
        cases h
        exact ⟨rfl, fun K => by simp only [hw, if_true]⟩
      · cases h
    · cases h
      exact ⟨rfl, fun K => by simp only [hw, if_true]⟩
  · rename_i hw
    cases h
    exact ⟨rfl, fun K => by rw [if_neg hw]⟩

theorem eff_a {G : Glob} {cf : CallF} {ops : Array Oper} {nm : Nat} {x : SVal} {H' : SHeap} (h : eff P G cf ops .a nm o t H = some (x, H')) : H' = H := by
  unfold eff at h
  split at h
  · simp only at h
    split at h <;> cases h
    rfl
  · cases h; rfl

def dstep (P : Program) (G : Glob) (cf : CallF) (ops : Array Oper) (ks : List Kd) (nm : Nat → Nat) (i : Nat) (s : St) : Option St :=
  match ops[i]? with
  | none => none
  | some o => match eff P G cf ops (ks.getD i .b) (nm i) o s.1 s.2 with
    | some (x, H') => some (putS s.1 o.dst x, H')
    | none => none

theorem dstep_comm {G : Glob} {cf : CallF} {ops : Array Oper} {ks : List Kd} {nm : Nat → Nat} {i j : Nat} {oi oj : Oper} (hi : ops[i]? = some oi) (hj : ops[j]? = some oj) (hap : oi.apart ops oj = true)
    (hc : Kd.comm (ks.getD i .b) (ks.getD j .b) = true) {s s1 s2 : St} (h1 : dstep P G cf ops ks nm i s = some s1) (h2 : dstep P G cf ops ks nm j s1 = some s2) :
    ∃ s', dstep P G cf ops ks nm j s = some s' ∧ dstep P G cf ops ks nm i s' = some s2 := by
  obtain ⟨a1, a2, a3⟩ := Oper.apart_spec hap
  unfold dstep at *
  simp only [hi, hj] at *
  split at h1
  case h_2 => cases h1
  rename_i x H1 e1
  cases h1
  split at h2
  case h_2 => cases h2
  rename_i y H2 e2
  cases h2
  simp only at e2
  rw [eff_put a1] at e2
  have fin : ∀ {K : SHeap}, eff P G cf ops (ks.getD j .b) (nm j) oj s.1 s.2 = some (y, K) → eff P G cf ops (ks.getD i .b) (nm i) oi s.1 K = some (x, H2) →
      ∃ s', (match eff P G cf ops (ks.getD j .b) (nm j) oj s.1 s.2 with
        | some (x, H') => some (putS s.1 oj.dst x, H')
        | none => none) = some s' ∧ (match eff P G cf ops (ks.getD i .b) (nm i) oi s'.1 s'.2 with
        | some (x, H') => some (putS s'.1 oi.dst x, H')
        | none => none) = some (putS (putS s.1 oi.dst x) oj.dst y, H2) := by
    intro K k1 k2
    refine ⟨(putS s.1 oj.dst y, K), by rw [k1], ?_⟩
    simp only
    rw [eff_put a3, k2]
    simp only
    rw [putS_comm a2]
  by_cases hki : ks.getD i .b = .p ∨ ks.getD i .b = .l
  · obtain ⟨rfl, hall⟩ := eff_pl hki e1
    exact fin e2 (hall _)
  · by_cases hkj : ks.getD j .b = .p ∨ ks.getD j .b = .l
    · obtain ⟨rfl, hall⟩ := eff_pl hkj e2
      exact fin (hall _) e1
    · have hii : ks.getD i .b = .a := by revert hc hki hkj; cases ks.getD i .b <;> cases ks.getD j .b <;> simp [Kd.comm]
      have hjj : ks.getD j .b = .a := by revert hc hki hkj; cases ks.getD i .b <;> cases ks.getD j .b <;> simp [Kd.comm]
      have g1 := eff_a (by rw [hii] at e1; exact e1)
      subst g1
      have g2 := eff_a (by rw [hjj] at e2; exact e2)
      subst g2
      exact fin e2 e1

/-- Whatever order is picked: the end is R. -/
def AllS (P : Program) (G : Glob) (cf : CallF) (ops : Array Oper) (ks : List Kd) (nm : Nat → Nat) (R : St) : Nat → Array Bool → St → Prop
  | 0, listed, s => Region.ready .any ops listed = [] ∧ s = R
  | n + 1, listed, s => (Region.ready .any ops listed = [] → s = R) ∧
    ∀ i ∈ Region.ready .any ops listed, ∃ s', dstep P G cf ops ks nm i s = some s' ∧ AllS P G cf ops ks nm R n (listed.setIfInBounds i true) s'

/-- All that a listed operation waits for is listed. -/
def Closed (ops : Array Oper) (listed : Array Bool) : Prop :=
  ∀ j o, ops[j]? = some o → listed.getD j false = true → ∀ e ∈ o.after, Region.binds .any e = true → listed.getD e.on false = true

 omit [Env] in
theorem reach_listed {ops : Array Oper} {listed : Array Bool} (hc : Closed ops listed) : ∀ (n j i : Nat), (∀ o, ops[j]? = some o → ∀ e ∈ o.after, Region.binds .any e = true → listed.getD e.on false = true) →
    reach ops n j i = true → listed.getD i false = true
  | 0, j, i, _, h => by simp [reach] at h
  | n + 1, j, i, hp, h => by
    simp only [reach] at h
    split at h
    · cases h
    rename_i o ho
    obtain ⟨e, he, hb⟩ := Array.any_eq_true'.1 h
    simp only [Bool.and_eq_true, Bool.or_eq_true, beq_iff_eq] at hb
    have h1 := hp o ho e he hb.1
    rcases hb.2 with h2 | h2
    · rw [← h2]; exact h1
    · exact reach_listed hc n e.on i (fun o' ho' => hc e.on o' ho' h1) h2

 omit [Env] in
theorem Closed.put {ops : Array Oper} {listed : Array Bool} (hc : Closed ops listed) {j : Nat} (hj : j ∈ Region.ready .any ops listed) : Closed ops (listed.setIfInBounds j true) := by
  obtain ⟨_, o, ho, hall⟩ := mem_ready.1 hj
  intro k o' ho' hk e he hb
  by_cases hkj : k = j
  · subst hkj
    rw [ho] at ho'
    cases ho'
    exact getD_set_true (hall e he hb)
  · rw [getD_set_ne false (Ne.symm hkj)] at hk
    exact getD_set_true (hc k o' ho' hk e he hb)

theorem AllS_first {G : Glob} {cf : CallF} {ops : Array Oper} {ks : List Kd} {nm : Nat → Nat} {R : St} {i : Nat} {oi : Oper} (hi : ops[i]? = some oi) :
    ∀ (fuel : Nat) (listed : Array Bool) (s s1 : St), Closed ops listed →
      (∀ j oj, ops[j]? = some oj → j ≠ i → listed.getD j true = false → (∀ e ∈ oj.after, Region.binds .any e = true → e.on ≠ i) → oi.apart ops oj = true) →
      (∀ j oj, ops[j]? = some oj → j ≠ i → listed.getD j true = false → Kd.comm (ks.getD i .b) (ks.getD j .b) = true ∨ ∃ n, reach ops n j i = true) →
      i ∈ Region.ready .any ops listed → dstep P G cf ops ks nm i s = some s1 →
      AllS P G cf ops ks nm R fuel (listed.setIfInBounds i true) s1 → AllS P G cf ops ks nm R (fuel + 1) listed s := by
  intro fuel
  induction fuel with
  | zero =>
    intro listed s s1 _ _ _ hr hs H
    refine ⟨fun h => (by rw [h] at hr; cases hr), fun j hj => ?_⟩
    by_cases hji : j = i
    · subst hji; exact ⟨s1, hs, H⟩
    · have := ready_mono hj hji
      rw [H.1] at this
      cases this
  | succ fuel ih =>
    intro listed s s1 hcl hfree hcomm hr hs H
    refine ⟨fun h => (by rw [h] at hr; cases hr), fun j hj => ?_⟩
    by_cases hji : j = i
    · subst hji; exact ⟨s1, hs, H⟩
    · obtain ⟨s2, h2, hrest⟩ := H.2 j (ready_mono hj hji)
      obtain ⟨hjun, oj, hoj, hall⟩ := mem_ready.1 hj
      have hiun := (mem_ready.1 hr).1
      have hif : listed.getD i false = false := by
        rcases Nat.lt_or_ge i listed.size with h' | h'
        · simpa [h'] using hiun
        · simp [h']
      have hnot : ∀ e ∈ oj.after, Region.binds .any e = true → e.on ≠ i := fun e he hb heq => by
        have h1 := hall e he hb
        rw [heq, hif] at h1
        cases h1
      have hcm : Kd.comm (ks.getD i .b) (ks.getD j .b) = true := by
        rcases hcomm j oj hoj hji hjun with h' | h'
        · exact h'
        · obtain ⟨n, h'⟩ := h'
          have := reach_listed hcl _ j i (fun o ho => by rw [hoj] at ho; cases ho; exact hall) h'
          rw [hif] at this
          cases this
      obtain ⟨s', k1, k2⟩ := dstep_comm hi hoj (hfree j oj hoj hji hjun hnot) hcm hs h2
      have hset : ∀ k, k ≠ i → (listed.setIfInBounds j true).getD k true = false → listed.getD k true = false := fun k hk h => by
        by_cases hjk : j = k
        · subst hjk; exact hjun
        · rw [getD_set_ne true hjk] at h; exact h
      refine ⟨s', k1, ih (listed.setIfInBounds j true) s' s2 (hcl.put hj) (fun k ok hk hki hun hno => hfree k ok hk hki (hset k hki hun) hno) (fun k ok hk hki hun => hcomm k ok hk hki (hset k hki hun))
        (ready_mono hr (Ne.symm hji)) k2 ?_⟩
      rw [Array.setIfInBounds_comm _ _ hji]
      exact hrest

/-- The text's own order. -/
def lexRun (P : Program) (G : Glob) (cf : CallF) (ops : Array Oper) (ks : List Kd) (nm : Nat → Nat) : Nat → Nat → St → Option St
  | 0, _, s => some s
  | n + 1, k, s => match dstep P G cf ops ks nm k s with
    | some s' => lexRun P G cf ops ks nm n (k + 1) s'
    | none => none

theorem AllS_lex {G : Glob} {cf : CallF} {ops : Array Oper} {ks : List Kd} {nm : Nat → Nat} {R : St} (hst : Static ops ks) : ∀ (n k : Nat) (listed : Array Bool) (s : St), Closed ops listed → listed.size = ops.size → (∀ j, j < ops.size → listed[j]? = some (decide (j < k))) → k + n = ops.size →
    lexRun P G cf ops ks nm n k s = some R → AllS P G cf ops ks nm R n listed s
  | 0, k, listed, s, _, _, hlow, hk, h => by
    cases h
    refine ⟨?_, rfl⟩
    refine List.eq_nil_iff_forall_not_mem.2 fun j hj => ?_
    obtain ⟨h1, o, ho, _⟩ := mem_ready.1 hj
    have hjlt : j < ops.size := (Array.getElem?_eq_some_iff.1 ho).1
    rw [Array.getD_eq_getD_getElem?, hlow j hjlt] at h1
    simp at h1
    omega
  | n + 1, k, listed, s, hcl, hsize, hlow, hsz, h => by
    simp only [lexRun] at h
    split at h
    case h_2 => cases h
    rename_i s1 hs
    have hlt : k < ops.size := by omega
    have hk : ops[k]? = some ops[k] := by simp [hlt]
    have unl : ∀ j, j < ops.size → listed.getD j true = decide (j < k) := fun j hj => by rw [Array.getD_eq_getD_getElem?, hlow j hj]; rfl
    have unl' : ∀ j, j < ops.size → listed.getD j false = decide (j < k) := fun j hj => by rw [Array.getD_eq_getD_getElem?, hlow j hj]; rfl
    have hr' : k ∈ Region.ready .any ops listed := mem_ready.2 ⟨by rw [unl k hlt]; simp, ops[k], hk, fun e he hb => by
      have := hst.low k _ e hk he hb
      rw [unl' e.on (by omega)]
      simpa using this⟩
    have after : ∀ j oj, ops[j]? = some oj → j ≠ k → listed.getD j true = false → k < j := fun j oj hj hne hun => by
      have hjlt : j < ops.size := (Array.getElem?_eq_some_iff.1 hj).1
      rw [unl j hjlt] at hun
      simp at hun
      omega
    refine AllS_first hk n listed s s1 hcl (fun j oj hj hne hun hno => hst.free k j _ oj (after j oj hj hne hun) hk hj hno) (fun j oj hj hne hun => hst.comm k j _ oj (after j oj hj hne hun) hk hj) hr' hs ?_
    refine AllS_lex hst n (k + 1) _ _ (hcl.put hr') (by simpa using hsize) (fun j hj => ?_) (by omega) h
    by_cases hjk : j = k
    · subst hjk
      rw [Array.getElem?_setIfInBounds_self_of_lt (by omega)]
      simp
    · rw [Array.getElem?_setIfInBounds_ne (Ne.symm hjk), hlow j hj]
      simp only [Option.some.injEq, decide_eq_decide]
      omega

end
end
end Go.RX

namespace Go.RX
noncomputable section
open Go.RowKit (Below)

variable [Env]

section
variable {P : Program} {F : Fence} {dl : List Deferred} {w0 w : World} {ρ : Ren} {H : SHeap} {t : List SVal} {a : Act} {o : Oper}

def countL : List Kd → Nat
  | [] => 0
  | .l :: ks => countL ks + 1
  | _ :: ks => countL ks

def zeroObj (P : Program) (o : Oper) : Option SObj :=
  match o.op with
  | .alloc e => match pureRun P (zeroValue e) with
    | some z => some (.cells (z.cells.toList.map .v) e (0, 0))
    | none => none
  | _ => none

def zeros (P : Program) : List Oper → List Kd → Option SHeap
  | o :: os, .l :: ks => match zeroObj P o, zeros P os ks with
    | some x, some xs => some (x :: xs)
    | _, _ => none
  | _ :: os, _ :: ks => zeros P os ks
  | _, _ => some []

 omit [Env] in
theorem zeros_at : ∀ {os : List Oper} {ks : List Kd} {zs : SHeap}, zeros P os ks = some zs → ∀ i o, os[i]? = some o → ks[i]? = some .l → ∃ x, zeroObj P o = some x ∧ zs[countL (ks.take i)]? = some x
  | [], ks, zs, _, i, o, ho, _ => by simp at ho
  | o' :: os, [], zs, _, i, o, _, hk => by simp at hk
  | o' :: os, k :: ks, zs, h, i, o, ho, hk => by
    cases i with
    | zero =>
      simp at ho hk
      subst ho hk
      simp only [zeros] at h
      split at h
      · rename_i x xs h1 h2
        cases h
        exact ⟨x, h1, by simp [countL]⟩
      · cases h
    | succ i =>
      simp at ho hk
      cases k with
      | l =>
        simp only [zeros] at h
        split at h
        · rename_i x xs h1 h2
          cases h
          obtain ⟨y, hy, hz⟩ := zeros_at h2 i o ho hk
          exact ⟨y, hy, by simpa [countL] using hz⟩
        · cases h
      | _ =>
        simp only [zeros] at h
        obtain ⟨y, hy, hz⟩ := zeros_at h i o ho hk
        exact ⟨y, hy, by simpa [countL] using hz⟩

 omit [Env] in
theorem countL_append : ∀ (k l : List Kd), countL (k ++ l) = countL k + countL l
  | [], l => by simp [countL]
  | .p :: k, l => by simp only [List.cons_append, countL]; exact countL_append k l
  | .a :: k, l => by simp only [List.cons_append, countL]; exact countL_append k l
  | .b :: k, l => by simp only [List.cons_append, countL]; exact countL_append k l
  | .l :: k, l => by simp only [List.cons_append, countL, countL_append k l]; omega

 omit [Env] in
theorem countL_take (ks : List Kd) (n : Nat) : countL (ks.take n) ≤ countL ks := by
  conv => rhs; rw [← List.take_append_drop n ks]
  rw [countL_append]
  omega

 omit [Env] in
theorem countL_lt {ks : List Kd} {i j : Nat} (hi : ks[i]? = some .l) (hij : i < j) : countL (ks.take i) < countL (ks.take j) := by
  have h1 : countL (ks.take (i + 1)) = countL (ks.take i) + 1 := by
    rw [List.take_add_one, hi]
    simp [countL_append, countL]
  have h2 : countL ((ks.take j).take (i + 1)) ≤ countL (ks.take j) := countL_take _ _
  rw [List.take_take, Nat.min_eq_left (by omega)] at h2
  omega

 omit [Env] in
theorem countL_inj {ks : List Kd} {i j : Nat} (hi : ks[i]? = some .l) (hj : ks[j]? = some .l) (h : countL (ks.take i) = countL (ks.take j)) : i = j := by
  rcases Nat.lt_trichotomy i j with h' | h' | h'
  · have := countL_lt hi h'; omega
  · exact h'
  · have := countL_lt hj h'; omega

def nmOf (n0 : Nat) (ks : List Kd) (i : Nat) : Nat := n0 + countL (ks.take i)

/-- What has not been laid yet has no block; its cells stand ready. -/
def Pend (P : Program) (ops : Array Oper) (ks : List Kd) (n0 : Nat) (listed : Array Bool) (ρ : Ren) (H : SHeap) : Prop :=
  ∀ i o, ops[i]? = some o → ks[i]? = some .l → listed.getD i true = false → ρ (nmOf n0 ks i) = none ∧ ∃ l e fz, zeroObj P o = some (.cells l e fz) ∧ H[nmOf n0 ks i]? = some (.cells l e fz)

 omit [Env] in
theorem getD_set_self_ne {listed : Array Bool} {i : Nat} : (listed.setIfInBounds i true).getD i true = true := by
  rcases Nat.lt_or_ge i listed.size with h' | h'
  · simp [h']
  · simp [h']

theorem stepR_of_bStep {G : Glob} {cf : CallF} {x : SVal} {H' : SHeap} (he : bStep P G cf t H o = some (x, H')) : stepR P G cf t H o = some (putS t o.dst x, H') := by
  unfold bStep at he
  unfold stepR
  cases hz : opE P G t H o with
  | none => simp [hz] at he
  | some r =>
    cases r with
    | val z K => simp only [hz, Option.some.injEq, Prod.mk.injEq] at he ⊢; simp [he.1, he.2]
    | skip K => simp only [hz, Option.some.injEq, Prod.mk.injEq] at he ⊢; simp [he.1, he.2]
    | call f args => simp only [hz] at he ⊢; simp [he]
    | yld i args => simp only [hz] at he ⊢; simp [he]

theorem AllS_ok {G : Glob} {cf : CallF} (hF : Wd F) (hcf : CallOk P G cf) (hG : G.holds w0) (hN : NamesOk P) {ops : Array Oper} {ks : List Kd} {ρ0 : Ren} {H0 : SHeap} {R : St} {Q : Exit → Act → World → Prop}
    (hQ : ∀ ρ' a' w', H0.length ≤ R.2.length → Ext ρ0 H0 ρ' R.2 → Acts dl w0 ρ' R.1 R.2 a' w' → Q .normal a' w') :
    ∀ (n : Nat) (listed : Array Bool) (s : St), AllS P G cf ops ks (nmOf H0.length ks) R n listed s →
      ∀ (ρ : Ren) (a : Act) (w : World), Acts dl w0 ρ s.1 s.2 a w → Pend P ops ks H0.length listed ρ s.2 → H0.length ≤ s.2.length → Ext ρ0 H0 ρ s.2 → wpAnyIn F 0 P .any ops Q n listed a w := by
  intro n
  induction n with
  | zero =>
    intro listed s h ρ a w hA _ hlen hE
    obtain ⟨h1, rfl⟩ := h
    exact ⟨h1, hQ ρ a w hlen hE hA⟩
  | succ n ih =>
    intro listed s h ρ a w hA hP hlen hE
    refine ⟨fun h0 => ?_, fun i hi => ?_⟩
    · obtain rfl := h.1 h0
      exact hQ ρ a w hlen hE hA
    obtain ⟨s', hs, hrest⟩ := h.2 i hi
    have hiun := (mem_ready.1 hi).1
    unfold dstep at hs
    split at hs
    · cases hs
    rename_i o ho
    split at hs
    case h_2 => cases hs
    rename_i x H' he
    cases hs
    -- the pending ones stay, where no name and no heap turns
    have hpend : Pend P ops ks H0.length (listed.setIfInBounds i true) ρ s.2 := fun j oj hj hk hun => by
      have hji : j ≠ i := fun e => by subst e; rw [getD_set_self_ne] at hun; cases hun
      rw [getD_set_ne true (Ne.symm hji)] at hun
      exact hP j oj hj hk hun
    have same : ∀ (v : Value) (w' : World), den ρ x = some v → Rel w0 ρ s.2 w' → H' = s.2 → wpAnyIn F 0 P .any ops Q n (listed.setIfInBounds i true) (a.put o.dst v) w' := by
      intro v w' hd hR hH
      subst hH
      exact ih _ _ hrest ρ _ w' (hA.put (Ren.le.refl _) hR o.dst hd) hpend hlen hE
    unfold wpOpIn
    simp only [ho]
    unfold eff at he
    rw [wanted_eq hA.tmps] at he
    split at he
    case isFalse hw =>
      cases he
      rw [if_neg hw]
      exact ⟨fun f _ => hF.fn f, same undef w (by simp [den]) hA.rel rfl⟩
    case isTrue hw =>
      rw [if_pos hw]
      split at he
      · -- p
        split at he
        case h_2 => cases he
        rename_i y hy
        cases he
        unfold pStep at hy
        unfold Oper.wpIn
        refine ⟨fun f _ => hF.fn f, ?_⟩
        split at hy
        · rename_i z hz
          cases hy
          obtain ⟨v, h1, h2⟩ := opP_ok (w := w) hN hA.tmps hz
          rw [hF.sem (opP_nd hz), h1, Oper.uponIn_value]
          exact same v w h2 hA.rel rfl
        · rename_i hz
          cases hy
          have h1 := opP_ok (w := w) hN hA.tmps hz
          rw [hF.sem (opP_nd hz), show (execOp a.eval o).run P w = .ok .skip w from h1, Oper.uponIn_skip]
          exact same undef w (by simp [den]) hA.rel rfl
        · rename_i f args hz
          split at hy
          case h_2 => cases hy
          rename_i z hfr
          cases hy
          obtain ⟨vs, h1, h2⟩ := opP_ok (w := w) hN hA.tmps hz
          rw [hF.sem (opP_nd hz), h1, Oper.uponIn_enter]
          refine ⟨hF.depth, (hF.calls (freshR_ok hcf hfr hG hA.rel h2)).mono ?_⟩
          rintro e w' ⟨ρc, v, rfl, h3, h4⟩
          refine same v w' (den_mono (ρ := ρc) (fun i b hb => ?_) _ h3) (hA.rel.later h4.below) rfl
          obtain ⟨_, _, h5, _⟩ := h4.obj i b hb
          simp at h5
        · cases hy
        · cases hy
      · -- l
        rename_i hkd
        cases he
        have hks : ks[i]? = some .l := by
          rw [List.getD_eq_getElem?_getD] at hkd
          cases hh : ks[i]? with
          | none => rw [hh] at hkd; cases hkd
          | some k => rw [hh] at hkd; exact congrArg some hkd
        obtain ⟨hnone, zl, ze, zfz, hz, hHz⟩ := hP i o ho hks hiun
        unfold zeroObj at hz
        split at hz
        case h_2 => cases hz
        rename_i e hop
        split at hz
        case h_2 => cases hz
        rename_i zv hzv
        simp only [Option.some.injEq, SObj.cells.injEq] at hz
        obtain ⟨hz1, hz2, hz3⟩ := hz
        subst hz1
        subst hz2
        subst hz3
        unfold Oper.wpIn
        refine ⟨fun f _ => hF.fn f, ?_⟩
        rw [hF.sem (fun c e => by rw [hop] at e; cases e)]
        have hrun : (execOp a.eval o).run P w = .ok (.value (.pointer (some ⟨w.heap.size, 0, none⟩))) { w with heap := w.heap.push (.cells zv.cells e (0, 0)) } := by
          unfold execOp
          simp only [hop]
          show ((do pure (Next.value (← Instr.alloc e true (.tuple #[]))) : Sem Next)).run P w = _
          refine run_bind_ok (a := Value.pointer (some ⟨w.heap.size, 0, none⟩)) ?_
          unfold Instr.alloc
          rw [run_bind_pure hzv]
          rfl
        rw [hrun, Oper.uponIn_value]
        have hext : ρ.le (ρ.with (nmOf H0.length ks i) ⟨w.heap.size, 0⟩) := fun j b hb => by
          unfold Ren.with
          split
          · rename_i hj; subst hj; rw [hnone] at hb; cases hb
          · exact hb
        have hR : Rel w0 (ρ.with (nmOf H0.length ks i) ⟨w.heap.size, 0⟩) s.2 { w with heap := w.heap.push (.cells zv.cells e (0, 0)) } := by
          have hb0 := hA.rel.below
          refine ⟨hb0.trans ⟨rfl, rfl, rfl, by simp, fun k hk => ?_⟩, ?_, ?_, ?_⟩
          · show (w.heap.push _)[k]? = _
            rw [Array.getElem?_push, if_neg (by have := hb0.size; omega)]
          · intro j b hb
            unfold Ren.with at hb
            simp only [Array.size_push]
            split at hb
            · simp at hb; subst hb; exact ⟨hb0.size, by simp⟩
            · obtain ⟨h1, h2⟩ := hA.rel.fresh j b hb; exact ⟨h1, by omega⟩
          · intro j k p q hj hk hb
            unfold Ren.with at hj hk
            split at hj <;> split at hk
            · exact .inl (by omega)
            · simp at hj; subst hj; have := (hA.rel.fresh _ _ hk).2; simp at hb; omega
            · simp at hk; subst hk; have := (hA.rel.fresh _ _ hj).2; simp at hb; omega
            · exact hA.rel.inj _ _ _ _ hj hk hb
          · intro j b hb
            by_cases hj : j = nmOf H0.length ks i
            · subst hj
              simp only [Ren.with, if_true, Option.some.injEq] at hb
              subst hb
              exact ⟨_, .cells zv.cells e (0, 0), hHz, by simp, ⟨zv.cells.toList, denL_map_v _, by simp⟩⟩
            · have hb' : ρ j = some b := by simpa [Ren.with, hj] using hb
              obtain ⟨o', ob', h1, h2, h3⟩ := hA.rel.obj j b hb'
              have hlt := (hA.rel.fresh j b hb').2
              refine ⟨o', ob', h1, ?_, h3.mono hext⟩
              show (w.heap.push _)[b.b]? = _
              rw [Array.getElem?_push, if_neg (by omega)]
              exact h2
        refine ih _ _ hrest (ρ.with (nmOf H0.length ks i) ⟨w.heap.size, 0⟩) _ _ (hA.put hext hR o.dst (by simp [den, Ren.with])) ?_ hlen ?_
        · intro j oj hj hk hun
          obtain ⟨h1, h2⟩ := hpend j oj hj hk hun
          have hji : j ≠ i := fun e => by subst e; rw [getD_set_self_ne] at hun; cases hun
          refine ⟨?_, h2⟩
          unfold Ren.with
          rw [if_neg (fun e => hji (countL_inj hk hks (by unfold nmOf at e; omega)))]
          exact h1
        · intro j hj
          obtain ⟨h1, h2⟩ := hE j hj
          refine ⟨?_, h2⟩
          unfold Ren.with
          rw [if_neg (by unfold nmOf; omega)]
          exact h1
      · -- a
        split at he
        case h_2 => cases he
        rename_i y hy
        cases he
        unfold aStep at hy
        split at hy
        case h_2 => cases hy
        rename_i ty p hop
        obtain ⟨ρ', v, w', h1, h2, h3, h4⟩ := load_ok hG hA.rel (den_seval hA.tmps p) hy
        obtain ⟨ad, u, hpv, h5, h6⟩ := loadVar_ok hG hA.rel (den_seval hA.tmps p) hy
        unfold Oper.wpIn
        refine ⟨fun f _ => hF.fn f, ?_⟩
        rw [hF.sem (fun c e => by rw [hop] at e; cases e)]
        have hrun : (execOp a.eval o).run P w = .ok (.value u) w := by
          unfold execOp
          simp only [hop]
          show ((do pure (Next.value (← Instr.loadAt ty (a.eval p))) : Sem Next)).run P w = _
          refine run_bind_ok (a := u) ?_
          rw [hpv]
          exact h5
        rw [hrun, Oper.uponIn_value]
        exact same u w h6 hA.rel rfl
      · -- b
        have hs' := stepR_of_bStep he
        have hl := stepR_len hcf hs'
        refine stepR_ok hF hcf hG hN hs' hA fun ρ' a' w' hx hA' => ih _ _ hrest ρ' a' w' hA' ?_ (Nat.le_trans hlen hl) (hE.trans hx hlen)
        intro j oj hj hk hun
        obtain ⟨h1, zl, ze, zfz, h2, h3⟩ := hpend j oj hj hk hun
        have hlt : nmOf H0.length ks j < s.2.length := (List.getElem?_eq_some_iff.1 h3).1
        obtain ⟨e1, e2⟩ := hx _ hlt
        exact ⟨by rw [e1]; exact h1, zl, ze, zfz, h2, e2 h1 _ _ _ h3⟩

/-- A region that draws its order. -/
def drawRun (P : Program) (G : Glob) (cf : CallF) (ops : Array Oper) (t : List SVal) (H : SHeap) : Option St :=
  if drawOk ops then
    match zeros P ops.toList (kds ops) with
    | some zs => lexRun P G cf ops (kds ops) (nmOf H.length (kds ops)) ops.size 0 (t, H ++ zs)
    | none => none
  else none

theorem lexRun_len {G : Glob} {cf : CallF} (hcf : CallOk P G cf) {ops : Array Oper} {ks : List Kd} {nm : Nat → Nat} : ∀ (n k : Nat) (s s' : St), lexRun P G cf ops ks nm n k s = some s' → s.2.length ≤ s'.2.length
  | 0, k, s, s', h => by cases h; exact Nat.le_refl _
  | n + 1, k, s, s', h => by
    simp only [lexRun] at h
    split at h
    case h_2 => cases h
    rename_i s1 hs
    refine Nat.le_trans ?_ (lexRun_len hcf n (k + 1) s1 s' h)
    unfold dstep at hs
    split at hs
    · cases hs
    rename_i o ho
    split at hs
    case h_2 => cases hs
    rename_i x H' he
    cases hs
    simp only
    unfold eff at he
    split at he
    · split at he
      · split at he <;> cases he; exact Nat.le_refl _
      · cases he; exact Nat.le_refl _
      · split at he <;> cases he; exact Nat.le_refl _
      · exact stepR_len hcf (stepR_of_bStep he)
    · cases he; exact Nat.le_refl _

theorem drawRun_ok {G : Glob} {cf : CallF} (hF : Wd F) (hcf : CallOk P G cf) (hN : NamesOk P) (hm : P.follows .mixedOrders = true) {ops : Array Oper} {t' : List SVal} {H' : SHeap} (h : drawRun P G cf ops t H = some (t', H')) :
    H.length ≤ H'.length ∧ ∀ {w0 : World} {ρ : Ren} {a : Act} {w : World}, G.holds w0 → Acts dl w0 ρ t H a w → ∀ {Q : Exit → Act → World → Prop} (id : Nat), (∀ ρ' a' w', Ext ρ H ρ' H' → Acts dl w0 ρ' t' H' a' w' → Q .normal a' w') →
      (Code.region id ops true).wpIn F 0 P Q a w := by
  unfold drawRun at h
  split at h
  case isFalse => cases h
  rename_i hok
  split at h
  case h_2 => cases h
  rename_i zs hzs
  have hlen := lexRun_len hcf _ _ _ _ h
  refine ⟨by simp only [List.length_append] at hlen; omega, fun {w0 ρ a w} hG hA Q id hQ => ?_⟩
  refine wpIn_region_any hm ?_
  have hB : Below w.heap.size w { w with drawn := w.drawn + 1 } := ⟨rfl, rfl, rfl, Nat.le_refl _, fun _ _ => rfl⟩
  have hR0 := hA.rel.later hB
  have hall := AllS_lex (drawOk_static hok) ops.size 0 (Array.replicate ops.size false) (t, H ++ zs) (fun j o ho hj => by
    rw [Array.getD_eq_getD_getElem?] at hj
    rcases Nat.lt_or_ge j ops.size with h' | h'
    · simp [h'] at hj
    · simp [Nat.not_lt.2 h'] at hj) (by simp) (fun j hj => by simp [hj]) (by omega) h
  refine AllS_ok (ρ0 := ρ) (H0 := H) (R := (t', H')) hF hcf hG hN (fun ρ' a' w' _ hE hA' => hQ ρ' a' w' hE hA') ops.size (Array.replicate ops.size false) (t, H ++ zs) hall ρ a _ ⟨hA.tmps, hA.defers, ?_⟩ ?_ (by simp) ?_
  · refine ⟨hR0.below, hR0.fresh, fun i j p q hi hj hb => (hR0.inj i j p q hi hj hb).append, fun i b hb => ?_⟩
    obtain ⟨o, ob, h1, h2, h3⟩ := hR0.obj i b hb
    exact ⟨o, ob, by rw [List.getElem?_append_left (List.getElem?_eq_some_iff.1 h1).1]; exact h1, h2, h3⟩
  · intro i o ho hk _
    refine ⟨hA.rel.none_at (by unfold nmOf; omega), ?_⟩
    obtain ⟨x, h1, h2⟩ := zeros_at hzs i o (by simpa using ho) hk
    have hx : ∃ l e fz, x = .cells l e fz := by
      unfold zeroObj at h1
      split at h1
      · split at h1
        · cases h1; exact ⟨_, _, _, rfl⟩
        · cases h1
      · cases h1
    obtain ⟨l, e, fz, rfl⟩ := hx
    refine ⟨l, e, fz, h1, ?_⟩
    unfold nmOf
    rw [List.getElem?_append_right (by omega)]
    simpa using h2
  · intro i hi
    exact ⟨rfl, fun _ l e fz hh => by rw [List.getElem?_append_left hi]; exact hh⟩

end
end
end Go.RX

namespace Go.RX
noncomputable section
open Go.RowKit (Below)

variable [Env]

section
variable {P : Program} {F : Fence} {dl : List Deferred} {w0 w : World} {ρ : Ren} {H : SHeap} {t : List SVal} {a : Act} {o : Oper}

 omit [Env] in
theorem stepR_scope {b : Frame} {k : List Item} {cs : List Frame} {c : Code} : step P (lone (b.atR a (.code (.scope c) :: k)) cs w) = .next (lone (b.atR a (.code c :: .inScope c :: k)) cs w) :=
  step_lone_go (by simp [stepG, stepG.exec, Frame.atR])
 omit [Env] in
theorem stepR_inScope {b : Frame} {k : List Item} {cs : List Frame} {c : Code} : step P (lone (b.atR a (.inScope c :: k)) cs w) = .next (lone (b.atR a k) cs w) :=
  step_lone_go (by simp [stepG, stepG.exec, Frame.atR])

 omit [Env] in
theorem wpIn_scope_straight {n : Nat} {c : Code} {Q : Exit → Act → World → Prop} (h : c.wpIn F n P (Exit.noGoto Q) a w) : (Code.scope c).wpIn F n P Q a w := by
  intro b k cs hro hb hr
  have h0 : (lone (b.atR a (.code (.scope c) :: k)) cs w).fenced P F := fenced_calm hb hr rfl
  obtain ⟨e, a₁, w₁, hq, harr⟩ := h b (.inScope c :: k) cs hro hb hr
  cases e with
  | normal => exact ⟨.normal, a₁, w₁, hq, .head h0 stepR_scope (StepsIn.trans harr (.one (fenced_calm hb hr rfl) stepR_inScope))⟩
  | exit id =>
    have hx : exitTo id (.inScope c :: k) = exitTo id k := by simp [exitTo]
    exact ⟨.exit id, a₁, w₁, hq, fun k' hk => .head h0 stepR_scope (harr.1 k' (by rw [hx]; exact hk)),
      fun hr' hk => let ⟨k₁, h1, h2⟩ := harr.2 hr' (by rw [hx]; exact hk); ⟨k₁, h1, .head h0 stepR_scope h2⟩⟩
  | goto l => exact hq.elim
  | ret => exact ⟨_, a₁, w₁, hq, .of_steps (.one h0 stepR_scope) harr⟩
  | panic ch => exact ⟨_, a₁, w₁, hq, .of_steps (.one h0 stepR_scope) harr⟩
  | outgrown => exact ⟨_, a₁, w₁, hq, .of_steps (.one h0 stepR_scope) harr⟩

inductive SEx where
  | normal
  | exit (id : Nat)
  | ret

def SEx.den : SEx → Exit
  | .normal => .normal
  | .exit id => .exit id
  | .ret => .ret

/-- The temporaries and the heap; the marks among the deferred calls, by name. -/
abbrev Sx := St × List Nat

def iterate (f : Sx → Option (SEx × Sx)) : Nat → Sx → Option (SEx × Sx)
  | 0, _ => none
  | n + 1, s => match f s with
    | none => none
    | some (.normal, s') => iterate f n s'
    | some (.exit id, s') => some (.exit id, s')
    | some (.ret, s') => some (.ret, s')

/-- The marks' block: (the heap, the marks, the block's name). -/
def markR (r : Option Nat) (H : SHeap) (D : List Nat) : Option (SHeap × List Nat × Nat) :=
  match r with
  | none => some (H ++ [.marks], H.length :: D, H.length)
  | some i => match H[i]? with
    | some (.loop _ _ _ _ _ _ dj) => some (H, D, dj)
    | _ => none

def notBusy : LoopState → Bool
  | .busy => false
  | _ => true

def jumpEx : Option Code → Option SEx
  | none => some .normal
  | some .ret => some .ret
  | some (.exit id) => some (.exit id)
  | _ => none

/-- A range over a function. -/
def rangeR (P : Program) (cf : CallF) (r : Option Nat) (g : Operand) (ps : Array Tmp) (assign body : Code) (s : Sx) : Option (SEx × Sx) :=
  match markR r s.1.2 s.2 with
  | none => none
  | some (H1, D', dj) => match calleeOf (seval s.1.1 g) with
    | none => none
    | some (f, fs, cs) => match P.funcs[f]? with
      | none => none
      | some fn => if fn.body.isSome then
          match cf (.fn f) (fs ++ [.yield H1.length] ++ cs) (H1 ++ [.loop .ready none s.1.1 ps assign body dj]) with
          | none => none
          | some (_, H3) => match H3[H1.length]? with
            | some (.loop st pend t' ps' as' bd' dj') => if notBusy st then
                match jumpEx pend with
                | some e => some (e, (s.1.1, H3.set H1.length (.loop .exhausted pend t' ps' as' bd' dj')), D')
                | none => none
              else none
            | _ => none
        else none

def runCode (P : Program) (G : Glob) (cf : CallF) (fuel : Nat) (r : Option Nat) : Code → Sx → Option (SEx × Sx)
  | .skip, s => some (.normal, s)
  | .label _, s => some (.normal, s)
  | .region _ ops true, s => match drawRun P G cf ops s.1.1 s.1.2 with
    | some s' => some (.normal, s', s.2)
    | none => none
  | .region _ ops false, s => match runList P G cf ops ops.toList s.1.1 s.1.2 with
    | some s' => some (.normal, s', s.2)
    | none => none
  | .seq x y, s => match runCode P G cf fuel r x s with
    | none => none
    | some (.normal, s') => runCode P G cf fuel r y s'
    | some (.exit id, s') => some (.exit id, s')
    | some (.ret, s') => some (.ret, s')
  | .cond c x y, s => match boolOf (seval s.1.1 c) with
    | some true => runCode P G cf fuel r x s
    | some false => runCode P G cf fuel r y s
    | none => none
  | .block id c, s => match runCode P G cf fuel r c s with
    | none => none
    | some (.normal, s') => some (.normal, s')
    | some (.exit id', s') => if id' = id then some (.normal, s') else some (.exit id', s')
    | some (.ret, s') => some (.ret, s')
  | .loop c, s => iterate (runCode P G cf fuel r c) fuel s
  | .rangeFunc g ps assign body, s => rangeR P cf r g ps assign body s
  | .exit id, s => some (.exit id, s)
  | .scope c, s => runCode P G cf fuel r c s
  | .ret, s => some (.ret, s)
  | _, _ => none

/-- The fence of a frame: that of a round, or none. -/
def FrOk (ρ : Ren) (r : Option Nat) (F : Fence) : Prop :=
  match r with
  | none => F = Fence.wide
  | some i => ∃ p, ρ i = some p ∧ F = Fence.wide.inRound p.b

 omit [Env] in
theorem FrOk.wd {r : Option Nat} (h : FrOk ρ r F) : Wd F := by
  cases r with
  | none => exact .inl h
  | some i => obtain ⟨p, _, h⟩ := h; exact .inr ⟨p.b, h⟩

 omit [Env] in
theorem FrOk.mono {ρ' : Ren} {r : Option Nat} (hle : ρ.le ρ') (h : FrOk ρ r F) : FrOk ρ' r F := by
  cases r with
  | none => exact h
  | some i => obtain ⟨p, h1, h⟩ := h; exact ⟨p, hle _ _ h1, h⟩

/-- The marks. -/
def Mk (ρ : Ren) : List Nat → List Deferred → Prop
  | [], dl => dl = []
  | i :: D, dl => ∃ (p : Loc) (dl' : List Deferred), ρ i = some p ∧ dl = { target := .collected p.b, args := #[] } :: dl' ∧ Mk ρ D dl'

 omit [Env] in
theorem Mk.mono {ρ' : Ren} (hle : ρ.le ρ') : ∀ {D : List Nat} {dl : List Deferred}, Mk ρ D dl → Mk ρ' D dl
  | [], _, h => h
  | _ :: _, _, ⟨p, dl', h1, h2, h3⟩ => ⟨p, dl', hle _ _ h1, h2, h3.mono hle⟩

/-- What the run of a piece of code means. -/
def CodeOk (P : Program) (G : Glob) (r : Option Nat) (c : Code) (s : Sx) (e : SEx) (s' : Sx) : Prop :=
  s.1.2.length ≤ s'.1.2.length ∧ ∀ {F : Fence} {dl : List Deferred} {w0 : World} {ρ : Ren} {a : Act} {w : World}, FrOk ρ r F → Mk ρ s.2 dl → G.holds w0 → Acts dl w0 ρ s.1.1 s.1.2 a w → ∀ {Q : Exit → Act → World → Prop},
    (∀ ρ' dl' a' w', Ext ρ s.1.2 ρ' s'.1.2 → Mk ρ' s'.2 dl' → Acts dl' w0 ρ' s'.1.1 s'.1.2 a' w' → Q e.den a' w') → c.wpIn F 0 P Q a w

theorem rounds_ok {G : Glob} {f : Sx → Option (SEx × Sx)} {r : Option Nat} {c : Code} (hc : ∀ s e s', f s = some (e, s') → CodeOk P G r c s e s') :
    ∀ (n : Nat) (s : Sx) (e : SEx) (s' : Sx), iterate f n s = some (e, s') →
      s.1.2.length ≤ s'.1.2.length ∧ ∀ {F : Fence} {dl : List Deferred} {w0 : World} {ρ : Ren} {a : Act} {w : World}, FrOk ρ r F → Mk ρ s.2 dl → G.holds w0 → Acts dl w0 ρ s.1.1 s.1.2 a w → ∀ {Q : Exit → Act → World → Prop},
        (∀ ρ' dl' a' w', Ext ρ s.1.2 ρ' s'.1.2 → Mk ρ' s'.2 dl' → Acts dl' w0 ρ' s'.1.1 s'.1.2 a' w' → Q e.den a' w') → Code.roundsIn F 0 P c Q n a w
  | 0, s, e, s', h => by cases h
  | n + 1, s, e, s', h => by
    simp only [iterate] at h
    split at h
    · cases h
    · rename_i s1 h1
      obtain ⟨l1, k1⟩ := hc _ _ _ h1
      obtain ⟨l2, k2⟩ := rounds_ok hc n s1 e s' h
      refine ⟨Nat.le_trans l1 l2, fun {F dl w0 ρ a w} hF hM hG hA Q hQ => ?_⟩
      rw [roundsIn_succ]
      exact k1 hF hM hG hA fun ρ1 d1 a1 w1 x1 hM1 hA1 => k2 (hF.mono (x1.le hA.rel)) hM1 hG hA1 fun ρ2 d2 a2 w2 x2 hM2 hA2 => hQ _ _ _ _ (x1.trans x2 l1) hM2 hA2
    · rename_i id s1 h1
      cases h
      obtain ⟨l1, k1⟩ := hc _ _ _ h1
      refine ⟨l1, fun {F dl w0 ρ a w} hF hM hG hA Q hQ => ?_⟩
      rw [roundsIn_succ]
      exact k1 hF hM hG hA hQ
    · rename_i s1 h1
      cases h
      obtain ⟨l1, k1⟩ := hc _ _ _ h1
      refine ⟨l1, fun {F dl w0 ρ a w} hF hM hG hA Q hQ => ?_⟩
      rw [roundsIn_succ]
      exact k1 hF hM hG hA hQ

theorem runList_len {G : Glob} {cf : CallF} (hcf : CallOk P G cf) {ops : Array Oper} : ∀ (l : List Oper) {t : List SVal} {H : SHeap} {s' : St}, runList P G cf ops l t H = some s' → H.length ≤ s'.2.length
  | [], t, H, s', h => by cases h; exact Nat.le_refl _
  | o :: rest, t, H, s', h => by
    simp only [runList] at h
    split at h
    · split at h
      case h_2 => cases h
      rename_i t1 H1 hs
      exact Nat.le_trans (stepR_len hcf hs) (runList_len hcf rest h)
    · exact runList_len hcf rest h

theorem boolOf_some {x : SVal} {v : Value} (hx : den ρ x = some v) {b : Bool} (h : boolOf x = some b) : v = .bool b := by
  rw [boolOf_eq hx] at h
  cases v <;> simp at h
  rw [h]

/-- The block of the marks, laid or found. -/
theorem markR_ok {r : Option Nat} {D D' : List Nat} {H1 : SHeap} {dj : Nat} (h : markR r H D = some (H1, D', dj)) (hF : FrOk ρ r F) (hM : Mk ρ D dl) (hR : Rel w0 ρ H w) :
    H.length ≤ H1.length ∧ ∃ (ρ1 : Ren) (w1 : World) (mark : List Deferred) (pd : Loc), Ext ρ H ρ1 H1 ∧ Rel w0 ρ1 H1 w1 ∧ ρ1 dj = some pd ∧ Mk ρ1 D' (mark ++ dl) ∧
      ∀ (fn : FuncId) (tmps : Array Value) (ps : Array Tmp) (assign body : Code), (Instr.enterLoop fn tmps ps assign body F.round).run P w =
        .ok (w1.heap.size, mark) (w1.alloc (.loop { state := .ready, pending := none, fn, tmps, params := ps, assign, body, defers := pd.b })) := by
  cases r with
  | none =>
    simp only [markR, Option.some.injEq, Prod.mk.injEq] at h
    obtain ⟨rfl, rfl, rfl⟩ := h
    obtain rfl : F = Fence.wide := hF
    have hle := Ren.le_with hR ⟨w.heap.size, 0⟩
    refine ⟨by simp, ρ.with H.length ⟨w.heap.size, 0⟩, w.alloc (.deferred (some [])), [{ target := .collected w.heap.size, args := #[] }], ⟨w.heap.size, 0⟩, Ext.push _ _ _ _,
      hR.push (o := .marks) (ob := .deferred (some [])) rfl, by simp [Ren.with], ⟨⟨w.heap.size, 0⟩, dl, by simp [Ren.with], rfl, hM.mono hle⟩, fun fn tmps ps assign body => ?_⟩
    rw [show Fence.wide.round = none from rfl, run_enterLoop_outer, World.size_alloc]
  | some i =>
    obtain ⟨p, hp, rfl⟩ := hF
    simp only [markR] at h
    split at h
    case h_2 => cases h
    rename_i st pend tm ps' as' bd' dj' hH
    cases h
    obtain ⟨o', ob, h1, h2, h3⟩ := hR.obj i p hp
    rw [hH] at h1
    cases h1
    obtain ⟨fn0, vs, pd, g1, g2, rfl⟩ := h3
    refine ⟨Nat.le_refl _, ρ, w, [], pd, Ext.refl _ _, hR, g2, hM, fun fn tmps ps assign body => ?_⟩
    rw [Fence.inRound_round]
    unfold Instr.enterLoop
    simp only [Sem.run_bind, run_getLoop h2, run_newObj_alloc, Result.andThen, Sem.run_pure]

theorem rangeR_ok {G : Glob} {cf : CallF} (hcf : CallOk P G cf) (hN : NamesOk P) {r : Option Nat} {g : Operand} {ps : Array Tmp} {assign body : Code} {s : Sx} {e : SEx} {s' : Sx}
    (h : rangeR P cf r g ps assign body s = some (e, s')) : CodeOk P G r (.rangeFunc g ps assign body) s e s' := by
  unfold rangeR at h
  split at h
  · cases h
  rename_i H1 D' dj hmark
  split at h
  · cases h
  rename_i f fs cs hcal
  split at h
  · cases h
  rename_i fn hfn
  split at h
  case isFalse => cases h
  rename_i hbody
  split at h
  · cases h
  rename_i x H3 hcall
  split at h
  case h_2 => cases h
  rename_i st pend t' ps' as' bd' dj' hH3
  split at h
  case isFalse => cases h
  rename_i hst
  split at h
  case h_2 => cases h
  rename_i e' hj
  cases h
  obtain ⟨l3, k3⟩ := hcf.fn _ _ _ _ _ hcall
  have lmark : s.1.2.length ≤ H1.length := by
    unfold markR at hmark
    split at hmark
    · cases hmark; simp
    · split at hmark
      · cases hmark; exact Nat.le_refl _
      · cases hmark
  have hlen3 : H1.length < H3.length := by simp at l3; omega
  refine ⟨by simp; omega, fun {F dl w0 ρ a w} hF hM hG hA Q hQ => ?_⟩
  obtain ⟨_, ρ1, w1, mark, pd, hx1, hR1, hpd, hM1, hent⟩ := markR_ok (P := P) hmark hF hM hA.rel
  refine wpIn_rangeFunc fun fn' _ => ?_
  obtain ⟨us, ws, hv, h1, h2⟩ := calleeOf_ok (den_seval hA.tmps g) hcal
  have hle1 := hx1.le hA.rel
  have hob : ObjRel ρ1 ⟨w1.heap.size, 0⟩ (.loop .ready none s.1.1 ps assign body dj) (.loop { state := .ready, pending := none, fn := fn', tmps := a.tmps, params := ps, assign, body, defers := pd.b }) :=
    ⟨fn', a.tmps.toList, pd, denL_mono hle1 _ hA.tmps, hpd, by simp⟩
  have hR2 := hR1.push hob
  generalize hwl : w1.alloc (.loop { state := .ready, pending := none, fn := fn', tmps := a.tmps, params := ps, assign, body, defers := pd.b }) = wl at *
  have hR2' : Rel w0 (ρ1.with H1.length ⟨w1.heap.size, 0⟩) (H1 ++ [.loop .ready none s.1.1 ps assign body dj]) wl := by rw [← hwl]; exact hR2
  have hle2 := Ren.le_with hR1 ⟨w1.heap.size, 0⟩
  have hx2 : Ext ρ1 H1 (ρ1.with H1.length ⟨w1.heap.size, 0⟩) (H1 ++ [.loop .ready none s.1.1 ps assign body dj]) := Ext.push _ _ _ _
  refine ⟨w1.heap.size, mark, wl, { target := .fn (.func f) ws, args := us ++ #[.func (.yield w1.heap.size) #[] #[]] }, wl, f, us ++ #[.func (.yield w1.heap.size) #[] #[]] ++ ws, wl, (hent fn' a.tmps ps assign body).trans (by rw [hwl]), ?_, fun f' _ => hF.wd.fn f', ?_, hF.wd.depth, ?_⟩
  · simp only [resolve, hv, Deferred.ofValue, List.map_toArray, List.map_cons, List.map_nil]
    rfl
  · simp only [invoke, callFunc]
    show (Sem.program .pure >>= _ : Sem Next).run P _ = _
    rw [run_bind_pure (a := P) rfl]
    simp only [hfn, hN.names f fn hfn hbody, Bool.false_eq_true, if_false]
    have hb : fn.body.isNone = false := by cases hh : fn.body <;> simp_all
    simp only [hb, Bool.false_eq_true, if_false]
    rfl
  · have hargs : denL (ρ1.with H1.length ⟨w1.heap.size, 0⟩) (fs ++ [.yield H1.length] ++ cs) = some (us ++ #[Value.func (.yield w1.heap.size) #[] #[]] ++ ws).toList := by
      simp only [Array.toList_append]
      refine denL_append (denL_mono (hle1.trans hle2) _ h2) (denL_append ?_ (denL_mono (hle1.trans hle2) _ h1))
      exact denL_cons.2 ⟨_, [], by simp [den, Ren.with], rfl, rfl⟩
    have hcalls := hF.wd.calls (n := 0 - 1) (k3 w0 _ wl _ hG hR2' hargs)
    refine CallsIn.mono hcalls ?_
    · rintro e w3 ⟨ρ3, v, rfl, hx3, _, hR3⟩
      have hli : ρ3 H1.length = some ⟨w1.heap.size, 0⟩ := by rw [(hx3 H1.length (by simp)).1]; simp [Ren.with]
      obtain ⟨o', ob, g1, g2, g3⟩ := hR3.obj _ _ hli
      rw [hH3] at g1
      cases g1
      obtain ⟨fn3, vs3, pd3, f1, f2, rfl⟩ := g3
      have hlt : w1.heap.size < w3.heap.size := (hR3.fresh _ _ hli).2
      have hx : Ext ρ s.1.2 ρ3 (H3.set H1.length (.loop .exhausted pend t' ps' as' bd' dj')) := ((hx1.trans hx2 lmark).trans hx3 (by simp; omega)).trans (Ext.set hli _) (by omega)
      have hle3 := hx3.le hR2'
      have hMf : Mk ρ3 D' (mark ++ dl) := hM1.mono (hle2.trans hle3)
      have hRf : Rel w0 ρ3 (H3.set H1.length (.loop .exhausted pend t' ps' as' bd' dj')) (w3.putObj w1.heap.size (.loop { state := .exhausted, pending := pend, fn := fn3, tmps := vs3.toArray, params := ps', assign := as', body := bd', defers := pd3.b })) :=
        hR3.setObj hli (hR3.own hli hH3 (fun _ _ _ _ e => by cases e) (fun e => by cases e)) ⟨fn3, vs3, pd3, f1, f2, rfl⟩ rfl rfl rfl (by simp) (fun k hk => World.putObj_heap_other hk) (World.putObj_heap_same hlt)
      refine ⟨pend, _, run_endLoop g2 (by cases st <;> simp [notBusy] at hst ⊢), ?_⟩
      have hAf : Acts (mark ++ dl) w0 ρ3 s.1.1 (H3.set H1.length (.loop .exhausted pend t' ps' as' bd' dj')) { a with defers := mark ++ a.defers } _ := ⟨denL_mono ((hle1.trans hle2).trans hle3) _ hA.tmps, by simp [hA.defers], hRf⟩
      have hq := hQ ρ3 _ _ _ hx hMf hAf
      unfold jumpEx at hj
      split at hj
      · cases hj; exact hq
      · cases hj; exact wpIn_ret hq
      · cases hj; exact wpIn_exit hq
      · cases hj

theorem runCode_ok {G : Glob} {cf : CallF} (hcf : CallOk P G cf) (hN : NamesOk P) (hm : P.follows .mixedOrders = true) {fuel : Nat} {r : Option Nat} : ∀ (c : Code) (s : Sx) (e : SEx) (s' : Sx), runCode P G cf fuel r c s = some (e, s') → CodeOk P G r c s e s' := by
  intro c
  induction c with
  | skip => intro s e s' h; cases h; exact ⟨Nat.le_refl _, fun hF hM hG hA Q hQ => wpIn_skip (hQ _ _ _ _ (Ext.refl _ _) hM hA)⟩
  | label l => intro s e s' h; cases h; exact ⟨Nat.le_refl _, fun hF hM hG hA Q hQ => wpIn_label (hQ _ _ _ _ (Ext.refl _ _) hM hA)⟩
  | region id ops draw =>
    intro s e s' h
    cases draw with
    | true =>
      simp only [runCode] at h
      split at h
      case h_2 => cases h
      rename_i s1 h1
      cases h
      refine ⟨?_, fun {F dl w0 ρ a w} hF hM hG hA Q hQ => ?_⟩
      · exact (drawRun_ok (F := Fence.wide) (dl := []) (.inl rfl) hcf hN hm h1).1
      · exact (drawRun_ok hF.wd hcf hN hm h1).2 hG hA id fun ρ' a' w' hx hA' => hQ _ _ _ _ hx (hM.mono (hx.le hA.rel)) hA'
    | false =>
      simp only [runCode] at h
      split at h
      case h_2 => cases h
      rename_i s1 h1
      cases h
      exact ⟨runList_len hcf _ h1, fun {F dl w0 ρ a w} hF hM hG hA Q hQ => wpIn_region_list ((runList_ok hF.wd hcf hG hN _ h1).2 hA fun ρ' a' w' hx hA' => hQ _ _ _ _ hx (hM.mono (hx.le hA.rel)) hA')⟩
  | seq x y ihx ihy =>
    intro s e s' h
    simp only [runCode] at h
    split at h
    · cases h
    · rename_i s1 h1
      obtain ⟨l1, k1⟩ := ihx _ _ _ h1
      obtain ⟨l2, k2⟩ := ihy _ _ _ h
      refine ⟨Nat.le_trans l1 l2, fun {F dl w0 ρ a w} hF hM hG hA Q hQ => wpIn_seq (k1 hF hM hG hA fun ρ1 d1 a1 w1 x1 hM1 hA1 => ?_)⟩
      exact k2 (hF.mono (x1.le hA.rel)) hM1 hG hA1 fun ρ2 d2 a2 w2 x2 hM2 hA2 => hQ _ _ _ _ (x1.trans x2 l1) hM2 hA2
    · rename_i id s1 h1
      cases h
      obtain ⟨l1, k1⟩ := ihx _ _ _ h1
      exact ⟨l1, fun hF hM hG hA Q hQ => wpIn_seq (k1 hF hM hG hA hQ)⟩
    · rename_i s1 h1
      cases h
      obtain ⟨l1, k1⟩ := ihx _ _ _ h1
      exact ⟨l1, fun hF hM hG hA Q hQ => wpIn_seq (k1 hF hM hG hA hQ)⟩
  | cond c x y ihx ihy =>
    intro s e s' h
    simp only [runCode] at h
    split at h
    · rename_i hb
      obtain ⟨l1, k1⟩ := ihx _ _ _ h
      refine ⟨l1, fun {F dl w0 ρ a w} hF hM hG hA Q hQ => ?_⟩
      exact wpIn_cond_true (boolOf_some (den_seval hA.tmps c) hb) (k1 hF hM hG hA hQ)
    · rename_i hb
      obtain ⟨l1, k1⟩ := ihy _ _ _ h
      refine ⟨l1, fun {F dl w0 ρ a w} hF hM hG hA Q hQ => ?_⟩
      exact wpIn_cond_false (boolOf_some (den_seval hA.tmps c) hb) (k1 hF hM hG hA hQ)
    · cases h
  | block id c ih =>
    intro s e s' h
    simp only [runCode] at h
    split at h
    · cases h
    · rename_i s1 h1
      cases h
      obtain ⟨l1, k1⟩ := ih _ _ _ h1
      exact ⟨l1, fun hF hM hG hA Q hQ => wpIn_block (k1 hF hM hG hA hQ)⟩
    · rename_i id' s1 h1
      obtain ⟨l1, k1⟩ := ih _ _ _ h1
      split at h
      · rename_i hid
        cases h
        exact ⟨l1, fun hF hM hG hA Q hQ => wpIn_block (k1 hF hM hG hA fun ρ' d' a' w' hx hM' hA' => by
          simp only [SEx.den, Exit.inBlock, hid, if_true]
          exact hQ _ _ _ _ hx hM' hA')⟩
      · rename_i hid
        cases h
        exact ⟨l1, fun hF hM hG hA Q hQ => wpIn_block (k1 hF hM hG hA fun ρ' d' a' w' hx hM' hA' => by
          simp only [SEx.den, Exit.inBlock, hid, if_false]
          exact hQ _ _ _ _ hx hM' hA')⟩
    · rename_i s1 h1
      cases h
      obtain ⟨l1, k1⟩ := ih _ _ _ h1
      exact ⟨l1, fun hF hM hG hA Q hQ => wpIn_block (k1 hF hM hG hA hQ)⟩
  | loop c ih =>
    intro s e s' h
    simp only [runCode] at h
    obtain ⟨l1, k1⟩ := rounds_ok ih fuel s e s' h
    exact ⟨l1, fun hF hM hG hA Q hQ => wpIn_loop_rounds fuel (k1 hF hM hG hA hQ)⟩
  | rangeFunc f ps as body ih1 ih2 => intro s e s' h; exact rangeR_ok hcf hN h
  | exit id => intro s e s' h; cases h; exact ⟨Nat.le_refl _, fun hF hM hG hA Q hQ => wpIn_exit (hQ _ _ _ _ (Ext.refl _ _) hM hA)⟩
  | scope c ih =>
    intro s e s' h
    simp only [runCode] at h
    obtain ⟨l1, k1⟩ := ih _ _ _ h
    refine ⟨l1, fun {F dl w0 ρ a w} hF hM hG hA Q hQ => wpIn_scope_straight (k1 hF hM hG hA fun ρ' d' a' w' hx hM' hA' => ?_)⟩
    have := hQ ρ' d' a' w' hx hM' hA'
    cases e <;> exact this
  | goto l => intro s e s' h; cases h
  | ret => intro s e s' h; cases h; exact ⟨Nat.le_refl _, fun hF hM hG hA Q hQ => wpIn_ret (hQ _ _ _ _ (Ext.refl _ _) hM hA)⟩
  | refuse why => intro s e s' h; cases h

/-! ### Calls -/
def resE (P : Program) (G : Glob) (t : List SVal) (H : SHeap) : List ResultVar → Option (List SVal)
  | [] => some []
  | .tmp k :: rs => match resE P G t H rs with
    | some xs => some (getS t k :: xs)
    | none => none
  | .cell k ty :: rs => match loadE P G H ty (getS t k) with
    | none => none
    | some x => match resE P G t H rs with
      | some xs => some (x :: xs)
      | none => none

def resV : List SVal → SVal
  | [x] => x
  | l => mkTuple l

 omit [Env] in
theorem run_mapM {α β : Type} {f : α → Sem β} : ∀ (l : List α) (ys : List β), ys.length = l.length → (∀ (i : Nat) (x : α) (y : β), l[i]? = some x → ys[i]? = some y → (f x).run P w = .ok y w) → (l.mapM f).run P w = .ok ys w
  | [], ys, hl, _ => by
    have : ys = [] := by simpa using hl
    subst this
    rfl
  | x :: xs, ys, hl, h => by
    cases ys with
    | nil => simp at hl
    | cons y ys =>
      rw [List.mapM_cons]
      rw [run_bind_ok (h 0 x y rfl rfl)]
      rw [run_bind_ok (run_mapM xs ys (by simpa using hl) (fun i x' y' hx hy => h (i + 1) x' y' (by simpa using hx) (by simpa using hy)))]
      rfl

theorem resE_ok {G : Glob} (hG : G.holds w0) (hA : Acts dl w0 ρ t H a w) : ∀ {rs : List ResultVar} {xs : List SVal}, resE P G t H rs = some xs →
    ∃ ys : List Value, denL ρ xs = some ys ∧ ys.length = rs.length ∧ ∀ (i : Nat) (r : ResultVar) (y : Value), rs[i]? = some r → ys[i]? = some y →
      ((match r with
        | .tmp t => pure (a.tmps.getD t undef)
        | .cell ad t => do loadVar t (← asAddr (a.tmps.getD ad undef)) : Sem Value)).run P w = .ok y w
  | [], xs, h => by cases h; exact ⟨[], rfl, rfl, fun i r y hr => by simp at hr⟩
  | .tmp k :: rs, xs, h => by
    simp only [resE] at h
    split at h
    case h_2 => cases h
    rename_i xs' hxs
    cases h
    obtain ⟨ys, h1, h2, h3⟩ := resE_ok hG hA hxs
    have hd := den_seval hA.tmps (.tmp k)
    refine ⟨a.tmps.getD k undef :: ys, denL_cons.2 ⟨_, _, hd, h1, rfl⟩, by simp [h2], fun i r y hr hy => ?_⟩
    cases i with
    | zero =>
      simp only [List.getElem?_cons_zero, Option.some.injEq] at hr hy
      subst hr hy
      rfl
    | succ i => exact h3 i r y (by simpa using hr) (by simpa using hy)
  | .cell k ty :: rs, xs, h => by
    simp only [resE] at h
    split at h
    · cases h
    rename_i x hx
    split at h
    case h_2 => cases h
    rename_i xs' hxs
    cases h
    obtain ⟨ys, h1, h2, h3⟩ := resE_ok hG hA hxs
    have hd := den_seval hA.tmps (.tmp k)
    obtain ⟨ad, u, e1, e2, e3⟩ := loadVar_ok hG hA.rel hd hx
    refine ⟨u :: ys, denL_cons.2 ⟨_, _, e3, h1, rfl⟩, by simp [h2], fun i r y hr hy => ?_⟩
    cases i with
    | zero =>
      simp at hr hy
      subst hr hy
      simp only
      have e1' : a.tmps.getD k undef = .pointer (some ad) := e1
      rw [e1']
      unfold asAddr
      rw [run_pure_bind]
      exact e2
    | succ i => exact h3 i r y (by simpa using hr) (by simpa using hy)

theorem results_ok {G : Glob} (hG : G.holds w0) (hA : Acts dl w0 ρ t H a w) {fn : Func} {xs : List SVal} (h : resE P G t H fn.results.toList = some xs) :
    ∃ v, (results fn a.tmps).run P w = .ok v w ∧ den ρ (resV xs) = some v := by
  obtain ⟨ys, h1, h2, h3⟩ := resE_ok (P := P) hG hA h
  have hrun := run_mapM (P := P) (w := w) fn.results.toList ys h2 h3
  have hl := denL_length h1
  refine ⟨if h : ys.toArray.size = 1 then ys.toArray[0] else .tuple ys.toArray, ?_, ?_⟩
  · unfold results
    rw [run_bind_ok (a := ys.toArray) (w' := w)]
    · rfl
    · rw [Array.mapM_eq_mapM_toList]
      rw [map_eq_pure_bind]
      exact run_bind_ok (k := fun a => pure a.toArray) hrun
  · match xs, ys, h1, hl with
    | [], ys, h1, hl =>
      have : ys = [] := by simpa using hl
      subst this
      rfl
    | [x], ys, h1, hl =>
      obtain ⟨y, zs, e1, e2, rfl⟩ := denL_cons.1 h1
      simp [denL] at e2
      subst e2
      simpa [resV] using e1
    | x :: x' :: xs, ys, h1, hl =>
      have : ¬ ys.toArray.size = 1 := by simp at hl ⊢; omega
      rw [dif_neg this]
      exact den_mkTuple h1

abbrev Orac := FuncId → List SVal → Option SVal

/-- What the given contracts say. -/
def Orac.holds (P : Program) (G : Glob) (O : Orac) : Prop := ∀ f xs y, O f xs = some y → ∀ ρ (vs : Array Value) w, G.holds w → denL ρ xs = some vs.toList →
  ∃ v, den ρ y = some v ∧ Calls P f vs w fun e w' => e = .returned v ∧ Below w.heap.size w w'

/-- The marks are taken: nothing was deferred. -/
def takeMarks : List Nat → SHeap → Option SHeap
  | [], H => some H
  | i :: D, H => match H[i]? with
    | some .marks => takeMarks D (H.set i .dead)
    | _ => none

def body (P : Program) (G : Glob) (cf : CallF) (fuel : Nat) (f : FuncId) (args : List SVal) (H : SHeap) : Option (SVal × SHeap) :=
  match P.funcs[f]? with
  | none => none
  | some fn => match fn.body with
    | none => none
    | some c => match runCode P G cf fuel none c ((args ++ List.replicate (fn.ntmps - args.length) (.v undef), H), []) with
      | none => none
      | some (.exit _, _) => none
      | some (_, s) => match takeMarks s.2 s.1.2 with
        | none => none
        | some H' => match resE P G s.1.1 H' fn.results.toList with
          | some xs => some (resV xs, H')
          | none => none

def jumpOf : SEx → Option Code
  | .normal => none
  | .ret => some .ret
  | .exit id => some (.exit id)

/-- One round of a range over a function. -/
def round (P : Program) (G : Glob) (cf : CallF) (fuel : Nat) (i : Nat) (args : List SVal) (H : SHeap) : Option (SVal × SHeap) :=
  match H[i]? with
  | some (.loop _ _ tm ps assign body _) => if args.length = ps.size then
      match runCode P G cf fuel (some i) assign (((ps.toList.zip args).foldl (fun l x => l.set x.1 x.2) tm, H), []) with
      | some (.normal, s1) => match s1.1.2[i]? with
        | some (.loop .ready pend1 tm1 ps1 as1 bd1 dj1) => match runCode P G cf fuel (some i) body ((s1.1.1, s1.1.2.set i (.loop .busy pend1 tm1 ps1 as1 bd1 dj1)), s1.2) with
          | some (e, s3) => match s3.1.2[i]? with
            | some (.loop _ _ tm3 ps3 as3 bd3 dj3) => some (.v (.bool (jumpOf e).isNone), s3.1.2.set i (.loop (if (jumpOf e).isNone then .ready else .done) (jumpOf e) tm3 ps3 as3 bd3 dj3))
            | _ => none
          | none => none
        | _ => none
      | _ => none
    else none
  | _ => none

def call (P : Program) (G : Glob) (O : Orac) (fuel : Nat) : Nat → CallF
  | 0, _, _, _ => none
  | n + 1, .fn f, args, H => match O f args with
    | some y => some (y, H)
    | none => body P G (call P G O fuel n) fuel f args H
  | n + 1, .yield i, args, H => round P G (call P G O fuel n) fuel i args H

 omit [Env] in
theorem takeMarks_len : ∀ {D : List Nat} {H H' : SHeap}, takeMarks D H = some H' → H'.length = H.length
  | [], H, H', h => by cases h; rfl
  | i :: D, H, H', h => by
    simp only [takeMarks] at h
    split at h
    · rw [takeMarks_len h]; simp
    · cases h

theorem takeMarks_ok {fn : Func} {tmps : Array Value} {R : Ending → World → Prop} : ∀ {D : List Nat} {H H' : SHeap} {dl : List Deferred} {w : World}, takeMarks D H = some H' → Mk ρ D dl → Rel w0 ρ H w →
    (∀ w', Ext ρ H ρ H' → Rel w0 ρ H' w' → ∃ v, (results fn tmps).run P w' = .ok v w' ∧ R (.returned v) w') → LeavesInM Fence.wide 0 P fn tmps R dl .returning w
  | [], H, H', dl, w, h, hM, hR, hgo => by
    cases h
    obtain rfl : dl = [] := hM
    exact hgo w (Ext.refl _ _) hR
  | i :: D, H, H', dl, w, h, hM, hR, hgo => by
    obtain ⟨p, dl', hp, rfl, hM'⟩ := hM
    simp only [takeMarks] at h
    split at h
    case h_2 => cases h
    rename_i hH
    obtain ⟨o', ob, g1, g2, g3⟩ := hR.obj i p hp
    rw [hH] at g1
    cases g1
    obtain rfl : ob = .deferred (some []) := g3
    have hlt : p.b < w.heap.size := (hR.fresh _ _ hp).2
    have hR' : Rel w0 ρ (H.set i .dead) (w.putObj p.b (.deferred none)) :=
      hR.setObj hp (hR.own hp hH (fun _ _ _ _ e => by cases e) (fun e => by cases e)) (o := .dead) trivial rfl rfl rfl (by simp) (fun k hk => World.putObj_heap_other hk) (World.putObj_heap_same hlt)
    refine ⟨by simp, .inl ⟨p.b, _, rfl, run_takeDeferred g2, ?_⟩⟩
    exact takeMarks_ok h hM' hR' fun w' hx hRw => hgo w' ((Ext.set hp _).trans hx (by simp)) hRw

theorem body_ok {G : Glob} {cf : CallF} (hcf : CallOk P G cf) (hN : NamesOk P) (hm : P.follows .mixedOrders = true) {fuel : Nat} {f : FuncId} {args : List SVal} {H : SHeap} {x : SVal} {H' : SHeap}
    (h : body P G cf fuel f args H = some (x, H')) : H.length ≤ H'.length ∧
    ∀ w0 ρ w (vs : Array Value), G.holds w0 → Rel w0 ρ H w → denL ρ args = some vs.toList → Calls P f vs w fun e w' => ∃ ρ' v, e = .returned v ∧ Ext ρ H ρ' H' ∧ den ρ' x = some v ∧ Rel w0 ρ' H' w' := by
  unfold body at h
  split at h
  · cases h
  rename_i fn hfn
  split at h
  · cases h
  rename_i c hc
  have key : ∀ (e : SEx) (s : Sx), (e = .normal ∨ e = .ret) → runCode P G cf fuel none c ((args ++ List.replicate (fn.ntmps - args.length) (.v undef), H), []) = some (e, s) →
      ∀ {H' : SHeap} {xs : List SVal}, takeMarks s.2 s.1.2 = some H' → resE P G s.1.1 H' fn.results.toList = some xs → H.length ≤ H'.length ∧ ∀ w0 ρ w (vs : Array Value), G.holds w0 → Rel w0 ρ H w → denL ρ args = some vs.toList →
        Calls P f vs w fun e w' => ∃ ρ' v, e = .returned v ∧ Ext ρ H ρ' H' ∧ den ρ' (resV xs) = some v ∧ Rel w0 ρ' H' w' := by
    intro e s he hrun H' xs htake hres
    obtain ⟨l1, k1⟩ := runCode_ok hcf hN hm c _ _ _ hrun
    refine ⟨by rw [takeMarks_len htake]; exact l1, fun w0 ρ w vs hG hR hv => (callsIn_wide (n := 0)).1 (callsIn_of_wp_marks hfn hc trivial ?_)⟩
    have hlen := denL_length hv
    refine k1 (F := Fence.wide) (dl := []) (ρ := ρ) rfl rfl hG ⟨?_, rfl, hR⟩ fun ρ' dl' a' w' hx hM' hA' => ?_
    · simp only [Array.toList_append, Array.toList_replicate]
      refine denL_append ?_ hv
      simp only [Array.length_toList] at hlen
      rw [hlen]
      exact denL_replicate_v _ _
    · have : LeavesInM Fence.wide 0 P fn a'.tmps (fun e w' => ∃ ρ' v, e = .returned v ∧ Ext ρ H ρ' H' ∧ den ρ' (resV xs) = some v ∧ Rel w0 ρ' H' w') a'.defers .returning w' := by
        rw [hA'.defers]
        refine takeMarks_ok htake hM' hA'.rel fun w2 hx2 hR2 => ?_
        obtain ⟨v, h1, h2⟩ := results_ok (dl := []) (a := { a' with defers := [] }) hG ⟨hA'.tmps, rfl, hR2⟩ hres
        exact ⟨v, h1, ρ', v, rfl, hx.trans hx2 l1, h2, hR2⟩
      rcases he with rfl | rfl
      · exact this
      · exact this
  split at h
  · cases h
  · cases h
  · rename_i e s hne hrun
    split at h
    · cases h
    rename_i H1 htake
    split at h
    case h_2 => cases h
    rename_i xs hres
    cases h
    refine key e s ?_ hrun htake hres
    cases e with
    | normal => exact .inl rfl
    | ret => exact .inr rfl
    | exit id => exact (hne id rfl).elim

theorem denL_fold : ∀ (ps : List Tmp) (args : List SVal) (vs : List Value) {l : List SVal} {ts : Array Value}, denL ρ args = some vs → denL ρ l = some ts.toList →
    denL ρ ((ps.zip args).foldl (fun l x => l.set x.1 x.2) l) = some (((ps.zip vs).foldl (fun (tmps : Array Value) (x : Tmp × Value) => tmps.setIfInBounds x.1 x.2) ts).toList)
  | [], args, vs, l, ts, ha, hl => by simpa using hl
  | p :: ps, [], vs, l, ts, ha, hl => by
    simp only [denL, Option.some.injEq] at ha
    subst ha
    simpa using hl
  | p :: ps, x :: xs, vs, l, ts, ha, hl => by
    obtain ⟨y, ys, h1, h2, rfl⟩ := denL_cons.1 ha
    simp only [List.zip_cons_cons, List.foldl_cons]
    refine denL_fold ps xs ys h2 ?_
    rw [Array.toList_setIfInBounds]
    exact denL_set h1 hl p

theorem round_ok {G : Glob} {cf : CallF} (hcf : CallOk P G cf) (hN : NamesOk P) (hm : P.follows .mixedOrders = true) {fuel : Nat} {i : Nat} {args : List SVal} {H : SHeap} {x : SVal} {H' : SHeap}
    (h : round P G cf fuel i args H = some (x, H')) : H.length ≤ H'.length ∧
    ∀ w0 ρ w p (vs : Array Value), G.holds w0 → Rel w0 ρ H w → ρ i = some p → denL ρ args = some vs.toList → ∃ r : Loop, w.heap[p.b]? = some (.loop r) ∧ vs.size = r.params.size ∧
      RoundIn Fence.wide 0 P p.b r.fn ((r.params.zip vs).foldl (fun tmps (t, a) => tmps.setIfInBounds t a) r.tmps) r.assign r.body w fun e w' => ∃ ρ' v, e = .returned v ∧ Ext ρ H ρ' H' ∧ den ρ' x = some v ∧ Rel w0 ρ' H' w' := by
  unfold round at h
  split at h
  case h_2 => cases h
  rename_i st0 pend0 tm ps assign bd dj hH
  split at h
  case isFalse => cases h
  rename_i hargs
  split at h
  case h_2 => cases h
  rename_i s1 hs1
  split at h
  case h_2 => cases h
  rename_i pend1 tm1 ps1 as1 bd1 dj1 hH1
  split at h
  case h_2 => cases h
  rename_i e s3 hs3
  split at h
  case h_2 => cases h
  rename_i st3 pend3 tm3 ps3 as3 bd3 dj3 hH3
  cases h
  obtain ⟨l1, k1⟩ := runCode_ok hcf hN hm _ _ _ _ hs1
  obtain ⟨l3, k3⟩ := runCode_ok hcf hN hm _ _ _ _ hs3
  simp only [List.length_set] at l3
  refine ⟨by simp only [List.length_set]; exact Nat.le_trans l1 l3, fun w0 ρ w p vs hG hR hp hv => ?_⟩
  obtain ⟨o', ob, g1, g2, g3⟩ := hR.obj i p hp
  rw [hH] at g1
  cases g1
  obtain ⟨fn0, ts, pd, f1, f2, rfl⟩ := g3
  have hlen := denL_length hv
  simp only [Array.length_toList] at hlen
  refine ⟨_, g2, by simp only; omega, roundIn_of_wpIn trivial ?_⟩
  simp only
  refine k1 (F := Fence.wide.inRound p.b) (dl := []) (ρ := ρ) ⟨p, hp, rfl⟩ rfl hG ⟨?_, rfl, hR⟩ fun ρ1 dl1 a1 w1 hx1 hM1 hA1 => ?_
  · simp only
    have := denL_fold (ρ := ρ) ps.toList args vs.toList (l := tm) (ts := ts.toArray) hv (by simpa using f1)
    rw [this]
    rw [← Array.foldl_toList, Array.toList_zip]
  · have hp1 : ρ1 i = some p := by rw [(hx1 i (hR.lt hp)).1]; exact hp
    obtain ⟨o', ob, g1, g2, g3⟩ := hA1.rel.obj i p hp1
    rw [hH1] at g1
    cases g1
    obtain ⟨fn1, ts1, pd1, e1, e2, rfl⟩ := g3
    have hlt : p.b < w1.heap.size := (hA1.rel.fresh _ _ hp1).2
    refine ⟨_, run_beginRound g2 rfl, ?_⟩
    have hR2 : Rel w0 ρ1 (s1.1.2.set i (.loop .busy pend1 tm1 ps1 as1 bd1 dj1)) (w1.putObj p.b (.loop { state := .busy, pending := pend1, fn := fn1, tmps := ts1.toArray, params := ps1, assign := as1, body := bd1, defers := pd1.b })) :=
      hA1.rel.setObj hp1 (hA1.rel.own hp1 hH1 (fun _ _ _ _ e => by cases e) (fun e => by cases e)) ⟨fn1, ts1, pd1, e1, e2, rfl⟩ rfl rfl rfl (by simp) (fun k hk => World.putObj_heap_other hk) (World.putObj_heap_same hlt)
    refine k3 (F := Fence.wide.inRound p.b) (dl := dl1) (ρ := ρ1) ⟨p, hp1, rfl⟩ hM1 hG ⟨hA1.tmps, hA1.defers, hR2⟩ fun ρ3 dl3 a3 w3 hx3 hM3 hA3 => ?_
    have hp3 : ρ3 i = some p := by rw [(hx3 i (by simp only [List.length_set]; exact hA1.rel.lt hp1)).1]; exact hp1
    obtain ⟨o', ob, g1, g2, g3⟩ := hA3.rel.obj i p hp3
    rw [hH3] at g1
    cases g1
    obtain ⟨fn3, ts3, pd3, e1, e2, rfl⟩ := g3
    have hlt : p.b < w3.heap.size := (hA3.rel.fresh _ _ hp3).2
    have fin : ∀ jump : Option Code, ∃ v w', (Instr.endRound p.b jump).run P w3 = .ok v w' ∧ ∃ ρ' v', Ending.returned v = .returned v' ∧ Ext ρ H ρ' (s3.1.2.set i (.loop (if jump.isNone then .ready else .done) jump tm3 ps3 as3 bd3 dj3)) ∧
        den ρ' (.v (.bool jump.isNone)) = some v' ∧ Rel w0 ρ' (s3.1.2.set i (.loop (if jump.isNone then .ready else .done) jump tm3 ps3 as3 bd3 dj3)) w' := fun jump => by
      refine ⟨_, _, run_endRound jump g2, ρ3, _, rfl, ?_, by simp [den], ?_⟩
      · exact ((hx1.trans ((Ext.set hp1 _).trans hx3 (by simp)) l1).trans (Ext.set hp3 _) (Nat.le_trans l1 l3))
      · exact hA3.rel.setObj hp3 (hA3.rel.own hp3 hH3 (fun _ _ _ _ e => by cases e) (fun e => by cases e)) ⟨fn3, ts3, pd3, e1, e2, rfl⟩ rfl rfl rfl (by simp) (fun k hk => World.putObj_heap_other hk) (World.putObj_heap_same hlt)
    cases e with
    | normal => exact fin none
    | ret => exact fin (some .ret)
    | exit id => exact fin (some (.exit id))

theorem call_ok' {G : Glob} {O : Orac} (hO : O.holds P G) (hN : NamesOk P) (hm : P.follows .mixedOrders = true) {fuel : Nat} : ∀ n, CallOk P G (call P G O fuel n)
  | 0 => ⟨(fun f args H x H' h => by cases h), (fun i args H x H' h => by cases h)⟩
  | n + 1 => by
    refine ⟨fun f args H x H' h => ?_, fun i args H x H' h => ?_⟩
    · simp only [call] at h
      split at h
      · rename_i y hy
        cases h
        refine ⟨Nat.le_refl _, fun w0 ρ w us hG hR hus => ?_⟩
        obtain ⟨v, hd, hc⟩ := hO f args x hy ρ us w (hG.later hR.below) hus
        refine hc.mono ?_
        rintro e w' ⟨rfl, hb⟩
        exact ⟨ρ, v, rfl, Ext.refl _ _, hd, hR.later hb⟩
      · exact body_ok (call_ok' hO hN hm n) hN hm h
    · simp only [call] at h
      exact round_ok (call_ok' hO hN hm n) hN hm h

/-- **A call at values that bear no name: the run of the symbolic machine is what the call does, in every world.** -/
theorem calls_of_run {G : Glob} {O : Orac} (hO : O.holds P G) (hN : NamesOk P) (hm : P.follows .mixedOrders = true) {fuel n : Nat} {f : FuncId} {xs : List SVal} {y : SVal}
    (h : (call P G O fuel n (.fn f) xs []).map (fun r => nrm r.1) = some y) (hy : nf y = true) {ρ : Ren} {vs : Array Value} (hxs : nfL xs = true) (hvs : denL ρ xs = some vs.toList) {w : World} (hG : G.holds w) :
    ∃ v, den ρ y = some v ∧ Calls P f vs w fun e w' => e = .returned v ∧ Below w.heap.size w w' := by
  cases hc : call P G O fuel n (.fn f) xs [] with
  | none => simp [hc] at h
  | some r =>
    obtain ⟨x, H'⟩ := r
    simp only [hc, Option.map_some, Option.some.injEq] at h
    have h1 := ((call_ok' hO hN hm n).fn _ _ _ _ _ hc).2 w (fun _ => none) w vs hG (Rel.start w) (by rw [denL_nf xs hxs (ρ' := ρ)]; exact hvs)
    have key : ∀ {ρ' : Ren} {u : Value}, den ρ' x = some u → den ρ y = some u := fun {ρ' u} hd => by
      have := den_nrm hd
      rw [h] at this
      rw [den_nf y hy (ρ' := ρ')]
      exact this
    cases hd : den ρ y with
    | none =>
      refine ⟨undef, ?_, h1.mono ?_⟩
      · exfalso
        obtain ⟨e, w', _, ⟨ρ', u, _, _, hd', _⟩, _⟩ := h1 []
        rw [key hd'] at hd
        cases hd
      · rintro e w' ⟨ρ', u, rfl, _, hd', hR⟩
        rw [key hd'] at hd
        cases hd
    | some v =>
      refine ⟨v, rfl, h1.mono ?_⟩
      rintro e w' ⟨ρ', u, rfl, _, hd', hR⟩
      have := key hd'
      rw [hd] at this
      exact ⟨by rw [Option.some.inj this], hR.below⟩

end

/-- No symbols. -/
@[reducible] def noEnv : Env where
  val _ := .bool false
  flat _ := trivial
  fact _ _ := none
  key _ _ := none
  keyOk _ _ _ h := by cases h

end
end Go.RX
