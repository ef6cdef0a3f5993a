import Derived.Orders
import Derived.LoopN
import Derived.Scope
import Derived.Below
namespace Go.RX
noncomputable section
open Go.RowKit (Below)

/-- Expressions of integers over named integers; `bin`, `sh` and `cv` are what the model's operations compute. -/
inductive IE where
  | var (i : Nat)
  | lit (n : Int)
  | bin (op : BinOp) (k : IntKind) (a b : IE)
  | sh (op : BinOp) (k : IntKind) (a b : IE)
  | cv (k : IntKind) (a : IE)
  | tri (t : Nat) (a b c : IE)
  deriving Inhabited

/-- What stands for a value that is not known by its numeral: a name, or an expression of a kind of integers. -/
inductive Sy where
  | nm (i : Nat)
  | int (k : IntKind) (e : IE)
  deriving Inhabited

/-- Values with names for the blocks that the run has made: `ptr i off` points into the block named i. -/
inductive SVal where
  | v (x : Value)
  | ptr (i off : Nat)
  | slice (i off len cap : Nat)
  | row (i off eoff len : Nat)
  | tail (i alt off eoff : Nat)
  | agg (l : List SVal)
  | tuple (l : List SVal)
  | func (fn : Fn) (first cap : List SVal)
  | iface (t : TypeId) (x : SVal)
  | yield (i : Nat)
  | map (i : Nat)
  | sym (i : Sy)
  deriving Inhabited

/-- What is not known by its numeral: the values that `sym` stands for; what is known of operations on them (the value that one yields; where a key stands in a map, or that it is not there). -/
def bare (ks : List (Value × Nat)) : List MapEntry := ks.map fun k => { key := k.1, val := undef, born := k.2 }

class Env where
  val : Sy → Value
  flat : ∀ i, match val i with
    | .agg _ | .tuple _ => False
    | _ => True
  fact : Op → List SVal → Option SVal
  key : Sy → List (Value × Nat) → Option (Option Nat)
  /-- The cells that an address holds which a name stands for (they lie ahead of the run, and nobody turns them). -/
  ro : Sy → Option (List SVal) := fun _ => none
  /-- The length and the cells of a slice that a name stands for. -/
  rs : Sy → Option (Nat × List SVal) := fun _ => none
  keyOk : ∀ i ks r, key i ks = some r → Instr.findNow .string (val i) (bare ks) 0 = some (r.map fun j => (j, undef))


variable [Env]

/-- Where a name's block lies; and, of a row that an append has made, how many elements it has room for. -/
structure Loc where
  b : Nat
  c : Nat

abbrev Ren := Nat → Option Loc

mutual
def den (ρ : Ren) : SVal → Option Value
  | .v x => some x
  | .ptr i off => match ρ i with
    | some p => some (.pointer (some ⟨p.b, off, none⟩))
    | none => none
  | .slice i off len cap => match ρ i with
    | some p => some (.slice (some ⟨p.b, off, none⟩) len cap)
    | none => none
  | .row i off eoff len => match ρ i with
    | some p => if eoff + len ≤ p.c then some (.slice (some ⟨p.b, off, none⟩) len (p.c - eoff)) else none
    | none => none
  | .tail i alt off eoff => match ρ i with
    | some p => if eoff ≤ p.c then some (.slice (some ⟨p.b, if p.c = eoff then alt else off, none⟩) 0 (p.c - eoff)) else none
    | none => none
  | .agg l => match denL ρ l with
    | some vs => some (.agg vs.toArray)
    | none => none
  | .tuple l => match denL ρ l with
    | some vs => some (.tuple vs.toArray)
    | none => none
  | .func fn f c => match denL ρ f, denL ρ c with
    | some a, some b => some (.func fn a.toArray b.toArray)
    | _, _ => none
  | .iface t x => match den ρ x with
    | some a => some (.iface t a)
    | none => none
  | .yield i => match ρ i with
    | some p => some (.func (.yield p.b) #[] #[])
    | none => none
  | .map i => match ρ i with
    | some p => some (.map (some p.b))
    | none => none
  | .sym i => some (Env.val i)
def denL (ρ : Ren) : List SVal → Option (List Value)
  | [] => some []
  | x :: xs => match den ρ x, denL ρ xs with
    | some a, some b => some (a :: b)
    | _, _ => none
end

def Ren.le (ρ ρ' : Ren) : Prop := ∀ i b, ρ i = some b → ρ' i = some b
 omit [Env] in
theorem Ren.le.refl (ρ : Ren) : ρ.le ρ := fun _ _ h => h
 omit [Env] in
theorem Ren.le.trans {a b c : Ren} (h : a.le b) (k : b.le c) : a.le c := fun _ _ e => k _ _ (h _ _ e)

mutual
theorem den_mono {ρ ρ' : Ren} (h : ρ.le ρ') : ∀ (x : SVal) {a : Value}, den ρ x = some a → den ρ' x = some a
  | .v x, a, e => by simpa [den] using e
  | .ptr i off, a, e => by
    simp only [den] at e ⊢
    cases hi : ρ i with
    | none => simp [hi] at e
    | some b => simp only [hi] at e; rw [h _ _ hi]; exact e
  | .slice i off len cap, a, e => by
    simp only [den] at e ⊢
    cases hi : ρ i with
    | none => simp [hi] at e
    | some b => simp only [hi] at e; rw [h _ _ hi]; exact e
  | .row i off eoff len, a, e => by
    simp only [den] at e ⊢
    cases hi : ρ i with
    | none => simp [hi] at e
    | some b => simp only [hi] at e; rw [h _ _ hi]; exact e
  | .tail i alt off eoff, a, e => by
    simp only [den] at e ⊢
    cases hi : ρ i with
    | none => simp [hi] at e
    | some b => simp only [hi] at e; rw [h _ _ hi]; exact e
  | .agg l, a, e => by
    simp only [den] at e ⊢
    cases hi : denL ρ l with
    | none => simp [hi] at e
    | some b => simp only [hi] at e; rw [denL_mono h l hi]; exact e
  | .tuple l, a, e => by
    simp only [den] at e ⊢
    cases hi : denL ρ l with
    | none => simp [hi] at e
    | some b => simp only [hi] at e; rw [denL_mono h l hi]; exact e
  | .func fn f c, a, e => by
    simp only [den] at e ⊢
    cases hi : denL ρ f with
    | none => simp [hi] at e
    | some b =>
      cases hj : denL ρ c with
      | none => simp [hi, hj] at e
      | some d => simp only [hi, hj] at e; rw [denL_mono h f hi, denL_mono h c hj]; exact e
  | .iface t x, a, e => by
    simp only [den] at e ⊢
    cases hi : den ρ x with
    | none => simp [hi] at e
    | some b => simp only [hi] at e; rw [den_mono h x hi]; exact e
  | .yield i, a, e => by
    simp only [den] at e ⊢
    cases hi : ρ i with
    | none => simp [hi] at e
    | some b => simp only [hi] at e; rw [h _ _ hi]; exact e
  | .map i, a, e => by
    simp only [den] at e ⊢
    cases hi : ρ i with
    | none => simp [hi] at e
    | some b => simp only [hi] at e; rw [h _ _ hi]; exact e
  | .sym i, a, e => by simpa [den] using e
theorem denL_mono {ρ ρ' : Ren} (h : ρ.le ρ') : ∀ (l : List SVal) {a : List Value}, denL ρ l = some a → denL ρ' l = some a
  | [], a, e => by simpa [denL] using e
  | x :: xs, a, e => by
    simp only [denL] at e ⊢
    cases hi : den ρ x with
    | none => simp [hi] at e
    | some b =>
      cases hj : denL ρ xs with
      | none => simp [hi, hj] at e
      | some d => simp only [hi, hj] at e; rw [den_mono h x hi, denL_mono h xs hj]; exact e
end

theorem denL_cons {ρ : Ren} {x : SVal} {xs : List SVal} {l : List Value} : denL ρ (x :: xs) = some l ↔ ∃ a b, den ρ x = some a ∧ denL ρ xs = some b ∧ l = a :: b := by
  simp only [denL]
  cases hi : den ρ x with
  | none => simp
  | some a =>
    cases hj : denL ρ xs with
    | none => simp
    | some b => simp [eq_comm]

theorem denL_get {ρ : Ren} : ∀ {l : List SVal} {vs : List Value}, denL ρ l = some vs → ∀ (i : Nat) (x : SVal), l[i]? = some x → ∃ y, vs[i]? = some y ∧ den ρ x = some y
  | [], vs, _, i, x, hx => by simp at hx
  | y :: ys, vs, h, i, x, hx => by
    obtain ⟨a, b, ha, hb, rfl⟩ := denL_cons.1 h
    cases i with
    | zero => simp at hx; subst hx; exact ⟨a, by simp, ha⟩
    | succ i => simp at hx; simpa using denL_get hb i x hx

theorem denL_length {ρ : Ren} : ∀ {l : List SVal} {vs : List Value}, denL ρ l = some vs → vs.length = l.length
  | [], vs, h => by simp [denL] at h; subst h; rfl
  | y :: ys, vs, h => by
    obtain ⟨a, b, ha, hb, rfl⟩ := denL_cons.1 h
    simp [denL_length hb]

theorem denL_set {ρ : Ren} {x : SVal} {y : Value} (hx : den ρ x = some y) : ∀ {l : List SVal} {vs : List Value}, denL ρ l = some vs → ∀ i, denL ρ (l.set i x) = some (vs.set i y)
  | [], vs, h, i => by simp [denL] at h; subst h; simp [denL]
  | z :: zs, vs, h, i => by
    obtain ⟨a, b, ha, hb, rfl⟩ := denL_cons.1 h
    cases i with
    | zero => simp only [List.set_cons_zero]; exact denL_cons.2 ⟨y, b, hx, hb, rfl⟩
    | succ i => simp only [List.set_cons_succ]; exact denL_cons.2 ⟨a, b.set i y, ha, denL_set hx hb i, rfl⟩

theorem denL_append {ρ : Ren} {m : List SVal} {ws : List Value} (hm : denL ρ m = some ws) : ∀ {l : List SVal} {vs : List Value}, denL ρ l = some vs → denL ρ (l ++ m) = some (vs ++ ws)
  | [], vs, h => by simp [denL] at h; subst h; simpa using hm
  | z :: zs, vs, h => by
    obtain ⟨a, b, ha, hb, rfl⟩ := denL_cons.1 h
    exact denL_cons.2 ⟨a, b ++ ws, ha, denL_append hm hb, rfl⟩

theorem denL_drop {ρ : Ren} : ∀ (n : Nat) {l : List SVal} {vs : List Value}, denL ρ l = some vs → denL ρ (l.drop n) = some (vs.drop n)
  | 0, l, vs, h => by simpa using h
  | n + 1, [], vs, h => by simp [denL] at h; subst h; simp [denL]
  | n + 1, z :: zs, vs, h => by
    obtain ⟨a, b, ha, hb, rfl⟩ := denL_cons.1 h
    simpa using denL_drop n hb

theorem denL_take {ρ : Ren} : ∀ (n : Nat) {l : List SVal} {vs : List Value}, denL ρ l = some vs → denL ρ (l.take n) = some (vs.take n)
  | 0, l, vs, h => by simp [denL]
  | n + 1, [], vs, h => by simp [denL] at h; subst h; simp [denL]
  | n + 1, z :: zs, vs, h => by
    obtain ⟨a, b, ha, hb, rfl⟩ := denL_cons.1 h
    simp only [List.take_succ_cons]
    exact denL_cons.2 ⟨a, b.take n, ha, denL_take n hb, rfl⟩

theorem denL_map_v {ρ : Ren} : ∀ (l : List Value), denL ρ (l.map .v) = some l
  | [] => by simp [denL]
  | z :: zs => denL_cons.2 ⟨z, zs, by simp [den], denL_map_v zs, rfl⟩

theorem denL_replicate_v {ρ : Ren} (n : Nat) (x : Value) : denL ρ (List.replicate n (.v x)) = some (List.replicate n x) := by
  have := denL_map_v (ρ := ρ) (List.replicate n x)
  simpa using this


mutual
def vOf : SVal → Option Value
  | .v x => some x
  | .agg l => match vOfL l with
    | some vs => some (.agg vs.toArray)
    | none => none
  | .tuple l => match vOfL l with
    | some vs => some (.tuple vs.toArray)
    | none => none
  | .iface t x => match vOf x with
    | some a => some (.iface t a)
    | none => none
  | _ => none
def vOfL : List SVal → Option (List Value)
  | [] => some []
  | x :: xs => match vOf x with
    | none => none
    | some a => match vOfL xs with
      | none => none
      | some b => some (a :: b)
end

mutual
theorem den_of_vOf {ρ : Ren} : ∀ (x : SVal) {a : Value}, vOf x = some a → den ρ x = some a
  | .v x, a, e => by simpa [den, vOf] using e
  | .ptr i off, a, e => by simp [vOf] at e
  | .slice i off len cap, a, e => by simp [vOf] at e
  | .row i off eoff len, a, e => by simp [vOf] at e
  | .tail i alt off eoff, a, e => by simp [vOf] at e
  | .agg l, a, e => by
    simp only [den, vOf] at e ⊢
    cases hi : vOfL l with
    | none => simp [hi] at e
    | some b => simp only [hi] at e; rw [denL_of_vOfL l hi]; exact e
  | .tuple l, a, e => by
    simp only [den, vOf] at e ⊢
    cases hi : vOfL l with
    | none => simp [hi] at e
    | some b => simp only [hi] at e; rw [denL_of_vOfL l hi]; exact e
  | .func fn f c, a, e => by simp [vOf] at e
  | .iface t x, a, e => by
    simp only [den, vOf] at e ⊢
    cases hi : vOf x with
    | none => simp [hi] at e
    | some b => simp only [hi] at e; rw [den_of_vOf x hi]; exact e
  | .yield i, a, e => by simp [vOf] at e
  | .map i, a, e => by simp [vOf] at e
  | .sym i, a, e => by simp [vOf] at e
theorem denL_of_vOfL {ρ : Ren} : ∀ (l : List SVal) {a : List Value}, vOfL l = some a → denL ρ l = some a
  | [], a, e => by simpa [denL, vOfL] using e
  | x :: xs, a, e => by
    simp only [denL, vOfL] at e ⊢
    cases hi : vOf x with
    | none => simp [hi] at e
    | some b =>
      cases hj : vOfL xs with
      | none => simp [hi, hj] at e
      | some d => simp only [hi, hj] at e; rw [den_of_vOf x hi, denL_of_vOfL xs hj]; exact e
end

/-! ### Values without a name -/
mutual
def nf : SVal → Bool
  | .v _ => true
  | .sym _ => true
  | .agg l => nfL l
  | .tuple l => nfL l
  | .iface _ x => nf x
  | _ => false
def nfL : List SVal → Bool
  | [] => true
  | x :: xs => nf x && nfL xs
end

mutual
theorem den_nf {ρ ρ' : Ren} : ∀ (x : SVal), nf x = true → den ρ x = den ρ' x
  | .v x, _ => rfl
  | .sym i, _ => rfl
  | .agg l, h => by simp only [den]; rw [denL_nf l (by simpa [nf] using h)]
  | .tuple l, h => by simp only [den]; rw [denL_nf l (by simpa [nf] using h)]
  | .iface t x, h => by simp only [den]; rw [den_nf x (by simpa [nf] using h)]
  | .ptr i off, h => by simp [nf] at h
  | .slice i off len cap, h => by simp [nf] at h
  | .row i off eoff len, h => by simp [nf] at h
  | .tail i alt off eoff, h => by simp [nf] at h
  | .func fn f c, h => by simp [nf] at h
  | .yield i, h => by simp [nf] at h
  | .map i, h => by simp [nf] at h
theorem denL_nf {ρ ρ' : Ren} : ∀ (l : List SVal), nfL l = true → denL ρ l = denL ρ' l
  | [], _ => rfl
  | x :: xs, h => by
    simp only [nfL, Bool.and_eq_true] at h
    simp only [denL]
    rw [den_nf x h.1, denL_nf xs h.2]
end

/-- Blocks that the run has made. `row`: of a row that an append has made, the first cells are known (sz: the cells of an element; rows that may share a block bear one group's number); `dead`: nothing is known. -/
inductive SObj where
  | cells (l : List SVal) (elem : TypeId) (fz : Nat × Nat)
  | row (l : List SVal) (elem : TypeId) (sz grp : Nat)
  | iter (s : ByteArray) (pos : Nat)
  | dead
  | map (ks : List (Value × Nat)) (vals : List SVal) (clock : Nat)
  | marks
  | loop (st : LoopState) (pend : Option Code) (tmps : List SVal) (ps : Array Tmp) (assign body : Code) (dj : Nat)
  deriving Inhabited

def entries (ks : List (Value × Nat)) (vs : List Value) : List MapEntry := List.zipWith (fun k v => { key := k.1, val := v, born := k.2 }) ks vs

def ObjRel (ρ : Ren) (p : Loc) : SObj → Obj → Prop
  | .cells l e fz, ob => ∃ vs, denL ρ l = some vs ∧ ob = .cells vs.toArray e fz
  | .row l e sz _, ob => ∃ vs, denL ρ l = some vs ∧ ∃ (rest : List Value) (fz : Nat × Nat), ob = .cells (vs ++ rest).toArray e fz ∧ (vs ++ rest).length = p.c * sz ∧ ∀ k, k < (vs ++ rest).length → (decide (fz.1 ≤ k) && decide (k < fz.2)) = false
  | .iter s pos, ob => ob = .stringIter s pos
  | .dead, _ => True
  | .map ks vals clock, ob => ∃ vs, denL ρ vals = some vs ∧ ks.length = vals.length ∧ ob = .map (entries ks vs).toArray clock
  | .marks, ob => ob = .deferred (some [])
  | .loop st pend tmps ps assign body dj, ob => ∃ (fn : FuncId) (vs : List Value) (pd : Loc), denL ρ tmps = some vs ∧ ρ dj = some pd ∧ ob = .loop { state := st, pending := pend, fn, tmps := vs.toArray, params := ps, assign, body, defers := pd.b }

theorem ObjRel.mono {ρ ρ' : Ren} (h : ρ.le ρ') {p : Loc} : ∀ {x : SObj} {a : Obj}, ObjRel ρ p x a → ObjRel ρ' p x a
  | .cells l _ _, _, ⟨vs, h1, h2⟩ => ⟨vs, denL_mono h l h1, h2⟩
  | .row l _ _ _, _, ⟨vs, h1, h2⟩ => ⟨vs, denL_mono h l h1, h2⟩
  | .iter _ _, _, hh => hh
  | .dead, _, _ => trivial
  | .map _ l _, _, ⟨vs, h1, h2⟩ => ⟨vs, denL_mono h l h1, h2⟩
  | .marks, _, hh => hh
  | .loop _ _ l _ _ _ _, _, ⟨fn, vs, pd, h1, h2, h3⟩ => ⟨fn, vs, pd, denL_mono h l h1, h _ _ h2, h3⟩

abbrev SHeap := List SObj

/-- May two names stand for one block? -/
def Alike (H : SHeap) (i j : Nat) : Prop := i = j ∨ ∃ l e sz l' e' sz' g, H[i]? = some (.row l e sz g) ∧ H[j]? = some (.row l' e' sz' g) ∨ H[i]? = some .dead ∨ H[j]? = some .dead

/-- The cells from an address on. -/
structure RoAt (w : World) (a : Addr) (l : List SVal) : Prop where
  plain : l ≠ [] → a.spot = none
  low : l ≠ [] → a.block < w.heap.size
  cells : ∃ vs, (∀ ρ, denL ρ l = some vs) ∧ ∀ (k : Nat) u, vs[k]? = some u → w.cell? ⟨a.block, a.off + k, none⟩ = some u
/-- What names stand for that lies ahead of the run. -/
structure RoHolds (w : World) : Prop where
  ro : ∀ s l, Env.ro s = some l → ∃ a : Addr, Env.val s = .pointer (some a) ∧ RoAt w a l
  rs : ∀ s n l, Env.rs s = some (n, l) → ∃ (a : Addr) (cap : Nat), Env.val s = .slice (some a) n cap ∧ RoAt w a l

theorem RoAt.later {w w' : World} {a : Addr} {l : List SVal} (h : RoAt w a l) (hb : Below w.heap.size w w') : RoAt w' a l := by
  obtain ⟨vs, h1, h2⟩ := h.cells
  refine ⟨h.plain, fun hl => Nat.lt_of_lt_of_le (h.low hl) hb.size, vs, h1, fun k u hk => ?_⟩
  have hl : l ≠ [] := fun e => by
    subst e
    have := h1 (fun _ => none)
    simp only [denL, Option.some.injEq] at this
    subst this
    simp at hk
  rw [hb.cell (p := ⟨a.block, a.off + k, none⟩) (h.low hl)]
  exact h2 k u hk
theorem RoHolds.later {w w' : World} (h : RoHolds w) (hb : Below w.heap.size w w') : RoHolds w' :=
  ⟨fun s l hs => (by obtain ⟨a, h1, h2⟩ := h.ro s l hs; exact ⟨a, h1, h2.later hb⟩), fun s n l hs => (by obtain ⟨a, c, h1, h2⟩ := h.rs s n l hs; exact ⟨a, c, h1, h2.later hb⟩)⟩
theorem RoHolds.of_none (h1 : ∀ s, Env.ro s = none) (h2 : ∀ s, Env.rs s = none) (w : World) : RoHolds w :=
  ⟨fun s l h => (by rw [h1] at h; cases h), fun s n l h => (by rw [h2] at h; cases h)⟩

/-- w is later than w0, and what names stand for lies in w0. -/
structure BelowR (w0 w : World) : Prop where
  b : Below w0.heap.size w0 w
  ro : RoHolds w0
theorem BelowR.trans {a b c : World} (h : BelowR a b) (k : Below a.heap.size b c) : BelowR a c := ⟨h.b.trans k, h.ro⟩
theorem BelowR.size {a b : World} (h : BelowR a b) : a.heap.size ≤ b.heap.size := h.b.size
theorem BelowR.here {a b : World} (h : BelowR a b) : RoHolds b := h.ro.later h.b
instance {a b : World} : CoeOut (BelowR a b) (Below a.heap.size a b) := ⟨BelowR.b⟩

/-- The world w, made out of the world w0: what w0 held is there; the blocks that have names hold what the symbolic heap says. -/
structure Rel (w0 : World) (ρ : Ren) (H : SHeap) (w : World) : Prop where
  below : BelowR w0 w
  fresh : ∀ i p, ρ i = some p → w0.heap.size ≤ p.b ∧ p.b < w.heap.size
  inj : ∀ i j p q, ρ i = some p → ρ j = some q → p.b = q.b → Alike H i j
  obj : ∀ i p, ρ i = some p → ∃ o ob, H[i]? = some o ∧ w.heap[p.b]? = some ob ∧ ObjRel ρ p o ob

theorem Rel.start (w : World) (hr : RoHolds w) : Rel w (fun _ => none) [] w :=
  ⟨⟨Below.refl _ _, hr⟩, fun _ _ h => by simp at h, fun _ _ _ _ h => by simp at h, fun _ _ h => by simp at h⟩

/-- The new name. -/
def Ren.with (ρ : Ren) (n : Nat) (p : Loc) : Ren := fun i => if i = n then some p else ρ i

theorem Rel.none_at {w0 : World} {ρ : Ren} {H : SHeap} {w : World} (h : Rel w0 ρ H w) {i : Nat} (hi : H.length ≤ i) : ρ i = none := by
  cases hr : ρ i with
  | none => rfl
  | some b =>
    obtain ⟨o, ob, ho, _⟩ := h.obj i b hr
    rw [List.getElem?_eq_none hi] at ho
    cases ho

theorem Rel.lt {w0 : World} {ρ : Ren} {H : SHeap} {w : World} (h : Rel w0 ρ H w) {i : Nat} {p : Loc} (hi : ρ i = some p) : i < H.length := by
  rcases Nat.lt_or_ge i H.length with h' | h'
  · exact h'
  · rw [h.none_at h'] at hi; cases hi

theorem Ren.le_with {w0 : World} {ρ : Ren} {H : SHeap} {w : World} (h : Rel w0 ρ H w) (p : Loc) : ρ.le (ρ.with H.length p) := by
  intro i c hc
  unfold Ren.with
  split
  · rename_i hi
    rw [h.none_at (by omega)] at hc
    cases hc
  · exact hc

/-- ρ' says the same of the first n names. -/
def Ren.ext (n : Nat) (ρ ρ' : Ren) : Prop := ∀ i, i < n → ρ' i = ρ i
 omit [Env] in
theorem Ren.ext_with (ρ : Ren) (n : Nat) (p : Loc) : Ren.ext n ρ (ρ.with n p) := fun i hi => by simp [Ren.with, show i ≠ n by omega]
theorem Ren.ext.le {w0 : World} {ρ ρ' : Ren} {H : SHeap} {w : World} (h : Ren.ext H.length ρ ρ') (hR : Rel w0 ρ H w) : ρ.le ρ' := fun i b hb => by
  rw [h i (hR.lt hb)]; exact hb

def SObj.isCells : SObj → Bool
  | .cells .. => true
  | _ => false

/-- What a step may turn: names that were there stay with their blocks; the cells that had a name, and no block, stay as they are. -/
def Ext (ρ : Ren) (H : SHeap) (ρ' : Ren) (H' : SHeap) : Prop := ∀ i, i < H.length → ρ' i = ρ i ∧ (ρ i = none → ∀ l e fz, H[i]? = some (.cells l e fz) → H'[i]? = some (.cells l e fz))
 omit [Env] in
theorem Ext.refl (ρ : Ren) (H : SHeap) : Ext ρ H ρ H := fun _ _ => ⟨rfl, fun _ _ _ _ h => h⟩
 omit [Env] in
theorem Ext.trans {a b c : Ren} {H H1 H2 : SHeap} (h : Ext a H b H1) (k : Ext b H1 c H2) (hm : H.length ≤ H1.length) : Ext a H c H2 := fun i hi => by
  obtain ⟨h1, h2⟩ := h i hi
  obtain ⟨k1, k2⟩ := k i (by omega)
  exact ⟨k1.trans h1, fun hn l e fz hc => k2 (by rw [h1]; exact hn) l e fz (h2 hn l e fz hc)⟩
 omit [Env] in
theorem Ext.ext {ρ ρ' : Ren} {H H' : SHeap} (h : Ext ρ H ρ' H') : Ren.ext H.length ρ ρ' := fun i hi => (h i hi).1
theorem Ext.le {w0 : World} {ρ ρ' : Ren} {H H' : SHeap} {w : World} (h : Ext ρ H ρ' H') (hR : Rel w0 ρ H w) : ρ.le ρ' := h.ext.le hR
 omit [Env] in
theorem Ext.push (ρ : Ren) (H : SHeap) (p : Loc) (l : SHeap) : Ext ρ H (ρ.with H.length p) (H ++ l) := fun i hi => ⟨Ren.ext_with ρ _ _ i hi, fun _ l' e fz h => by rw [List.getElem?_append_left hi]; exact h⟩
 omit [Env] in
theorem Ext.set {ρ : Ren} {H : SHeap} {j : Nat} {p : Loc} (hj : ρ j = some p) (o : SObj) : Ext ρ H ρ (H.set j o) := fun i _ => ⟨rfl, fun hn l e fz h => by
  rw [List.getElem?_set_ne (fun e => by subst e; rw [hj] at hn; cases hn)]; exact h⟩

 omit [Env] in
theorem Alike.append {H K : SHeap} {i j : Nat} (h : Alike H i j) : Alike (H ++ K) i j := by
  have key : ∀ {i o}, H[i]? = some o → (H ++ K)[i]? = some o := fun {i o} hh => by rw [List.getElem?_append_left (List.getElem?_eq_some_iff.1 hh).1]; exact hh
  rcases h with h | ⟨l, e, sz, l', e', sz', g, h | h | h⟩
  · exact .inl h
  · exact .inr ⟨l, e, sz, l', e', sz', g, .inl ⟨key h.1, key h.2⟩⟩
  · exact .inr ⟨l, e, sz, l', e', sz', g, .inr (.inl (key h))⟩
  · exact .inr ⟨l, e, sz, l', e', sz', g, .inr (.inr (key h))⟩

theorem Rel.push {w0 : World} {ρ : Ren} {H : SHeap} {w : World} (h : Rel w0 ρ H w) {o : SObj} {ob : Obj} {c : Nat} (ho : ObjRel ρ ⟨w.heap.size, c⟩ o ob) :
    Rel w0 (ρ.with H.length ⟨w.heap.size, c⟩) (H ++ [o]) { w with heap := w.heap.push ob } := by
  have hle := Ren.le_with h ⟨w.heap.size, c⟩
  refine ⟨h.below.trans ⟨rfl, rfl, rfl, by simp, fun k hk => ?_⟩, ?_, ?_, ?_⟩
  · show (w.heap.push ob)[k]? = _
    rw [Array.getElem?_push, if_neg (by have := h.below.size; omega)]
  · intro i b hb
    unfold Ren.with at hb
    simp only [Array.size_push]
    split at hb
    · simp at hb; subst hb; exact ⟨h.below.size, by simp⟩
    · obtain ⟨h1, h2⟩ := h.fresh i b hb; exact ⟨h1, by omega⟩
  · intro i j p q hi hj hb
    unfold Ren.with at hi hj
    split at hi <;> split at hj
    · exact .inl (by omega)
    · simp at hi; subst hi; have := (h.fresh _ _ hj).2; simp at hb; omega
    · simp at hj; subst hj; have := (h.fresh _ _ hi).2; simp at hb; omega
    · exact (h.inj _ _ _ _ hi hj hb).append
  · intro i b hb
    by_cases hi : i = H.length
    · subst hi
      simp only [Ren.with, if_true, Option.some.injEq] at hb
      subst hb
      exact ⟨o, ob, by simp, by simp, ho.mono hle⟩
    · have hb' : ρ i = some b := by simpa [Ren.with, hi] using hb
      obtain ⟨o', ob', h1, h2, h3⟩ := h.obj i b hb'
      have hlt := (h.fresh i b hb').2
      refine ⟨o', ob', ?_, ?_, h3.mono hle⟩
      · rw [List.getElem?_append_left]
        · exact h1
        · exact (List.getElem?_eq_some_iff.1 h1).1
      · show (w.heap.push ob)[b.b]? = _
        rw [Array.getElem?_push, if_neg (by omega)]
        exact h2

/-- No other name tells anything of this name's block. -/
def Own (ρ : Ren) (H : SHeap) (i : Nat) (p : Loc) : Prop := ∀ j q, ρ j = some q → q.b = p.b → j ≠ i → H[j]? = some .dead

 omit [Env] in
theorem Own.set {ρ : Ren} {H : SHeap} {i : Nat} {p : Loc} (h : Own ρ H i p) (o : SObj) : Own ρ (H.set i o) i p := fun j q hj hb hne => by
  rw [List.getElem?_set_ne (Ne.symm hne)]; exact h j q hj hb hne

theorem Rel.own {w0 : World} {ρ : Ren} {H : SHeap} {w : World} (h : Rel w0 ρ H w) {i : Nat} {p : Loc} (hi : ρ i = some p) {o0 : SObj} (h0 : H[i]? = some o0) (hno : ∀ l e sz g, o0 ≠ .row l e sz g) (hnd : o0 ≠ .dead) : Own ρ H i p :=
  fun j q hj hb hne => by
    rcases h.inj j i q p hj hi hb with e | ⟨l, e, sz, l', e', sz', g, hh | hh | hh⟩
    · exact absurd e hne
    · rw [h0] at hh; exact absurd (Option.some.inj hh.2) (hno _ _ _ _)
    · exact hh
    · rw [h0] at hh; exact absurd (Option.some.inj hh) hnd

/-- One named block, of which no other name tells anything, has turned. -/
theorem Rel.setObj {w0 : World} {ρ : Ren} {H : SHeap} {w w' : World} (h : Rel w0 ρ H w) {i : Nat} {p : Loc} (hi : ρ i = some p) (hshare : Own ρ H i p) {o : SObj} {ob : Obj} (ho : ObjRel ρ p o ob)
    (hos : w'.os = w.os) (htape : w'.tape = w.tape) (hout : w'.output = w.output) (hsize : w'.heap.size = w.heap.size)
    (hsame : ∀ k, k ≠ p.b → w'.heap[k]? = w.heap[k]?) (hnew : w'.heap[p.b]? = some ob) : Rel w0 ρ (H.set i o) w' := by
  obtain ⟨f1, f2⟩ := h.fresh i p hi
  have hlt := h.lt hi
  refine ⟨h.below.trans ⟨hos, htape, hout, by omega, fun k hk => hsame k (by omega)⟩, ?_, ?_, ?_⟩
  · intro j c hc
    rw [hsize]
    exact h.fresh j c hc
  · intro j k q r hj hk hb
    by_cases hji : j = i
    · by_cases hki : k = i
      · exact .inl (by omega)
      · subst hji
        have hq : q = p := Option.some.inj (hj.symm.trans hi)
        have := hshare k r hk (by rw [← hb, hq]) hki
        exact .inr ⟨[], 0, 0, [], 0, 0, 0, .inr (.inr (by rw [List.getElem?_set_ne (Ne.symm hki)]; exact this))⟩
    · by_cases hki : k = i
      · subst hki
        have hr : r = p := Option.some.inj (hk.symm.trans hi)
        have := hshare j q hj (by rw [hb, hr]) hji
        exact .inr ⟨[], 0, 0, [], 0, 0, 0, .inr (.inl (by rw [List.getElem?_set_ne (Ne.symm hji)]; exact this))⟩
      · rcases h.inj j k q r hj hk hb with e | ⟨l, e, sz, l', e', sz', g, hh⟩
        · exact .inl e
        · refine .inr ⟨l, e, sz, l', e', sz', g, ?_⟩
          rw [List.getElem?_set_ne (Ne.symm hji), List.getElem?_set_ne (Ne.symm hki)]
          exact hh
  · intro j c hc
    by_cases hji : j = i
    · subst hji
      have : c = p := by rw [hi] at hc; exact (Option.some.inj hc).symm
      subst this
      exact ⟨o, ob, by rw [List.getElem?_set_self hlt], hnew, ho⟩
    · obtain ⟨o', ob', h1, h2, h3⟩ := h.obj j c hc
      by_cases hb : c.b = p.b
      · have hd := hshare j c hc hb hji
        exact ⟨.dead, ob, by rw [List.getElem?_set_ne (Ne.symm hji)]; exact hd, by rw [hb]; exact hnew, trivial⟩
      · exact ⟨o', ob', by rw [List.getElem?_set_ne (Ne.symm hji)]; exact h1, by rw [hsame _ hb]; exact h2, h3⟩

/-- All rows of a group but one: nothing is told of them any more. -/
def killFrom (g i : Nat) : Nat → SHeap → SHeap
  | _, [] => []
  | k, o :: os => (match o with
    | .row l e sz g' => if g' = g ∧ k ≠ i then .dead else .row l e sz g'
    | o => o) :: killFrom g i (k + 1) os

 omit [Env] in
theorem killFrom_get {g i : Nat} : ∀ (H : SHeap) (k j : Nat), (killFrom g i k H)[j]? = (H[j]?).map fun o => match o with
    | .row l e sz g' => if g' = g ∧ k + j ≠ i then .dead else .row l e sz g'
    | o => o
  | [], k, j => by simp [killFrom]
  | o :: os, k, j => by
    cases j with
    | zero => simp [killFrom]
    | succ j =>
      simp only [killFrom, List.getElem?_cons_succ]
      rw [killFrom_get os (k + 1) j]
      rw [show k + 1 + j = k + (j + 1) by omega]

 omit [Env] in
theorem killFrom_len {g i : Nat} : ∀ (H : SHeap) (k : Nat), (killFrom g i k H).length = H.length
  | [], k => rfl
  | o :: os, k => by simp [killFrom, killFrom_len os (k + 1)]

 omit [Env] in
theorem killed_eq {g i j : Nat} {H : SHeap} {o : SObj} (h : H[j]? = some o) (hno : ∀ l e sz, o ≠ .row l e sz g) : (killFrom g i 0 H)[j]? = some o := by
  rw [killFrom_get, h]
  simp only [Option.map_some]
  cases o with
  | row l e sz g' =>
    have : g' ≠ g := fun e' => hno l e sz (by rw [e'])
    simp [this]
  | _ => rfl

 omit [Env] in
theorem killed_self {g i : Nat} {H : SHeap} {o : SObj} (h : H[i]? = some o) : (killFrom g i 0 H)[i]? = some o := by
  rw [killFrom_get, h]
  cases o <;> simp

 omit [Env] in
theorem killed_dead {g i j : Nat} {H : SHeap} {l : List SVal} {e sz : Nat} (h : H[j]? = some (.row l e sz g)) (hj : j ≠ i) : (killFrom g i 0 H)[j]? = some .dead := by
  rw [killFrom_get, h]
  simp [hj]

theorem Rel.kill {w0 : World} {ρ : Ren} {H : SHeap} {w : World} (h : Rel w0 ρ H w) (g i : Nat) : Rel w0 ρ (killFrom g i 0 H) w := by
  have tell : ∀ (j : Nat) (o : SObj), H[j]? = some o → (killFrom g i 0 H)[j]? = some o ∨ (killFrom g i 0 H)[j]? = some SObj.dead := fun j o hj => by
    by_cases hji : j = i
    · subst hji; exact .inl (killed_self hj)
    · cases o with
      | row l e sz g' =>
        by_cases hg : g' = g
        · subst hg; exact .inr (killed_dead hj hji)
        · exact .inl (killed_eq hj fun _ _ _ e' => hg (by cases e'; rfl))
      | _ => exact .inl (killed_eq hj fun _ _ _ e' => by cases e')
  refine ⟨h.below, h.fresh, fun j k q r hj hk hb => ?_, fun j q hj => ?_⟩
  · rcases h.inj j k q r hj hk hb with e | ⟨l, e, sz, l', e', sz', g', hh | hh | hh⟩
    · exact .inl e
    · rcases tell j _ hh.1 with h1 | h1
      · rcases tell k _ hh.2 with h2 | h2
        · exact .inr ⟨l, e, sz, l', e', sz', g', .inl ⟨h1, h2⟩⟩
        · exact .inr ⟨l, e, sz, l', e', sz', g', .inr (.inr h2)⟩
      · exact .inr ⟨l, e, sz, l', e', sz', g', .inr (.inl h1)⟩
    · rcases tell j _ hh with h1 | h1 <;> exact .inr ⟨l, e, sz, l', e', sz', g', .inr (.inl h1)⟩
    · rcases tell k _ hh with h1 | h1 <;> exact .inr ⟨l, e, sz, l', e', sz', g', .inr (.inr h1)⟩
  · obtain ⟨o, ob, h1, h2, h3⟩ := h.obj j q hj
    rcases tell j o h1 with h4 | h4
    · exact ⟨o, ob, h4, h2, h3⟩
    · exact ⟨.dead, ob, h4, h2, trivial⟩

theorem Rel.own_killed {w0 : World} {ρ : Ren} {H : SHeap} {w : World} (h : Rel w0 ρ H w) {i : Nat} {p : Loc} (hi : ρ i = some p) {l : List SVal} {e sz g : Nat} (h0 : H[i]? = some (.row l e sz g)) : Own ρ (killFrom g i 0 H) i p :=
  fun j q hj hb hne => by
    rcases h.inj j i q p hj hi hb with e | ⟨l, e, sz, l', e', sz', g', hh | hh | hh⟩
    · exact absurd e hne
    · rw [h0] at hh
      have := hh.2
      cases this
      exact killed_dead hh.1 hne
    · exact killed_eq hh fun _ _ _ e' => by cases e'
    · rw [h0] at hh; cases hh

 omit [Env] in
theorem Ext.kill {ρ : Ren} {H : SHeap} (g i : Nat) : Ext ρ H ρ (killFrom g i 0 H) := fun j _ => ⟨rfl, fun _ l e fz h => killed_eq h fun _ _ _ e' => by cases e'⟩

/-- The pure part of a Sem. -/
def pureRun {α : Type} (p : Program) : Sem α → Option α
  | .pure a => some a
  | .program k => pureRun p (k p)
  | .mark _ k => pureRun p k
  | _ => none

 omit [Env] in
theorem run_of_pure {α : Type} {p : Program} : ∀ {s : Sem α} {a : α}, pureRun p s = some a → ∀ w, s.run p w = .ok a w
  | .pure a, b, h, w => by simp [pureRun] at h; subst h; rfl
  | .program k, b, h, w => by simp only [pureRun] at h; simp only [Sem.run]; exact run_of_pure h w
  | .mark m k, b, h, w => by simp only [pureRun] at h; simp only [Sem.run]; exact run_of_pure h w
  | .load _ _ _, b, h, w => by simp [pureRun] at h
  | .store _ _ _ _, b, h, w => by simp [pureRun] at h
  | .new _ _, b, h, w => by simp [pureRun] at h
  | .shape _ _, b, h, w => by simp [pureRun] at h
  | .freeze _ _ _, b, h, w => by simp [pureRun] at h
  | .frozen _ _, b, h, w => by simp [pureRun] at h
  | .getObj _ _, b, h, w => by simp [pureRun] at h
  | .setObj _ _ _, b, h, w => by simp [pureRun] at h
  | .choose _ _, b, h, w => by simp [pureRun] at h
  | .sys _ _, b, h, w => by simp [pureRun] at h
  | .halt _, b, h, w => by simp [pureRun] at h

 omit [Env] in
/-- What is run behind a bind. -/
theorem run_bind {α β : Type} {p : Program} (k : α → Sem β) : ∀ (s : Sem α) (w : World), (s.bind k).run p w = match s.run p w with
    | .ok a w' => (k a).run p w'
    | .halt h w' => .halt h w' := by
  intro s
  induction s with
  | pure a => intro w; rfl
  | load m a k' ih =>
    intro w
    simp only [Sem.bind, Sem.run]
    split
    · exact ih _ _
    · split
      · exact ih _ _
      · rfl
  | store m a v k' ih =>
    intro w
    cases v <;> simp only [Sem.bind, Sem.run] <;> (repeat' split) <;> first | exact ih _ | rfl | simp_all
  | new o k' ih => intro w; simp only [Sem.bind, Sem.run]; exact ih _ _
  | shape r k' ih => intro w; simp only [Sem.bind, Sem.run]; exact ih _ _
  | freeze a n k' ih => intro w; simp only [Sem.bind, Sem.run]; exact ih _
  | frozen a k' ih => intro w; simp only [Sem.bind, Sem.run]; exact ih _ _
  | getObj r k' ih =>
    intro w
    simp only [Sem.bind, Sem.run]
    split <;> first | exact ih _ _ | rfl
  | setObj r o k' ih =>
    intro w
    simp only [Sem.bind, Sem.run]
    split <;> first | exact ih _ | rfl
  | choose q k' ih =>
    intro w
    simp only [Sem.bind, Sem.run]
    split <;> exact ih _ _
  | sys c k' ih => intro w; simp only [Sem.bind, Sem.run]; exact ih _ _
  | program k' ih => intro w; simp only [Sem.bind, Sem.run]; exact ih _ _
  | mark m k' ih => intro w; simp only [Sem.bind, Sem.run]; exact ih _
  | halt h => intro w; rfl

 omit [Env] in
theorem run_bind_ok {α β : Type} {p : Program} {k : α → Sem β} {s : Sem α} {w w' : World} {a : α} (h : s.run p w = .ok a w') : (s >>= k).run p w = (k a).run p w' := by
  show (s.bind k).run p w = _
  rw [run_bind, h]

 omit [Env] in
theorem run_bind_pure {α β : Type} {p : Program} {k : α → Sem β} {s : Sem α} {w : World} {a : α} (h : pureRun p s = some a) : (s >>= k).run p w = (k a).run p w :=
  run_bind_ok (run_of_pure h w)

end
end Go.RX

namespace Go.RX
noncomputable section
open Go.RowKit (Below)

variable [Env]

def getSImpl (l : List SVal) (k : Nat) : SVal := l.getD k (.v undef)
/-- What stands at a place of a row: by the recursors themselves, for the kernel's sake. -/
def getS (l : List SVal) : Nat → SVal :=
  List.rec (motive := fun _ => Nat → SVal) (fun _ => .v undef) (fun x _ ih k => Nat.rec (motive := fun _ => SVal) x (fun k' _ => ih k') k) l
 omit [Env] in
theorem getS_eq : ∀ (l : List SVal) (k : Nat), getS l k = l.getD k (.v undef)
  | [], _ => rfl
  | _ :: _, 0 => rfl
  | _ :: xs, k + 1 => getS_eq xs k

def setSImpl (l : List SVal) (k : Nat) (y : SVal) : List SVal := l.set k y
def setS (l : List SVal) (k : Nat) (y : SVal) : List SVal :=
  List.rec (motive := fun _ => Nat → List SVal) (fun _ => []) (fun x xs ih k => Nat.rec (motive := fun _ => List SVal) (y :: xs) (fun k' _ => x :: ih k') k) l k
 omit [Env] in
theorem setS_eq : ∀ (l : List SVal) (k : Nat) (y : SVal), setS l k y = l.set k y
  | [], _, _ => rfl
  | _ :: _, 0, _ => rfl
  | x :: xs, k + 1, y => by
    show x :: setS xs k y = _
    rw [setS_eq xs k y]
    rfl

def seval (t : List SVal) : Operand → SVal
  | .tmp k => getS t k
  | .const v => .v v
  | .global g => .v (.pointer (some ⟨g, 0, none⟩))
  | .func f => .v (.func (.func f) #[] #[])

theorem den_seval {ρ : Ren} {t : List SVal} {a : Act} (h : denL ρ t = some a.tmps.toList) (x : Operand) : den ρ (seval t x) = some (a.eval x) := by
  cases x with
  | tmp k =>
    simp only [seval, Act.eval, getS_eq, List.getD_eq_getElem?_getD]
    cases hk : t[k]? with
    | none =>
      have hl := denL_length h
      have : a.tmps.size ≤ k := by
        have := List.getElem?_eq_none_iff.1 hk
        simp at hl
        omega
      simp [den, Array.getD, Nat.not_lt.2 this]
    | some y =>
      obtain ⟨z, hz, hd⟩ := denL_get h k y hk
      simp only [Option.getD_some]
      rw [hd]
      have hlt : k < a.tmps.size := by
        have := (List.getElem?_eq_some_iff.1 hz).1
        simpa using this
      have : a.tmps[k] = z := by
        have := (List.getElem?_eq_some_iff.1 hz).2
        simpa using this
      simp [Array.getD, hlt, this]
  | const v => rfl
  | global g => rfl
  | func f => rfl

inductive Res where
  | val (x : SVal) (H : SHeap)
  | skip (H : SHeap)
  | call (f : FuncId) (args : List SVal)
  | yld (i : Nat) (args : List SVal)
  deriving Inhabited

/-- What a call of yield answers: the next round of its loop. -/
def YldRes (ρ : Ren) (w : World) (i : Nat) (args : List SVal) (run : Result Next) : Prop :=
  ∃ (p : Loc) (vs : Array Value), ρ i = some p ∧ denL ρ args = some vs.toList ∧ ∀ r : Loop, w.heap[p.b]? = some (.loop r) → vs.size = r.params.size →
    run = .ok (.round p.b r.fn ((r.params.zip vs).foldl (fun tmps (t, a) => tmps.setIfInBounds t a) r.tmps) r.assign r.body) w

/-- What the machine's answer has to be. -/
def ResOk (w0 : World) (H : SHeap) (ρ : Ren) (w : World) (r : Res) (run : Result Next) : Prop :=
  match r with
  | .val x H' => ∃ ρ' v w', run = .ok (.value v) w' ∧ Ext ρ H ρ' H' ∧ den ρ' x = some v ∧ Rel w0 ρ' H' w'
  | .skip H' => ∃ ρ' w', run = .ok .skip w' ∧ Ext ρ H ρ' H' ∧ Rel w0 ρ' H' w'
  | .call f args => ∃ vs : Array Value, run = .ok (.enter f vs) w ∧ denL ρ args = some vs.toList
  | .yld i args => YldRes ρ w i args run

/-- A Sem that hands back one value. -/
def SemOk (w0 : World) (H : SHeap) (ρ : Ren) (x : SVal) (H' : SHeap) (run : Result Value) : Prop :=
  ∃ ρ' v w', run = .ok v w' ∧ Ext ρ H ρ' H' ∧ den ρ' x = some v ∧ Rel w0 ρ' H' w'

theorem ResOk.of_sem {w0 : World} {H : SHeap} {ρ : Ren} {w : World} {x : SVal} {H' : SHeap} {P : Program} {s : Sem Value} (h : SemOk w0 H ρ x H' (s.run P w)) :
    ResOk w0 H ρ w (.val x H') ((do pure (Next.value (← s)) : Sem Next).run P w) := by
  obtain ⟨ρ', v, w', h1, h2, h3, h4⟩ := h
  exact ⟨ρ', v, w', by rw [run_bind_ok h1]; rfl, h2, h3, h4⟩

def vEval (t : List SVal) (x : Operand) : Value := (vOf (seval t x)).getD undef

def notSelect : Op → Bool
  | .select _ _ => false
  | _ => true

inductive PRes where
  | val (x : SVal)
  | skip
  | call (f : FuncId) (args : List SVal)
  | yld (i : Nat) (args : List SVal)
  deriving Inhabited

def PRes.on (H : SHeap) : PRes → Res
  | .val x => .val x H
  | .skip => .skip H
  | .call f args => .call f args
  | .yld i args => .yld i args

/-- What the machine's answer has to be, at an operation that does not look at the heap. -/
def PResOk (ρ : Ren) (w : World) (r : PRes) (run : Result Next) : Prop :=
  match r with
  | .val x => ∃ v, run = .ok (.value v) w ∧ den ρ x = some v
  | .skip => run = .ok .skip w
  | .call f args => ∃ vs : Array Value, run = .ok (.enter f vs) w ∧ denL ρ args = some vs.toList
  | .yld i args => YldRes ρ w i args run

theorem PResOk.on {w0 : World} {H : SHeap} {ρ : Ren} {w : World} {r : PRes} {run : Result Next} (hR : Rel w0 ρ H w) (h : PResOk ρ w r run) : ResOk w0 H ρ w (r.on H) run := by
  cases r with
  | val x => obtain ⟨v, h1, h2⟩ := h; exact ⟨ρ, v, w, h1, Ext.refl _ _, h2, hR⟩
  | skip => exact ⟨ρ, w, h, Ext.refl _ _, hR⟩
  | call f args => exact h
  | yld i args => exact h

def PSemOk (ρ : Ren) (x : SVal) (w : World) (run : Result Value) : Prop := ∃ v, run = .ok v w ∧ den ρ x = some v

theorem PResOk.of_sem {ρ : Ren} {w : World} {x : SVal} {P : Program} {s : Sem Value} (h : PSemOk ρ x w (s.run P w)) :
    PResOk ρ w (.val x) ((do pure (Next.value (← s)) : Sem Next).run P w) := by
  obtain ⟨v, h1, h2⟩ := h
  exact ⟨v, by rw [run_bind_ok h1]; rfl, h2⟩

def pureOp (P : Program) (t : List SVal) (o : Oper) : Option PRes :=
  if o.op.operands.toList.all (fun x => (vOf (seval t x)).isSome) && notSelect o.op then
    match pureRun P (execOp (vEval t) o) with
    | some (.value x) => some (.val (.v x))
    | some .skip => some .skip
    | some (.enter f args) => some (.call f (args.toList.map .v))
    | _ => none
  else none

section
variable {P : Program} {w0 w : World} {ρ : Ren} {H : SHeap} {t : List SVal} {a : Act} {o : Oper}

theorem pureOp_ok (ht : denL ρ t = some a.tmps.toList) {r : PRes} (h : pureOp P t o = some r) : PResOk ρ w r ((execOp a.eval o).run P w) := by
  unfold pureOp at h
  split at h
  case isFalse => cases h
  case isTrue hc =>
    simp only [Bool.and_eq_true, List.all_eq_true] at hc
    obtain ⟨hall, hns⟩ := hc
    have he : execOp a.eval o = execOp (vEval t) o := by
      refine execOp_congr o (fun cs b e => by rw [e] at hns; cases hns) fun x hx => ?_
      have hx' := hall x (by simpa using hx)
      obtain ⟨v, hv⟩ := Option.isSome_iff_exists.1 hx'
      have h1 := den_of_vOf (ρ := ρ) _ hv
      rw [den_seval ht] at h1
      simp only [vEval, hv, Option.getD_some]
      exact Option.some.inj h1
    rw [he]
    split at h
    · rename_i x hp
      cases h
      exact ⟨x, run_of_pure hp w, by simp [den]⟩
    · rename_i hp
      cases h
      exact run_of_pure hp w
    · rename_i f args hp
      cases h
      exact ⟨args, run_of_pure hp w, denL_map_v _⟩
    · cases h

/-! ### Cells -/
def scells : SVal → List SVal
  | .agg l => l
  | .v (.agg cs) => cs.toList.map .v
  | x => [x]

theorem den_scells {x : SVal} {v : Value} (h : den ρ x = some v) : denL ρ (scells x) = some v.cells.toList := by
  cases x with
  | agg l =>
    simp only [den] at h
    cases hl : denL ρ l with
    | none => simp [hl] at h
    | some vs => simp only [hl, Option.some.injEq] at h; subst h; simpa [scells, Value.cells] using hl
  | v y =>
    simp only [den, Option.some.injEq] at h
    subst h
    cases y <;> simp [scells, Value.cells, denL, den, denL_map_v]
  | ptr i off =>
    simp only [den] at h
    split at h <;> simp at h
    subst h
    rename_i b hb
    simp [scells, Value.cells, denL, den, hb]
  | slice i off len cap =>
    simp only [den] at h
    split at h <;> simp at h
    subst h
    rename_i b hb
    simp [scells, Value.cells, denL, den, hb]
  | row i off eoff len =>
    have h' := h
    simp only [den] at h
    split at h
    · split at h <;> simp at h
      subst h
      simp [scells, Value.cells, denL, h']
    · cases h
  | tail i alt off eoff =>
    have h' := h
    simp only [den] at h
    split at h
    · split at h <;> simp at h
      subst h
      simp [scells, Value.cells, denL, h']
    · cases h
  | tuple l =>
    simp only [den] at h
    split at h <;> simp at h
    subst h
    rename_i b hb
    simp [scells, Value.cells, denL, den, hb]
  | func fn f c =>
    simp only [den] at h
    split at h <;> simp at h
    subst h
    rename_i b d hb hd
    simp [scells, Value.cells, denL, den, hb, hd]
  | iface ty y =>
    simp only [den] at h
    split at h <;> simp at h
    subst h
    rename_i b hb
    simp [scells, Value.cells, denL, den, hb]
  | yield i => simp only [den] at h; split at h <;> simp at h; subst h; rename_i b hb; simp [scells, Value.cells, denL, den, hb]
  | map i => simp only [den] at h; split at h <;> simp at h; subst h; rename_i b hb; simp [scells, Value.cells, denL, den, hb]
  | sym i =>
    simp only [den, Option.some.injEq] at h
    subst h
    have := Env.flat i
    have hc : (Env.val i).cells = #[Env.val i] := by
      unfold Value.cells
      split
      · rename_i heq; rw [heq] at this; exact this.elim
      · rfl
    rw [hc]
    simp [scells, denL, den]

def mkAgg (l : List SVal) : SVal :=
  match vOfL l with
  | some vs => .v (.agg vs.toArray)
  | none => .agg l

theorem den_mkAgg {l : List SVal} {vs : List Value} (h : denL ρ l = some vs) : den ρ (mkAgg l) = some (.agg vs.toArray) := by
  unfold mkAgg
  split
  · rename_i us hu
    have := denL_of_vOfL (ρ := ρ) l hu
    rw [h] at this
    simp only [Option.some.injEq] at this
    simp [den, this]
  · simp [den, h]

def mkTuple (l : List SVal) : SVal :=
  match vOfL l with
  | some vs => .v (.tuple vs.toArray)
  | none => .tuple l

theorem den_mkTuple {l : List SVal} {vs : List Value} (h : denL ρ l = some vs) : den ρ (mkTuple l) = some (.tuple vs.toArray) := by
  unfold mkTuple
  split
  · rename_i us hu
    have := denL_of_vOfL (ρ := ρ) l hu
    rw [h] at this
    simp only [Option.some.injEq] at this
    simp [den, this]
  · simp [den, h]

/-- What is known of package-level variables: the cells of a variable's block. -/
abbrev Glob := Nat → Option (List Value)
def Glob.holds (G : Glob) (w : World) : Prop := ∀ g l, G g = some l → ∀ k v, l[k]? = some v → w.cell? ⟨g, k, none⟩ = some v

 omit [Env] in
theorem Glob.holds.later {G : Glob} {w0 w : World} (h : G.holds w0) (hb : Below w0.heap.size w0 w) : G.holds w := by
  intro g l hg k v hk
  have h1 := h g l hg k v hk
  have hlt : g < w0.heap.size := by
    unfold World.cell? at h1
    rcases Nat.lt_or_ge g w0.heap.size with h' | h'
    · exact h'
    · simp [Array.getElem?_eq_none h'] at h1
  rw [hb.cell (p := ⟨g, k, none⟩) hlt]
  exact h1

/-- The cells from an address on. -/
def cellsFrom (G : Glob) (H : SHeap) : SVal → Option (List SVal)
  | .ptr i off => match H[i]? with
    | some (.cells l _ _) => some (l.drop off)
    | some (.row l _ _ _) => some (l.drop off)
    | _ => none
  | .v (.pointer (some ⟨g, off, none⟩)) => match G g with
    | some l => some ((l.drop off).map .v)
    | none => none
  | .sym s => match Env.ro s with
    | some (x :: xs) => some (x :: xs)
    | _ => none
  | _ => none

/-- The cells of a named block: those that are known, and what lies behind them. -/
theorem Rel.cells {i : Nat} {p : Loc} (hR : Rel w0 ρ H w) (hi : ρ i = some p) {o : SObj} (hH : H[i]? = some o) {l : List SVal} {e : TypeId} (ho : (∃ fz, o = .cells l e fz) ∨ ∃ sz g, o = .row l e sz g) :
    ∃ (vs rest : List Value) (fz : Nat × Nat), denL ρ l = some vs ∧ w.heap[p.b]? = some (.cells (vs ++ rest).toArray e fz) := by
  obtain ⟨o', ob, h1, h2, h3⟩ := hR.obj i p hi
  rw [hH] at h1
  cases h1
  rcases ho with ⟨fz, rfl⟩ | ⟨sz, g, rfl⟩
  · obtain ⟨vs, h4, rfl⟩ := h3
    exact ⟨vs, [], fz, h4, by simpa using h2⟩
  · obtain ⟨vs, h4, rest, fz, rfl, _⟩ := h3
    exact ⟨vs, rest, fz, h4, h2⟩

 omit [Env] in
theorem cell_known {b : Nat} {vs rest : List Value} {e : TypeId} {fz : Nat × Nat} (h : w.heap[b]? = some (.cells (vs ++ rest).toArray e fz)) {k : Nat} {u : Value} (hk : vs[k]? = some u) :
    w.cell? ⟨b, k, none⟩ = some u := by
  have hlt := (List.getElem?_eq_some_iff.1 hk).1
  simp only [World.cell?, h]
  simp [List.getElem?_append_left hlt, hk]

/-- The cells from an address on are there. -/
theorem cellsFrom_ok {G : Glob} (hG : G.holds w0) (hR : Rel w0 ρ H w) {x : SVal} {v : Value} (hx : den ρ x = some v) {l : List SVal} (hl : cellsFrom G H x = some l) :
    ∃ (a : Addr) (vs : List Value), v = .pointer (some a) ∧ a.spot = none ∧ denL ρ l = some vs ∧ ∀ k u, vs[k]? = some u → w.cell? { a with off := a.off + k } = some u := by
  unfold cellsFrom at hl
  split at hl
  · rename_i i off
    simp only [den] at hx
    split at hx <;> simp at hx
    rename_i p hb
    subst hx
    have fin : ∀ {o : SObj} {l' : List SVal} {e : TypeId}, H[i]? = some o → ((∃ fz, o = .cells l' e fz) ∨ ∃ sz g, o = .row l' e sz g) → l = l'.drop off →
        ∃ (a : Addr) (vs : List Value), Value.pointer (some ⟨p.b, off, none⟩) = .pointer (some a) ∧ a.spot = none ∧ denL ρ l = some vs ∧ ∀ k u, vs[k]? = some u → w.cell? { a with off := a.off + k } = some u := by
      intro o l' e hH ho hl'
      obtain ⟨vs, rest, fz, h1, h2⟩ := hR.cells hb hH ho
      refine ⟨⟨p.b, off, none⟩, vs.drop off, rfl, rfl, by rw [hl']; exact denL_drop off h1, fun k u hk => cell_known h2 (by simpa using hk)⟩
    split at hl
    · rename_i l' e fz hH
      exact fin hH (.inl ⟨fz, rfl⟩) (Option.some.inj hl).symm
    · rename_i l' e sz g hH
      exact fin hH (.inr ⟨sz, g, rfl⟩) (Option.some.inj hl).symm
    · cases hl
  · rename_i g off
    split at hl <;> simp at hl
    rename_i l' hg
    subst hl
    simp only [den, Option.some.injEq] at hx
    subst hx
    refine ⟨⟨g, off, none⟩, l'.drop off, rfl, rfl, by rw [← List.map_drop]; exact denL_map_v _, fun k u hk => ?_⟩
    exact (hG.later hR.below) g l' hg (off + k) u (by simpa using hk)
  · rename_i s
    split at hl
    case h_2 => cases hl
    rename_i y ys hro
    cases hl
    obtain ⟨a, h1, h2⟩ := hR.below.here.ro s _ hro
    have hne : y :: ys ≠ [] := fun e => by cases e
    obtain ⟨vs, h3, h4⟩ := h2.cells
    simp only [den, Option.some.injEq] at hx
    refine ⟨a, vs, by rw [← hx, h1], h2.plain hne, h3 ρ, fun k u hk => ?_⟩
    have := h4 k u hk
    obtain ⟨ab, ao, as⟩ := a
    have hs : as = none := h2.plain hne
    subst hs
    exact this
  · cases hl

 omit [Env] in
theorem addr_add (a : Addr) (n : Nat) (h : a.spot = none) : a.add n = { a with off := a.off + n } := by
  unfold Addr.add
  split
  · subst n; rfl
  · cases a; simp_all

 omit [Env] in
theorem loadCellsFrom_ok (a : Addr) (hs : a.spot = none) : ∀ (n i : Nat) (acc : Array Value) (vs : List Value), vs.length = n →
    (∀ k u, vs[k]? = some u → w.cell? { a with off := a.off + (i + k) } = some u) →
    (loadCellsFrom a i n acc).run P w = .ok (acc ++ vs.toArray) w
  | 0, i, acc, vs, hl, _ => by
    have : vs = [] := by simpa using hl
    subst this
    simp [loadCellsFrom, pure]
  | n + 1, i, acc, vs, hl, h => by
    cases vs with
    | nil => simp at hl
    | cons v vs =>
      have h0 := h 0 v (by simp)
      rw [loadCellsFrom]
      rw [run_bind_ok (a := v) (w' := w) (by
        simp only [load, Sem.run]
        rw [addr_add a i hs]
        simp only [Nat.add_zero] at h0
        rw [h0])]
      have := loadCellsFrom_ok a hs n (i + 1) (acc.push v) vs (by simpa using hl) (fun k u hk => by
        have := h (k + 1) u (by simpa using hk)
        rw [show i + 1 + k = i + (k + 1) by omega]
        exact this)
      rw [this]
      simp

 omit [Env] in
theorem loadCells_ok (a : Addr) (hs : a.spot = none) (n : Nat) (vs : List Value) (hl : vs.length = n)
    (h : ∀ k u, vs[k]? = some u → w.cell? { a with off := a.off + k } = some u) : (loadCells a n).run P w = .ok vs.toArray w := by
  unfold loadCells
  rw [loadCellsFrom_ok a hs n 0 #[] vs hl (fun k u hk => by rw [Nat.zero_add]; exact h k u hk)]
  simp

def loadE (P : Program) (G : Glob) (H : SHeap) (t : TypeId) (x : SVal) : Option SVal :=
  match cellsFrom G H x with
  | none => none
  | some l => match pureRun P (isAgg t) with
    | some false => match l with
      | [] => none
      | y :: _ => some y
    | some true => match pureRun P (sizeOf t) with
      | none => none
      | some n => if (l.take n).length = n then some (mkAgg (l.take n)) else none
    | none => none

theorem loadVar_ok {G : Glob} (hG : G.holds w0) (hR : Rel w0 ρ H w) {ty : TypeId} {x y : SVal} {v : Value} (hx : den ρ x = some v) (h : loadE P G H ty x = some y) :
    ∃ a u, v = .pointer (some a) ∧ (loadVar ty a).run P w = .ok u w ∧ den ρ y = some u := by
  unfold loadE at h
  split at h
  · cases h
  rename_i l hl
  obtain ⟨a, vs, rfl, hs, hd, hc⟩ := cellsFrom_ok hG hR hx hl
  refine ⟨a, ?_⟩
  unfold loadVar
  split at h
  · rename_i hag
    split at h
    · cases h
    rename_i y' l'
    simp only [Option.some.injEq] at h
    subst h
    obtain ⟨u, us, hu, _, rfl⟩ := denL_cons.1 hd
    refine ⟨u, rfl, ?_, hu⟩
    rw [run_bind_pure hag]
    have := hc 0 u (by simp)
    simp only [Nat.add_zero] at this
    simp [load, Sem.run, this]
  · rename_i hag
    split at h
    · cases h
    rename_i n hn
    split at h
    case isFalse => cases h
    rename_i hlen
    simp only [Option.some.injEq] at h
    subst h
    have hd' := denL_take n hd
    refine ⟨.agg (vs.take n).toArray, rfl, ?_, den_mkAgg hd'⟩
    rw [run_bind_pure hag]
    simp only [if_true]
    rw [run_bind_pure hn]
    rw [run_bind_ok (loadCells_ok a hs n (vs.take n) (by rw [denL_length hd']; exact hlen) (fun k u hk => hc k u (by
      rw [List.getElem?_take] at hk
      split at hk
      · exact hk
      · cases hk)))]
    rfl
  · cases h

theorem load_ok {G : Glob} (hG : G.holds w0) (hR : Rel w0 ρ H w) {ty : TypeId} {x y : SVal} {v : Value} (hx : den ρ x = some v) (h : loadE P G H ty x = some y) :
    SemOk w0 H ρ y H ((Instr.loadAt ty v).run P w) := by
  obtain ⟨a, u, rfl, h1, h2⟩ := loadVar_ok hG hR hx h
  refine ⟨ρ, u, w, ?_, Ext.refl _ _, h2, hR⟩
  unfold Instr.loadAt Instr.sureAddr
  exact h1

/-! ### A new row -/
theorem newRow_ok (hR : Rel w0 ρ H w) {l : List SVal} {vs : List Value} (hl : denL ρ l = some vs) (e : TypeId) :
    (newRow e vs.toArray).run P w = .ok ⟨w.heap.size, 0, none⟩ { w with heap := w.heap.push (.cells vs.toArray e (0, 0)) } ∧
    Ext ρ H (ρ.with H.length ⟨w.heap.size, 0⟩) (H ++ [.cells l e (0, 0)]) ∧ (ρ.with H.length ⟨w.heap.size, 0⟩) H.length = some ⟨w.heap.size, 0⟩ ∧
    Rel w0 (ρ.with H.length ⟨w.heap.size, 0⟩) (H ++ [.cells l e (0, 0)]) { w with heap := w.heap.push (.cells vs.toArray e (0, 0)) } := by
  refine ⟨rfl, Ext.push _ _ _ _, by simp [Ren.with], hR.push ⟨vs, hl, rfl⟩⟩

def allocE (P : Program) (H : SHeap) (e : TypeId) : Option Res :=
  match pureRun P (zeroValue e) with
  | some z => some (.val (.ptr H.length 0) (H ++ [.cells (z.cells.toList.map .v) e (0, 0)]))
  | none => none

theorem newVar_ok (hR : Rel w0 ρ H w) {x : SVal} {v : Value} (hx : den ρ x = some v) (e : TypeId) :
    SemOk w0 H ρ (.ptr H.length 0) (H ++ [.cells (scells x) e (0, 0)]) ((do pure (.pointer (some (← newVar e v))) : Sem Value).run P w) := by
  obtain ⟨h1, h2, h3, h4⟩ := newRow_ok (P := P) hR (den_scells hx) e
  refine ⟨_, .pointer (some ⟨w.heap.size, 0, none⟩), _, ?_, h2, by simp only [den, h3], h4⟩
  unfold newVar
  rw [run_bind_ok (a := (⟨w.heap.size, 0, none⟩ : Addr)) (by rw [Array.toArray_toList] at h1; exact h1)]
  simp only [Array.toArray_toList]
  rfl

theorem alloc_ok (hR : Rel w0 ρ H w) {e : TypeId} {r : Res} (h : allocE P H e = some r) : ∃ x H', r = .val x H' ∧ SemOk w0 H ρ x H' ((Instr.alloc e true (.tuple #[])).run P w) := by
  unfold allocE at h
  split at h
  · rename_i z hz
    cases h
    refine ⟨_, _, rfl, ?_⟩
    have := newVar_ok (P := P) hR (x := .v z) (v := z) (by simp [den]) e
    have e1 : scells (.v z) = z.cells.toList.map .v := by cases z <;> simp [scells, Value.cells]
    rw [e1] at this
    unfold Instr.alloc
    rw [run_bind_pure hz]
    exact this
  · cases h

/-! ### A store -/
def oneV : Value → Bool
  | .agg _ | .tuple _ => false
  | _ => true

def sOne : SVal → Bool
  | .v x => oneV x
  | .agg _ | .tuple _ => false
  | _ => true

theorem oneCell_of_sOne {x : SVal} {v : Value} (hx : den ρ x = some v) (h : sOne x = true) : oneV v = true := by
  cases x with
  | v y => simp only [den, Option.some.injEq] at hx; subst hx; exact h
  | agg l => cases h
  | tuple l => cases h
  | ptr i off => simp only [den] at hx; split at hx <;> simp at hx; subst hx; rfl
  | slice i off len cap => simp only [den] at hx; split at hx <;> simp at hx; subst hx; rfl
  | row i off eoff len =>
    simp only [den] at hx
    split at hx
    · split at hx <;> simp at hx
      subst hx; rfl
    · cases hx
  | tail i alt off eoff =>
    simp only [den] at hx
    split at hx
    · split at hx <;> simp at hx
      subst hx; rfl
    · cases hx
  | func fn f c => simp only [den] at hx; split at hx <;> simp at hx; subst hx; rfl
  | iface ty y => simp only [den] at hx; split at hx <;> simp at hx; subst hx; rfl
  | yield i => simp only [den] at hx; split at hx <;> simp at hx; subst hx; rfl
  | map i => simp only [den] at hx; split at hx <;> simp at hx; subst hx; rfl
  | sym i =>
    simp only [den, Option.some.injEq] at hx
    subst hx
    have := Env.flat i
    unfold oneV
    split
    · rename_i heq; rw [heq] at this; exact this.elim
    · rename_i heq; rw [heq] at this; exact this.elim
    · rfl

def setMany (l : List SVal) (off : Nat) : List SVal → List SVal
  | [] => l
  | x :: xs => setMany (l.set off x) (off + 1) xs

 omit [Env] in
theorem setMany_length : ∀ (xs : List SVal) (l : List SVal) (off : Nat), (setMany l off xs).length = l.length
  | [], l, off => rfl
  | x :: xs, l, off => by rw [setMany, setMany_length]; simp

/-- The two makes of a row of cells that may be written. -/
inductive RowMk (e : TypeId) : (List SVal → SObj) → Prop where
  | cells : RowMk e (fun l => .cells l e (0, 0))
  | row (sz g : Nat) : RowMk e (fun l => .row l e sz g)

theorem RowMk.open {e : TypeId} {mk : List SVal → SObj} (h : RowMk e mk) {p : Loc} {l : List SVal} {ob : Obj} (ho : ObjRel ρ p (mk l) ob) :
    ∃ (vs rest : List Value) (fz : Nat × Nat), denL ρ l = some vs ∧ ob = .cells (vs ++ rest).toArray e fz ∧ (∀ k, k < vs.length → (decide (fz.1 ≤ k) && decide (k < fz.2)) = false) ∧
      ∀ vs' l', vs'.length = vs.length → denL ρ l' = some vs' → ObjRel ρ p (mk l') (.cells (vs' ++ rest).toArray e fz) := by
  cases h with
  | cells =>
    obtain ⟨vs, h1, rfl⟩ := ho
    exact ⟨vs, [], (0, 0), h1, by simp, fun k _ => by simp, fun vs' l' _ hd => ⟨vs', hd, by simp⟩⟩
  | row sz g =>
    obtain ⟨vs, h1, rest, fz, rfl, h3, h4⟩ := ho
    refine ⟨vs, rest, fz, h1, rfl, fun k hk => h4 k (by simp; omega), fun vs' l' hl hd => ⟨vs', hd, rest, fz, rfl, ?_, ?_⟩⟩
    · simp only [List.length_append] at h3 ⊢; rw [hl]; exact h3
    · intro k hk; exact h4 k (by simp only [List.length_append] at hk ⊢; rw [← hl]; exact hk)

theorem store1_ok (hR : Rel w0 ρ H w) {i : Nat} {p : Loc} {off : Nat} (hi : ρ i = some p) (hown : Own ρ H i p) {l : List SVal} {e : TypeId} {mk : List SVal → SObj} (hmk : RowMk e mk) (hH : H[i]? = some (mk l)) (hoff : off < l.length) {x : SVal} {v : Value}
    (hx : den ρ x = some v) (h1 : sOne x = true) (m : Mode) (k : Sem Unit) :
    ∃ w', Rel w0 ρ (H.set i (mk (l.set off x))) w' ∧ (Sem.store m ⟨p.b, off, none⟩ v k).run P w = k.run P w' := by
  obtain ⟨o', ob, g1, g2, g3⟩ := hR.obj i p hi
  rw [hH] at g1
  cases g1
  obtain ⟨vs, rest, fz, hvs, rfl, hfr, hshut⟩ := hmk.open g3
  have hlen := denL_length hvs
  have hoff' : off < vs.length := by omega
  have hcell : w.cell? ⟨p.b, off, none⟩ = some (vs[off]'hoff') := cell_known g2 (by simp [hoff'])
  have hfz : w.frozen? ⟨p.b, off, none⟩ = false := by
    simp only [World.frozen?, g2]
    exact hfr off hoff'
  refine ⟨w.setCell ⟨p.b, off, none⟩ v, ?_, ?_⟩
  · have hsize : (w.setCell ⟨p.b, off, none⟩ v).heap.size = w.heap.size := by simp [World.setCell]
    refine hR.setObj hi hown (ob := .cells (vs.set off v ++ rest).toArray e fz) (hshut _ _ (by simp) (denL_set hx hvs off)) rfl rfl rfl hsize ?_ ?_
    · intro k hk
      exact Below.heap_setCell _ _ _ _ hk
    · simp only [World.setCell, Array.getElem?_modify, if_true, g2]
      simp [List.set_append_left _ _ hoff']
  · have ho := oneCell_of_sOne hx h1
    cases v <;> first | (simp [oneV] at ho; done) | (simp only [Sem.run, hcell, hfz]; rfl)

theorem storeCells_ok : ∀ (xs : List SVal) (vs : List Value) {H : SHeap} {w : World} (_ : Rel w0 ρ H w) {i : Nat} {p : Loc} {off j : Nat} (_ : ρ i = some p) (_ : Own ρ H i p) {l : List SVal} {e : TypeId} {mk : List SVal → SObj} (_ : RowMk e mk) (_ : H[i]? = some (mk l))
    (_ : off + j + xs.length ≤ l.length) (_ : denL ρ xs = some vs) (_ : xs.all sOne = true),
    ∃ w', Rel w0 ρ (H.set i (mk (setMany l (off + j) xs))) w' ∧ (storeCells ⟨p.b, off, none⟩ vs j).run P w = .ok () w'
  | [], vs, H, w, hR, i, p, off, j, hi, hown, l, e, mk, hmk, hH, hlen, hd, hall => by
    simp [denL] at hd
    subst hd
    refine ⟨w, ?_, rfl⟩
    have : H.set i (mk l) = H := by
      apply List.ext_getElem?
      intro k
      by_cases hk : k = i
      · subst hk
        rw [hH, List.getElem?_set_self (List.getElem?_eq_some_iff.1 hH).1]
      · rw [List.getElem?_set_ne (Ne.symm hk)]
    simp only [setMany]
    rw [this]
    exact hR
  | x :: xs, vs, H, w, hR, i, p, off, j, hi, hown, l, e, mk, hmk, hH, hlen, hd, hall => by
    obtain ⟨u, us, hu, hus, rfl⟩ := denL_cons.1 hd
    simp only [List.all_cons, Bool.and_eq_true] at hall
    simp only [List.length_cons] at hlen
    obtain ⟨w1, hR1, hrun⟩ := store1_ok (P := P) hR hi hown hmk hH (off := off + j) (by omega) hu hall.1 .plain (storeCells ⟨p.b, off, none⟩ us (j + 1))
    have hlt : i < H.length := (List.getElem?_eq_some_iff.1 hH).1
    obtain ⟨w2, hR2, hrun2⟩ := storeCells_ok xs us hR1 (off := off) (j := j + 1) hi (hown.set _) (l := l.set (off + j) x) hmk (by rw [List.getElem?_set_self hlt]) (by simp; omega) hus hall.2
    refine ⟨w2, ?_, ?_⟩
    · rw [List.set_set] at hR2
      simp only [setMany]
      rw [show off + j + 1 = off + (j + 1) by omega]
      exact hR2
    · rw [storeCells]
      show ((Sem.store .plain _ u (.pure ())).bind _).run P w = _
      rw [show (Addr.add ⟨p.b, off, none⟩ j) = ⟨p.b, off + j, none⟩ from addr_add _ _ rfl]
      simp only [Sem.bind]
      rw [hrun]
      exact hrun2

/-- Cells written from an offset on; where rows may share the block, the others are forgotten. -/
def writeE (H : SHeap) (i off : Nat) (xs : List SVal) : Option SHeap :=
  if xs.all sOne then
    match H[i]? with
    | some (.cells l e (0, 0)) => if off + xs.length ≤ l.length then some (H.set i (.cells (setMany l off xs) e (0, 0))) else none
    | some (.row l e sz g) => if off + xs.length ≤ l.length then some ((killFrom g i 0 H).set i (.row (setMany l off xs) e sz g)) else none
    | _ => none
  else none

 omit [Env] in
theorem writeE_len {i off : Nat} {xs : List SVal} {H' : SHeap} (h : writeE H i off xs = some H') : H'.length = H.length := by
  unfold writeE at h
  repeat' (split at h)
  all_goals first | (cases h; simp [killFrom_len]; done) | cases h

theorem writeE_ok (hR : Rel w0 ρ H w) {i : Nat} {p : Loc} (hi : ρ i = some p) {off : Nat} {xs : List SVal} {vs : List Value} (hxs : denL ρ xs = some vs) {H' : SHeap} (h : writeE H i off xs = some H') :
    ∃ w', Ext ρ H ρ H' ∧ Rel w0 ρ H' w' ∧ (storeCells ⟨p.b, off, none⟩ vs).run P w = .ok () w' := by
  unfold writeE at h
  split at h
  case isFalse => cases h
  rename_i hall
  split at h
  · rename_i l e hH
    split at h
    case isFalse => cases h
    rename_i hoff
    cases h
    obtain ⟨w', h1, h2⟩ := storeCells_ok (P := P) xs vs hR (off := off) (j := 0) hi (hR.own hi hH (fun _ _ _ _ e => by cases e) (fun e => by cases e)) .cells hH (by omega) hxs hall
    exact ⟨w', Ext.set hi _, h1, h2⟩
  · rename_i l e sz g hH
    split at h
    case isFalse => cases h
    rename_i hoff
    cases h
    obtain ⟨w', h1, h2⟩ := storeCells_ok (P := P) xs vs (hR.kill g i) (off := off) (j := 0) hi (hR.own_killed hi hH) (.row sz g) (killed_self hH) (by omega) hxs hall
    exact ⟨w', (Ext.kill g i).trans (Ext.set hi _) (by rw [killFrom_len]; exact Nat.le_refl _), h1, h2⟩
  · cases h

def storeE (P : Program) (H : SHeap) (ty : TypeId) (p x : SVal) : Option SHeap :=
  match p with
  | .ptr i off => match pureRun P (sizeOf ty) with
    | some n =>
      let xs := scells x
      if xs.length = n then writeE H i off xs else none
    | none => none
  | _ => none

theorem store_ok (hR : Rel w0 ρ H w) {ty : TypeId} {p x : SVal} {pv v : Value} (hp : den ρ p = some pv) (hx : den ρ x = some v) {H' : SHeap} (h : storeE P H ty p x = some H') :
    ∃ w', Ext ρ H ρ H' ∧ Rel w0 ρ H' w' ∧ (Instr.storeAt ty pv v).run P w = .ok () w' := by
  unfold storeE at h
  split at h
  case h_2 => cases h
  rename_i i off
  split at h
  case h_2 => cases h
  rename_i n hn
  simp only at h
  split at h
  case isFalse => cases h
  rename_i hlen
  simp only [den] at hp
  split at hp <;> simp at hp
  rename_i b hb
  subst hp
  have hd := den_scells hx
  obtain ⟨w', h0, h1, h2⟩ := writeE_ok (P := P) hR hb hd h
  refine ⟨w', h0, h1, ?_⟩
  unfold Instr.storeAt Instr.sureAddr storeVar
  have hsz : v.cells.size = n := by
    have := denL_length hd
    rw [hlen] at this
    simpa using this
  show ((sizeOf ty >>= fun s => _) : Sem Unit).run P w = _
  rw [run_bind_pure hn]
  simp only [hsz, ne_eq, not_true_eq_false, if_false]
  exact h2

end
end
end Go.RX

namespace Go.RX
noncomputable section
open Go.RowKit (Below)

variable [Env]

section
variable {P : Program} {w0 w : World} {ρ : Ren} {H : SHeap} {t : List SVal} {a : Act} {o : Oper}

 omit [Env] in
theorem run_pure_bind {α β : Type} (x : α) (k : α → Sem β) (w : World) : ((pure x : Sem α) >>= k).run P w = (k x).run P w := rfl

theorem PSemOk.here {x : SVal} {v : Value} {s : Sem Value} (hr : s.run P w = .ok v w) (hx : den ρ x = some v) : PSemOk ρ x w (s.run P w) := ⟨v, hr, hx⟩

theorem SemOk.here {x : SVal} {v : Value} {s : Sem Value} (hR : Rel w0 ρ H w) (hr : s.run P w = .ok v w) (hx : den ρ x = some v) : SemOk w0 H ρ x H (s.run P w) :=
  ⟨ρ, v, w, hr, Ext.refl _ _, hx, hR⟩

theorem den_ptr {i off : Nat} {v : Value} (h : den ρ (.ptr i off) = some v) : ∃ p, ρ i = some p ∧ v = .pointer (some ⟨p.b, off, none⟩) := by
  simp only [den] at h
  split at h <;> simp at h
  rename_i b hb
  exact ⟨b, hb, h.symm⟩

theorem den_slice {i off len cap : Nat} {v : Value} (h : den ρ (.slice i off len cap) = some v) : ∃ p, ρ i = some p ∧ v = .slice (some ⟨p.b, off, none⟩) len cap := by
  simp only [den] at h
  split at h <;> simp at h
  rename_i b hb
  exact ⟨b, hb, h.symm⟩

theorem den_row {i off eoff len : Nat} {v : Value} (h : den ρ (.row i off eoff len) = some v) : ∃ p, ρ i = some p ∧ eoff + len ≤ p.c ∧ v = .slice (some ⟨p.b, off, none⟩) len (p.c - eoff) := by
  simp only [den] at h
  split at h
  · rename_i p hp
    split at h <;> simp at h
    rename_i hle
    exact ⟨p, hp, hle, h.symm⟩
  · cases h

theorem den_agg {l : List SVal} {v : Value} (h : den ρ (.agg l) = some v) : ∃ vs, denL ρ l = some vs ∧ v = .agg vs.toArray := by
  simp only [den] at h
  split at h <;> simp at h
  rename_i b hb
  exact ⟨b, hb, h.symm⟩

theorem den_tuple {l : List SVal} {v : Value} (h : den ρ (.tuple l) = some v) : ∃ vs, denL ρ l = some vs ∧ v = .tuple vs.toArray := by
  simp only [den] at h
  split at h <;> simp at h
  rename_i b hb
  exact ⟨b, hb, h.symm⟩

/-! ### Addresses -/
def fieldOff (P : Program) (s : TypeId) (f : Nat) : Option Nat :=
  match pureRun P (underlying s) with
  | some (.struct fields) => match fields[f]? with
    | some fl => match pureRun P (sizeOf fl.type) with
      | some (_ + 1) => some fl.offset
      | _ => none
    | none => none
  | _ => none

def fieldAddrE (P : Program) (s : TypeId) (f : Nat) : SVal → Option SVal
  | .ptr i off => match fieldOff P s f with
    | some d => some (.ptr i (off + d))
    | none => none
  | _ => none

theorem fieldAddr_ok {s : TypeId} {f : Nat} {x y : SVal} {v : Value} (hx : den ρ x = some v) (h : fieldAddrE P s f x = some y) :
    PSemOk ρ y w ((Instr.fieldAt s v f).run P w) := by
  unfold fieldAddrE at h
  split at h
  case h_2 => cases h
  rename_i i off
  obtain ⟨b, hb, rfl⟩ := den_ptr hx
  unfold fieldOff at h
  split at h
  case h_2 => cases h
  rename_i d hd
  cases h
  split at hd
  case h_2 => cases hd
  rename_i fields hf
  split at hd
  case h_2 => cases hd
  rename_i fl hfl
  split at hd
  case h_2 => cases hd
  rename_i n hn
  cases hd
  refine PSemOk.here (v := .pointer (some ⟨b.b, off + fl.offset, none⟩)) ?_ (by simp only [den, hb])
  unfold Instr.fieldAt
  rw [run_bind_pure hf]
  simp only [hfl]
  unfold Instr.sureAddr
  rw [run_pure_bind]
  unfold fieldPlace
  rw [run_bind_ok (a := (⟨b.b, off + fl.offset, none⟩ : Addr)) (w' := w)]
  · rfl
  · rw [run_bind_pure hn]
    rw [if_neg (Nat.succ_ne_zero n), addr_add _ _ rfl]
    rfl

def indexAddrE (P : Program) (ty : TypeId) (ix : SVal) : SVal → Option SVal
  | .ptr i off => match ix with
    | .v (.int _ n) => match pureRun P (underlying ty) with
      | some (.array len elem) => match pureRun P (sizeOf elem) with
        | some sz => if 0 ≤ n ∧ n < (len : Int) then some (.ptr i (off + n.toNat * sz)) else none
        | none => none
      | _ => none
    | _ => none
  | .slice i off len _ => match ix with
    | .v (.int _ n) => match pureRun P (underlying ty) with
      | some (.slice elem) => match pureRun P (sizeOf elem) with
        | some sz => if 0 ≤ n ∧ n < (len : Int) then some (.ptr i (off + n.toNat * sz)) else none
        | none => none
      | _ => none
    | _ => none
  | .row i off _ len => match ix with
    | .v (.int _ n) => match pureRun P (underlying ty) with
      | some (.slice elem) => match pureRun P (sizeOf elem) with
        | some sz => if 0 ≤ n ∧ n < (len : Int) then some (.ptr i (off + n.toNat * sz)) else none
        | none => none
      | _ => none
    | _ => none
  | _ => none

theorem indexAddr_ok {ty : TypeId} {ix x y : SVal} {v iv : Value} (hx : den ρ x = some v) (hix : den ρ ix = some iv) (h : indexAddrE P ty ix x = some y) :
    PSemOk ρ y w ((Instr.indexAt ty v iv).run P w) := by
  unfold indexAddrE at h
  split at h
  case h_4 => cases h
  case h_1 i off =>
    split at h
    case h_2 => cases h
    rename_i k n
    split at h
    case h_2 => cases h
    rename_i len elem hu
    split at h
    case h_2 => cases h
    rename_i sz hsz
    split at h
    case isFalse => cases h
    rename_i hr
    cases h
    obtain ⟨b, hb, rfl⟩ := den_ptr hx
    simp only [den, Option.some.injEq] at hix
    subst hix
    refine PSemOk.here (v := .pointer (some ⟨b.b, off + n.toNat * sz, none⟩)) ?_ (by simp only [den, hb])
    unfold Instr.indexAt asIntOf
    rw [run_pure_bind]
    simp only
    rw [run_bind_pure hu]
    simp only [Instr.sureAddr]
    rw [run_pure_bind, run_pure_bind]
    rw [run_bind_pure hu]
    simp only [hr, and_self, if_true]
    rw [run_bind_pure hsz, addr_add _ _ rfl]
    rfl
  case h_2 i off len cap =>
    split at h
    case h_2 => cases h
    rename_i k n
    split at h
    case h_2 => cases h
    rename_i elem hu
    split at h
    case h_2 => cases h
    rename_i sz hsz
    split at h
    case isFalse => cases h
    rename_i hr
    cases h
    obtain ⟨b, hb, rfl⟩ := den_slice hx
    simp only [den, Option.some.injEq] at hix
    subst hix
    refine PSemOk.here (v := .pointer (some ⟨b.b, off + n.toNat * sz, none⟩)) ?_ (by simp only [den, hb])
    unfold Instr.indexAt asIntOf
    rw [run_pure_bind]
    simp only
    rw [run_bind_pure hu]
    simp only
    rw [run_pure_bind]
    rw [run_bind_pure hu]
    simp only [hr, and_self, if_true]
    rw [run_bind_pure hsz, addr_add _ _ rfl]
    rfl
  case h_3 i off eoff len =>
    split at h
    case h_2 => cases h
    rename_i k n
    split at h
    case h_2 => cases h
    rename_i elem hu
    split at h
    case h_2 => cases h
    rename_i sz hsz
    split at h
    case isFalse => cases h
    rename_i hr
    cases h
    obtain ⟨b, hb, _, rfl⟩ := den_row hx
    simp only [den, Option.some.injEq] at hix
    subst hix
    refine PSemOk.here (v := .pointer (some ⟨b.b, off + n.toNat * sz, none⟩)) ?_ (by simp only [den, hb])
    unfold Instr.indexAt asIntOf
    rw [run_pure_bind]
    simp only
    rw [run_bind_pure hu]
    simp only
    rw [run_pure_bind]
    rw [run_bind_pure hu]
    simp only [hr, and_self, if_true]
    rw [run_bind_pure hsz, addr_add _ _ rfl]
    rfl

def optV (t : List SVal) : Option Operand → Option (Option Value)
  | none => some none
  | some x => match seval t x with
    | .v y => some (some y)
    | _ => none

theorem optV_ok (ht : denL ρ t = some a.tmps.toList) {x : Option Operand} {y : Option Value} (h : optV t x = some y) : x.map a.eval = y := by
  cases x with
  | none => simp only [optV, Option.some.injEq] at h; subst h; rfl
  | some x =>
    have hd := den_seval ht x
    unfold optV at h
    split at h
    · rename_i heq; cases heq
    · rename_i z heq
      cases heq
      split at h
      · rename_i u hu
        rw [hu] at hd
        simp only [den, Option.some.injEq] at hd
        cases h
        simp [hd]
      · cases h

def natOr (d : Nat) : Option Value → Option Nat
  | none => some d
  | some (.int _ n) => if 0 ≤ n then some n.toNat else none
  | _ => none

def sliceE (P : Program) (ty : TypeId) (lo hi mx : Option Value) : SVal → Option SVal
  | .ptr i off => match pureRun P (underlying ty) with
    | some (.array n elem) => match pureRun P (Instr.sliceBounds false n n lo hi mx) with
      | some (l, h, m) => match pureRun P (sizeOf elem) with
        | some sz => some (if m = l then .slice i off (h - l) (m - l) else .slice i (off + l * sz) (h - l) (m - l))
        | none => none
      | none => none
    | _ => none
  | .slice i off len cap => match pureRun P (underlying ty) with
    | some (.slice elem) => match pureRun P (Instr.sliceBounds true len cap lo hi mx) with
      | some (l, h, m) => match pureRun P (sizeOf elem) with
        | some sz => some (if m = l then .slice i off (h - l) (m - l) else .slice i (off + l * sz) (h - l) (m - l))
        | none => none
      | none => none
    | _ => none
  | .row i off eoff len => match pureRun P (underlying ty), mx with
    | some (.slice elem), none => match natOr 0 lo, natOr len hi with
      | some l, some h => match pureRun P (sizeOf elem) with
        | some sz => if l ≤ h ∧ h ≤ len then (if l < len then some (.row i (off + l * sz) (eoff + l) (h - l)) else some (.tail i off (off + l * sz) (eoff + l))) else none
        | none => none
      | _, _ => none
    | some (.slice elem), some mv => match natOr 0 lo, hi, natOr 0 (some mv) with
      | some l, some hv, some m => match natOr 0 (some hv), pureRun P (sizeOf elem) with
        | some h, some sz => if l ≤ h ∧ h ≤ m ∧ m ≤ len then some (if m = l then .slice i off (h - l) (m - l) else .slice i (off + l * sz) (h - l) (m - l)) else none
        | _, _ => none
      | _, _, _ => none
    | _, _ => none
  | _ => none

theorem slice_ok {ty : TypeId} {lo hi mx : Option Value} {x y : SVal} {v : Value} (hx : den ρ x = some v) (h : sliceE P ty lo hi mx x = some y) :
    PSemOk ρ y w ((Instr.sliceAt ty v lo hi mx).run P w) := by
  unfold sliceE at h
  split at h
  case h_4 => cases h
  case h_1 i off =>
    split at h
    case h_2 => cases h
    rename_i n elem hu
    split at h
    case h_2 => cases h
    rename_i l h' m hb
    split at h
    case h_2 => cases h
    rename_i sz hsz
    cases h
    obtain ⟨b, hρ, rfl⟩ := den_ptr hx
    refine PSemOk.here (v := .slice (some (if m = l then ⟨b.b, off, none⟩ else ⟨b.b, off + l * sz, none⟩)) (h' - l) (m - l)) ?_ ?_
    · unfold Instr.sliceAt Instr.sureAddr
      rw [run_bind_pure hu]
      simp only
      rw [run_pure_bind, run_bind_pure hb]
      simp only
      rw [run_bind_pure hsz, addr_add _ _ rfl]
      rfl
    · split <;> simp only [den, hρ]
  case h_2 i off len cap =>
    split at h
    case h_2 => cases h
    rename_i elem hu
    split at h
    case h_2 => cases h
    rename_i l h' m hb
    split at h
    case h_2 => cases h
    rename_i sz hsz
    cases h
    obtain ⟨b, hρ, rfl⟩ := den_slice hx
    refine PSemOk.here (v := .slice (some (if m = l then ⟨b.b, off, none⟩ else ⟨b.b, off + l * sz, none⟩)) (h' - l) (m - l)) ?_ ?_
    · unfold Instr.sliceAt
      rw [run_bind_pure hu]
      simp only
      unfold Instr.slice
      rw [run_bind_pure hu]
      simp only
      rw [run_bind_pure hb]
      simp only
      rw [run_bind_pure hsz]
      simp only [Option.map_some]
      rw [addr_add _ _ rfl]
      split <;> rfl
    · split <;> simp only [den, hρ]
  case h_3 i off eoff len =>
    have e1 : ∀ {d : Nat} {x : Option Value} {n : Nat}, natOr d x = some n → (x = none ∧ n = d) ∨ ∃ k m, x = some (.int k m) ∧ 0 ≤ m ∧ n = m.toNat := by
      intro d x n h
      unfold natOr at h
      split at h
      · cases h; exact .inl ⟨rfl, rfl⟩
      · rename_i k m
        split at h
        · rename_i hm; cases h; exact .inr ⟨k, m, rfl, hm, rfl⟩
        · cases h
      · cases h
    have sb : ∀ {k : IntKind} {m : Int} {y : Nat} {code : BoundsCode}, 0 ≤ m → m.toNat ≤ y → (Instr.sliceBound (.int k m) y code).run P w = .ok m.toNat w := by
      intro k m y code h0 h1
      simp only [Instr.sliceBound, asIntOf]
      rw [run_pure_bind]
      simp only
      rw [if_pos ⟨h0, by omega⟩]
      rfl
    split at h
    case h_3 => cases h
    case h_2 elem mv hu =>
      split at h
      case h_2 => cases h
      rename_i l hv m hl hm
      split at h
      case h_2 => cases h
      rename_i h' sz hh' hsz
      split at h
      case isFalse => cases h
      rename_i hb
      cases h
      obtain ⟨p, hρ, hle, rfl⟩ := den_row hx
      have hbs : (Instr.sliceBounds true len (p.c - eoff) lo (some hv) (some mv)).run P w = .ok (l, h', m) w := by
        unfold Instr.sliceBounds
        rcases e1 hm with ⟨hz, _⟩ | ⟨k, m0, hz, hm0, rfl⟩
        · cases hz
        cases hz
        rcases e1 hh' with ⟨hz, _⟩ | ⟨k1, h0, hz, hh0, rfl⟩
        · cases hz
        cases hz
        simp only
        rw [run_bind_ok (sb hm0 (by omega)), run_bind_ok (sb hh0 (by omega))]
        rcases e1 hl with ⟨rfl, rfl⟩ | ⟨k', m', rfl, hm', rfl⟩ <;> simp only
        · rfl
        · rw [run_bind_ok (sb hm' (by omega))]; rfl
      refine PSemOk.here (v := .slice (some ⟨p.b, if m = l then off else off + l * sz, none⟩) (h' - l) (m - l)) ?_ (by split <;> simp only [den, hρ])
      unfold Instr.sliceAt
      rw [run_bind_pure hu]
      simp only
      unfold Instr.slice
      rw [run_bind_pure hu]
      simp only
      rw [run_bind_ok hbs]
      simp only
      rw [run_bind_pure hsz]
      simp only [Option.map_some]
      rw [addr_add _ _ rfl]
      split <;> rfl
    rename_i elem hu
    split at h
    case h_2 => cases h
    rename_i l h' hl hh
    split at h
    case h_2 => cases h
    rename_i sz hsz
    split at h
    case isFalse => cases h
    rename_i hb
    obtain ⟨p, hρ, hle, rfl⟩ := den_row hx
    have hbs : (Instr.sliceBounds true len (p.c - eoff) lo hi none).run P w = .ok (l, h', p.c - eoff) w := by
      have e1 : ∀ {d : Nat} {x : Option Value} {n : Nat}, natOr d x = some n → (x = none ∧ n = d) ∨ ∃ k m, x = some (.int k m) ∧ 0 ≤ m ∧ n = m.toNat := by
        intro d x n h
        unfold natOr at h
        split at h
        · cases h; exact .inl ⟨rfl, rfl⟩
        · rename_i k m
          split at h
          · rename_i hm; cases h; exact .inr ⟨k, m, rfl, hm, rfl⟩
          · cases h
        · cases h
      have sb : ∀ {k : IntKind} {m : Int} {y : Nat} {code : BoundsCode}, 0 ≤ m → m.toNat ≤ y → (Instr.sliceBound (.int k m) y code).run P w = .ok m.toNat w := by
        intro k m y code h0 h1
        simp only [Instr.sliceBound, asIntOf]
        rw [run_pure_bind]
        simp only
        rw [if_pos ⟨h0, by omega⟩]
        rfl
      unfold Instr.sliceBounds
      rw [run_pure_bind]
      rcases e1 hh with ⟨rfl, rfl⟩ | ⟨k, m, rfl, hm, rfl⟩ <;> rcases e1 hl with ⟨rfl, rfl⟩ | ⟨k', m', rfl, hm', rfl⟩ <;> simp only
      · rfl
      · rw [run_pure_bind, run_bind_ok (sb hm' (by omega))]; rfl
      · rw [run_bind_ok (sb hm (by omega))]; rfl
      · rw [run_bind_ok (sb hm (by omega)), run_bind_ok (sb hm' (by omega))]; rfl
    have hrun : (Instr.sliceAt ty (.slice (some ⟨p.b, off, none⟩) len (p.c - eoff)) lo hi none).run P w = .ok (.slice (some ⟨p.b, if p.c - eoff = l then off else off + l * sz, none⟩) (h' - l) (p.c - eoff - l)) w := by
      unfold Instr.sliceAt
      rw [run_bind_pure hu]
      simp only
      unfold Instr.slice
      rw [run_bind_pure hu]
      simp only
      rw [run_bind_ok hbs]
      simp only
      rw [run_bind_pure hsz]
      simp only [Option.map_some]
      rw [addr_add _ _ rfl]
      split <;> rfl
    split at h
    · cases h
      refine PSemOk.here (v := _) hrun ?_
      simp only [den, hρ]
      rw [if_pos (by omega), Nat.sub_sub, if_neg (by omega)]
    · cases h
      refine PSemOk.here (v := _) hrun ?_
      simp only [den, hρ]
      rw [if_pos (by omega), Nat.sub_sub, show h' - l = 0 by omega]
      by_cases hc : p.c = eoff + l
      · rw [if_pos hc, if_pos (by omega)]
      · rw [if_neg hc, if_neg (by omega)]

/-! ### Parts of aggregates -/
def partE (P : Program) (ty : TypeId) (l : List SVal) (off : Nat) : Option SVal :=
  match pureRun P (isAgg ty) with
  | some true => match pureRun P (sizeOf ty) with
    | some n => some (mkAgg ((l.drop off).take n))
    | none => none
  | some false => l[off]?
  | none => none

theorem part_ok {ty : TypeId} {l : List SVal} {vs : List Value} (hl : denL ρ l = some vs) {off : Nat} {y : SVal} (h : partE P ty l off = some y) :
    ∃ u, (part ty vs.toArray off).run P w = .ok u w ∧ den ρ y = some u := by
  unfold partE at h
  split at h
  · rename_i hag
    split at h
    case h_2 => cases h
    rename_i n hn
    cases h
    refine ⟨.agg ((vs.drop off).take n).toArray, ?_, den_mkAgg (denL_take n (denL_drop off hl))⟩
    unfold part
    rw [run_bind_pure hag]
    simp only [if_true]
    rw [run_bind_pure hn]
    show Result.ok _ _ = _
    congr 2
    apply Array.toList_inj.1
    simp [List.take_drop]
  · rename_i hag
    obtain ⟨u, hu, hd⟩ := denL_get hl off y h
    refine ⟨u, ?_, hd⟩
    unfold part
    rw [run_bind_pure hag]
    simp [hu]
  · cases h

def fieldE (P : Program) (s : TypeId) (f : Nat) : SVal → Option SVal
  | .agg l => match pureRun P (underlying s) with
    | some (.struct fields) => match fields[f]? with
      | some fl => partE P fl.type l fl.offset
      | none => none
    | _ => none
  | _ => none

theorem field_ok {s : TypeId} {f : Nat} {x y : SVal} {v : Value} (hx : den ρ x = some v) (h : fieldE P s f x = some y) :
    PSemOk ρ y w ((Instr.field s v f).run P w) := by
  unfold fieldE at h
  split at h
  case h_2 => cases h
  rename_i l
  split at h
  case h_2 => cases h
  rename_i fields hf
  split at h
  case h_2 => cases h
  rename_i fl hfl
  obtain ⟨vs, hvs, rfl⟩ := den_agg hx
  obtain ⟨u, hu, hd⟩ := part_ok (w := w) hvs h
  refine PSemOk.here (v := u) ?_ hd
  unfold Instr.field asAgg
  rw [run_bind_pure hf]
  simp only [hfl]
  rw [run_pure_bind]
  exact hu

def indexE (P : Program) (ty : TypeId) (ix : SVal) : SVal → Option SVal
  | .agg l => match ix with
    | .v (.int _ n) => match pureRun P (underlying ty) with
      | some (.array len elem) => match pureRun P (sizeOf elem) with
        | some sz => if 0 ≤ n ∧ n < (len : Int) then partE P elem l (n.toNat * sz) else none
        | none => none
      | _ => none
    | _ => none
  | _ => none

theorem index_ok {ty : TypeId} {ix x y : SVal} {v iv : Value} (hx : den ρ x = some v) (hix : den ρ ix = some iv) (h : indexE P ty ix x = some y) :
    PSemOk ρ y w ((Instr.index ty v iv).run P w) := by
  unfold indexE at h
  split at h
  case h_2 => cases h
  rename_i l
  split at h
  case h_2 => cases h
  rename_i k n
  split at h
  case h_2 => cases h
  rename_i len elem hu
  split at h
  case h_2 => cases h
  rename_i sz hsz
  split at h
  case isFalse => cases h
  rename_i hr
  obtain ⟨vs, hvs, rfl⟩ := den_agg hx
  simp only [den, Option.some.injEq] at hix
  subst hix
  obtain ⟨u, hu', hd⟩ := part_ok (w := w) hvs h
  refine PSemOk.here (v := u) ?_ hd
  unfold Instr.index asIntOf
  rw [run_pure_bind]
  simp only
  rw [run_bind_pure hu]
  simp only [hr, and_self, if_true]
  rw [run_bind_pure hsz]
  exact hu'

def extractE (ix : Nat) : SVal → Option SVal
  | .tuple l => l[ix]?
  | _ => none

theorem extract_ok {ix : Nat} {x y : SVal} {v : Value} (hx : den ρ x = some v) (h : extractE ix x = some y) : PSemOk ρ y w ((Instr.extract v ix).run P w) := by
  unfold extractE at h
  split at h
  case h_2 => cases h
  rename_i l
  obtain ⟨vs, hvs, rfl⟩ := den_tuple hx
  obtain ⟨u, hu, hd⟩ := denL_get hvs ix y h
  refine PSemOk.here (v := u) ?_ hd
  simp [Instr.extract, hu]

/-! ### Building -/
def sevalL (t : List SVal) (l : List Operand) : List SVal := l.map (seval t)

theorem denL_sevalL (ht : denL ρ t = some a.tmps.toList) : ∀ (l : List Operand), denL ρ (sevalL t l) = some (l.map a.eval)
  | [] => by simp [sevalL, denL]
  | x :: xs => denL_cons.2 ⟨a.eval x, xs.map a.eval, den_seval ht x, denL_sevalL ht xs, rfl⟩

theorem setMany_den : ∀ (xs : List SVal) (us : List Value) {l : List SVal} {vs : List Value} (off : Nat), denL ρ xs = some us → denL ρ l = some vs →
    denL ρ (setMany l off xs) = some ((us.zipIdx 0).foldl (fun cs (c, j) => cs.set (off + j) c) vs)
  | [], us, l, vs, off, h, hl => by simp [denL] at h; subst h; simpa [setMany] using hl
  | x :: xs, us, l, vs, off, h, hl => by
    obtain ⟨u, us', hu, hus, rfl⟩ := denL_cons.1 h
    simp only [setMany, List.zipIdx_cons, List.foldl_cons, Nat.add_zero]
    have := setMany_den xs us' (off + 1) hus (denL_set hu hl off)
    rw [this]
    congr 1
    have e : ∀ (ys : List Value) (k : Nat) (cs : List Value), (ys.zipIdx k).foldl (fun cs (c, j) => cs.set (off + 1 + j) c) cs = (ys.zipIdx (k + 1)).foldl (fun cs (c, j) => cs.set (off + j) c) cs := by
      intro ys
      induction ys with
      | nil => intro k cs; rfl
      | cons y ys ih =>
        intro k cs
        simp only [List.zipIdx_cons, List.foldl_cons]
        rw [show off + 1 + k = off + (k + 1) by omega]
        exact ih _ _
    exact e us' 0 _

def sfill (place : Nat → Option (Nat × Nat)) (cells : List SVal) : List (Nat × SVal) → Option (List SVal)
  | [] => some cells
  | (i, v) :: rest => match place i with
    | none => none
    | some (off, size) =>
      let xs := scells v
      if xs.length = size then
        if off + size ≤ cells.length then sfill place (setMany cells off xs) rest else none
      else none

/-- Parts by number. -/
def PartsRel (ρ : Ren) : List (Nat × SVal) → List (Nat × Value) → Prop
  | [], [] => True
  | (i, x) :: xs, (j, v) :: vs => i = j ∧ den ρ x = some v ∧ PartsRel ρ xs vs
  | _, _ => False

 omit [Env] in
theorem foldl_toArray (f : Nat → Nat) : ∀ (us : List (Value × Nat)) (vs : List Value),
    us.foldl (fun (cs : Array Value) (c, j) => cs.setIfInBounds (f j) c) vs.toArray = (us.foldl (fun cs (c, j) => cs.set (f j) c) vs).toArray
  | [], vs => rfl
  | (u, j) :: us, vs => by
    simp only [List.foldl_cons]
    rw [show vs.toArray.setIfInBounds (f j) u = (vs.set (f j) u).toArray by simp]
    exact foldl_toArray f us _

theorem sfill_ok {place : Nat → Option (Nat × Nat)} : ∀ {parts : List (Nat × SVal)} {vparts : List (Nat × Value)} {cells : List SVal} {vs : List Value}, PartsRel ρ parts vparts → denL ρ cells = some vs →
    ∀ {r : List SVal}, sfill place cells parts = some r → ∃ us, denL ρ r = some us ∧ Instr.fill place vs.toArray vparts = some us.toArray
  | [], [], cells, vs, _, hc, r, h => by
    simp only [sfill, Option.some.injEq] at h
    subst h
    exact ⟨vs, hc, rfl⟩
  | [], _ :: _, _, _, hp, _, _, _ => hp.elim
  | _ :: _, [], _, _, hp, _, _, _ => by simp [PartsRel] at hp
  | (i, x) :: xs, (j, v) :: ys, cells, vs, hp, hc, r, h => by
    obtain ⟨rfl, hx, hp'⟩ := hp
    simp only [sfill] at h
    split at h
    case h_1 => cases h
    rename_i off size hpl
    split at h
    case isFalse => cases h
    rename_i hsz
    split at h
    case isFalse => cases h
    rename_i hoff
    have hxs := den_scells hx
    have hl := denL_length hxs
    have hlc := denL_length hc
    have hset := setMany_den (scells x) v.cells.toList off hxs hc
    obtain ⟨us, hu1, hu2⟩ := sfill_ok hp' hset h
    refine ⟨us, hu1, ?_⟩
    simp only [Instr.fill, hpl]
    have hvs : v.cells.size = size := by rw [← hsz, ← hl]; simp
    rw [if_neg (by simp [hvs]; omega)]
    rw [← hu2]
    congr 1
    rw [← foldl_toArray (fun j => off + j)]
    rw [show v.cells.zipIdx = (v.cells.toList.zipIdx 0).toArray by
      apply Array.toList_inj.1
      simp]
    simp

def partsOf (t : List SVal) (parts : List (Nat × Operand)) : List (Nat × SVal) := parts.map fun p => (p.1, seval t p.2)

theorem partsOf_rel (ht : denL ρ t = some a.tmps.toList) : ∀ (parts : List (Nat × Operand)), PartsRel ρ (partsOf t parts) (parts.map fun (i, x) => (i, a.eval x))
  | [] => trivial
  | (_, x) :: xs => ⟨rfl, den_seval ht x, partsOf_rel ht xs⟩

/-- The places of a struct's fields, or an array's elements. -/
def buildE (P : Program) (t : List SVal) (ty : TypeId) (parts : List (Nat × Operand)) : Option SVal :=
  match pureRun P (zeroValue ty) with
  | none => none
  | some z => match pureRun P (underlying ty) with
    | some (.struct fields) => match pureRun P (fields.mapM (m := Sem) fun f => do pure (f.offset, ← sizeOf f.type)) with
      | some places => match sfill (places[·]?) (z.cells.toList.map .v) (partsOf t parts) with
        | some l => some (mkAgg l)
        | none => none
      | none => none
    | some (.array _ elem) => match pureRun P (sizeOf elem) with
      | some size => match sfill (fun i => some (i * size, size)) (z.cells.toList.map .v) (partsOf t parts) with
        | some l => some (mkAgg l)
        | none => none
      | none => none
    | _ => none

theorem build_ok (ht : denL ρ t = some a.tmps.toList) {ty : TypeId} {parts : Array (Nat × Operand)} {y : SVal} (h : buildE P t ty parts.toList = some y) :
    PSemOk ρ y w ((Instr.build ty (parts.map fun (i, x) => (i, a.eval x))).run P w) := by
  unfold buildE at h
  split at h
  case h_1 => cases h
  rename_i z hz
  have hz' : denL ρ (z.cells.toList.map .v) = some z.cells.toList := denL_map_v _
  have hp := partsOf_rel ht parts.toList
  split at h
  case h_3 => cases h
  case h_1 fields hf =>
    split at h
    case h_2 => cases h
    rename_i places hpl
    split at h
    case h_2 => cases h
    rename_i l hl
    cases h
    obtain ⟨us, hu1, hu2⟩ := sfill_ok hp hz' hl
    refine PSemOk.here (v := .agg us.toArray) ?_ (den_mkAgg hu1)
    unfold Instr.build
    rw [run_bind_pure hz]
    simp only
    rw [run_bind_pure hf]
    simp only
    rw [run_bind_pure hpl]
    simp only [Array.toArray_toList] at hu2
    rw [Array.toList_map, hu2]
    rfl
  case h_2 n elem hf =>
    split at h
    case h_2 => cases h
    rename_i size hs
    split at h
    case h_2 => cases h
    rename_i l hl
    cases h
    obtain ⟨us, hu1, hu2⟩ := sfill_ok hp hz' hl
    refine PSemOk.here (v := .agg us.toArray) ?_ (den_mkAgg hu1)
    unfold Instr.build
    rw [run_bind_pure hz]
    simp only
    rw [run_bind_pure hf]
    simp only
    rw [run_bind_pure hs]
    simp only [Array.toArray_toList] at hu2
    rw [Array.toList_map, hu2]
    rfl

def zeroRow (z : Value) (n : Nat) : List Value := ((Array.range n).map (z.cells[· % z.cells.size]!)).toList

def buildSliceE (P : Program) (t : List SVal) (H : SHeap) (ty : TypeId) (len : Nat) (parts : List (Nat × Operand)) : Option Res :=
  match pureRun P (underlying ty) with
  | some (.slice elem) => match pureRun P (sizeOf elem) with
    | some size => match pureRun P (zeroValue elem) with
      | some z =>
        if len * size = 0 then
          (if parts.isEmpty then some (.val (.slice H.length 0 len len) (H ++ [.cells [] elem (0, 0)])) else none) else
        if len * size ≤ 65536 then
          match sfill (fun i => some (i * size, size)) ((zeroRow z (len * size)).map .v) (partsOf t parts) with
          | some l => some (.val (.slice H.length 0 len len) (H ++ [.cells l elem (0, 0)]))
          | none => none
        else none
      | none => none
    | none => none
  | _ => none

theorem buildSlice_ok (hR : Rel w0 ρ H w) (ht : denL ρ t = some a.tmps.toList) {ty : TypeId} {len : Nat} {parts : Array (Nat × Operand)} {r : Res} (h : buildSliceE P t H ty len parts.toList = some r) :
    ∃ x H', r = .val x H' ∧ SemOk w0 H ρ x H' ((Instr.buildSlice ty len (parts.map fun (i, x) => (i, a.eval x))).run P w) := by
  unfold buildSliceE at h
  split at h
  case h_2 => cases h
  rename_i elem hu
  split at h
  case h_2 => cases h
  rename_i size hs
  split at h
  case h_2 => cases h
  rename_i z hz
  split at h
  case isTrue hne =>
    split at h
    case isFalse => cases h
    rename_i he
    cases h
    refine ⟨_, _, rfl, ?_⟩
    obtain ⟨h1, h2, h3, h4⟩ := newRow_ok (P := P) hR (l := []) (vs := []) (by simp [denL]) elem
    refine ⟨_, .slice (some ⟨w.heap.size, 0, none⟩) len len, _, ?_, h2, by simp only [den, h3], h4⟩
    have he' : parts = #[] := Array.toList_eq_nil_iff.1 (List.isEmpty_iff.1 he)
    subst he'
    unfold Instr.buildSlice
    rw [run_bind_pure hu]
    simp only
    rw [run_bind_pure hs]
    rw [if_neg (by omega)]
    rw [if_pos hne, hne]
    rw [run_pure_bind]
    rw [show ∀ (f : Nat → Value), Array.map f (Array.range 0) = #[] from fun f => by simp]
    simp only [List.map_toArray, List.map_nil]
    rw [show ∀ (g : Nat → Option (Nat × Nat)), Instr.fill g #[] [] = some #[] from fun g => by unfold Instr.fill; rfl]
    simp only
    rw [run_bind_ok h1]
    rfl
  rename_i hne
  split at h
  case isFalse => cases h
  rename_i hle
  split at h
  case h_2 => cases h
  rename_i l hl
  cases h
  refine ⟨_, _, rfl, ?_⟩
  have hp := partsOf_rel ht parts.toList
  obtain ⟨us, hu1, hu2⟩ := sfill_ok hp (denL_map_v (ρ := ρ) (zeroRow z (len * size))) hl
  obtain ⟨h1, h2, h3, h4⟩ := newRow_ok (P := P) hR hu1 elem
  refine ⟨_, .slice (some ⟨w.heap.size, 0, none⟩) len len, _, ?_, h2, by simp only [den, h3], h4⟩
  unfold Instr.buildSlice
  rw [run_bind_pure hu]
  simp only
  rw [run_bind_pure hs]
  rw [if_neg (by omega)]
  rw [if_neg hne]
  rw [run_bind_pure hz, run_pure_bind]
  simp only [zeroRow, Array.toArray_toList] at hu2
  rw [Array.toList_map, hu2]
  simp only
  rw [run_bind_ok h1]
  rfl

end
end
end Go.RX
