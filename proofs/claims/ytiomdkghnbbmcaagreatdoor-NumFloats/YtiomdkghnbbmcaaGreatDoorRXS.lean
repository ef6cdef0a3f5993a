import Derived.Test.YtiomdkghnbbmcaaGreatDoorRXF
import Derived.Lib.Strings
namespace Go.RX
noncomputable section
open Go.RowKit (Below)

/-! ### Expressions of integers: what operations on them yield -/
def binI : BinOp → IntKind → Int → Int → Int
  | .add, k, x, y => k.wrap (x + y)
  | .sub, k, x, y => k.wrap (x - y)
  | .mul, k, x, y => k.wrap (x * y)
  | .quo, k, x, y => k.wrap (x.tdiv y)
  | .rem, _, x, y => x.tmod y
  | .and, k, x, y => k.wrap ((BitVec.ofInt k.bits x &&& BitVec.ofInt k.bits y).toNat : Int)
  | .or, k, x, y => k.wrap ((BitVec.ofInt k.bits x ||| BitVec.ofInt k.bits y).toNat : Int)
  | .xor, k, x, y => k.wrap ((BitVec.ofInt k.bits x ^^^ BitVec.ofInt k.bits y).toNat : Int)
  | .andNot, k, x, y => k.wrap ((BitVec.ofInt k.bits x &&& ~~~(BitVec.ofInt k.bits y)).toNat : Int)
  | _, _, _, _ => 0

def shI : BinOp → IntKind → Int → Int → Int
  | .shl, k, x, y => k.wrap (x * 2 ^ min y.toNat k.bits)
  | .shr, k, x, y => x.fdiv (2 ^ min y.toNat k.bits)
  | _, _, _, _ => 0

/-- The carry and the borrow of 64 bits. -/
def triI : Nat → Int → Int → Int → Int
  | 0, x, y, c => (x + y + c) / 18446744073709551616
  | 1, x, y, c => if x < y + c then 1 else 0
  | 2, x, y, _ => if y > x then y else x
  | 3, x, y, _ => if y < x then y else x
  | _, _, _, _ => 0

def IE.ev (ρ : Nat → Int) : IE → Int
  | .var i => ρ i
  | .lit n => n
  | .bin op k a b => binI op k (a.ev ρ) (b.ev ρ)
  | .sh op k a b => shI op k (a.ev ρ) (b.ev ρ)
  | .cv k a => k.wrap (a.ev ρ)
  | .tri t a b c => triI t (a.ev ρ) (b.ev ρ) (c.ev ρ)

def isArith : BinOp → Bool
  | .add | .sub | .mul | .and | .or | .xor | .andNot => true
  | _ => false

def IE.same : IE → IE → Bool
  | .var i, .var j => Nat.beq i j
  | .lit m, .lit n => decide (m = n)
  | .bin op k a b, .bin op' k' a' b' => decide (op = op') && decide (k = k') && a.same a' && b.same b'
  | .sh op k a b, .sh op' k' a' b' => decide (op = op') && decide (k = k') && a.same a' && b.same b'
  | .cv k a, .cv k' a' => decide (k = k') && a.same a'
  | .tri t a b c, .tri t' a' b' c' => Nat.beq t t' && a.same a' && b.same b' && c.same c'
  | _, _ => false

theorem IE.same_ok : ∀ {a b : IE}, a.same b = true → a = b
  | .var i, .var j, h => by simp only [IE.same] at h; rw [Nat.eq_of_beq_eq_true h]
  | .lit m, .lit n, h => by simp only [IE.same, decide_eq_true_eq] at h; rw [h]
  | .bin op k a b, .bin op' k' a' b', h => by
    simp only [IE.same, Bool.and_eq_true, decide_eq_true_eq] at h
    obtain ⟨⟨⟨rfl, rfl⟩, h1⟩, h2⟩ := h
    rw [IE.same_ok h1, IE.same_ok h2]
  | .sh op k a b, .sh op' k' a' b', h => by
    simp only [IE.same, Bool.and_eq_true, decide_eq_true_eq] at h
    obtain ⟨⟨⟨rfl, rfl⟩, h1⟩, h2⟩ := h
    rw [IE.same_ok h1, IE.same_ok h2]
  | .cv k a, .cv k' a', h => by
    simp only [IE.same, Bool.and_eq_true, decide_eq_true_eq] at h
    obtain ⟨rfl, h1⟩ := h
    rw [IE.same_ok h1]
  | .tri t a b c, .tri t' a' b' c', h => by
    simp only [IE.same, Bool.and_eq_true] at h
    obtain ⟨⟨⟨h0, h1⟩, h2⟩, h3⟩ := h
    rw [Nat.eq_of_beq_eq_true h0, IE.same_ok h1, IE.same_ok h2, IE.same_ok h3]
  | .var _, .lit _, h | .var _, .bin .., h | .var _, .sh .., h | .var _, .cv .., h | .var _, .tri .., h => by simp [IE.same] at h
  | .lit _, .var _, h | .lit _, .bin .., h | .lit _, .sh .., h | .lit _, .cv .., h | .lit _, .tri .., h => by simp [IE.same] at h
  | .bin .., .var _, h | .bin .., .lit _, h | .bin .., .sh .., h | .bin .., .cv .., h | .bin .., .tri .., h => by simp [IE.same] at h
  | .sh .., .var _, h | .sh .., .lit _, h | .sh .., .bin .., h | .sh .., .cv .., h | .sh .., .tri .., h => by simp [IE.same] at h
  | .cv .., .var _, h | .cv .., .lit _, h | .cv .., .bin .., h | .cv .., .sh .., h | .cv .., .tri .., h => by simp [IE.same] at h
  | .tri .., .var _, h | .tri .., .lit _, h | .tri .., .bin .., h | .tri .., .sh .., h | .tri .., .cv .., h => by simp [IE.same] at h

/-- What is known of a comparison. -/
structure CF where
  op : BinOp
  a : IE
  c : IE
  r : Bool

def CF.ok (ρ : Nat → Int) (f : CF) : Prop := isCmp f.op = true ∧ cmpI f.op (f.a.ev ρ) (f.c.ev ρ) = f.r

def lookC (op : BinOp) (a c : IE) : List CF → Option Bool
  | [] => none
  | f :: fs => if decide (f.op = op) && f.a.same a && f.c.same c then some f.r else lookC op a c fs

theorem lookC_ok {ρ : Nat → Int} {op : BinOp} {a c : IE} {r : Bool} : ∀ {L : List CF}, (∀ f ∈ L, f.ok ρ) → lookC op a c L = some r → isCmp op = true ∧ cmpI op (a.ev ρ) (c.ev ρ) = r
  | [], _, h => by cases h
  | f :: fs, hL, h => by
    simp only [lookC] at h
    split at h
    · rename_i hc
      simp only [Bool.and_eq_true, decide_eq_true_eq] at hc
      obtain ⟨⟨h1, h2⟩, h3⟩ := hc
      have := hL f (by simp)
      cases h
      subst h1
      rw [← IE.same_ok h2, ← IE.same_ok h3]
      exact this
    · exact lookC_ok (fun g hg => hL g (by simp [hg])) h

/-- What is known of comparisons. -/
abbrev Know := BinOp → IE → IE → Option Bool

def Know.ok (ρ : Nat → Int) (K : Know) : Prop := ∀ op a c r, K op a c = some r → isCmp op = true ∧ cmpI op (a.ev ρ) (c.ev ρ) = r

def knowL (L : List CF) : Know := fun op a c => lookC op a c L

theorem knowL_ok {ρ : Nat → Int} {L : List CF} (h : ∀ f ∈ L, f.ok ρ) : (knowL L).ok ρ := fun _ _ _ _ hr => lookC_ok h hr

def refl? : BinOp → Option Bool
  | .eql | .leq | .geq => some true
  | .neq | .lss | .gtr => some false
  | _ => none

/-- A comparison: of the same expressions; else by what is known. -/
def cmpS (K : Know) (op : BinOp) (a c : IE) : Option Bool :=
  match a, c with
  | .lit m, .lit n => if isCmp op then some (cmpI op m n) else none
  | a, c => if a.same c then refl? op else K op a c

theorem refl?_ok {op : BinOp} {r : Bool} (h : refl? op = some r) (x : Int) : isCmp op = true ∧ cmpI op x x = r := by
  cases op <;> simp only [refl?, Option.some.injEq, reduceCtorEq] at h <;> subst h <;> refine ⟨rfl, ?_⟩ <;> simp [cmpI]

theorem cmpS_ok {ρ : Nat → Int} {K : Know} (hL : K.ok ρ) {op : BinOp} {a c : IE} {r : Bool} (h : cmpS K op a c = some r) : isCmp op = true ∧ cmpI op (a.ev ρ) (c.ev ρ) = r := by
  unfold cmpS at h
  split at h
  · split at h
    · rename_i hc; cases h; exact ⟨hc, rfl⟩
    · cases h
  · split at h
    · rename_i hs
      rw [IE.same_ok hs]
      exact refl?_ok h _
    · exact hL _ _ _ _ h

def ieOf : SVal → Option (IntKind × IE)
  | .v (.int k n) => some (k, .lit n)
  | .sym (.int k e) => some (k, e)
  | _ => none

def nonneg (K : Know) (c : IE) : Bool :=
  match cmpS K .geq c (.lit 0) with
  | some true => true
  | _ => false

def nonzero (K : Know) (c : IE) : Bool :=
  match cmpS K .neq c (.lit 0) with
  | some true => true
  | _ => false

def binS (K : Know) (op : BinOp) (k : IntKind) (a : IE) (k' : IntKind) (c : IE) : Option SVal :=
  match op with
  | .shl => if nonneg K c then some (.sym (.int k (.sh .shl k a c))) else none
  | .shr => if nonneg K c then some (.sym (.int k (.sh .shr k a c))) else none
  | op => if k = k' then
      if isCmp op then match cmpS K op a c with
        | some r => some (.v (.bool r))
        | none => none
      else if isArith op then some (.sym (.int k (.bin op k a c)))
      else if nonzero K c then some (.sym (.int k (.bin op k a c)))
      else none
    else none

/-- The cells of a struct. -/
def cellsS : SVal → Option (List SVal)
  | .agg l => some l
  | .v (.agg vs) => some (vs.toList.map .v)
  | _ => none

/-- Are two cells of a type the same? `some none`: it is not known. -/
def eqCell (K : Know) : Option TypeDesc → Option SVal → Option SVal → Option (Option Bool)
  | some (.int _), some x, some y => match ieOf x, ieOf y with
    | some (j, a), some (j', c) => if j = j' then some (cmpS K .eql a c) else none
    | _, _ => none
  | some .bool, some (.v (.bool a)), some (.v (.bool b)) => some (some (a == b))
  | some .string, some (.v (.string a)), some (.v (.string b)) => some (some (a.toList == b.toList))
  | _, _, _ => none

def eqCells (P : Program) (K : Know) (xs ys : List SVal) : List Field → Option Bool
  | [] => some true
  | f :: fs => if f.name ≠ "_" then
      match eqCell K (P.underlying f.type) xs[f.offset]? ys[f.offset]? with
      | some (some true) => eqCells P K xs ys fs
      | some (some false) => some false
      | some none => match eqCells P K xs ys fs with
        | some false => some false
        | _ => none
      | none => none
    else eqCells P K xs ys fs

def eqAgg (P : Program) (K : Know) (ty : TypeId) (x y : SVal) : Option Bool :=
  match P.underlying ty, cellsS x, cellsS y with
  | some (.struct fs), some xs, some ys => if !P.stoodInHeld ty && !P.eqGuardType P.depth ty then eqCells P K xs ys fs.toList else none
  | _, _, _ => none

def factS (P : Program) (K : Know) (extra : Op → List SVal → Option SVal) (op : Op) (xs : List SVal) : Option SVal :=
  match op with
  | .binOp b ty _ _ _ => match xs with
    | [x, y] => match ieOf x, ieOf y with
      | some (k, a), some (k', c) => binS K b k a k' c
      | _, _ => match b with
        | .eql => match eqAgg P K ty x y with
          | some r => some (.v (.bool r))
          | none => extra op xs
        | .neq => match eqAgg P K ty x y with
          | some r => some (.v (.bool !r))
          | none => extra op xs
        | _ => extra op xs
    | _ => none
  | .unOp u _ _ => match xs with
    | [x] => match ieOf x with
      | some (k, a) => match u with
        | .neg => some (.sym (.int k (.bin .sub k (.lit 0) a)))
        | .xor => some (.sym (.int k (.bin .xor k (.lit (if k.signed then -1 else k.max)) a)))
        | _ => none
      | none => extra op xs
    | _ => none
  | .convert src dst _ => match xs with
    | [x] => match ieOf x with
      | some (_, a) => match P.underlying src, P.underlying dst with
        | some _, some (.int k') => some (.sym (.int k' (.cv k' a)))
        | _, _ => extra op xs
      | none => extra op xs
    | _ => none
  | _ => extra op xs

def valS (nmv : Nat → Value) (ρ : Nat → Int) : Sy → Value
  | .nm i => nmv i
  | .int k e => .int k (e.ev ρ)

def Flat (v : Value) : Prop := match v with
  | .agg _ | .tuple _ => False
  | _ => True

/-- Integers by their expressions, other values by their names. -/
@[reducible] def envS (P : Program) (nmv : Nat → Value) (hnm : ∀ i, Flat (nmv i)) (ρ : Nat → Int) (K : Know) (extra : Op → List SVal → Option SVal) : Env where
  val := valS nmv ρ
  flat i := match i with
    | .nm i => hnm i
    | .int _ _ => trivial
  fact := factS P K extra
  key _ _ := none
  keyOk _ _ _ h := by cases h
end
end Go.RX
