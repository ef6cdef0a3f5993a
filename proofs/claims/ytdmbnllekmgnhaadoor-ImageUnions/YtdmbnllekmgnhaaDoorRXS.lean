import Derived.Test.YtdmbnllekmgnhaaDoorRXL
import Derived.Lib.Strings
import Derived.Laws.StructEq
namespace Go.RX
noncomputable section
open Go.RowKit (Below)

/-! ### Expressions of integers: what operations on them yield -/
def binI : BinOp → IntKind → Int → Int → Int
  | .add, k, x, y => k.wrap (x + y)
  | .sub, k, x, y => k.wrap (x - y)
  | .mul, k, x, y => k.wrap (x * y)
  | .quo, k, x, y => k.wrap (x.tdiv y)
  | .rem, _, x, y => x.tmod y
  | .and, k, x, y => k.wrap ((BitVec.ofInt k.bits x &&& BitVec.ofInt k.bits y).toNat : Int)
  | .or, k, x, y => k.wrap ((BitVec.ofInt k.bits x ||| BitVec.ofInt k.bits y).toNat : Int)
  | .xor, k, x, y => k.wrap ((BitVec.ofInt k.bits x ^^^ BitVec.ofInt k.bits y).toNat : Int)
  | .andNot, k, x, y => k.wrap ((BitVec.ofInt k.bits x &&& ~~~(BitVec.ofInt k.bits y)).toNat : Int)
  | _, _, _, _ => 0

def shI : BinOp → IntKind → Int → Int → Int
  | .shl, k, x, y => k.wrap (x * 2 ^ min y.toNat k.bits)
  | .shr, k, x, y => x.fdiv (2 ^ min y.toNat k.bits)
  | _, _, _, _ => 0

/-- The carry and the borrow of 64 bits. -/
def triI : Nat → Int → Int → Int → Int
  | 0, x, y, c => (x + y + c) / 18446744073709551616
  | 1, x, y, c => if x < y + c then 1 else 0
  | 2, x, y, _ => if y > x then y else x
  | 3, x, y, _ => if y < x then y else x
  | _, _, _, _ => 0

def IE.ev (ρ : Nat → Int) : IE → Int
  | .var i => ρ i
  | .lit n => n
  | .bin op k a b => binI op k (a.ev ρ) (b.ev ρ)
  | .sh op k a b => shI op k (a.ev ρ) (b.ev ρ)
  | .cv k a => k.wrap (a.ev ρ)
  | .tri t a b c => triI t (a.ev ρ) (b.ev ρ) (c.ev ρ)

def isArith : BinOp → Bool
  | .add | .sub | .mul | .and | .or | .xor | .andNot => true
  | _ => false

def IE.same : IE → IE → Bool
  | .var i, .var j => Nat.beq i j
  | .lit m, .lit n => decide (m = n)
  | .bin op k a b, .bin op' k' a' b' => decide (op = op') && decide (k = k') && a.same a' && b.same b'
  | .sh op k a b, .sh op' k' a' b' => decide (op = op') && decide (k = k') && a.same a' && b.same b'
  | .cv k a, .cv k' a' => decide (k = k') && a.same a'
  | .tri t a b c, .tri t' a' b' c' => Nat.beq t t' && a.same a' && b.same b' && c.same c'
  | _, _ => false

theorem IE.same_ok : ∀ {a b : IE}, a.same b = true → a = b
  | .var i, .var j, h => by simp only [IE.same] at h; rw [Nat.eq_of_beq_eq_true h]
  | .lit m, .lit n, h => by simp only [IE.same, decide_eq_true_eq] at h; rw [h]
  | .bin op k a b, .bin op' k' a' b', h => by
    simp only [IE.same, Bool.and_eq_true, decide_eq_true_eq] at h
    obtain ⟨⟨⟨rfl, rfl⟩, h1⟩, h2⟩ := h
    rw [IE.same_ok h1, IE.same_ok h2]
  | .sh op k a b, .sh op' k' a' b', h => by
    simp only [IE.same, Bool.and_eq_true, decide_eq_true_eq] at h
    obtain ⟨⟨⟨rfl, rfl⟩, h1⟩, h2⟩ := h
    rw [IE.same_ok h1, IE.same_ok h2]
  | .cv k a, .cv k' a', h => by
    simp only [IE.same, Bool.and_eq_true, decide_eq_true_eq] at h
    obtain ⟨rfl, h1⟩ := h
    rw [IE.same_ok h1]
  | .tri t a b c, .tri t' a' b' c', h => by
    simp only [IE.same, Bool.and_eq_true] at h
    obtain ⟨⟨⟨h0, h1⟩, h2⟩, h3⟩ := h
    rw [Nat.eq_of_beq_eq_true h0, IE.same_ok h1, IE.same_ok h2, IE.same_ok h3]
  | .var _, .lit _, h | .var _, .bin .., h | .var _, .sh .., h | .var _, .cv .., h | .var _, .tri .., h => by simp [IE.same] at h
  | .lit _, .var _, h | .lit _, .bin .., h | .lit _, .sh .., h | .lit _, .cv .., h | .lit _, .tri .., h => by simp [IE.same] at h
  | .bin .., .var _, h | .bin .., .lit _, h | .bin .., .sh .., h | .bin .., .cv .., h | .bin .., .tri .., h => by simp [IE.same] at h
  | .sh .., .var _, h | .sh .., .lit _, h | .sh .., .bin .., h | .sh .., .cv .., h | .sh .., .tri .., h => by simp [IE.same] at h
  | .cv .., .var _, h | .cv .., .lit _, h | .cv .., .bin .., h | .cv .., .sh .., h | .cv .., .tri .., h => by simp [IE.same] at h
  | .tri .., .var _, h | .tri .., .lit _, h | .tri .., .bin .., h | .tri .., .sh .., h | .tri .., .cv .., h => by simp [IE.same] at h

/-- What is known of a comparison. -/
structure CF where
  op : BinOp
  a : IE
  c : IE
  r : Bool

def CF.ok (ρ : Nat → Int) (f : CF) : Prop := isCmp f.op = true ∧ cmpI f.op (f.a.ev ρ) (f.c.ev ρ) = f.r

def lookC (op : BinOp) (a c : IE) : List CF → Option Bool
  | [] => none
  | f :: fs => if decide (f.op = op) && f.a.same a && f.c.same c then some f.r else lookC op a c fs

theorem lookC_ok {ρ : Nat → Int} {op : BinOp} {a c : IE} {r : Bool} : ∀ {L : List CF}, (∀ f ∈ L, f.ok ρ) → lookC op a c L = some r → isCmp op = true ∧ cmpI op (a.ev ρ) (c.ev ρ) = r
  | [], _, h => by cases h
  | f :: fs, hL, h => by
    simp only [lookC] at h
    split at h
    · rename_i hc
      simp only [Bool.and_eq_true, decide_eq_true_eq] at hc
      obtain ⟨⟨h1, h2⟩, h3⟩ := hc
      have := hL f (by simp)
      cases h
      subst h1
      rw [← IE.same_ok h2, ← IE.same_ok h3]
      exact this
    · exact lookC_ok (fun g hg => hL g (by simp [hg])) h

/-- What is known of comparisons. -/
abbrev Know := BinOp → IE → IE → Option Bool

def Know.ok (ρ : Nat → Int) (K : Know) : Prop := ∀ op a c r, K op a c = some r → isCmp op = true ∧ cmpI op (a.ev ρ) (c.ev ρ) = r

def knowL (L : List CF) : Know := fun op a c => lookC op a c L

theorem knowL_ok {ρ : Nat → Int} {L : List CF} (h : ∀ f ∈ L, f.ok ρ) : (knowL L).ok ρ := fun _ _ _ _ hr => lookC_ok h hr

def refl? : BinOp → Option Bool
  | .eql | .leq | .geq => some true
  | .neq | .lss | .gtr => some false
  | _ => none

/-- A comparison: of the same expressions; else by what is known. -/
def cmpS (K : Know) (op : BinOp) (a c : IE) : Option Bool :=
  match a, c with
  | .lit m, .lit n => if isCmp op then some (cmpI op m n) else none
  | a, c => if a.same c then refl? op else K op a c

theorem refl?_ok {op : BinOp} {r : Bool} (h : refl? op = some r) (x : Int) : isCmp op = true ∧ cmpI op x x = r := by
  cases op <;> simp only [refl?, Option.some.injEq, reduceCtorEq] at h <;> subst h <;> refine ⟨rfl, ?_⟩ <;> simp [cmpI]

theorem cmpS_ok {ρ : Nat → Int} {K : Know} (hL : K.ok ρ) {op : BinOp} {a c : IE} {r : Bool} (h : cmpS K op a c = some r) : isCmp op = true ∧ cmpI op (a.ev ρ) (c.ev ρ) = r := by
  unfold cmpS at h
  split at h
  · split at h
    · rename_i hc; cases h; exact ⟨hc, rfl⟩
    · cases h
  · split at h
    · rename_i hs
      rw [IE.same_ok hs]
      exact refl?_ok h _
    · exact hL _ _ _ _ h

def ieOf : SVal → Option (IntKind × IE)
  | .v (.int k n) => some (k, .lit n)
  | .sym (.int k e) => some (k, e)
  | _ => none

def nonneg (K : Know) (c : IE) : Bool :=
  match cmpS K .geq c (.lit 0) with
  | some true => true
  | _ => false

def nonzero (K : Know) (c : IE) : Bool :=
  match cmpS K .neq c (.lit 0) with
  | some true => true
  | _ => false

def binS (K : Know) (op : BinOp) (k : IntKind) (a : IE) (k' : IntKind) (c : IE) : Option SVal :=
  match op with
  | .shl => if nonneg K c then some (.sym (.int k (.sh .shl k a c))) else none
  | .shr => if nonneg K c then some (.sym (.int k (.sh .shr k a c))) else none
  | op => if k = k' then
      if isCmp op then match cmpS K op a c with
        | some r => some (.v (.bool r))
        | none => none
      else if isArith op then some (.sym (.int k (.bin op k a c)))
      else if nonzero K c then some (.sym (.int k (.bin op k a c)))
      else none
    else none

/-- The cells of a struct. -/
def cellsS : SVal → Option (List SVal)
  | .agg l => some l
  | .v (.agg vs) => some (vs.toList.map .v)
  | _ => none

/-- Are two cells of a type the same? `some none`: it is not known. -/
def eqCell (K : Know) : Option TypeDesc → Option SVal → Option SVal → Option (Option Bool)
  | some (.int _), some x, some y => match ieOf x, ieOf y with
    | some (j, a), some (j', c) => if j = j' then some (cmpS K .eql a c) else none
    | _, _ => none
  | some .bool, some (.v (.bool a)), some (.v (.bool b)) => some (some (a == b))
  | some .string, some (.v (.string a)), some (.v (.string b)) => some (some (a.toList == b.toList))
  | _, _, _ => none

def eqCells (P : Program) (K : Know) (xs ys : List SVal) : List Field → Option Bool
  | [] => some true
  | f :: fs => if f.name ≠ "_" then
      match eqCell K (P.underlying f.type) xs[f.offset]? ys[f.offset]? with
      | some (some true) => eqCells P K xs ys fs
      | some (some false) => some false
      | some none => match eqCells P K xs ys fs with
        | some false => some false
        | _ => none
      | none => none
    else eqCells P K xs ys fs

def eqAgg (P : Program) (K : Know) (ty : TypeId) (x y : SVal) : Option Bool :=
  match P.underlying ty, cellsS x, cellsS y with
  | some (.struct fs), some xs, some ys => if !P.stoodInHeld ty && !P.eqGuardType P.depth ty then eqCells P K xs ys fs.toList else none
  | _, _, _ => none

def factS (P : Program) (K : Know) (extra : Op → List SVal → Option SVal) (op : Op) (xs : List SVal) : Option SVal :=
  match op with
  | .binOp b ty _ _ _ => match xs with
    | [x, y] => match ieOf x, ieOf y with
      | some (k, a), some (k', c) => binS K b k a k' c
      | _, _ => match b with
        | .eql => match eqAgg P K ty x y with
          | some r => some (.v (.bool r))
          | none => extra op xs
        | .neq => match eqAgg P K ty x y with
          | some r => some (.v (.bool !r))
          | none => extra op xs
        | _ => extra op xs
    | _ => none
  | .unOp u _ _ => match xs with
    | [x] => match ieOf x with
      | some (k, a) => match u with
        | .neg => some (.sym (.int k (.bin .sub k (.lit 0) a)))
        | .xor => some (.sym (.int k (.bin .xor k (.lit (if k.signed then -1 else k.max)) a)))
        | _ => none
      | none => extra op xs
    | _ => none
  | .convert src dst _ => match xs with
    | [x] => match ieOf x with
      | some (_, a) => match P.underlying src, P.underlying dst with
        | some _, some (.int k') => some (.sym (.int k' (.cv k' a)))
        | _, _ => extra op xs
      | none => extra op xs
    | _ => none
  | _ => extra op xs

def valS (nmv : Nat → Value) (ρ : Nat → Int) : Sy → Value
  | .nm i => nmv i
  | .int k e => .int k (e.ev ρ)

def Flat (v : Value) : Prop := match v with
  | .agg _ | .tuple _ => False
  | _ => True

/-- Integers by their expressions, other values by their names. -/
@[reducible] def envS (P : Program) (nmv : Nat → Value) (hnm : ∀ i, Flat (nmv i)) (ρ : Nat → Int) (K : Know) (extra : Op → List SVal → Option SVal) : Env where
  val := valS nmv ρ
  flat i := match i with
    | .nm i => hnm i
    | .int _ _ => trivial
  fact := factS P K extra
  key _ _ := none
  keyOk _ _ _ h := by cases h
end
end Go.RX

namespace Go.RX
noncomputable section
open Go.RowKit (Below)

theorem run_und {P : Program} {w : World} {t : TypeId} {d : TypeDesc} (h : P.underlying t = some d) : (underlying t).run P w = .ok d w := by
  unfold underlying
  show (Sem.program .pure >>= _ : Sem TypeDesc).run P w = _
  rw [run_bind_pure (a := P) rfl]
  simp only [h]
  rfl

theorem run_binop {P : Program} {w : World} {f : Operand → Value} {o : Oper} {op : BinOp} {ty : TypeId} {x y : Operand} {yt : TypeId} {v : Value} (ho : o.op = .binOp op ty x y yt)
    (h1 : (eqGuard op ty x y (f x) (f y)).run P w = .ok () w) (h2 : (Go.binOp op ty (f x) (f y)).run P w = .ok v w) : (execOp f o).run P w = .ok (.value v) w := by
  unfold execOp
  simp only [ho]
  show ((do pure (Next.value (← (do eqGuard op ty x y (f x) (f y); Go.binOp op ty (f x) (f y) : Sem Value))) : Sem Next)).run P w = _
  refine run_bind_ok (a := v) (w' := w) ?_
  rw [run_bind_ok h1]
  exact h2

theorem guard_int {P : Program} {w : World} {op : BinOp} {ty : TypeId} {x y : Operand} {k k' : IntKind} {a b : Int} : (eqGuard op ty x y (.int k a) (.int k' b)).run P w = .ok () w := by
  cases op <;> rfl

theorem binop_int {P : Program} {w : World} {op : BinOp} {ty : TypeId} {k : IntKind} {a b : Int} (h : isCmp op = true) : (Go.binOp op ty (.int k a) (.int k b)).run P w = .ok (.bool (cmpI op a b)) w := by
  cases op <;> first | (simp [isCmp] at h; done) | (simp [Go.binOp, Op.intCmp, cmpI])

theorem binop_arith {P : Program} {w : World} {op : BinOp} {ty : TypeId} {k : IntKind} {a b : Int} (h : isArith op = true) : (Go.binOp op ty (.int k a) (.int k b)).run P w = .ok (.int k (binI op k a b)) w := by
  cases op <;> first | (simp [isArith] at h; done) | (simp [Go.binOp, Op.intArith, Op.intBits, binI])

theorem binop_div {P : Program} {w : World} {op : BinOp} {ty : TypeId} {k : IntKind} {a b : Int} (h1 : isCmp op = false) (h2 : isArith op = false) (h3 : op ≠ .shl) (h4 : op ≠ .shr) (hb : b ≠ 0) :
    (Go.binOp op ty (.int k a) (.int k b)).run P w = .ok (.int k (binI op k a b)) w := by
  cases op <;> first | (simp [isCmp] at h1; done) | (simp [isArith] at h2; done) | (exact absurd rfl h3) | (exact absurd rfl h4) | (simp [Go.binOp, Op.intDiv, binI, hb])

theorem binop_shift {P : Program} {w : World} {op : BinOp} {ty : TypeId} {k k' : IntKind} {a b : Int} (h : op = .shl ∨ op = .shr) (hb : 0 ≤ b) :
    (Go.binOp op ty (.int k a) (.int k' b)).run P w = .ok (.int k (shI op k a b)) w := by
  have : ¬ b < 0 := by omega
  rcases h with rfl | rfl <;> simp [Go.binOp, Op.shift, shI, this]

theorem nonneg_ok {ρ : Nat → Int} {K : Know} (hL : K.ok ρ) {c : IE} (h : nonneg K c = true) : 0 ≤ c.ev ρ := by
  unfold nonneg at h
  split at h
  · rename_i hr
    have := (cmpS_ok hL hr).2
    simpa [cmpI, IE.ev] using this
  · cases h

theorem nonzero_ok {ρ : Nat → Int} {K : Know} (hL : K.ok ρ) {c : IE} (h : nonzero K c = true) : c.ev ρ ≠ 0 := by
  unfold nonzero at h
  split at h
  · rename_i hr
    have := (cmpS_ok hL hr).2
    simpa [cmpI, IE.ev] using this
  · cases h

section
variable (P : Program) (nmv : Nat → Value) (hnm : ∀ i, Flat (nmv i)) (ρ : Nat → Int) (K : Know) (extra : Op → List SVal → Option SVal)

theorem ieOf_den {x : SVal} {k : IntKind} {a : IE} (h : ieOf x = some (k, a)) (r : Ren) : @den (envS P nmv hnm ρ K extra) r x = some (.int k (a.ev ρ)) := by
  letI : Env := envS P nmv hnm ρ K extra
  unfold ieOf at h
  split at h
  · simp only [Option.some.injEq, Prod.mk.injEq] at h
    obtain ⟨rfl, rfl⟩ := h
    rfl
  · simp only [Option.some.injEq, Prod.mk.injEq] at h
    obtain ⟨rfl, rfl⟩ := h
    rfl
  · cases h

theorem binS_ok (hL : K.ok ρ) {b : BinOp} {k k' : IntKind} {a c : IE} {y : SVal} (h : binS K b k a k' c = some y) (r : Ren) (w : World) (ty : TypeId) :
    ∃ v, (Go.binOp b ty (.int k (a.ev ρ)) (.int k' (c.ev ρ))).run P w = .ok v w ∧ @den (envS P nmv hnm ρ K extra) r y = some v := by
  letI : Env := envS P nmv hnm ρ K extra
  unfold binS at h
  split at h
  · split at h
    · rename_i hn; cases h; exact ⟨_, binop_shift (.inl rfl) (nonneg_ok hL hn), rfl⟩
    · cases h
  · split at h
    · rename_i hn; cases h; exact ⟨_, binop_shift (.inr rfl) (nonneg_ok hL hn), rfl⟩
    · cases h
  · rename_i h3 h4
    split at h
    case isFalse => cases h
    rename_i hk
    subst hk
    split at h
    · rename_i hc
      split at h
      · rename_i rr hr
        cases h
        have := cmpS_ok hL hr
        exact ⟨_, binop_int hc, by rw [this.2]; rfl⟩
      · cases h
    · rename_i hc
      split at h
      · rename_i ha; cases h; exact ⟨_, binop_arith ha, rfl⟩
      · rename_i ha
        split at h
        · rename_i hz
          cases h
          exact ⟨_, binop_div (by simpa using hc) (by simpa using ha) h3 h4 (nonzero_ok hL hz), rfl⟩
        · cases h

def flatTy : TypeDesc → Bool
  | .struct _ | .array _ _ => false
  | _ => true

theorem run_part_flat {w : World} {t : TypeId} {d : TypeDesc} (hu : P.underlying t = some d) (hd : flatTy d = true) {cs : Array Value} {off : Nat} {v : Value} (hv : cs[off]? = some v) :
    (part t cs off).run P w = .ok v w := by
  unfold part
  have h1 : (isAgg t).run P w = .ok false w := by
    unfold isAgg
    rw [run_bind_ok (run_und hu)]
    cases d <;> first | rfl | (simp [flatTy] at hd; done)
  rw [run_bind_ok h1]
  simp only [Bool.false_eq_true, if_false, hv]
  rfl

theorem eqCell_ok (hL : K.ok ρ) {t : TypeId} {x y : Option SVal} {u : Option Bool} (h : eqCell K (P.underlying t) x y = some u) (r : Ren) (w : World) (d : Nat) :
    ∃ x' y' a b e, x = some x' ∧ y = some y' ∧ @den (envS P nmv hnm ρ K extra) r x' = some a ∧ @den (envS P nmv hnm ρ K extra) r y' = some b ∧ (match P.underlying t with | some (.struct _) | some (.array _ _) | none => False | _ => True) ∧
      (Op.equalIn (d + 1) t a b).run P w = .ok e w ∧ ∀ e', u = some e' → e = e' := by
  letI : Env := envS P nmv hnm ρ K extra
  unfold eqCell at h
  split at h
  · rename_i k x y hu
    split at h
    case h_2 => cases h
    rename_i j a j' c hx hy
    split at h
    case isFalse => cases h
    rename_i hj
    subst hj
    refine ⟨x, y, _, _, _, rfl, rfl, ieOf_den P nmv hnm ρ K extra hx r, ieOf_den P nmv hnm ρ K extra hy r, by rw [hu]; trivial, run_equalIn_int w d t j k _ _ hu, fun e' he => ?_⟩
    cases h
    exact (cmpS_ok hL he).2
  · rename_i a b hu
    cases h
    exact ⟨_, _, .bool a, .bool b, _, rfl, rfl, rfl, rfl, by rw [hu]; trivial, run_equalIn_bool w d t a b hu, fun e' he => by cases he; rfl⟩
  · rename_i a b hu
    cases h
    exact ⟨_, _, .string a, .string b, _, rfl, rfl, rfl, rfl, by rw [hu]; trivial, run_equalIn_string w d t a b hu, fun e' he => by cases he; rfl⟩
  · cases h

theorem eqCells_ok (hL : K.ok ρ) {xs ys : List SVal} {as bs : Array Value} {r : Ren} (hx : @denL (envS P nmv hnm ρ K extra) r xs = some as.toList) (hy : @denL (envS P nmv hnm ρ K extra) r ys = some bs.toList) (w : World) (d : Nat) :
    ∀ {fs : List Field} {e : Bool}, eqCells P K xs ys fs = some e → (Op.eqFields (d + 1) as bs fs).run P w = .ok e w
  | [], e, h => by cases h; rfl
  | f :: fs, e, h => by
    letI : Env := envS P nmv hnm ρ K extra
    simp only [eqCells] at h
    by_cases hn : f.name ≠ "_"
    · rw [if_pos hn] at h
      have step : ∀ u, eqCell K (P.underlying f.type) xs[f.offset]? ys[f.offset]? = some u → ∃ e1, (∀ e', u = some e' → e1 = e') ∧ (Op.eqFields (d + 1) as bs (f :: fs)).run P w = (if (!e1) = true then .ok false w else (Op.eqFields (d + 1) as bs fs).run P w) := by
        intro u hu
        obtain ⟨x', y', a, b, e1, hx', hy', da, db, hd, hrun, he⟩ := eqCell_ok P nmv hnm ρ K extra hL hu r w d
        obtain ⟨a1, ha1, ha2⟩ := denL_get hx _ _ hx'
        obtain ⟨b1, hb1, hb2⟩ := denL_get hy _ _ hy'
        rw [da] at ha2
        rw [db] at hb2
        cases ha2
        cases hb2
        refine ⟨e1, he, ?_⟩
        simp only [Op.eqFields]
        rw [if_pos hn]
        cases hh : P.underlying f.type with
        | none => rw [hh] at hd; exact hd.elim
        | some dd =>
          have hd' : flatTy dd = true := by
            rw [hh] at hd
            cases dd <;> first | rfl | exact hd.elim
          rw [run_bind_ok (run_part_flat P hh hd' (by simpa using ha1)), run_bind_ok (run_part_flat P hh hd' (by simpa using hb1)), run_bind_ok hrun]
          cases e1 <;> rfl
      split at h
      · rename_i hu
        obtain ⟨e1, he, hr⟩ := step _ hu
        rw [hr, he true rfl]
        simpa using eqCells_ok hL hx hy w d h
      · rename_i hu
        cases h
        obtain ⟨e1, he, hr⟩ := step _ hu
        rw [hr, he false rfl]
        rfl
      · rename_i hu
        obtain ⟨e1, he, hr⟩ := step _ hu
        split at h
        · rename_i hf
          cases h
          rw [hr]
          cases e1
          · rfl
          · simpa using eqCells_ok hL hx hy w d hf
        · cases h
      · cases h
    · rw [if_neg hn] at h
      simp only [Op.eqFields]
      rw [if_neg hn]
      exact eqCells_ok hL hx hy w d h

theorem cellsS_ok {x : SVal} {l : List SVal} (h : cellsS x = some l) (r : Ren) {v : Value} (hv : @den (envS P nmv hnm ρ K extra) r x = some v) : ∃ as : Array Value, v = .agg as ∧ @denL (envS P nmv hnm ρ K extra) r l = some as.toList := by
  letI : Env := envS P nmv hnm ρ K extra
  unfold cellsS at h
  split at h
  · cases h
    simp only [den] at hv
    split at hv
    · rename_i vs hvs
      cases hv
      exact ⟨vs.toArray, rfl, by simpa using hvs⟩
    · cases hv
  · cases h
    simp only [den, Option.some.injEq] at hv
    exact ⟨_, hv.symm, denL_map_v _⟩
  · cases h

theorem eqAgg_ok (hL : K.ok ρ) {ty : TypeId} {x y : SVal} {e : Bool} (h : eqAgg P K ty x y = some e) {r : Ren} {a b : Value} (ha : @den (envS P nmv hnm ρ K extra) r x = some a) (hb : @den (envS P nmv hnm ρ K extra) r y = some b) (w : World) :
    ∃ as bs, a = .agg as ∧ b = .agg bs ∧ P.eqGuardType P.depth ty = false ∧ (Op.equalIn 10000 ty (.agg as) (.agg bs)).run P w = .ok e w := by
  unfold eqAgg at h
  split at h
  case h_2 => cases h
  rename_i fs xs ys hu hx hy
  split at h
  case isFalse => cases h
  rename_i hc
  simp only [Bool.and_eq_true, Bool.not_eq_true'] at hc
  obtain ⟨as, rfl, h1⟩ := cellsS_ok P nmv hnm ρ K extra hx r ha
  obtain ⟨bs, rfl, h2⟩ := cellsS_ok P nmv hnm ρ K extra hy r hb
  refine ⟨as, bs, rfl, rfl, hc.2, ?_⟩
  have hf : P.fieldsOf ty = fs := by simp only [Program.fieldsOf, hu]
  rw [show (10000 : Nat) = 9998 + 1 + 1 from rfl, run_equalIn_agg w (9998 + 1) ty as bs (by rw [hf]; exact hu) hc.1, hf]
  exact eqCells_ok P nmv hnm ρ K extra hL h1 h2 w 9998 h

/-- What an extra table of facts has to keep. -/
def ExtraOk : Prop := ∀ (op : Op) (xs : List SVal) (y : SVal), extra op xs = some y → ∀ (r : Ren) (f : Operand → Value) (o : Oper) (w : World), o.op = op → @denL (envS P nmv hnm ρ K extra) r xs = some (op.operands.toList.map f) →
    ∃ v, (execOp f o).run P w = .ok (.value v) w ∧ @den (envS P nmv hnm ρ K extra) r y = some v

theorem noExtra_ok : ExtraOk P nmv hnm ρ K (fun _ _ => none) := fun _ _ _ h => by cases h

theorem denL_two {E : Env} {r : Ren} {x y : SVal} {a b : Value} (h : @denL E r [x, y] = some [a, b]) : @den E r x = some a ∧ @den E r y = some b := by
  obtain ⟨u, l, e1, e2, e3⟩ := (@denL_cons E _ _ _ _).1 h
  obtain ⟨u', l', e4, e5, e6⟩ := (@denL_cons E _ _ _ _).1 e2
  simp only [List.cons.injEq] at e3
  obtain ⟨rfl, rfl⟩ := e3
  simp only [List.cons.injEq] at e6
  obtain ⟨rfl, rfl⟩ := e6
  exact ⟨e1, e4⟩

theorem denL_one {E : Env} {r : Ren} {x : SVal} {a : Value} (h : @denL E r [x] = some [a]) : @den E r x = some a := by
  obtain ⟨u, l, e1, e2, e3⟩ := (@denL_cons E _ _ _ _).1 h
  simp only [List.cons.injEq] at e3
  obtain ⟨rfl, rfl⟩ := e3
  exact e1

theorem namesOkS (names : ∀ (f : FuncId) (fn : Func), P.funcs[f]? = some fn → fn.body.isSome = true → (fn.name == "runtime.NumGoroutine") = false) (hL : K.ok ρ) (hE : ExtraOk P nmv hnm ρ K extra) :
    @NamesOk (envS P nmv hnm ρ K extra) P :=
  letI : Env := envS P nmv hnm ρ K extra
  { names := names
    facts := by
      intro op xs y h r f o w ho hd
      change factS P K extra op xs = some y at h
      have hX := hE op xs y
      unfold factS at h
      split at h
      · rename_i b ty x1 x2 yt
        split at h
        case h_2 => cases h
        rename_i x y'
        have hd2 : denL r [x, y'] = some [f x1, f x2] := by simpa [Op.operands] using hd
        obtain ⟨d1, d2⟩ := denL_two hd2
        split at h
        · rename_i k a k' c hx hy
          have e1 := ieOf_den P nmv hnm ρ K extra hx r
          have e2 := ieOf_den P nmv hnm ρ K extra hy r
          rw [d1] at e1
          rw [d2] at e2
          obtain ⟨v, hv, hv2⟩ := binS_ok P nmv hnm ρ K extra hL h r w ty
          refine ⟨v, run_binop ho ?_ ?_, hv2⟩
          · rw [Option.some.inj e1, Option.some.inj e2]; exact guard_int
          · rw [Option.some.inj e1, Option.some.inj e2]; exact hv
        · split at h
          · split at h
            · rename_i e he
              cases h
              obtain ⟨as, bs, ha, hb, hg, hr⟩ := eqAgg_ok P nmv hnm ρ K extra hL he d1 d2 w
              refine ⟨.bool e, run_binop ho ?_ ?_, rfl⟩
              · rw [ha, hb]; exact run_eqGuard_agg w _ ty x1 x2 as bs hg
              · rw [ha, hb, run_eql_struct, hr]; rfl
            · exact hX h r f o w ho hd
          · split at h
            · rename_i e he
              cases h
              obtain ⟨as, bs, ha, hb, hg, hr⟩ := eqAgg_ok P nmv hnm ρ K extra hL he d1 d2 w
              refine ⟨.bool (!e), run_binop ho ?_ ?_, rfl⟩
              · rw [ha, hb]; exact run_eqGuard_agg w _ ty x1 x2 as bs hg
              · rw [ha, hb, run_neq_struct, hr]; rfl
            · exact hX h r f o w ho hd
          · exact hX h r f o w ho hd
      · rename_i u ty x1
        split at h
        case h_2 => cases h
        rename_i x
        have hd2 : denL r [x] = some [f x1] := by simpa [Op.operands] using hd
        have d1 := denL_one hd2
        split at h
        · rename_i k a hx
          have e1 := ieOf_den P nmv hnm ρ K extra hx r
          rw [d1] at e1
          have e1 := Option.some.inj e1
          have hrun : ∀ v, (Op.unary u (f x1)).run P w = .ok v w → (execOp f o).run P w = .ok (.value v) w := fun v hv => by
            unfold execOp
            simp only [ho]
            exact run_bind_ok hv
          split at h
          · cases h
            exact ⟨_, hrun (.int k (binI .sub k 0 (a.ev ρ))) (by rw [e1]; rfl), rfl⟩
          · cases h
            refine ⟨_, hrun (.int k (binI .xor k (if k.signed then -1 else k.max) (a.ev ρ))) (by rw [e1]; rfl), rfl⟩
          · cases h
        · exact hX h r f o w ho hd
      · rename_i src dst x1
        split at h
        case h_2 => cases h
        rename_i x
        have hd2 : denL r [x] = some [f x1] := by simpa [Op.operands] using hd
        have d1 := denL_one hd2
        split at h
        · rename_i k a hx
          have e1 := ieOf_den P nmv hnm ρ K extra hx r
          rw [d1] at e1
          have e1 := Option.some.inj e1
          split at h
          · rename_i sd k' hs hk
            cases h
            refine ⟨.int k' (k'.wrap (a.ev ρ)), ?_, rfl⟩
            unfold execOp
            simp only [ho]
            refine run_bind_ok (a := Value.int k' (k'.wrap (a.ev ρ))) (w' := w) ?_
            unfold convert
            rw [run_bind_ok (run_und hs), run_bind_ok (run_und hk), e1]
            rfl
          · exact hX h r f o w ho hd
        · exact hX h r f o w ho hd
      · exact hX h r f o w ho hd }
end
end
end Go.RX

namespace Go.RX
noncomputable section
open Go.RowKit (Below)

/-! ### Calls at symbolic values that were run before -/
def sameL (f : SVal → SVal → Bool) : List SVal → List SVal → Bool
  | [], [] => true
  | x :: xs, y :: ys => f x y && sameL f xs ys
  | _, _ => false

/-- Are the two the same? (Values, expressions of integers, and aggregates of such; of all others it says no.) -/
def sameS : Nat → SVal → SVal → Bool
  | _, .v a, .v b => eqV 9 a b
  | _, .sym (.int j a), .sym (.int k b) => decide (j = k) && a.same b
  | _, .sym (.nm i), .sym (.nm j) => Nat.beq i j
  | n + 1, .agg l, .agg m => sameL (sameS n) l m
  | _, _, _ => false

theorem sameL_ok {f : SVal → SVal → Bool} (hf : ∀ x y, f x y = true → x = y) : ∀ (l m : List SVal), sameL f l m = true → l = m
  | [], [], _ => rfl
  | [], y :: ys, h => by simp [sameL] at h
  | x :: xs, [], h => by simp [sameL] at h
  | x :: xs, y :: ys, h => by
    simp only [sameL, Bool.and_eq_true] at h
    rw [hf x y h.1, sameL_ok hf xs ys h.2]

theorem sameS_ok : ∀ (n : Nat) (x y : SVal), sameS n x y = true → x = y
  | 0, x, y, h => by
    unfold sameS at h
    split at h
    · rw [eqV_ok 9 _ _ h]
    · simp only [Bool.and_eq_true, decide_eq_true_eq] at h; rw [h.1, IE.same_ok h.2]
    · rw [Nat.eq_of_beq_eq_true h]
    · exact absurd (by assumption : 0 = Nat.succ _) (by simp)
    · cases h
  | n + 1, x, y, h => by
    unfold sameS at h
    split at h
    · rw [eqV_ok 9 _ _ h]
    · simp only [Bool.and_eq_true, decide_eq_true_eq] at h; rw [h.1, IE.same_ok h.2]
    · rw [Nat.eq_of_beq_eq_true h]
    · have hn := Nat.succ.inj (by assumption : n + 1 = Nat.succ _)
      subst hn
      rw [sameL_ok (sameS_ok n) _ _ h]
    · cases h

abbrev SEntry := FuncId × List SVal × SVal

def lookS (f : FuncId) (xs : List SVal) : List SEntry → Option SVal
  | [] => none
  | e :: es => if e.1 = f then (if sameL (sameS 9) e.2.1 xs then some e.2.2 else lookS f xs es) else lookS f xs es

theorem lookS_ok {f : FuncId} {xs : List SVal} {y : SVal} : ∀ {T : List SEntry}, lookS f xs T = some y → (f, xs, y) ∈ T
  | [], h => by cases h
  | e :: es, h => by
    simp only [lookS] at h
    split at h
    · rename_i hf
      split at h
      · rename_i hv
        cases h
        have := sameL_ok (sameS_ok 9) _ _ hv
        obtain ⟨a, b, c⟩ := e
        simp only at hf this
        subst hf this
        simp
      · exact List.mem_cons_of_mem _ (lookS_ok h)
    · exact List.mem_cons_of_mem _ (lookS_ok h)

def tabS (T : List SEntry) : Orac := readO fun f xs _ => lookS f xs T

section
variable [Env] {P : Program} {G : Glob}

/-- What an entry says. -/
def SOk (P : Program) (G : Glob) (e : SEntry) : Prop := nfL e.2.1 = true ∧ nf e.2.2 = true ∧
  ∃ (vs : List Value) (v : Value), denL (fun _ => none) e.2.1 = some vs ∧ den (fun _ => none) e.2.2 = some v ∧ ∀ w, G.holds w → Calls P e.1 vs.toArray w fun r w' => r = .returned v ∧ Below w.heap.size w w'

theorem tabS_holds {T : List SEntry} (h : ∀ e ∈ T, SOk P G e) : (tabS T).holds P G := readO_holds fun f xs _ y hy _ ρ vs w hG _ hvs => by
  obtain ⟨h1, h2, us, v, h3, h4, h5⟩ := h _ (lookS_ok hy)
  simp only at h1 h2 h3 h4 h5
  have e1 := denL_nf (ρ := ρ) (ρ' := fun _ => none) xs h1
  have e2 := den_nf (ρ := ρ) (ρ' := fun _ => none) y h2
  rw [e1, h3] at hvs
  have : us = vs.toList := Option.some.inj hvs
  subst this
  exact ⟨v, by rw [e2, h4], h5 w hG⟩

/-- Two oracles, the first one first. -/
def orO (O U : Orac) : Orac := fun f xs H => match O f xs H with
  | some r => some r
  | none => U f xs H

theorem orO_holds {O U : Orac} (h : O.holds P G) (k : U.holds P G) : (orO O U).holds P G := fun f xs H x H' hy => by
  unfold orO at hy
  split at hy
  · rename_i hh; cases hy; exact h f xs H _ _ hh
  · exact k f xs H x H' hy

mutual
theorem den_some {ρ : Ren} : ∀ (x : SVal), nf x = true → ∃ v, den ρ x = some v
  | .v x, _ => ⟨_, rfl⟩
  | .sym i, _ => ⟨_, rfl⟩
  | .agg l, h => by
    obtain ⟨vs, hv⟩ := denL_some (ρ := ρ) l (by simpa [nf] using h)
    exact ⟨.agg vs.toArray, by simp only [den, hv]⟩
  | .tuple l, h => by
    obtain ⟨vs, hv⟩ := denL_some (ρ := ρ) l (by simpa [nf] using h)
    exact ⟨.tuple vs.toArray, by simp only [den, hv]⟩
  | .iface t x, h => by
    obtain ⟨v, hv⟩ := den_some (ρ := ρ) x (by simpa [nf] using h)
    exact ⟨.iface t v, by simp only [den, hv]⟩
  | .ptr i off, h => by simp [nf] at h
  | .slice i off len cap, h => by simp [nf] at h
  | .row i off eoff len, h => by simp [nf] at h
  | .tail i alt off eoff, h => by simp [nf] at h
  | .func fn f c, h => by simp [nf] at h
  | .yield i, h => by simp [nf] at h
  | .map i, h => by simp [nf] at h
theorem denL_some {ρ : Ren} : ∀ (l : List SVal), nfL l = true → ∃ vs, denL ρ l = some vs
  | [], _ => ⟨[], rfl⟩
  | x :: xs, h => by
    simp only [nfL, Bool.and_eq_true] at h
    obtain ⟨v, hv⟩ := den_some (ρ := ρ) x h.1
    obtain ⟨vs, hvs⟩ := denL_some (ρ := ρ) xs h.2
    exact ⟨v :: vs, by simp only [denL, hv, hvs]⟩
end

theorem SOk_of_run {O : Orac} (hO : O.holds P G) (hN : NamesOk P) (hm : P.follows .mixedOrders = true) {fuel n : Nat} {f : FuncId} {xs : List SVal} {y : SVal}
    (h : (call P G O fuel n (.fn f) xs []).map (fun r => nrm r.1) = some y) (hx : nfL xs = true) (hy : nf y = true) (hro : ∀ w, RoHolds w := by exact fun w => RoHolds.of_none (fun _ => rfl) (fun _ => rfl) w) : SOk P G (f, xs, y) := by
  obtain ⟨vs, hv⟩ := denL_some (ρ := fun _ => none) xs hx
  obtain ⟨v, hd⟩ := den_some (ρ := fun _ => none) y hy
  refine ⟨hx, hy, vs, v, hv, hd, fun w hG => ?_⟩
  obtain ⟨v', h1, h2⟩ := calls_of_run hO hN hm h hy (ρ := fun _ => none) (vs := vs.toArray) hx (by simpa using hv) hG (hro w)
  rw [hd] at h1
  cases h1
  exact h2
/-- The same, where names stand for what lies ahead of the run. -/
def SOkR (P : Program) (G : Glob) (e : SEntry) : Prop := nfL e.2.1 = true ∧ nf e.2.2 = true ∧
  ∃ (vs : List Value) (v : Value), denL (fun _ => none) e.2.1 = some vs ∧ den (fun _ => none) e.2.2 = some v ∧ ∀ w, G.holds w → RoHolds w → Calls P e.1 vs.toArray w fun r w' => r = .returned v ∧ Below w.heap.size w w'

theorem SOk.weak {e : SEntry} (h : SOk P G e) : SOkR P G e := by
  obtain ⟨h1, h2, vs, v, h3, h4, h5⟩ := h
  exact ⟨h1, h2, vs, v, h3, h4, fun w hG _ => h5 w hG⟩

theorem tabR_holds {T : List SEntry} (h : ∀ e ∈ T, SOkR P G e) : (tabS T).holds P G := readO_holds fun f xs _ y hy _ ρ vs w hG hR hvs => by
  obtain ⟨h1, h2, us, v, h3, h4, h5⟩ := h _ (lookS_ok hy)
  simp only at h1 h2 h3 h4 h5
  have e1 := denL_nf (ρ := ρ) (ρ' := fun _ => none) xs h1
  have e2 := den_nf (ρ := ρ) (ρ' := fun _ => none) y h2
  rw [e1, h3] at hvs
  have : us = vs.toList := Option.some.inj hvs
  subst this
  exact ⟨v, by rw [e2, h4], h5 w hG hR.below.here⟩

theorem SOkR_of_run {O : Orac} (hO : O.holds P G) (hN : NamesOk P) (hm : P.follows .mixedOrders = true) {fuel n : Nat} {f : FuncId} {xs : List SVal} {y : SVal}
    (h : (call P G O fuel n (.fn f) xs []).map (fun r => nrm r.1) = some y) (hx : nfL xs = true) (hy : nf y = true) : SOkR P G (f, xs, y) := by
  obtain ⟨vs, hv⟩ := denL_some (ρ := fun _ => none) xs hx
  obtain ⟨v, hd⟩ := den_some (ρ := fun _ => none) y hy
  refine ⟨hx, hy, vs, v, hv, hd, fun w hG hro => ?_⟩
  obtain ⟨v', h1, h2⟩ := calls_of_run hO hN hm h hy (ρ := fun _ => none) (vs := vs.toArray) hx (by simpa using hv) hG hro
  rw [hd] at h1
  cases h1
  exact h2
end
end
end Go.RX
