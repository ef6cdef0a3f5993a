import Derived.Test.YtonkcpmefnddaaaGreatDoorRXA
import Derived.Laws.Externs
namespace Go.RX
noncomputable section
open Go.RowKit (Below)

/-! ### Functions that the model gives: Add64, Sub64 -/
def ExtF (P : Program) (g : FuncId) (e : Array Value → Sem Value) : Prop :=
  ∃ fn, P.funcs[g]? = some fn ∧ (fn.name == "runtime.NumGoroutine") = false ∧ fn.body.isNone = true ∧ Extern.findNext fn = none ∧ Extern.find fn = some e

theorem run_extern {P : Program} {g : FuncId} {e : Array Value → Sem Value} (hE : ExtF P g e) {w : World} {f : Operand → Value} {o : Oper} {c : Call} {x : Operand} (ho : o.op = .call c) (hc : c.callee = .value x)
    (hx : f x = .func (.func g) #[] #[]) {v : Value} (hr : (e (c.args.map f)).run P w = .ok v w) : (execOp f o).run P w = .ok (.value v) w := by
  obtain ⟨fn, h1, h2, h3, h4, h5⟩ := hE
  obtain ⟨callee, args, tys⟩ := c
  simp only at hc
  subst hc
  unfold execOp
  simp only [ho]
  show ((do let d ← resolve f { callee := .value x, args := args, argTypes := tys } o.type; invoke d.target d.args : Sem Next)).run P w = _
  simp only [resolve, hx, Deferred.ofValue]
  rw [run_pure_bind]
  simp only [invoke, callFunc, Array.empty_append, Array.append_empty]
  show (Sem.program .pure >>= _ : Sem Next).run P w = _
  rw [run_bind_pure (a := P) rfl]
  simp only [h1, h2, Bool.false_eq_true, if_false, h3, if_true, h4]
  show ((mark (.extern g) >>= _ : Sem Next)).run P w = _
  rw [run_bind_ok (a := ()) (w' := w) rfl]
  simp only [h5]
  exact run_bind_ok hr

def sub64Entry : Array Value → Sem Value := fun args => do
  let (x, y, b) ← Extern.MathBitsCarry.three "Sub64" args
  pure (Extern.MathBitsCarry.pair ((x + Extern.MathBitsCarry.m64 - y - b) % Extern.MathBitsCarry.m64) (if x < y + b then 1 else 0))

theorem run_sub64 {P : Program} (x y c : Int) (hx : 0 ≤ x) (hx1 : x < 18446744073709551616) (hy : 0 ≤ y) (hy1 : y < 18446744073709551616) (hc0 : 0 ≤ c) (hc : c ≤ 1) (w : World) :
    (sub64Entry #[.int .u64 x, .int .u64 y, .int .u64 c]).run P w = .ok (.tuple #[.int .u64 ((x - y - c) % 18446744073709551616), .int .u64 (if x < y + c then 1 else 0)]) w := by
  have key : ∀ k : Nat, k ≤ 1 → (sub64Entry #[.int .u64 x, .int .u64 y, .int .u64 (k : Int)]).run P w =
      .ok (Extern.MathBitsCarry.pair ((x.toNat + Extern.MathBitsCarry.m64 - y.toNat - k) % Extern.MathBitsCarry.m64) (if x.toNat < y.toNat + k then 1 else 0)) w := by
    intro k hk
    have : k = 0 ∨ k = 1 := by omega
    rcases this with rfl | rfl <;> rfl
  obtain ⟨k, rfl⟩ := Int.eq_ofNat_of_zero_le hc0
  rw [key k (by omega)]
  obtain ⟨X, rfl⟩ := Int.eq_ofNat_of_zero_le hx
  obtain ⟨Y, rfl⟩ := Int.eq_ofNat_of_zero_le hy
  simp only [Extern.MathBitsCarry.pair, Extern.MathBitsCarry.m64, Int.toNat_natCast]
  have e1 : (Int.ofNat ((X + 2 ^ 64 - Y - k) % 2 ^ 64)) = ((X : Int) - Y - k) % 18446744073709551616 := by
    have h1 : Y + k ≤ X + 2 ^ 64 := by omega
    rw [Int.ofNat_eq_natCast]
    omega
  have e2 : (Int.ofNat (if X < Y + k then 1 else 0)) = if (X : Int) < Y + k then 1 else 0 := by
    by_cases h : X < Y + k
    · rw [if_pos h, if_pos (by omega)]; rfl
    · rw [if_neg h, if_neg (by omega)]; rfl
  rw [e1, e2]

def asksU64 (K : Know) (e : IE) : Bool :=
  match K .geq e (.lit 0) with
  | some true => match K .lss e (.lit 18446744073709551616) with
    | some true => true
    | _ => false
  | _ => false

def isWrapOp : BinOp → Bool
  | .add | .sub | .mul | .and | .or | .xor | .andNot | .quo => true
  | _ => false

/-- Is it surely a number of 64 bits? -/
def isU64 (K : Know) (e : IE) : Bool :=
  match e with
  | .lit n => decide (0 ≤ n) && decide (n < 18446744073709551616)
  | .cv .u64 _ => true
  | .bin op .u64 _ _ => isWrapOp op
  | .sh .shl .u64 _ _ => true
  | e => asksU64 K e

theorem wrap64_range (n : Int) : 0 ≤ IntKind.wrap .u64 n ∧ IntKind.wrap .u64 n < 18446744073709551616 := by rw [wrap_u64]; omega

theorem asksU64_ok {ρ : Nat → Int} {K : Know} (hK : K.ok ρ) {e : IE} (h : asksU64 K e = true) : 0 ≤ e.ev ρ ∧ e.ev ρ < 18446744073709551616 := by
  unfold asksU64 at h
  split at h
  case h_2 => cases h
  rename_i h1
  split at h
  case h_2 => cases h
  rename_i h2
  have a1 := (hK _ _ _ _ h1).2
  have a2 := (hK _ _ _ _ h2).2
  exact ⟨of_decide_eq_true a1, of_decide_eq_true a2⟩

theorem isU64_ok {ρ : Nat → Int} {K : Know} (hK : K.ok ρ) {e : IE} (h : isU64 K e = true) : 0 ≤ e.ev ρ ∧ e.ev ρ < 18446744073709551616 := by
  unfold isU64 at h
  split at h
  · simpa [IE.ev] using h
  · exact wrap64_range _
  · rename_i op a b
    cases op <;> first | exact wrap64_range _ | (simp [isWrapOp] at h; done)
  · exact wrap64_range _
  · exact asksU64_ok hK h

/-- Which function it is: 0 Add64, 1 Sub64. -/
def extOf (X : List (FuncId × Nat)) (g : FuncId) : Option Nat := (X.find? fun p => p.1 == g).map (·.2)

def bit? (K : Know) (c : IE) : Bool :=
  match c with
  | .lit n => decide (0 ≤ n) && decide (n ≤ 1)
  | c => match K .geq c (.lit 0) with
    | some true => match K .leq c (.lit 1) with
      | some true => true
      | _ => false
    | _ => false

theorem bit?_ok {ρ : Nat → Int} {K : Know} (hK : K.ok ρ) {e : IE} (h : bit? K e = true) : 0 ≤ e.ev ρ ∧ e.ev ρ ≤ 1 := by
  unfold bit? at h
  split at h
  · simpa [IE.ev] using h
  · split at h
    case h_2 => cases h
    rename_i h1
    split at h
    case h_2 => cases h
    rename_i h2
    have a1 := (hK _ _ _ _ h1).2
    have a2 := (hK _ _ _ _ h2).2
    exact ⟨of_decide_eq_true a1, of_decide_eq_true a2⟩

def carryS (K : Know) (t : Nat) (x y c : SVal) : Option SVal :=
  match ieOf x, ieOf y, ieOf c with
  | some (.u64, a), some (.u64, b), some (.u64, d) => if isU64 K a && isU64 K b && bit? K d then
      match t with
      | 0 => some (.tuple [.sym (.int .u64 (.bin .add .u64 (.bin .add .u64 a b) d)), .sym (.int .u64 (.tri 0 a b d))])
      | 1 => some (.tuple [.sym (.int .u64 (.bin .sub .u64 (.bin .sub .u64 a b) d)), .sym (.int .u64 (.tri 1 a b d))])
      | _ => none
    else none
  | _, _, _ => none

/-- The facts on the calls of the functions that the model gives; further facts behind them. -/
def extraX (X : List (FuncId × Nat)) (K : Know) (op : Op) (xs : List SVal) : Option SVal :=
  match op with
  | .call c => match c.callee with
    | .value _ => match xs with
      | [.v (.func (.func g) fs cs), x, y, z] => if fs.isEmpty && cs.isEmpty then
          match extOf X g with
          | some t => carryS K t x y z
          | none => none
        else none
      | _ => none
    | _ => none
  | _ => none

def entryOf : Nat → Array Value → Sem Value
  | 0 => add64Entry
  | _ => sub64Entry

def ExtsOk (P : Program) (X : List (FuncId × Nat)) : Prop := ∀ p ∈ X, ExtF P p.1 (entryOf p.2)

theorem denL_four {E : Env} {r : Ren} {x0 x1 x2 x3 : SVal} {l : List Value} (h : @denL E r [x0, x1, x2, x3] = some l) : ∃ a0 a1 a2 a3, l = [a0, a1, a2, a3] ∧ @den E r x0 = some a0 ∧ @den E r x1 = some a1 ∧ @den E r x2 = some a2 ∧ @den E r x3 = some a3 := by
  obtain ⟨a0, l0, e0, h0, rfl⟩ := (@denL_cons E _ _ _ _).1 h
  obtain ⟨a1, l1, e1, h1, rfl⟩ := (@denL_cons E _ _ _ _).1 h0
  obtain ⟨a2, l2, e2, h2, rfl⟩ := (@denL_cons E _ _ _ _).1 h1
  obtain ⟨a3, l3, e3, h3, rfl⟩ := (@denL_cons E _ _ _ _).1 h2
  simp only [denL, Option.some.injEq] at h3
  subst h3
  exact ⟨a0, a1, a2, a3, rfl, e0, e1, e2, e3⟩

theorem extraX_ok (P : Program) (nmv : Nat → Value) (hnm : ∀ i, Flat (nmv i)) (ρ : Nat → Int) (K : Know) (X : List (FuncId × Nat)) (hK : K.ok ρ) (hX : ExtsOk P X) : ExtraOk P nmv hnm ρ K (extraX X K) := by
  intro op xs y h r f o w ho hd
  letI : Env := envS P nmv hnm ρ K (extraX X K)
  unfold extraX at h
  split at h
  case h_2 => cases h
  rename_i c
  split at h
  case h_2 => cases h
  rename_i xo hc
  split at h
  case h_2 => cases h
  rename_i g fs cs x y' z
  split at h
  case isFalse => cases h
  rename_i hfc
  simp only [Bool.and_eq_true, Array.isEmpty_iff] at hfc
  obtain ⟨rfl, rfl⟩ := hfc
  split at h
  case h_2 => cases h
  rename_i t ht
  unfold extOf at ht
  obtain ⟨p, hp, rfl⟩ := Option.map_eq_some_iff.1 ht
  have hp1 := List.find?_some hp
  have hp2 := List.mem_of_find?_eq_some hp
  have hg : p.1 = g := by simpa using hp1
  have hE := hX p hp2
  rw [hg] at hE
  obtain ⟨a0, a1, a2, a3, hl, d0, d1, d2, d3⟩ := denL_four hd
  obtain ⟨callee, args, tys⟩ := c
  simp only at hc
  subst hc
  have hl' : f xo :: args.toList.map f = [a0, a1, a2, a3] := by simpa [Op.operands, Call.operands] using hl
  simp only [List.cons.injEq] at hl'
  obtain ⟨hf, hargs⟩ := hl'
  have hx : f xo = .func (.func g) #[] #[] := by
    rw [hf]
    exact (Option.some.inj d0).symm
  have ha : args.map f = #[a1, a2, a3] := Array.toList_inj.1 (by simpa using hargs)
  unfold carryS at h
  split at h
  case h_2 => cases h
  rename_i a b d hxa hyb hzd
  have e1 := ieOf_den P nmv hnm ρ K (extraX X K) hxa r
  have e2 := ieOf_den P nmv hnm ρ K (extraX X K) hyb r
  have e3 := ieOf_den P nmv hnm ρ K (extraX X K) hzd r
  rw [d1] at e1
  rw [d2] at e2
  rw [d3] at e3
  cases e1
  cases e2
  cases e3
  split at h
  case isFalse => cases h
  rename_i hcond
  simp only [Bool.and_eq_true] at hcond
  obtain ⟨⟨c1, c2⟩, c3⟩ := hcond
  obtain ⟨u1, u2⟩ := isU64_ok hK c1
  obtain ⟨v1, v2⟩ := isU64_ok hK c2
  obtain ⟨z1, z2⟩ := bit?_ok hK c3
  split at h
  · rename_i h0
    cases h
    rw [h0] at hE
    refine ⟨_, run_extern hE ho rfl hx (by rw [ha]; exact run_add64 _ _ _ u1 v1 z1 z2 w), ?_⟩
    have e : (IE.ev ρ a + IE.ev ρ b + IE.ev ρ d) % 18446744073709551616 = ((IE.ev ρ a + IE.ev ρ b) % 18446744073709551616 + IE.ev ρ d) % 18446744073709551616 := by omega
    have e0 : ∀ sy : Sy, (Env.val sy : Value) = valS nmv ρ sy := fun _ => rfl
    simp only [den, denL, e0, valS, IE.ev, binI, triI, wrap_u64, e]
  · rename_i h0
    cases h
    rw [h0] at hE
    refine ⟨_, run_extern hE ho rfl hx (by rw [ha]; exact run_sub64 _ _ _ u1 u2 v1 v2 z1 z2 w), ?_⟩
    have e : (IE.ev ρ a - IE.ev ρ b - IE.ev ρ d) % 18446744073709551616 = ((IE.ev ρ a - IE.ev ρ b) % 18446744073709551616 - IE.ev ρ d) % 18446744073709551616 := by omega
    have e0 : ∀ sy : Sy, (Env.val sy : Value) = valS nmv ρ sy := fun _ => rfl
    simp only [den, denL, e0, valS, IE.ev, binI, triI, wrap_u64, e]
  · cases h
end
end Go.RX
