import Derived.Test.YtonkcpmefnddaaaGreatDoorRXT
import Derived.Lib.Strings
namespace Go.RX
noncomputable section
open Go.RowKit (Below)

variable [Env]

/-! ### Facts on comparisons and lengths -/
def isCmp : BinOp → Bool
  | .eql | .neq | .lss | .leq | .gtr | .geq => true
  | _ => false

def cmpI : BinOp → Int → Int → Bool
  | .eql, a, b => a == b
  | .neq, a, b => a != b
  | .lss, a, b => decide (a < b)
  | .leq, a, b => decide (a ≤ b)
  | .gtr, a, b => decide (a > b)
  | .geq, a, b => decide (a ≥ b)
  | _, _, _ => false

 omit [Env] in
theorem run_cmp {P : Program} {w : World} {f : Operand → Value} {o : Oper} {op : BinOp} {ty : TypeId} {x y : Operand} {yt : TypeId} {k : IntKind} {a b : Int} (ho : o.op = .binOp op ty x y yt) (hc : isCmp op = true)
    (hx : f x = .int k a) (hy : f y = .int k b) : (execOp f o).run P w = .ok (.value (.bool (cmpI op a b))) w := by
  have h1 : (eqGuard op ty x y (.int k a) (.int k b)).run P w = .ok () w := by
    cases op <;> first | rfl | (simp [isCmp] at hc; done)
  have h2 : (Go.binOp op ty (.int k a) (.int k b)).run P w = .ok (.bool (cmpI op a b)) w := by
    cases op <;> first | (simp [isCmp] at hc; done) | (simp [Go.binOp, Op.intCmp, cmpI])
  unfold execOp
  simp only [ho, hx, hy]
  show ((do pure (Next.value (← (do eqGuard op ty x y (.int k a) (.int k b); Go.binOp op ty (.int k a) (.int k b) : Sem Value))) : Sem Next)).run P w = _
  refine run_bind_ok (a := Value.bool (cmpI op a b)) (w' := w) ?_
  rw [run_bind_ok h1]
  exact h2

 omit [Env] in
theorem run_eqS {P : Program} {w : World} {f : Operand → Value} {o : Oper} {ty : TypeId} {x y : Operand} {yt : TypeId} {a b : ByteArray} (ho : o.op = .binOp .eql ty x y yt)
    (hx : f x = .string a) (hy : f y = .string b) : (execOp f o).run P w = .ok (.value (.bool (decide (a = b)))) w := by
  have h1 : (eqGuard .eql ty x y (.string a) (.string b)).run P w = .ok () w := rfl
  have h2 : (Go.binOp .eql ty (.string a) (.string b)).run P w = .ok (.bool (decide (a = b))) w := by
    have e : (a.toList == b.toList) = decide (a = b) := by
      rw [Lib.toList_data, Lib.toList_data]
      by_cases h : a = b
      · subst h
        simp
      · have h1 : ¬ a.data.toList = b.data.toList := fun he => h (ByteArray.ext (Array.toList_inj.1 he))
        rw [beq_false_of_ne h1, decide_eq_false h]
    simp [Go.binOp, Op.stringOp, e]
  unfold execOp
  simp only [ho, hx, hy]
  show ((do pure (Next.value (← (do eqGuard .eql ty x y (.string a) (.string b); Go.binOp .eql ty (.string a) (.string b) : Sem Value))) : Sem Next)).run P w = _
  refine run_bind_ok (a := Value.bool (decide (a = b))) (w' := w) ?_
  rw [run_bind_ok h1]
  exact h2

 omit [Env] in
theorem run_lenS {P : Program} {w : World} {f : Operand → Value} {o : Oper} {args : Array Operand} {x : Operand} {ty : TypeId} {s : ByteArray} (ho : o.op = .call { callee := .builtin .len, args := args, argTypes := #[ty] })
    (ha : args = #[x]) (hu : P.underlying ty = some .string) (hx : f x = .string s) : (execOp f o).run P w = .ok (.value (goInt s.size)) w := by
  subst ha
  have h2 : (Builtin.len_ #[ty] o.type #[f x]).run P w = .ok (goInt s.size) w := by
    unfold Builtin.len_
    simp only [List.getElem?_toArray, List.getElem?_cons_zero, hx]
    have hr : (underlying ty).run P w = .ok .string w := by
      unfold underlying
      show (Sem.program .pure >>= _ : Sem TypeDesc).run P w = _
      rw [run_bind_pure (a := P) rfl]
      simp only [hu]
      rfl
    rw [run_bind_ok hr]
    rfl
  unfold execOp
  simp only [ho]
  show ((do let d ← resolve f { callee := .builtin .len, args := #[x], argTypes := #[ty] } o.type; invoke d.target d.args : Sem Next)).run P w = _
  simp only [resolve]
  rw [run_pure_bind]
  simp only [invoke, builtin, List.map_toArray, List.map_cons, List.map_nil]
  rw [run_bind_ok h2]
  rfl

 omit [Env] in
theorem beqB (a b : ByteArray) : (a == b) = decide (a = b) := by
  have h1 : (a == b) = (a.data == b.data) := rfl
  rw [h1]
  by_cases h : a = b
  · subst h
    simp
  · have : ¬ a.data = b.data := fun he => h (ByteArray.ext he)
    rw [beq_false_of_ne this, decide_eq_false h]
end
end Go.RX
