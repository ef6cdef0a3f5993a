import Derived.Test.YtdmbnllekmgnhaaDoorRXL
namespace Go.RX
noncomputable section

variable [Env]

/-! ### A body, piece by piece -/
def segs : Code → List Code
  | .seq x y => segs x ++ segs y
  | c => [c]
def runSegs (P : Program) (G : Glob) (cf : CallF) (fuel : Nat) (r : Option Nat) : List Code → Sx → Option (SEx × Sx)
  | [], s => some (.normal, s)
  | c :: cs, s => match runCode P G cf fuel r c s with
    | none => none
    | some (.normal, s') => runSegs P G cf fuel r cs s'
    | some (.exit id, s') => some (.exit id, s')
    | some (.ret, s') => some (.ret, s')

section
variable {P : Program} {G : Glob} {cf : CallF} {fuel : Nat} {r : Option Nat}
theorem runSegs_append : ∀ (l m : List Code) (s : Sx), runSegs P G cf fuel r (l ++ m) s = match runSegs P G cf fuel r l s with
    | none => none
    | some (.normal, s') => runSegs P G cf fuel r m s'
    | some (.exit id, s') => some (.exit id, s')
    | some (.ret, s') => some (.ret, s')
  | [], m, s => rfl
  | c :: cs, m, s => by
    simp only [List.cons_append, runSegs]
    cases hc : runCode P G cf fuel r c s with
    | none => rfl
    | some p =>
      obtain ⟨e, s'⟩ := p
      cases e with
      | normal => exact runSegs_append cs m s'
      | exit id => rfl
      | ret => rfl
theorem runSegs_one (c : Code) (s : Sx) : runSegs P G cf fuel r [c] s = runCode P G cf fuel r c s := by
  simp only [runSegs]
  cases hc : runCode P G cf fuel r c s with
  | none => rfl
  | some p =>
    obtain ⟨e, s'⟩ := p
    cases e <;> rfl
theorem runCode_segs : ∀ (c : Code) (s : Sx), runCode P G cf fuel r c s = runSegs P G cf fuel r (segs c) s
  | .seq x y, s => by
    rw [segs, runSegs_append, ← runCode_segs x s]
    simp only [runCode]
    cases hc : runCode P G cf fuel r x s with
    | none => rfl
    | some p =>
      obtain ⟨e, s'⟩ := p
      cases e with
      | normal => exact runCode_segs y s'
      | exit id => rfl
      | ret => rfl
  | .skip, s => (runSegs_one _ s).symm
  | .region .., s => (runSegs_one _ s).symm
  | .cond .., s => (runSegs_one _ s).symm
  | .block .., s => (runSegs_one _ s).symm
  | .loop .., s => (runSegs_one _ s).symm
  | .rangeFunc .., s => (runSegs_one _ s).symm
  | .exit .., s => (runSegs_one _ s).symm
  | .scope .., s => (runSegs_one _ s).symm
  | .label .., s => (runSegs_one _ s).symm
  | .goto .., s => (runSegs_one _ s).symm
  | .ret, s => (runSegs_one _ s).symm
  | .refuse .., s => (runSegs_one _ s).symm
/-- The first n pieces. -/
theorem runSegs_split {l : List Code} {s s' : Sx} (n : Nat) (h : runSegs P G cf fuel r (l.take n) s = some (.normal, s')) : runSegs P G cf fuel r l s = runSegs P G cf fuel r (l.drop n) s' := by
  conv => lhs; rw [← List.take_append_drop n l]
  rw [runSegs_append, h]
end

/-- What a body yields at its end. -/
def endR (P : Program) (G : Glob) (fn : Func) : Option (SEx × Sx) → Option (SVal × SHeap)
  | none => none
  | some (.exit _, _) => none
  | some (.normal, s) => match takeMarks s.2 s.1.2 with
    | none => none
    | some H' => match resE P G s.1.1 H' fn.results.toList with
      | some xs => some (resV xs, H')
      | none => none
  | some (.ret, s) => match takeMarks s.2 s.1.2 with
    | none => none
    | some H' => match resE P G s.1.1 H' fn.results.toList with
      | some xs => some (resV xs, H')
      | none => none
theorem call_segs {P : Program} {G : Glob} {O : Orac} {fuel n : Nat} {f : FuncId} {fn : Func} {c : Code} {args : List SVal} {H : SHeap} (hO : O f args H = none) (hf : P.funcs[f]? = some fn) (hb : fn.body = some c) :
    call P G O fuel (n + 1) (.fn f) args H = endR P G fn (runSegs P G (call P G O fuel n) fuel none (segs c) ((args ++ List.replicate (fn.ntmps - args.length) (.v undef), H), [])) := by
  simp only [call, hO, body, hf, hb, runCode_segs]
  cases hr : runSegs P G (call P G O fuel n) fuel none (segs c) ((args ++ List.replicate (fn.ntmps - args.length) (.v undef), H), []) with
  | none => rfl
  | some p =>
    obtain ⟨e, s'⟩ := p
    cases e <;> rfl

/-- Temporaries by their places. -/
def fillT (t : List SVal) : List (Nat × SVal) → List SVal
  | [] => t
  | (i, x) :: l => fillT (setS t i x) l
end
end Go.RX
