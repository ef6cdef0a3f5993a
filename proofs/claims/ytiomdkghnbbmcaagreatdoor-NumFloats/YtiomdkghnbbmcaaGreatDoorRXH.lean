import Derived.Test.YtiomdkghnbbmcaaGreatDoorRXV
import Derived.Test.YtiomdkghnbbmcaaGreatDoorRXI
namespace Go.RX
noncomputable section
open Go.RowKit (Below)

/-! ### A table of further facts; floats of 32 bits by their words -/
abbrev XE := (Op → Bool) × List SVal × SVal

def lookX (op : Op) (xs : List SVal) : List XE → Option SVal
  | [] => none
  | e :: es => if e.1 op && sameL (sameS 9) e.2.1 xs then some e.2.2 else lookX op xs es

def extraT (T : List XE) (rest : Op → List SVal → Option SVal) (op : Op) (xs : List SVal) : Option SVal :=
  match lookX op xs T with
  | some y => some y
  | none => rest op xs

theorem lookX_ok {op : Op} {xs : List SVal} {y : SVal} : ∀ {T : List XE}, lookX op xs T = some y → ∃ k, (k, xs, y) ∈ T ∧ k op = true
  | [], h => by cases h
  | e :: es, h => by
    simp only [lookX] at h
    split at h
    · rename_i hc
      simp only [Bool.and_eq_true] at hc
      cases h
      have := sameL_ok (sameS_ok 9) _ _ hc.2
      obtain ⟨a, b, c⟩ := e
      simp only at this hc
      subst this
      exact ⟨a, by simp, hc.1⟩
    · obtain ⟨k, h1, h2⟩ := lookX_ok h
      exact ⟨k, List.mem_cons_of_mem _ h1, h2⟩

/-- The bare names and expressions. -/
@[reducible] def env0 (P : Program) (nmv : Nat → Value) (hnm : ∀ i, Flat (nmv i)) (ρ : Nat → Int) : Env := envS P nmv hnm ρ (fun _ _ _ => none) (fun _ _ => none)

/-- What an entry of the table says. -/
def XOk (P : Program) (nmv : Nat → Value) (hnm : ∀ i, Flat (nmv i)) (ρ : Nat → Int) (e : XE) : Prop := ∀ op, e.1 op = true → ∀ (r : Ren) (f : Operand → Value) (o : Oper) (w : World), o.op = op → @denL (env0 P nmv hnm ρ) r e.2.1 = some (op.operands.toList.map f) →
    ∃ v, (execOp f o).run P w = .ok (.value v) w ∧ @den (env0 P nmv hnm ρ) r e.2.2 = some v

theorem extraT_ok {P : Program} {nmv : Nat → Value} {hnm : ∀ i, Flat (nmv i)} {ρ : Nat → Int} {K : Know} {T : List XE} {rest : Op → List SVal → Option SVal} (hT : ∀ e ∈ T, XOk P nmv hnm ρ e) (hE : ExtraOk P nmv hnm ρ K rest) : ExtraOk P nmv hnm ρ K (extraT T rest) := by
  intro op xs y h r f o w ho hd
  have hv : ∀ s, (envS P nmv hnm ρ K (extraT T rest)).val s = (env0 P nmv hnm ρ).val s := fun _ => rfl
  have hv' : ∀ s, (envS P nmv hnm ρ K (extraT T rest)).val s = (envS P nmv hnm ρ K rest).val s := fun _ => rfl
  unfold extraT at h
  split at h
  · rename_i y0 hy
    cases h
    obtain ⟨k, h1, h2⟩ := lookX_ok hy
    rw [denL_val hv] at hd
    obtain ⟨v, h3, h4⟩ := hT _ h1 op h2 r f o w ho hd
    exact ⟨v, h3, by rw [den_val hv]; exact h4⟩
  · rw [denL_val hv'] at hd
    obtain ⟨v, h3, h4⟩ := hE op xs y h r f o w ho hd
    exact ⟨v, h3, by rw [den_val hv']; exact h4⟩

/-! #### Keys -/
def kBin (b : BinOp) : Op → Bool
  | .binOp b' _ _ _ _ => decide (b' = b)
  | _ => false

def isF32 : Option TypeDesc → Bool
  | some (.float .f32) => true
  | _ => false
def isInt (k : IntKind) : Option TypeDesc → Bool
  | some (.int k') => decide (k' = k)
  | _ => false

def kToF (P : Program) : Op → Bool
  | .convert src dst _ => (P.underlying src).isSome && isF32 (P.underlying dst)
  | _ => false

def kToI (P : Program) (k : IntKind) : Op → Bool
  | .convert src dst _ => (P.underlying src).isSome && isInt k (P.underlying dst)
  | _ => false

inductive CB where
  | complex | real | imag

def CB.is : CB → Builtin → Bool
  | .complex, .complex | .real, .real | .imag, .imag => true
  | _, _ => false

def kCall (b : CB) : Op → Bool
  | .call c => match c.callee with
    | .builtin b' => b.is b'
    | _ => false
  | _ => false

def cmpF (op : BinOp) (x y : Nat) : Bool :=
  let c := Ieee.single.order x y
  match op with
  | .eql => c == some .eq
  | .neq => c != some .eq
  | .lss => c == some .lt
  | .leq => c == some .lt || c == some .eq
  | .gtr => c == some .gt
  | .geq => c == some .gt || c == some .eq
  | _ => false

theorem guard_float {P : Program} {w : World} {op : BinOp} {ty : TypeId} {x y : Operand} {k k' : FloatKind} {a b : Nat} : (eqGuard op ty x y (.float k a) (.float k' b)).run P w = .ok () w := by
  cases op <;> rfl

theorem binop_cmpF {P : Program} {w : World} {op : BinOp} {ty : TypeId} {a b : Nat} (h : isCmp op = true) : (Go.binOp op ty (.float .f32 a) (.float .f32 b)).run P w = .ok (.bool (cmpF op a b)) w := by
  cases op <;> first | (simp [isCmp] at h; done) | rfl

def arF (op : BinOp) (a b : Nat) : Option Nat :=
  match op with
  | .add => Ieee.single.add a b
  | .sub => Ieee.single.sub a b
  | .mul => Ieee.single.mul a b
  | .quo => Ieee.single.div a b
  | _ => none

theorem binop_arF {P : Program} {w : World} {op : BinOp} {ty : TypeId} {a b c : Nat} (h : arF op a b = some c) : (Go.binOp op ty (.float .f32 a) (.float .f32 b)).run P w = .ok (.float .f32 c) w := by
  cases op <;> first | (simp [arF] at h; done) | (simp only [arF] at h; simp [Go.binOp, Op.floatArith, FloatKind.format, h])

section
variable {P : Program} {nmv : Nat → Value} {hnm : ∀ i, Flat (nmv i)} {ρ : Nat → Int}

/-- A float's word. -/
def Word (nmv : Nat → Value) (x : SVal) (a : Nat) : Prop := match x with
  | .sym (.nm i) => nmv i = .float .f32 a
  | .v v => v = .float .f32 a
  | _ => False

theorem word_den {x : SVal} {a : Nat} (h : Word nmv x a) (r : Ren) : @den (env0 P nmv hnm ρ) r x = some (.float .f32 a) := by
  unfold Word at h
  split at h
  · simp only [den]
    exact congrArg some h
  · rw [h]; rfl
  · exact h.elim

theorem xok_cmp {op : BinOp} {x y : SVal} {a b : Nat} {rr : Bool} (hc : isCmp op = true) (hx : Word nmv x a) (hy : Word nmv y b) (h : cmpF op a b = rr) : XOk P nmv hnm ρ (kBin op, [x, y], .v (.bool rr)) := by
  intro o' hk r f o w ho hd
  cases o' with
  | binOp b' ty x1 x2 yt =>
    simp only [kBin, decide_eq_true_eq] at hk
    subst hk
    have hd2 : @denL (env0 P nmv hnm ρ) r [x, y] = some [f x1, f x2] := by simpa [Op.operands] using hd
    obtain ⟨d1, d2⟩ := denL_two hd2
    rw [word_den hx] at d1
    rw [word_den hy] at d2
    have e1 := Option.some.inj d1
    have e2 := Option.some.inj d2
    refine ⟨.bool (cmpF b' a b), run_binop ho ?_ ?_, by rw [h]; rfl⟩
    · rw [← e1, ← e2]
      exact guard_float
    · rw [← e1, ← e2]
      exact binop_cmpF hc
  | _ => simp [kBin] at hk

theorem xok_ar {op : BinOp} {x y z : SVal} {a b c : Nat} (hx : Word nmv x a) (hy : Word nmv y b) (hz : Word nmv z c) (h : arF op a b = some c) : XOk P nmv hnm ρ (kBin op, [x, y], z) := by
  intro o' hk r f o w ho hd
  cases o' with
  | binOp b' ty x1 x2 yt =>
    simp only [kBin, decide_eq_true_eq] at hk
    subst hk
    have hd2 : @denL (env0 P nmv hnm ρ) r [x, y] = some [f x1, f x2] := by simpa [Op.operands] using hd
    obtain ⟨d1, d2⟩ := denL_two hd2
    rw [word_den hx] at d1
    rw [word_den hy] at d2
    have e1 := Option.some.inj d1
    have e2 := Option.some.inj d2
    refine ⟨.float .f32 c, run_binop ho ?_ ?_, word_den hz r⟩
    · rw [← e1, ← e2]
      exact guard_float
    · rw [← e1, ← e2]
      exact binop_arF h
  | _ => simp [kBin] at hk

theorem xok_toF {x z : SVal} {k : IntKind} {e : IE} {c : Nat} (hx : ieOf x = some (k, e)) (hz : Word nmv z c) (h : FloatKind.nearest .f32 (e.ev ρ) = c) : XOk P nmv hnm ρ (kToF P, [x], z) := by
  intro o' hk r f o w ho hd
  cases o' with
  | convert src dst x1 =>
    simp only [kToF, Bool.and_eq_true] at hk
    have hd2 : @denL (env0 P nmv hnm ρ) r [x] = some [f x1] := by simpa [Op.operands] using hd
    have d1 := denL_one hd2
    rw [ieOf_den P nmv hnm ρ _ _ hx r] at d1
    have e1 := Option.some.inj d1
    obtain ⟨sd, hs⟩ := Option.isSome_iff_exists.1 hk.1
    have hk' : P.underlying dst = some (.float .f32) := by
      have := hk.2
      unfold isF32 at this
      split at this
      · assumption
      · cases this
    refine ⟨.float .f32 c, ?_, word_den hz r⟩
    unfold execOp
    simp only [ho]
    refine run_bind_ok (a := Value.float .f32 c) (w' := w) ?_
    unfold convert
    rw [run_bind_ok (run_und hs), run_bind_ok (run_und hk'), ← e1]
    simp only [Conv.intToFloat, h]
    rfl
  | _ => simp [kToF] at hk

theorem xok_toI {x z : SVal} {k : IntKind} {e : IE} {a : Nat} (hx : Word nmv x a) (hz : ieOf z = some (k, e)) (h : (Ieee.single.read a).toInt .zero = some (e.ev ρ)) (h1 : k.min ≤ e.ev ρ) (h2 : e.ev ρ ≤ k.max) : XOk P nmv hnm ρ (kToI P k, [x], z) := by
  intro o' hk r f o w ho hd
  cases o' with
  | convert src dst x1 =>
    simp only [kToI, Bool.and_eq_true] at hk
    have hd2 : @denL (env0 P nmv hnm ρ) r [x] = some [f x1] := by simpa [Op.operands] using hd
    have d1 := denL_one hd2
    rw [word_den hx] at d1
    have e1 := Option.some.inj d1
    obtain ⟨sd, hs⟩ := Option.isSome_iff_exists.1 hk.1
    have hk' : P.underlying dst = some (.int k) := by
      have := hk.2
      unfold isInt at this
      split at this
      · rename_i k' hk'
        rw [hk', of_decide_eq_true this]
      · cases this
    refine ⟨.int k (e.ev ρ), ?_, ieOf_den P nmv hnm ρ _ _ hz r⟩
    unfold execOp
    simp only [ho]
    refine run_bind_ok (a := Value.int k (e.ev ρ)) (w' := w) ?_
    unfold convert
    rw [run_bind_ok (run_und hs), run_bind_ok (run_und hk'), ← e1]
    show (Conv.floatToInt .f32 a k).run P w = _
    unfold Conv.floatToInt
    have hd : FloatKind.decode .f32 a = Ieee.single.read a := rfl
    rw [hd, h]
    simp only [h1, h2, and_self, if_true]
    rfl
  | _ => simp [kToI] at hk

/-- A call of a function that the model gives. -/
def kVal : Op → Bool
  | .call c => match c.callee with
    | .value _ => true
    | _ => false
  | _ => false

theorem ext_run {g : FuncId} {en : Array Value → Sem Value} (hE : ExtF P g en) {x : SVal} {a v : Value} (hx : ∀ r, @den (env0 P nmv hnm ρ) r x = some a) (hr : ∀ w, (en #[a]).run P w = .ok v w) {op : Op} (hk : kVal op = true) (r : Ren) (f : Operand → Value) (o : Oper) (w : World) (ho : o.op = op)
    (hd : @denL (env0 P nmv hnm ρ) r [.v (.func (.func g) #[] #[]), x] = some (op.operands.toList.map f)) : (execOp f o).run P w = .ok (.value v) w := by
  cases op with
  | call c =>
    obtain ⟨callee, args, tys⟩ := c
    cases callee with
    | value xo =>
      have hl : @denL (env0 P nmv hnm ρ) r [.v (.func (.func g) #[] #[]), x] = some (f xo :: args.toList.map f) := by simpa [Op.operands, Call.operands] using hd
      obtain ⟨u, l, e1, e2, e3⟩ := (@denL_cons (env0 P nmv hnm ρ) _ _ _ _).1 hl
      obtain ⟨u', l', e4, e5, e6⟩ := (@denL_cons (env0 P nmv hnm ρ) _ _ _ _).1 e2
      simp only [denL, Option.some.injEq] at e5
      subst e5
      rw [hx] at e4
      cases e4
      simp only [List.cons.injEq] at e3
      have hf : f xo = .func (.func g) #[] #[] := by
        rw [e3.1]
        exact (Option.some.inj e1).symm
      have ha : args.map f = #[a] := Array.toList_inj.1 (by simpa using e3.2.trans e6)
      exact run_extern hE ho rfl hf (by rw [ha]; exact hr w)
    | _ => simp [kVal] at hk
  | _ => simp [kVal] at hk

theorem xok_from {g : FuncId} (hE : ExtF P g Extern.MathFloatBits.float32frombits) {x z : SVal} {e : IE} {c : Nat} (hx : ieOf x = some (.u32, e)) (hz : Word nmv z c) (h : e.ev ρ = (c : Int)) : XOk P nmv hnm ρ (kVal, [.v (.func (.func g) #[] #[]), x], z) := by
  intro op hk r f o w ho hd
  refine ⟨_, ext_run hE (fun r => ieOf_den P nmv hnm ρ _ _ hx r) (v := .float .f32 c) (fun w => ?_) hk r f o w ho hd, word_den hz r⟩
  rw [h]
  rfl

theorem xok_bits {g : FuncId} (hE : ExtF P g Extern.MathFloatBits.float32bits) {x z : SVal} {e : IE} {c : Nat} (hx : Word nmv x c) (hz : ieOf z = some (.u32, e)) (h : e.ev ρ = (c : Int)) : XOk P nmv hnm ρ (kVal, [.v (.func (.func g) #[] #[]), x], z) := by
  intro op hk r f o w ho hd
  refine ⟨.int .u32 (e.ev ρ), ext_run hE (fun r => word_den hx r) (fun w => ?_) hk r f o w ho hd, ieOf_den P nmv hnm ρ _ _ hz r⟩
  rw [h]
  rfl

/-- A complex number's words. -/
def Words (nmv : Nat → Value) (x : SVal) (a b : Nat) : Prop := match x with
  | .sym (.nm i) => nmv i = .complex .f32 a b
  | .v v => v = .complex .f32 a b
  | _ => False

theorem words_den {x : SVal} {a b : Nat} (h : Words nmv x a b) (r : Ren) : @den (env0 P nmv hnm ρ) r x = some (.complex .f32 a b) := by
  unfold Words at h
  split at h
  · simp only [den]
    exact congrArg some h
  · rw [h]; rfl
  · exact h.elim

theorem run_builtin {w : World} {f : Operand → Value} {o : Oper} {c : Call} (b : Builtin) (ho : o.op = .call c) (hc : c.callee = .builtin b) {v : Value}
    (hb : ∀ (tys : Array TypeId) (ty : TypeId) (cs : Array Bool), (builtin b tys ty cs (c.args.map f)).run P w = .ok (.value v) w) : (execOp f o).run P w = .ok (.value v) w := run_mm b ho hc hb

theorem kCall_eq {b : CB} {op : Op} (h : kCall b op = true) : ∃ c b', op = .call c ∧ c.callee = .builtin b' ∧ b.is b' = true := by
  unfold kCall at h
  split at h
  · rename_i c
    split at h
    · rename_i b' hb'
      exact ⟨c, b', rfl, hb', h⟩
    · cases h
  · cases h

theorem args_of {c : Call} {b' : Builtin} (hc : c.callee = .builtin b') (f : Operand → Value) : (Op.call c).operands.toList.map f = (c.args.map f).toList := by
  obtain ⟨callee, args, tys⟩ := c
  simp only at hc
  subst hc
  simp [Op.operands, Call.operands]

theorem xok_complex {x y z : SVal} {a b : Nat} (hx : Word nmv x a) (hy : Word nmv y b) (hz : Words nmv z a b) : XOk P nmv hnm ρ (kCall .complex, [x, y], z) := by
  intro op hk r f o w ho hd
  obtain ⟨c, b', rfl, hc, hb⟩ := kCall_eq hk
  rw [args_of hc] at hd
  obtain ⟨u, l, e1, e2, e3⟩ := (@denL_cons (env0 P nmv hnm ρ) _ _ _ _).1 hd
  obtain ⟨u', l', e4, e5, e6⟩ := (@denL_cons (env0 P nmv hnm ρ) _ _ _ _).1 e2
  simp only [denL, Option.some.injEq] at e5
  subst e5
  subst e6
  rw [word_den hx] at e1
  rw [word_den hy] at e4
  cases e1
  cases e4
  have ha : c.args.map f = #[.float .f32 a, .float .f32 b] := Array.toList_inj.1 e3
  cases b' <;> first | (simp [CB.is] at hb; done) | skip
  refine ⟨.complex .f32 a b, run_builtin .complex ho hc (fun _ _ _ => ?_), words_den hz r⟩
  rw [ha]
  rfl

theorem xok_real {x z : SVal} {a b : Nat} (hx : Words nmv x a b) (hz : Word nmv z a) : XOk P nmv hnm ρ (kCall .real, [x], z) := by
  intro op hk r f o w ho hd
  obtain ⟨c, b', rfl, hc, hb⟩ := kCall_eq hk
  rw [args_of hc] at hd
  obtain ⟨u, l, e1, e2, e3⟩ := (@denL_cons (env0 P nmv hnm ρ) _ _ _ _).1 hd
  simp only [denL, Option.some.injEq] at e2
  subst e2
  rw [words_den hx] at e1
  cases e1
  have ha : c.args.map f = #[.complex .f32 a b] := Array.toList_inj.1 e3
  cases b' <;> first | (simp [CB.is] at hb; done) | skip
  refine ⟨.float .f32 a, run_builtin .real ho hc (fun _ _ _ => ?_), word_den hz r⟩
  rw [ha]
  rfl

theorem xok_imag {x z : SVal} {a b : Nat} (hx : Words nmv x a b) (hz : Word nmv z b) : XOk P nmv hnm ρ (kCall .imag, [x], z) := by
  intro op hk r f o w ho hd
  obtain ⟨c, b', rfl, hc, hb⟩ := kCall_eq hk
  rw [args_of hc] at hd
  obtain ⟨u, l, e1, e2, e3⟩ := (@denL_cons (env0 P nmv hnm ρ) _ _ _ _).1 hd
  simp only [denL, Option.some.injEq] at e2
  subst e2
  rw [words_den hx] at e1
  cases e1
  have ha : c.args.map f = #[.complex .f32 a b] := Array.toList_inj.1 e3
  cases b' <;> first | (simp [CB.is] at hb; done) | skip
  refine ⟨.float .f32 b, run_builtin .imag ho hc (fun _ _ _ => ?_), word_den hz r⟩
  rw [ha]
  rfl

theorem guard_complex {w : World} {op : BinOp} {ty : TypeId} {x y : Operand} {k k' : FloatKind} {a b c d : Nat} : (eqGuard op ty x y (.complex k a b) (.complex k' c d)).run P w = .ok () w := by
  cases op <;> rfl

theorem run_ccmp {w : World} {a b : Nat} : (Op.Complex.cmp .eql .f32 a b).run P w = .ok (cmpF .eql a b) w := rfl

theorem xok_ceq {x y : SVal} {a b c d : Nat} {rr : Bool} (ng : Bool) (hx : Words nmv x a b) (hy : Words nmv y c d) (h : (cmpF .eql a c && cmpF .eql b d) = rr) : XOk P nmv hnm ρ (kBin (if ng then .neq else .eql), [x, y], .v (.bool (rr != ng))) := by
  intro o' hk r f o w ho hd
  cases o' with
  | binOp b' ty x1 x2 yt =>
    simp only [kBin, decide_eq_true_eq] at hk
    subst hk
    have hd2 : @denL (env0 P nmv hnm ρ) r [x, y] = some [f x1, f x2] := by simpa [Op.operands] using hd
    obtain ⟨d1, d2⟩ := denL_two hd2
    rw [words_den hx] at d1
    rw [words_den hy] at d2
    have e1 := Option.some.inj d1
    have e2 := Option.some.inj d2
    have hsplit : ∀ ng : Bool, (Go.binOp (if ng then .neq else .eql) ty (.complex .f32 a b) (.complex .f32 c d)).run P w = .ok (.bool ((cmpF .eql a c && cmpF .eql b d) != ng)) w := by
      intro ng
      cases ng
      · show (Op.complexOp .eql .f32 a b c d).run P w = _
        unfold Op.complexOp
        simp only
        rw [run_bind_ok run_ccmp, run_bind_ok run_ccmp]
        cases cmpF .eql a c <;> cases cmpF .eql b d <;> rfl
      · show (Op.complexOp .neq .f32 a b c d).run P w = _
        unfold Op.complexOp
        simp only
        rw [run_bind_ok run_ccmp, run_bind_ok run_ccmp]
        cases cmpF .eql a c <;> cases cmpF .eql b d <;> rfl
    refine ⟨.bool (rr != ng), run_binop ho ?_ ?_, rfl⟩
    · rw [← e1, ← e2]
      exact guard_complex
    · rw [← e1, ← e2, ← h]
      exact hsplit ng
  | _ => simp [kBin] at hk
end
end
end Go.RX
