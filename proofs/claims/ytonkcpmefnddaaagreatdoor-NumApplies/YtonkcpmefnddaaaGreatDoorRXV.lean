import Derived.Test.YtonkcpmefnddaaaGreatDoorRXB
namespace Go.RX
noncomputable section
open Go.RowKit (Below)

/-! ### The least and the greatest of two integers; expressions whose numbers are known -/
mutual
theorem den_val {E1 E2 : Env} (h : ∀ s, E1.val s = E2.val s) (r : Ren) : ∀ x : SVal, @den E1 r x = @den E2 r x
  | .v x => rfl
  | .sym i => by simp only [den, h]
  | .agg l => by simp only [den]; rw [denL_val h r l]
  | .tuple l => by simp only [den]; rw [denL_val h r l]
  | .iface t x => by simp only [den]; rw [den_val h r x]
  | .ptr i off => rfl
  | .slice i off len cap => rfl
  | .row i off eoff len => rfl
  | .func fn f c => by simp only [den]; rw [denL_val h r f, denL_val h r c]
  | .yield i => rfl
  | .map i => rfl
theorem denL_val {E1 E2 : Env} (h : ∀ s, E1.val s = E2.val s) (r : Ren) : ∀ l : List SVal, @denL E1 r l = @denL E2 r l
  | [] => rfl
  | x :: xs => by simp only [denL]; rw [den_val h r x, denL_val h r xs]
end

def lookV (V : List (IE × Int)) (e : IE) : Option Int :=
  match V with
  | [] => none
  | p :: ps => if p.1.same e then some p.2 else lookV ps e

def normV (V : List (IE × Int)) (y : SVal) : SVal :=
  match y with
  | .sym (.int k e) => match lookV V e with
    | some n => .v (.int k n)
    | none => y
  | y => y

theorem lookV_ok {ρ : Nat → Int} : ∀ {V : List (IE × Int)}, (∀ p ∈ V, p.1.ev ρ = p.2) → ∀ {e : IE} {n : Int}, lookV V e = some n → e.ev ρ = n
  | [], _, _, _, h => by cases h
  | p :: ps, hV, e, n, h => by
    simp only [lookV] at h
    split at h
    · rename_i hs
      cases h
      rw [← IE.same_ok hs]
      exact hV p (by simp)
    · exact lookV_ok (fun q hq => hV q (by simp [hq])) h

/-- As envS; expressions in V are numbers at once. -/
@[reducible] noncomputable def envV (P : Program) (nmv : Nat → Value) (hnm : ∀ i, Flat (nmv i)) (ρ : Nat → Int) (K : Know) (extra : Op → List SVal → Option SVal) (V : List (IE × Int)) : Env where
  val := valS nmv ρ
  flat i := match i with
    | .nm i => hnm i
    | .int _ _ => trivial
  fact op xs := match factS P K extra op xs with
    | some y => some (normV V y)
    | none => none
  key _ _ := none
  keyOk _ _ _ h := by cases h

theorem namesOkV {P : Program} {nmv : Nat → Value} {hnm : ∀ i, Flat (nmv i)} {ρ : Nat → Int} {K : Know} {extra : Op → List SVal → Option SVal} {V : List (IE × Int)} (hN : @NamesOk (envS P nmv hnm ρ K extra) P) (hV : ∀ p ∈ V, p.1.ev ρ = p.2) :
    @NamesOk (envV P nmv hnm ρ K extra V) P :=
  @NamesOk.mk (envV P nmv hnm ρ K extra V) P (@NamesOk.names (envS P nmv hnm ρ K extra) P hN) (by
      intro op xs y h r f o w ho hd
      change (match factS P K extra op xs with | some y => some (normV V y) | none => none) = some y at h
      split at h
      case h_2 => cases h
      rename_i y0 hy0
      cases h
      have hv : ∀ s, (envV P nmv hnm ρ K extra V).val s = (envS P nmv hnm ρ K extra).val s := fun _ => rfl
      rw [denL_val hv] at hd
      obtain ⟨v, h1, h2⟩ := @NamesOk.facts (envS P nmv hnm ρ K extra) P hN op xs y0 hy0 r f o w ho hd
      refine ⟨v, h1, ?_⟩
      rw [← den_val hv] at h2
      rw [← h2]
      unfold normV
      split
      · rename_i k e
        split
        · rename_i n hn
          show some (Value.int k n) = some (Value.int k (e.ev ρ))
          rw [lookV_ok hV hn]
        · rfl
      · rfl)

/-- The least and the greatest of two. -/
def mmS (t : Nat) (xs : List SVal) : Option SVal :=
  match xs with
  | [x, y] => match ieOf x, ieOf y with
    | some (k, a), some (k', b) => if k = k' then some (.sym (.int k (.tri t a b (.lit 0)))) else none
    | _, _ => none
  | _ => none

def extraM (X : List (FuncId × Nat)) (K : Know) (op : Op) (xs : List SVal) : Option SVal :=
  match op with
  | .call c => match c.callee with
    | .builtin .max => mmS 2 xs
    | .builtin .min => mmS 3 xs
    | _ => extraX X K op xs
  | _ => none

theorem run_mm {P : Program} {w : World} {f : Operand → Value} {o : Oper} {c : Call} (b : Builtin) (ho : o.op = .call c) (hc : c.callee = .builtin b) {v : Value}
    (hb : ∀ (tys : Array TypeId) (ty : TypeId) (cs : Array Bool), (builtin b tys ty cs (c.args.map f)).run P w = .ok (.value v) w) : (execOp f o).run P w = .ok (.value v) w := by
  obtain ⟨callee, args, tys⟩ := c
  simp only at hc
  subst hc
  unfold execOp
  simp only [ho]
  show ((do let d ← resolve f { callee := .builtin b, args := args, argTypes := tys } o.type; invoke d.target d.args : Sem Next)).run P w = _
  simp only [resolve]
  rw [run_pure_bind]
  simp only [invoke]
  exact hb _ _ _

theorem extraM_ok (P : Program) (nmv : Nat → Value) (hnm : ∀ i, Flat (nmv i)) (ρ : Nat → Int) (K : Know) (X : List (FuncId × Nat)) (hK : K.ok ρ) (hX : ExtsOk P X) : ExtraOk P nmv hnm ρ K (extraM X K) := by
  intro op xs y h r f o w ho hd
  have hv : ∀ s, (envS P nmv hnm ρ K (extraM X K)).val s = (envS P nmv hnm ρ K (extraX X K)).val s := fun _ => rfl
  unfold extraM at h
  split at h
  case h_2 => cases h
  rename_i c
  have two : ∀ t, mmS t xs = some y → c.callee = .builtin .max ∨ c.callee = .builtin .min → ∃ (k : IntKind) (a b : IE), y = .sym (.int k (.tri t a b (.lit 0))) ∧ c.args.map f = #[.int k (a.ev ρ), .int k (b.ev ρ)] := by
    intro t ht hcal
    unfold mmS at ht
    split at ht
    case h_2 => cases ht
    rename_i x z
    split at ht
    case h_2 => cases ht
    rename_i k a k' b hx hz
    split at ht
    case isFalse => cases ht
    rename_i hk
    subst hk
    cases ht
    refine ⟨k, a, b, rfl, ?_⟩
    obtain ⟨callee, args, tys⟩ := c
    have e0 : (Op.call { callee := callee, args := args, argTypes := tys }).operands.toList.map f = args.toList.map f := by
      rcases hcal with hcal | hcal <;> · simp only at hcal; subst hcal; simp [Op.operands, Call.operands]
    rw [e0] at hd
    obtain ⟨u, l, e1, e2, e3⟩ := (@denL_cons (envS P nmv hnm ρ K (extraM X K)) _ _ _ _).1 hd
    obtain ⟨u', l', e4, e5, e6⟩ := (@denL_cons (envS P nmv hnm ρ K (extraM X K)) _ _ _ _).1 e2
    simp only [denL, Option.some.injEq] at e5
    subst e5
    subst e6
    rw [ieOf_den P nmv hnm ρ K (extraM X K) hx r] at e1
    rw [ieOf_den P nmv hnm ρ K (extraM X K) hz r] at e4
    cases e1
    cases e4
    exact Array.toList_inj.1 (by simpa using e3)
  split at h
  · rename_i hc
    obtain ⟨k, a, b, rfl, ha⟩ := two 2 h (.inl hc)
    refine ⟨.int k (if b.ev ρ > a.ev ρ then b.ev ρ else a.ev ρ), run_mm .max ho hc (fun _ _ _ => ?_), rfl⟩
    rw [ha]
    rfl
  · rename_i hc
    obtain ⟨k, a, b, rfl, ha⟩ := two 3 h (.inr hc)
    refine ⟨.int k (if b.ev ρ < a.ev ρ then b.ev ρ else a.ev ρ), run_mm .min ho hc (fun _ _ _ => ?_), rfl⟩
    rw [ha]
    rfl
  · rw [denL_val hv] at hd
    obtain ⟨v, h1, h2⟩ := extraX_ok P nmv hnm ρ K X hK hX (.call c) xs y h r f o w ho hd
    exact ⟨v, h1, by rw [den_val hv]; exact h2⟩
end
end Go.RX
