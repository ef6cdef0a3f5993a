import Derived.Test.YtdmbnllekmgnhaaDoorRXB
import Derived.Test.YtdmbnllekmgnhaaDoorRXI
namespace Go.RX
noncomputable section
open Go.RowKit (Below)

/-! ### Slices of the caller's: names for them and for the addresses of their cells -/
/-- Of such a slice: how many of its elements are known, its length, its first cells. -/
structure RoS where
  known : Nat
  len : SVal
  cells : List SVal
/-- The slices by their names (below 1000); 1000 * (s + 1) + k is the address of the cell k of the slice s. -/
abbrev RoT := Nat → Option RoS

def elemSize (P : Program) (ty : TypeId) : Option Nat :=
  match pureRun P (underlying ty) with
  | some (.slice e) => pureRun P (sizeOf e)
  | _ => none
def isSliceT : Option TypeDesc → Bool
  | some (.slice _) => true
  | _ => false

def roFact (P : Program) (R : RoT) (op : Op) (xs : List SVal) : Option SVal :=
  match op with
  | .indexAddr ty _ _ => match xs with
    | [.sym (.nm s), .v (.int .i64 j)] => match R s with
      | some r => match elemSize P ty with
        | some sz => if s < 1000 ∧ 0 ≤ j ∧ j < (r.known : Int) ∧ j.toNat * sz < 1000 then some (.sym (.nm (1000 * (s + 1) + j.toNat * sz))) else none
        | none => none
      | none => none
    | _ => none
  | .fieldAddr st _ f => match xs with
    | [.sym (.nm p)] => match R (p / 1000 - 1) with
      | some _ => match fieldOff P st f with
        | some d => if 1000 ≤ p ∧ p / 1000 - 1 < 1000 ∧ p % 1000 + d < 1000 then some (.sym (.nm (p + d))) else none
        | none => none
      | none => none
    | _ => none
  | .call c => match c.callee with
    | .builtin .len => match xs, c.argTypes.toList with
      | [.sym (.nm s)], [ty] => match R s with
        | some r => if s < 1000 ∧ isSliceT (pureRun P (underlying ty)) = true then some r.len else none
        | none => none
      | _, _ => none
    | _ => none
  | _ => none

def extraR (P : Program) (R : RoT) (rest : Op → List SVal → Option SVal) (op : Op) (xs : List SVal) : Option SVal :=
  match roFact P R op xs with
  | some y => some y
  | none => rest op xs

/-- What the names have to stand for. -/
def RoNm (P : Program) (nmv : Nat → Value) (hnm : ∀ i, Flat (nmv i)) (ρ : Nat → Int) (R : RoT) : Prop :=
  ∀ s r, s < 1000 → R s = some r → ∃ (a : Addr) (n cap : Nat), (0 < r.known → a.spot = none) ∧ nmv s = .slice (some a) n cap ∧ r.known ≤ n ∧ (∀ q, @den (env0 P nmv hnm ρ) q r.len = some (goInt n)) ∧ ∀ k, k < 1000 → nmv (1000 * (s + 1) + k) = .pointer (some ⟨a.block, a.off + k, none⟩)

section
variable {P : Program} {nmv : Nat → Value} {hnm : ∀ i, Flat (nmv i)} {ρ : Nat → Int}

theorem run_pure_ok {α : Type} {s : Sem α} {x : α} (h : pureRun P s = some x) (w : World) : s.run P w = .ok x w := run_of_pure h w

theorem name_split {p : Nat} (h : 1000 ≤ p) : p = 1000 * (p / 1000 - 1 + 1) + p % 1000 := by omega

theorem roFact_ok {R : RoT} (hR : RoNm P nmv hnm ρ R) {op : Op} {xs : List SVal} {y : SVal} (h : roFact P R op xs = some y) (r : Ren) (f : Operand → Value) (o : Oper) (w : World) (ho : o.op = op) (hd : @denL (env0 P nmv hnm ρ) r xs = some (op.operands.toList.map f)) :
    ∃ v, (execOp f o).run P w = .ok (.value v) w ∧ @den (env0 P nmv hnm ρ) r y = some v := by
  unfold roFact at h
  split at h
  · -- an element's address
    rename_i ty xo io
    split at h
    case h_2 => cases h
    rename_i s j
    split at h
    case h_2 => cases h
    rename_i rr hrr
    split at h
    case h_2 => cases h
    rename_i sz hsz
    split at h
    case isFalse => cases h
    rename_i hc
    obtain ⟨c0, c1, c2, c3⟩ := hc
    cases h
    obtain ⟨a, n, cap, ha0, hs, hk, hl, hp⟩ := hR s rr c0 hrr
    have ha : a.spot = none := ha0 (by omega)
    have hd2 : @denL (env0 P nmv hnm ρ) r [.sym (.nm s), .v (.int .i64 j)] = some [f xo, f io] := by simpa [Op.operands] using hd
    obtain ⟨d1, d2⟩ := denL_two hd2
    have e1 : f xo = .slice (some a) n cap := by rw [← hs]; exact (Option.some.inj d1).symm
    have e2 : f io = .int .i64 j := (Option.some.inj d2).symm
    unfold elemSize at hsz
    split at hsz
    case h_2 => cases hsz
    rename_i e hu
    refine ⟨.pointer (some ⟨a.block, a.off + j.toNat * sz, none⟩), ?_, by simp only [den]; exact congrArg some (hp _ c3)⟩
    unfold execOp
    simp only [ho]
    show ((do pure (Next.value (← Instr.indexAt ty (f xo) (f io))) : Sem Next)).run P w = _
    refine run_bind_ok (a := Value.pointer (some ⟨a.block, a.off + j.toNat * sz, none⟩)) (w' := w) ?_
    rw [e1, e2]
    unfold Instr.indexAt asIntOf
    rw [run_pure_bind]
    simp only
    rw [run_bind_pure hu]
    simp only
    rw [run_pure_bind]
    rw [run_bind_pure hu]
    have c2' : 0 ≤ j ∧ j < (n : Int) := ⟨c1, by omega⟩
    simp only [c2', and_self, if_true]
    rw [run_bind_pure hsz, addr_add _ _ ha]
    obtain ⟨ab, ao, as⟩ := a
    have hz : as = none := ha
    subst hz
    rfl
  · -- a field's address
    rename_i st xo fl
    split at h
    case h_2 => cases h
    rename_i p
    split at h
    case h_2 => cases h
    rename_i rr hrr
    split at h
    case h_2 => cases h
    rename_i d hfo
    split at h
    case isFalse => cases h
    rename_i hc
    obtain ⟨c0, c1, c2⟩ := hc
    cases h
    obtain ⟨a, n, cap, ha, hs, hk, hl, hp⟩ := hR _ rr c1 hrr
    have hd1 : @denL (env0 P nmv hnm ρ) r [.sym (.nm p)] = some [f xo] := by simpa [Op.operands] using hd
    have d1 := denL_one hd1
    have e1 : f xo = .pointer (some ⟨a.block, a.off + p % 1000, none⟩) := by
      have h1 := hp (p % 1000) (Nat.mod_lt _ (by decide))
      rw [← name_split c0] at h1
      rw [← h1]
      exact (Option.some.inj d1).symm
    have e2 : nmv (p + d) = .pointer (some ⟨a.block, a.off + p % 1000 + d, none⟩) := by
      have h1 := hp (p % 1000 + d) c2
      rw [← Nat.add_assoc, ← name_split c0] at h1
      rw [h1, Nat.add_assoc]
    refine ⟨_, ?_, by simp only [den]; exact congrArg some e2⟩
    unfold fieldOff at hfo
    split at hfo
    case h_2 => cases hfo
    rename_i fields hf
    split at hfo
    case h_2 => cases hfo
    rename_i fd hfd
    split at hfo
    case h_2 => cases hfo
    rename_i m hm
    cases hfo
    unfold execOp
    simp only [ho]
    show ((do pure (Next.value (← Instr.fieldAt st (f xo) fl)) : Sem Next)).run P w = _
    refine run_bind_ok (a := Value.pointer (some ⟨a.block, a.off + p % 1000 + fd.offset, none⟩)) (w' := w) ?_
    rw [e1]
    unfold Instr.fieldAt
    rw [run_bind_pure hf]
    simp only [hfd]
    unfold Instr.sureAddr
    rw [run_pure_bind]
    unfold fieldPlace
    rw [run_bind_ok (a := (⟨a.block, a.off + p % 1000 + fd.offset, none⟩ : Addr)) (w' := w)]
    · rfl
    · rw [run_bind_pure hm]
      rw [if_neg (Nat.succ_ne_zero m), addr_add _ _ rfl]
      rfl
  · -- a length
    rename_i c
    split at h
    case h_2 => cases h
    rename_i hcal
    split at h
    case h_2 => cases h
    rename_i s ty hty
    split at h
    case h_2 => cases h
    rename_i rr hrr
    split at h
    case isFalse => cases h
    rename_i hc
    cases h
    obtain ⟨a, n, cap, ha, hs, hk, hl, hp⟩ := hR s rr hc.1 hrr
    rw [args_of hcal] at hd
    have d1 := @denL_one (env0 P nmv hnm ρ) r (.sym (.nm s)) (nmv s) (by rfl)
    have hargs : c.args.map f = #[.slice (some a) n cap] := by
      apply Array.toList_inj.1
      rw [← hs]
      exact (Option.some.inj hd).symm
    have hu : ∃ e, pureRun P (underlying ty) = some (.slice e) := by
      have := hc.2
      unfold isSliceT at this
      split at this
      · rename_i e he; exact ⟨e, he⟩
      · cases this
    obtain ⟨e, hu⟩ := hu
    obtain ⟨callee, args, tys⟩ := c
    simp only at hcal hty hargs
    subst hcal
    have htys : tys = #[ty] := Array.toList_inj.1 hty
    subst htys
    refine ⟨goInt n, ?_, hl r⟩
    unfold execOp
    simp only [ho]
    show ((do let d ← resolve f { callee := .builtin .len, args := args, argTypes := #[ty] } o.type; invoke d.target d.args : Sem Next)).run P w = _
    simp only [resolve]
    rw [run_pure_bind]
    simp only [invoke, builtin, hargs]
    refine run_bind_ok (a := goInt n) (w' := w) ?_
    unfold Builtin.len_
    simp only [List.getElem?_toArray, List.getElem?_cons_zero]
    rw [run_bind_pure hu]
    rfl
  · cases h

theorem extraR_ok {K : Know} {R : RoT} {rest : Op → List SVal → Option SVal} (hR : RoNm P nmv hnm ρ R) (hE : ExtraOk P nmv hnm ρ K rest) : ExtraOk P nmv hnm ρ K (extraR P R rest) := by
  intro op xs y h r f o w ho hd
  have hv : ∀ s, (envS P nmv hnm ρ K (extraR P R rest)).val s = (env0 P nmv hnm ρ).val s := fun _ => rfl
  have hv' : ∀ s, (envS P nmv hnm ρ K (extraR P R rest)).val s = (envS P nmv hnm ρ K rest).val s := fun _ => rfl
  unfold extraR at h
  split at h
  · rename_i y0 hy
    cases h
    rw [denL_val hv] at hd
    obtain ⟨v, h3, h4⟩ := roFact_ok hR hy r f o w ho hd
    exact ⟨v, h3, by rw [den_val hv]; exact h4⟩
  · rw [denL_val hv'] at hd
    obtain ⟨v, h3, h4⟩ := hE op xs y h r f o w ho hd
    exact ⟨v, h3, by rw [den_val hv']; exact h4⟩
end

/-! ### The setting -/
def roOf (R : RoT) : Sy → Option (List SVal)
  | .nm p => if 1000 ≤ p ∧ p / 1000 - 1 < 1000 then match R (p / 1000 - 1) with
      | some r => some (r.cells.drop (p % 1000))
      | none => none
    else none
  | _ => none
def rsOf (R : RoT) : Sy → Option (Nat × List SVal)
  | .nm s => if s < 1000 then match R s with
      | some r => match r.len with
        | .v (.int .i64 n) => if 0 ≤ n then some (n.toNat, r.cells) else none
        | _ => none
      | none => none
    else none
  | _ => none

/-- As envV, with slices of the caller's. -/
@[reducible] noncomputable def envQ (P : Program) (nmv : Nat → Value) (hnm : ∀ i, Flat (nmv i)) (ρ : Nat → Int) (K : Know) (extra : Op → List SVal → Option SVal) (V : List (IE × Int)) (R : RoT) : Env where
  val := valS nmv ρ
  flat i := match i with
    | .nm i => hnm i
    | .int _ _ => trivial
  fact op xs := match factS P K (extraR P R extra) op xs with
    | some y => some (normV V y)
    | none => none
  key _ _ := none
  ro := roOf R
  rs := rsOf R
  keyOk _ _ _ h := by cases h

theorem namesOkQ {P : Program} {nmv : Nat → Value} {hnm : ∀ i, Flat (nmv i)} {ρ : Nat → Int} {K : Know} {extra : Op → List SVal → Option SVal} {V : List (IE × Int)} {R : RoT}
    (names : ∀ (f : FuncId) (fn : Func), P.funcs[f]? = some fn → fn.body.isSome = true → (fn.name == "runtime.NumGoroutine") = false) (hK : K.ok ρ) (hE : ExtraOk P nmv hnm ρ K extra) (hR : RoNm P nmv hnm ρ R) (hV : ∀ p ∈ V, p.1.ev ρ = p.2) :
    @NamesOk (envQ P nmv hnm ρ K extra V R) P := by
  have h0 : @NamesOk (envV P nmv hnm ρ K (extraR P R extra) V) P := namesOkV (namesOkS _ _ _ _ _ _ names hK (extraR_ok hR hE)) hV
  have hv : ∀ s, (envQ P nmv hnm ρ K extra V R).val s = (envV P nmv hnm ρ K (extraR P R extra) V).val s := fun _ => rfl
  refine @NamesOk.mk (envQ P nmv hnm ρ K extra V R) P names ?_
  intro op xs y h r f o w ho hd
  rw [denL_val hv] at hd
  obtain ⟨v, h1, h2⟩ := @NamesOk.facts (envV P nmv hnm ρ K (extraR P R extra) V) P h0 op xs y h r f o w ho hd
  exact ⟨v, h1, by rw [den_val hv]; exact h2⟩

/-- The slices lie in the world as the names say. -/
def RoIn (P : Program) (nmv : Nat → Value) (hnm : ∀ i, Flat (nmv i)) (ρ : Nat → Int) (R : RoT) (w : World) : Prop :=
  ∀ s r, s < 1000 → R s = some r → ∃ (a : Addr) (n cap : Nat), nmv s = .slice (some a) n cap ∧ @RoAt (env0 P nmv hnm ρ) w a r.cells

theorem roHoldsQ {P : Program} {nmv : Nat → Value} {hnm : ∀ i, Flat (nmv i)} {ρ : Nat → Int} {K : Know} {extra : Op → List SVal → Option SVal} {V : List (IE × Int)} {R : RoT} (hR : RoNm P nmv hnm ρ R) {w : World} (hw : RoIn P nmv hnm ρ R w) :
    @RoHolds (envQ P nmv hnm ρ K extra V R) w := by
  have hv : ∀ s, (envQ P nmv hnm ρ K extra V R).val s = (env0 P nmv hnm ρ).val s := fun _ => rfl
  refine @RoHolds.mk (envQ P nmv hnm ρ K extra V R) w (fun s l hs => ?_) (fun s n l hs => ?_)
  · change roOf R s = some l at hs
    unfold roOf at hs
    split at hs
    case h_2 => cases hs
    rename_i p
    split at hs
    case isFalse => cases hs
    rename_i hc
    split at hs
    case h_2 => cases hs
    rename_i r hr
    cases hs
    obtain ⟨a, n, cap, h0, h1, h2, h3, h4⟩ := hR _ r hc.2 hr
    obtain ⟨a', n', cap', k1, k2⟩ := hw _ r hc.2 hr
    rw [h1] at k1
    cases k1
    obtain ⟨k3, k4, vs, k5, k6⟩ := k2
    refine ⟨⟨a.block, a.off + p % 1000, none⟩, ?_, ?_⟩
    · have := h4 (p % 1000) (Nat.mod_lt _ (by decide))
      rw [← name_split hc.1] at this
      exact this
    · refine @RoAt.mk (envQ P nmv hnm ρ K extra V R) w _ _ (fun _ => rfl) (fun hne => k4 fun e => hne (by rw [e]; simp)) ⟨vs.drop (p % 1000), fun q => ?_, fun k u hk => ?_⟩
      · rw [denL_val hv]
        exact @denL_drop (env0 P nmv hnm ρ) q (p % 1000) _ _ (k5 q)
      · rw [List.getElem?_drop] at hk
        have := k6 _ _ hk
        simp only
        rw [Nat.add_assoc]
        exact this
  · change rsOf R s = some (n, l) at hs
    unfold rsOf at hs
    split at hs
    case h_2 => cases hs
    rename_i s
    split at hs
    case isFalse => cases hs
    rename_i hc
    split at hs
    case h_2 => cases hs
    rename_i r hr
    split at hs
    case h_2 => cases hs
    rename_i m hm
    split at hs
    case isFalse => cases hs
    rename_i h0m
    cases hs
    obtain ⟨a, n, cap, h0, h1, h2, h3, h4⟩ := hR _ r hc hr
    obtain ⟨a', n', cap', k1, k2⟩ := hw _ r hc hr
    rw [h1] at k1
    cases k1
    have hn : (n : Int) = m := by
      have h5 := h3 (fun _ => none)
      rw [hm] at h5
      have h6 : Value.int .i64 m = goInt n := Option.some.inj h5
      simp only [goInt, Value.int.injEq, true_and] at h6
      exact h6.symm
    refine ⟨a, cap, ?_, ?_⟩
    · show nmv s = _
      rw [h1]
      congr 1
      omega
    · obtain ⟨k3, k4, vs, k5, k6⟩ := k2
      exact @RoAt.mk (envQ P nmv hnm ρ K extra V R) w _ _ k3 k4 ⟨vs, fun q => by rw [denL_val hv]; exact k5 q, k6⟩
end
end Go.RX

namespace Go.RX
noncomputable section
open Go.RowKit (Below)

/-! ### Comparisons by what is known, whichever way they are asked -/
def negOp : BinOp → BinOp
  | .eql => .neq | .neq => .eql | .lss => .geq | .geq => .lss | .gtr => .leq | .leq => .gtr
  | o => o
def mirOp : BinOp → BinOp
  | .lss => .gtr | .gtr => .lss | .leq => .geq | .geq => .leq
  | o => o
def knowN (L : List CF) : Know := fun op a c => if isCmp op then
    match lookC op a c L with
    | some r => some r
    | none => match lookC (negOp op) a c L with
      | some r => some (!r)
      | none => match lookC (mirOp op) c a L with
        | some r => some r
        | none => match lookC (mirOp (negOp op)) c a L with
          | some r => some (!r)
          | none => none
  else none
theorem cmpI_neg {op : BinOp} (h : isCmp op = true) (x y : Int) : cmpI (negOp op) x y = !cmpI op x y := by
  cases op <;> first | (simp [isCmp] at h; done) | skip
  · simp [negOp, cmpI, bne]
  · simp [negOp, cmpI, bne]
  all_goals
    simp only [negOp, cmpI, ← decide_not]
    congr 1
    simp only [eq_iff_iff]
    omega
theorem cmpI_mir {op : BinOp} (h : isCmp op = true) (x y : Int) : cmpI (mirOp op) y x = cmpI op x y := by
  cases op <;> first | (simp [isCmp] at h; done) | rfl | (simp only [mirOp, cmpI, bne]; rw [BEq.comm])
theorem isCmp_neg {op : BinOp} (h : isCmp op = true) : isCmp (negOp op) = true := by cases op <;> first | rfl | (simp [isCmp] at h; done)
theorem knowN_ok {ρ : Nat → Int} {L : List CF} (h : ∀ f ∈ L, f.ok ρ) : (knowN L).ok ρ := fun op a c r hr => by
  unfold knowN at hr
  split at hr
  case isFalse => cases hr
  rename_i hc
  refine ⟨hc, ?_⟩
  split at hr
  · rename_i q hq; cases hr; exact (lookC_ok h hq).2
  · split at hr
    · rename_i q hq
      cases hr
      have := (lookC_ok h hq).2
      rw [cmpI_neg hc] at this
      rw [← this, Bool.not_not]
    · split at hr
      · rename_i q hq
        cases hr
        have := (lookC_ok h hq).2
        rw [cmpI_mir hc] at this
        exact this
      · split at hr
        · rename_i q hq
          cases hr
          have := (lookC_ok h hq).2
          rw [cmpI_mir (isCmp_neg hc), cmpI_neg hc] at this
          rw [← this, Bool.not_not]
        · cases hr

/-! ### Calls that only read one slice, told for all places at which it may lie -/
/-- A slice's elements lie in the world. -/
def VAt (w : World) (u : Value) (n : Nat) (vs : List Value) : Prop :=
  (∃ (a : Addr) (cap : Nat), u = .slice (some a) n cap ∧ (vs ≠ [] → a.spot = none ∧ a.block < w.heap.size) ∧ ∀ (k : Nat) v, vs[k]? = some v → w.cell? ⟨a.block, a.off + k, none⟩ = some v) ∨ (u = .slice none 0 0 ∧ n = 0)

/-- The function, the slice's length and its cells, the result. -/
abbrev REntry := FuncId × Nat × List SVal × SVal

variable [Env]
def matchSl (H : SHeap) (n : Nat) (l : List SVal) : SVal → Bool
  | .v (.slice none 0 0) => Nat.beq n 0
  | .sym s => match Env.rs s with
    | some (m, l') => Nat.beq m n && sameL (sameS 9) l l'
    | none => false
  | x => match sliceAtOf x with
    | some (i, off, m) => if Nat.beq m n then match firstOf H i off l.length with
        | some l' => sameL (sameS 9) l l'
        | none => false
      else false
    | none => false
def lookRd (f : FuncId) (H : SHeap) (x : SVal) : List REntry → Option SVal
  | [] => none
  | e :: es => if Nat.beq e.1 f then (if matchSl H e.2.1 e.2.2.1 x then some e.2.2.2 else lookRd f H x es) else lookRd f H x es
theorem lookRd_ok {f : FuncId} {H : SHeap} {x y : SVal} : ∀ {T : List REntry}, lookRd f H x T = some y → ∃ e ∈ T, e.1 = f ∧ e.2.2.2 = y ∧ matchSl H e.2.1 e.2.2.1 x = true
  | [], h => by cases h
  | e :: es, h => by
    simp only [lookRd] at h
    split at h
    · rename_i hf
      split at h
      · rename_i hm
        cases h
        exact ⟨e, List.mem_cons_self, Nat.eq_of_beq_eq_true hf, rfl, hm⟩
      · obtain ⟨e', h1, h2⟩ := lookRd_ok h
        exact ⟨e', List.mem_cons_of_mem _ h1, h2⟩
    · obtain ⟨e', h1, h2⟩ := lookRd_ok h
      exact ⟨e', List.mem_cons_of_mem _ h1, h2⟩
def tabRd (T : List REntry) : Orac := readO fun f xs H => match xs with
  | [x] => lookRd f H x T
  | _ => none

section
variable {P : Program} {G : Glob}
/-- What an entry says. -/
def ROk (P : Program) (G : Glob) (e : REntry) : Prop := nfL e.2.2.1 = true ∧ nf e.2.2.2 = true ∧
  ∃ (vs : List Value) (v : Value), denL (fun _ => none) e.2.2.1 = some vs ∧ den (fun _ => none) e.2.2.2 = some v ∧ ∀ w u, G.holds w → VAt w u e.2.1 vs → Calls P e.1 #[u] w fun r w' => r = .returned v ∧ Below w.heap.size w w'

theorem tabRd_holds {T : List REntry} (h : ∀ e ∈ T, ROk P G e) : (tabRd T).holds P G := readO_holds fun f xs H y hy w0 ρ vs w hG hR hvs => by
  split at hy
  case h_2 => cases hy
  rename_i x
  obtain ⟨e, he, rfl, rfl, hm⟩ := lookRd_ok hy
  obtain ⟨h1, h2, us, v, h3, h4, h5⟩ := h e he
  refine ⟨v, by rw [den_nf _ h2 (ρ' := fun _ => none)]; exact h4, ?_⟩
  obtain ⟨u, l, hu, hl, hul⟩ := denL_cons.1 hvs
  simp only [denL, Option.some.injEq] at hl
  subst hl
  obtain rfl : vs = #[u] := Array.toList_inj.1 hul
  refine h5 w u hG ?_
  unfold matchSl at hm
  split at hm
  · simp only [den, Option.some.injEq] at hu
    exact .inr ⟨hu.symm, Nat.eq_of_beq_eq_true hm⟩
  · rename_i s
    split at hm
    case h_2 => cases hm
    rename_i m l' hs
    simp only [Bool.and_eq_true] at hm
    obtain ⟨a, cap, k1, k2⟩ := hR.below.here.rs s m l' hs
    obtain ⟨k3, k4, ws, k5, k6⟩ := k2
    simp only [den, Option.some.injEq] at hu
    have e1 := Nat.eq_of_beq_eq_true hm.1
    have e2 := sameL_ok (sameS_ok 9) _ _ hm.2
    rw [e2, k5] at h3
    cases h3
    refine .inl ⟨a, cap, by rw [← hu, k1, e1], fun hne => ?_, k6⟩
    have hl : l' ≠ [] := fun e => by
      subst e
      have := k5 (fun _ => none)
      simp only [denL, Option.some.injEq] at this
      exact hne this.symm
    exact ⟨k3 hl, k4 hl⟩
  · split at hm
    case h_2 => cases hm
    rename_i i off m hsl
    split at hm
    case isFalse => cases hm
    rename_i hmn
    split at hm
    case h_2 => cases hm
    rename_i l' hl'
    obtain ⟨p, cap, hρ, rfl⟩ := sliceAtOf_ok hu hsl
    have e1 := Nat.eq_of_beq_eq_true hmn
    have e2 := sameL_ok (sameS_ok 9) _ _ hm
    subst e1
    refine .inl ⟨⟨p.b, off, none⟩, cap, rfl, fun _ => ⟨rfl, (hR.fresh i p hρ).2⟩, fun k v hk => ?_⟩
    unfold firstOf at hl'
    split at hl'
    case h_2 => cases hl'
    rename_i l'' hl''
    split at hl'
    case isFalse => cases hl'
    simp only [Option.some.injEq] at hl'
    obtain ⟨a, ws, ha, hs, hd, hc⟩ := cellsFrom_ok (noGlob_holds w0) hR (x := .ptr i off) (v := .pointer (some ⟨p.b, off, none⟩)) (by simp only [den, hρ]) hl''
    cases ha
    have hd' := denL_take e.2.2.1.length hd
    rw [hl', ← e2, denL_nf _ h1 (ρ' := fun _ => none), h3] at hd'
    have hw : us = ws.take e.2.2.1.length := Option.some.inj hd'
    rw [hw, List.getElem?_take] at hk
    split at hk
    · exact hc k v hk
    · cases hk
end
end
end Go.RX
