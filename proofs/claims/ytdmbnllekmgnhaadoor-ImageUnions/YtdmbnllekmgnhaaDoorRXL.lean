import Derived.ChangeSame
import Derived.ChangeVars
import Derived.OpenShut
import Derived.LaidLaws
import Derived.Test.YtdmbnllekmgnhaaDoorRXD
import Derived.Lib.Strings
namespace Go.RX
noncomputable section

/-! ### The cells that a datum tells -/
section
variable {H : Type} {enc : TypeId × Value → H} {P : Program} {W : World} {base : Nat} {sp : Nat → Bool} {held : Bool}

def datParts (P : Program) (rec : TypeId → DataW H → Option (List Value)) : List (TypeId × Nat) → List (DataW H) → Nat → Option (List Value × Nat)
  | [], [], off => some ([], off)
  | (t, o) :: L, d :: ds, off => if o = off then
      match rec t d with
      | some v => match datParts P rec L ds (off + P.cellsOf t) with
        | some (r, e) => some (v ++ r, e)
        | none => none
      | none => none
    else none
  | _, _, _ => none

/-- The cells of a value of type t that reads as d: plain data. -/
def datCells (P : Program) : Nat → TypeId → DataW H → Option (List Value)
  | 0, _, _ => none
  | n + 1, t, d => match P.underlying t, d with
    | some .bool, .lit (.bool b) => some [.bool b]
    | some (.int _), .lit (.int k m) => some [.int k m]
    | some .string, .lit (.string l) => some [.string ⟨l.toArray⟩]
    | some (.struct fs), .agg ds => match datParts P (datCells P n) (fs.toList.map fun f => (f.type, f.offset)) ds 0 with
      | some (v, e) => if e = P.cellsOf t then some v else none
      | none => none
    | some (.array k e), .agg ds => match datParts P (datCells P n) ((List.range k).map fun i => (e, i * P.cellsOf e)) ds 0 with
      | some (v, e') => if e' = P.cellsOf t then some v else none
      | none => none
    | _, _ => none

theorem datParts_ok {rec : TypeId → DataW H → Option (List Value)} {tr : TypeId → List Value → Option (DataW H × List MemPlace)} {cs : List Value}
    (hrec : ∀ t d p c v, tr t c = some (d, p) → rec t d = some v → c = v) :
    ∀ (L : List (TypeId × Nat)) (xs : List (DataW H × List MemPlace)) (off : Nat) (r : List Value) (e : Nat), datParts P rec L (xs.map (·.1)) off = some (r, e) →
      (∀ (i : Nat) (x : TypeId × Nat), L[i]? = some x → tr x.1 ((cs.drop x.2).take (P.cellsOf x.1)) = xs[i]?) → off ≤ e ∧ (cs.drop off).take (e - off) = r
  | [], [], off, r, e, h, _ => by
    simp only [List.map_nil, datParts, Option.some.injEq, Prod.mk.injEq] at h
    obtain ⟨rfl, rfl⟩ := h
    simp
  | [], x :: xs, off, r, e, h, _ => by simp [datParts] at h
  | y :: L, [], off, r, e, h, _ => by simp [datParts] at h
  | (t, o) :: L, x :: xs, off, r, e, h, hx => by
    simp only [List.map_cons, datParts] at h
    split at h
    case isFalse => cases h
    rename_i ho
    subst ho
    split at h
    case h_2 => cases h
    rename_i v hv
    split at h
    case h_2 => cases h
    rename_i r' e' hr
    cases h
    have h0 := hx 0 (t, o) rfl
    simp only [List.getElem?_cons_zero] at h0
    have hc := hrec t x.1 x.2 _ v h0 hv
    obtain ⟨h1, h2⟩ := datParts_ok hrec L xs (o + P.cellsOf t) r' e hr (fun i y hy => by simpa using hx (i + 1) y (by simpa using hy))
    refine ⟨by omega, ?_⟩
    have hlen : e - o = P.cellsOf t + (e - (o + P.cellsOf t)) := by omega
    rw [hlen, List.take_add, hc, List.drop_drop, h2]

theorem datCells_ok : ∀ (n fuel : Nat) (t : TypeId) (d : DataW H) (p : List MemPlace) (cs v : List Value), DataW.trod enc P W base sp held fuel t cs = some (d, p) → datCells P n t d = some v → cs = v
  | 0, fuel, t, d, p, cs, v, _, h => by cases h
  | n + 1, fuel, t, d, p, cs, v, ht, h => by
    simp only [datCells] at h
    split at h
    · rename_i b hu
      cases h
      obtain ⟨b', rfl, hx⟩ := DataW.trod_bool hu ht
      simp only [Prod.mk.injEq, DataW.lit.injEq, Lit.bool.injEq] at hx
      rw [hx.1]
    · rename_i k' k m hu
      cases h
      obtain ⟨n', rfl, hx, _⟩ := DataW.trod_int hu ht
      simp only [Prod.mk.injEq, DataW.lit.injEq, Lit.int.injEq] at hx
      rw [hx.1.1, hx.1.2]
    · rename_i l hu
      cases h
      obtain ⟨s, rfl, hx, _⟩ := DataW.trod_string hu ht
      simp only [Prod.mk.injEq, DataW.lit.injEq, Lit.string.injEq] at hx
      rw [hx.1]
    · rename_i fs ds hu
      split at h
      case h_2 => cases h
      rename_i v' e hp
      split at h
      case isFalse => cases h
      rename_i he
      cases h
      obtain ⟨xs, m, rfl, hx, hl, _, hf⟩ := DataW.trod_struct hu ht
      simp only [Prod.mk.injEq, DataW.agg.injEq] at hx
      rw [hx.1] at hp
      obtain ⟨_, h2⟩ := datParts_ok (tr := fun t c => DataW.trod enc P W base sp held m t c) (cs := cs) (fun t d p c v h1 h2 => datCells_ok n m t d p c v h1 h2) _ xs 0 v e hp (fun i x hi => by
        simp only [List.getElem?_map, Option.map_eq_some_iff, Array.getElem?_toList] at hi
        obtain ⟨f, hfi, rfl⟩ := hi
        exact hf i f hfi)
      rw [he, ← hl] at h2
      simpa using h2
    · rename_i k e ds hu
      split at h
      case h_2 => cases h
      rename_i v' e' hp
      split at h
      case isFalse => cases h
      rename_i he
      cases h
      obtain ⟨xs, m, rfl, hx, hl, _, hf⟩ := DataW.trod_array hu ht
      simp only [Prod.mk.injEq, DataW.agg.injEq] at hx
      rw [hx.1] at hp
      obtain ⟨_, h2⟩ := datParts_ok (tr := fun t c => DataW.trod enc P W base sp held m t c) (cs := cs) (fun t d p c v h1 h2 => datCells_ok n m t d p c v h1 h2) _ xs 0 v e' hp (fun i x hi => by
        simp only [List.getElem?_map, Option.map_eq_some_iff] at hi
        obtain ⟨j, hj, rfl⟩ := hi
        have hik : i < k := by
          rcases Nat.lt_or_ge i k with h' | h'
          · exact h'
          · rw [List.getElem?_eq_none (by simpa using h')] at hj
            cases hj
        have hjk : i < k ∧ j = i := by
          rw [List.getElem?_range hik] at hj
          exact ⟨hik, (Option.some.inj hj).symm⟩
        obtain ⟨h1, rfl⟩ := hjk
        exact hf j h1)
      rw [he, ← hl] at h2
      simpa using h2
    · cases h

/-- The first listed variable's cells, where its datum is plain. -/
theorem laid_cells {name : String} {d : DataW Unit} {r : List (String × DataW Unit)} {ps : List MemPlace} (h : DataW.LaidVars P W ((name, d) :: r) ps) {g t n : Nat} {vs : List Value} (hg : P.globalNamed name = some g)
    (ht : (P.globals[g]?).map (·.type) = some t) (hv : datCells P n t d = some vs) : (∀ k v, vs[k]? = some v → W.cell? ⟨g, k, none⟩ = some v) ∧ ∃ q, DataW.LaidVars P W r q ∧ ∀ m ∈ q, m ∈ ps := by
  obtain ⟨g', t', cs, fuel, p, q, hg', ht', hvar, hd, hr, rfl⟩ := h
  obtain rfl := Option.some.inj (hg.symm.trans hg')
  obtain rfl := Option.some.inj (ht.symm.trans ht')
  have hc := datCells_ok _ _ _ _ _ _ _ hd hv
  refine ⟨fun k v hk => ?_, q, hr, fun m hm => by simp [hm]⟩
  rw [World.var?_cell hg hvar k, ← Array.getElem?_toList, hc]
  exact hk

/-- The first listed variable's cell, where it is a sentinel. -/
theorem laid_sentinel {name nm : String} {text : List UInt8} {r : List (String × DataW Unit)} {ps : List MemPlace} (h : DataW.LaidVars P W ((name, .iface nm (.ptr (.agg [.lit (.string text)]))) :: r) ps)
    (hok : ∀ b off, MemPlace.cell b off ∈ ps → ∀ u v, W.cell? ⟨b, off, none⟩ = some (.iface u v) → Value.okWide P W .any 0 u v)
    {g ti tp te ts : Nat} {ms : Array (String × TypeId)} {f : Field} (hg : P.globalNamed name = some g) (ht : (P.globals[g]?).map (·.type) = some ti)
    (hi : P.underlying ti = some (.interface ms)) (hrow : ∀ u, P.typeName? 3 u = some nm → u = tp) (hp : P.underlying tp = some (.pointer te)) (he : P.underlying te = some (.struct #[f])) (hft : f.type = ts) (hfo : f.offset = 0)
    (hs : P.underlying ts = some .string) (hc : P.cellsOf te = 1) (hcs : P.cellsOf ts = 1) :
    (∃ a, W.cell? ⟨g, 0, none⟩ = some (.iface tp (.pointer (some a)))) ∧ ∃ q, DataW.LaidVars P W r q ∧ ∀ m ∈ q, m ∈ ps := by
  obtain ⟨g', t', cs, fuel, p, q, hg', ht', hvar, hd, hr, rfl⟩ := h
  obtain rfl := Option.some.inj (hg.symm.trans hg')
  obtain rfl := Option.some.inj (ht.symm.trans ht')
  obtain ⟨l⟩ := cs
  have hcell := World.var?_cell hg hvar 0
  obtain ⟨a, s, e, _⟩ := errorString_of_trod hi hrow hp he hft hfo hs hc hcs hd fun u v e => by
    have e' : l = [.iface u v] := e
    subst e'
    exact hok g 0 (by simp [MemPlace.row]) u v (by simpa using hcell)
  have e' : l = [.iface tp (.pointer (some a))] := e
  subst e'
  exact ⟨⟨a, by simpa using hcell⟩, q, hr, fun m hm => by simp [hm]⟩

end
end
end Go.RX

namespace Go.RX
noncomputable section
open Go.RowKit (Below)


theorem namesOk_noEnv {P : Program} (h : ∀ (f : FuncId) (fn : Func), P.funcs[f]? = some fn → fn.body.isSome = true → (fn.name == "runtime.NumGoroutine") = false) : @NamesOk noEnv P :=
  @NamesOk.mk noEnv P h (fun _ _ _ h => by cases h)

/-! ### Calls that were run before -/
def eqL (f : Value → Value → Bool) : List Value → List Value → Bool
  | [], [] => true
  | x :: xs, y :: ys => f x y && eqL f xs ys
  | _, _ => false

/-- Are the two the same? (Plain values; of all others it says no.) -/
def eqV : Nat → Value → Value → Bool
  | _, .bool a, .bool b => a == b
  | _, .int j a, .int k b => decide (j = k) && decide (a = b)
  | _, .string a, .string b => decide (a = b)
  | _, .float j a, .float k b => decide (j = k) && decide (a = b)
  | _, .func (.func f) a b, .func (.func g) c d => Nat.beq f g && a.toList.isEmpty && b.toList.isEmpty && c.toList.isEmpty && d.toList.isEmpty
  | n + 1, .agg a, .agg b => eqL (eqV n) a.toList b.toList
  | _, _, _ => false

theorem eqL_ok {f : Value → Value → Bool} (hf : ∀ x y, f x y = true → x = y) : ∀ (l m : List Value), eqL f l m = true → l = m
  | [], [], _ => rfl
  | [], y :: ys, h => by simp [eqL] at h
  | x :: xs, [], h => by simp [eqL] at h
  | x :: xs, y :: ys, h => by
    simp only [eqL, Bool.and_eq_true] at h
    rw [hf x y h.1, eqL_ok hf xs ys h.2]

theorem eqV_ok : ∀ (n : Nat) (x y : Value), eqV n x y = true → x = y
  | 0, x, y, h => by
    unfold eqV at h
    split at h
    · rw [beq_iff_eq.1 h]
    · simp only [Bool.and_eq_true, decide_eq_true_eq] at h; rw [h.1, h.2]
    · rw [of_decide_eq_true h]
    · simp only [Bool.and_eq_true, decide_eq_true_eq] at h; rw [h.1, h.2]
    · simp only [Bool.and_eq_true, List.isEmpty_iff] at h
      obtain ⟨⟨⟨⟨h1, h2⟩, h3⟩, h4⟩, h5⟩ := h
      rw [Nat.eq_of_beq_eq_true h1, Array.toList_eq_nil_iff.1 h2, Array.toList_eq_nil_iff.1 h3, Array.toList_eq_nil_iff.1 h4, Array.toList_eq_nil_iff.1 h5]
    · exact absurd (by assumption : 0 = Nat.succ _) (by simp)
    · cases h
  | n + 1, x, y, h => by
    unfold eqV at h
    split at h
    · rw [beq_iff_eq.1 h]
    · simp only [Bool.and_eq_true, decide_eq_true_eq] at h; rw [h.1, h.2]
    · rw [of_decide_eq_true h]
    · simp only [Bool.and_eq_true, decide_eq_true_eq] at h; rw [h.1, h.2]
    · simp only [Bool.and_eq_true, List.isEmpty_iff] at h
      obtain ⟨⟨⟨⟨h1, h2⟩, h3⟩, h4⟩, h5⟩ := h
      rw [Nat.eq_of_beq_eq_true h1, Array.toList_eq_nil_iff.1 h2, Array.toList_eq_nil_iff.1 h3, Array.toList_eq_nil_iff.1 h4, Array.toList_eq_nil_iff.1 h5]
    · have hn := Nat.succ.inj (by assumption : n + 1 = Nat.succ _)
      subst hn
      exact congrArg Value.agg (Array.toList_inj.1 (eqL_ok (eqV_ok n) _ _ h))
    · cases h

abbrev Entry := FuncId × List Value × Value

def lookT (f : FuncId) (vs : List Value) : List Entry → Option Value
  | [] => none
  | e :: es => if e.1 = f then (if eqL (eqV 9) e.2.1 vs then some e.2.2 else lookT f vs es) else lookT f vs es

theorem lookT_ok {f : FuncId} {vs : List Value} {v : Value} : ∀ {T : List Entry}, lookT f vs T = some v → (f, vs, v) ∈ T
  | [], h => by cases h
  | e :: es, h => by
    simp only [lookT] at h
    split at h
    · rename_i hf
      split at h
      · rename_i hv
        cases h
        have := eqL_ok (eqV_ok 9) _ _ hv
        obtain ⟨a, b, c⟩ := e
        simp only at hf this
        subst hf this
        simp
      · exact List.mem_cons_of_mem _ (lookT_ok h)
    · exact List.mem_cons_of_mem _ (lookT_ok h)

def tabO (T : List Entry) : Orac := readO fun f xs _ =>
  match vOfL xs with
  | none => none
  | some vs => match lookT f vs T with
    | some v => some (.v v)
    | none => none

section
variable [Env] {P : Program} {G : Glob}

/-- What a table says. -/
def TabOk (P : Program) (G : Glob) (T : List Entry) : Prop := ∀ e ∈ T, ∀ w, G.holds w → Calls P e.1 e.2.1.toArray w fun r w' => r = .returned e.2.2 ∧ Below w.heap.size w w'

 omit [Env] in
theorem TabOk.append {T U : List Entry} (h : TabOk P G T) (k : TabOk P G U) : TabOk P G (T ++ U) := fun e he => by
  rcases List.mem_append.1 he with h' | h'
  · exact h e h'
  · exact k e h'

theorem tabO_holds {T : List Entry} (h : TabOk P G T) : (tabO T).holds P G := readO_holds fun f xs _ y hy _ ρ vs w hG _ hvs => by
  split at hy
  · cases hy
  rename_i us hus
  split at hy
  case h_2 => cases hy
  rename_i v hv
  cases hy
  have h1 := denL_of_vOfL (ρ := ρ) _ hus
  rw [hvs] at h1
  have h2 : vs = us.toArray := by rw [← Option.some.inj h1]
  subst h2
  exact ⟨v, rfl, h _ (lookT_ok hv) w hG⟩

theorem tabOk_of_run {O : Orac} (hO : O.holds P G) (hN : NamesOk P) (hm : P.follows .mixedOrders = true) {fuel n : Nat} {T : List Entry}
    (h : T.map (fun e => (call P G O fuel n (.fn e.1) (e.2.1.map .v) []).map fun r => nrm r.1) = T.map fun e => some (.v e.2.2)) (hro : ∀ w, RoHolds w := by exact fun w => RoHolds.of_none (fun _ => rfl) (fun _ => rfl) w) : TabOk P G T := by
  intro e he w hG
  have h1 : (call P G O fuel n (.fn e.1) (e.2.1.map .v) []).map (fun r => nrm r.1) = some (.v e.2.2) := (List.map_inj_left.1 h) e he
  have hx : nfL (e.2.1.map SVal.v) = true := by
    generalize e.2.1 = l
    induction l with
    | nil => rfl
    | cons x xs ih => simp [nfL, nf, ih]
  obtain ⟨v, hv, hc⟩ := calls_of_run hO hN hm h1 rfl (ρ := fun _ => none) (vs := e.2.1.toArray) hx (by simpa using denL_map_v e.2.1) hG (hro w)
  simp only [den, Option.some.injEq] at hv
  subst hv
  exact hc

theorem noO_holds : Orac.holds P G (fun _ _ _ => none) := fun _ _ _ _ _ h => by cases h
end
end
end Go.RX

namespace Go.RX
noncomputable section
open Go.RowKit (Below)

variable [Env]

/-! ### Facts on comparisons and lengths -/
def isCmp : BinOp → Bool
  | .eql | .neq | .lss | .leq | .gtr | .geq => true
  | _ => false

def cmpI : BinOp → Int → Int → Bool
  | .eql, a, b => a == b
  | .neq, a, b => a != b
  | .lss, a, b => decide (a < b)
  | .leq, a, b => decide (a ≤ b)
  | .gtr, a, b => decide (a > b)
  | .geq, a, b => decide (a ≥ b)
  | _, _, _ => false

 omit [Env] in
theorem run_cmp {P : Program} {w : World} {f : Operand → Value} {o : Oper} {op : BinOp} {ty : TypeId} {x y : Operand} {yt : TypeId} {k : IntKind} {a b : Int} (ho : o.op = .binOp op ty x y yt) (hc : isCmp op = true)
    (hx : f x = .int k a) (hy : f y = .int k b) : (execOp f o).run P w = .ok (.value (.bool (cmpI op a b))) w := by
  have h1 : (eqGuard op ty x y (.int k a) (.int k b)).run P w = .ok () w := by
    cases op <;> first | rfl | (simp [isCmp] at hc; done)
  have h2 : (Go.binOp op ty (.int k a) (.int k b)).run P w = .ok (.bool (cmpI op a b)) w := by
    cases op <;> first | (simp [isCmp] at hc; done) | (simp [Go.binOp, Op.intCmp, cmpI])
  unfold execOp
  simp only [ho, hx, hy]
  show ((do pure (Next.value (← (do eqGuard op ty x y (.int k a) (.int k b); Go.binOp op ty (.int k a) (.int k b) : Sem Value))) : Sem Next)).run P w = _
  refine run_bind_ok (a := Value.bool (cmpI op a b)) (w' := w) ?_
  rw [run_bind_ok h1]
  exact h2

 omit [Env] in
theorem run_eqS {P : Program} {w : World} {f : Operand → Value} {o : Oper} {ty : TypeId} {x y : Operand} {yt : TypeId} {a b : ByteArray} (ho : o.op = .binOp .eql ty x y yt)
    (hx : f x = .string a) (hy : f y = .string b) : (execOp f o).run P w = .ok (.value (.bool (decide (a = b)))) w := by
  have h1 : (eqGuard .eql ty x y (.string a) (.string b)).run P w = .ok () w := rfl
  have h2 : (Go.binOp .eql ty (.string a) (.string b)).run P w = .ok (.bool (decide (a = b))) w := by
    have e : (a.toList == b.toList) = decide (a = b) := by
      rw [Lib.toList_data, Lib.toList_data]
      by_cases h : a = b
      · subst h
        simp
      · have h1 : ¬ a.data.toList = b.data.toList := fun he => h (ByteArray.ext (Array.toList_inj.1 he))
        rw [beq_false_of_ne h1, decide_eq_false h]
    simp [Go.binOp, Op.stringOp, e]
  unfold execOp
  simp only [ho, hx, hy]
  show ((do pure (Next.value (← (do eqGuard .eql ty x y (.string a) (.string b); Go.binOp .eql ty (.string a) (.string b) : Sem Value))) : Sem Next)).run P w = _
  refine run_bind_ok (a := Value.bool (decide (a = b))) (w' := w) ?_
  rw [run_bind_ok h1]
  exact h2

 omit [Env] in
theorem run_lenS {P : Program} {w : World} {f : Operand → Value} {o : Oper} {args : Array Operand} {x : Operand} {ty : TypeId} {s : ByteArray} (ho : o.op = .call { callee := .builtin .len, args := args, argTypes := #[ty] })
    (ha : args = #[x]) (hu : P.underlying ty = some .string) (hx : f x = .string s) : (execOp f o).run P w = .ok (.value (goInt s.size)) w := by
  subst ha
  have h2 : (Builtin.len_ #[ty] o.type #[f x]).run P w = .ok (goInt s.size) w := by
    unfold Builtin.len_
    simp only [List.getElem?_toArray, List.getElem?_cons_zero, hx]
    have hr : (underlying ty).run P w = .ok .string w := by
      unfold underlying
      show (Sem.program .pure >>= _ : Sem TypeDesc).run P w = _
      rw [run_bind_pure (a := P) rfl]
      simp only [hu]
      rfl
    rw [run_bind_ok hr]
    rfl
  unfold execOp
  simp only [ho]
  show ((do let d ← resolve f { callee := .builtin .len, args := #[x], argTypes := #[ty] } o.type; invoke d.target d.args : Sem Next)).run P w = _
  simp only [resolve]
  rw [run_pure_bind]
  simp only [invoke, builtin, List.map_toArray, List.map_cons, List.map_nil]
  rw [run_bind_ok h2]
  rfl

 omit [Env] in
theorem beqB (a b : ByteArray) : (a == b) = decide (a = b) := by
  have h1 : (a == b) = (a.data == b.data) := rfl
  rw [h1]
  by_cases h : a = b
  · subst h
    simp
  · have : ¬ a.data = b.data := fun he => h (ByteArray.ext he)
    rw [beq_false_of_ne this, decide_eq_false h]
end
end Go.RX
