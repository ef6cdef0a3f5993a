import Derived.ChangeSame
import Derived.WideShapes
import Derived.OpenShut
namespace Go.RX
open Go.ChangeShapes Go.WideShapes

section
variable {H : Type} {enc : TypeId × Value → H} {P : Program} {w : World} {base : Nat} {spare : Nat → Bool} {held : Bool}

theorem drop_one {α : Type} {l : List α} {i : Nat} {x : α} (h : l[i]? = some x) : (l.drop i).take 1 = [x] := by
  obtain ⟨hi, rfl⟩ := List.getElem?_eq_some_iff.1 h
  rw [List.drop_eq_getElem_cons hi]
  rfl

/-- A struct of two integers, read. -/
theorem open_pair {r : Reach} {b0 : Nat} {t : TypeId} {f0 f1 : Field} {k0 k1 : IntKind} {v : Value} {d : DataW H} {ps : List MemPlace} (ht : P.underlying t = some (.struct #[f0, f1])) (hc : P.cellsOf t = 2)
    (o0 : f0.offset = 0) (o1 : f1.offset = 1) (c0 : P.cellsOf f0.type = 1) (c1 : P.cellsOf f1.type = 1) (u0 : P.underlying f0.type = some (.int k0)) (u1 : P.underlying f1.type = some (.int k1))
    (hval : Value.okWide P w r b0 t v) (hd : DataW.Trod enc P w base spare held t v d ps) :
    ∃ m n, v = .agg #[.int k0 m, .int k1 n] ∧ d = .agg [.lit (.int k0 m), .lit (.int k1 n)] ∧ ps = [] ∧ (Lit.int k0 m).wf = true ∧ (Lit.int k1 n).wf = true := by
  obtain ⟨cs, rfl, hsz⟩ := okWide_struct ht hval
  obtain ⟨fuel, hf⟩ := hd
  obtain ⟨y0, y1, n, hx, hl, h0, h1⟩ := trod_struct2 ht hf
  rw [hc] at hsz
  obtain ⟨a, b, hab⟩ : ∃ a b, cs = #[a, b] := by
    obtain ⟨l⟩ := cs
    match l, hsz with
    | [a, b], _ => exact ⟨a, b, rfl⟩
  subst hab
  simp only [Value.cells, o0, o1, c0, c1] at h0 h1
  obtain ⟨m0, e0, x0, w0⟩ := DataW.trod_int u0 h0
  obtain ⟨m1, e1, x1, w1⟩ := DataW.trod_int u1 h1
  simp only [List.drop_zero, List.take_succ_cons, List.take_zero, List.cons.injEq, and_true, List.drop_succ_cons] at e0 e1
  subst e0 e1
  simp only [Prod.mk.injEq] at hx
  obtain ⟨rfl, rfl⟩ := hx
  rw [x0, x1]
  exact ⟨m0, m1, rfl, rfl, rfl, w0, w1⟩

theorem shut_pair {t : TypeId} {f0 f1 : Field} {k0 k1 : IntKind} {m n : Int} (ht : P.underlying t = some (.struct #[f0, f1])) (hc : P.cellsOf t = 2)
    (o0 : f0.offset = 0) (o1 : f1.offset = 1) (c0 : P.cellsOf f0.type = 1) (c1 : P.cellsOf f1.type = 1) (u0 : P.underlying f0.type = some (.int k0)) (u1 : P.underlying f1.type = some (.int k1))
    (w0 : (Lit.int k0 m).wf = true) (w1 : (Lit.int k1 n).wf = true) : DataW.Trod enc P w base spare held t (.agg #[.int k0 m, .int k1 n]) (.agg [.lit (.int k0 m), .lit (.int k1 n)]) [] := by
  refine ⟨2, ?_⟩
  have h0 := trod_int_mk (enc := enc) (w := w) (base := base) (spare := spare) (held := held) 0 u0 w0
  have h1 := trod_int_mk (enc := enc) (w := w) (base := base) (spare := spare) (held := held) 0 u1 w1
  exact trod_struct2_mk (n := 1) (y0 := (.lit (.int k0 m), [])) (y1 := (.lit (.int k1 n), [])) ht (by simp [Value.cells, hc]) (by simpa [Value.cells, o0, c0] using h0) (by simpa [Value.cells, o1, c1] using h1)

theorem trod_float {t : TypeId} {fuel : Nat} {cs : List Value} {x : DataW H × List MemPlace} {k : FloatKind} (ht : P.underlying t = some (.float k)) (h : DataW.trod enc P w base spare held fuel t cs = some x) : ∃ b, cs = [.float k b] ∧ x = (.lit (.float k b), []) ∧ (Lit.float k b).wf = true := by
  cases fuel with
  | zero => simp [DataW.trod] at h
  | succ n =>
    unfold DataW.trod at h
    rw [ht] at h
    split at h <;> simp_all

/-- A float, read. -/
theorem open_float {r : Reach} {b0 : Nat} {t : TypeId} {k : FloatKind} {v : Value} {d : DataW H} {ps : List MemPlace} (ht : P.underlying t = some (.float k)) (hval : Value.okWide P w r b0 t v) (hd : DataW.Trod enc P w base spare held t v d ps) :
    ∃ b, v = .float k b ∧ d = .lit (.float k b) ∧ ps = [] ∧ (Lit.float k b).wf = true := by
  have hv : ∃ b, v = .float k b := by
    unfold Value.okWide at hval
    rw [ht] at hval
    simp only [Cell.okWide, Cell.ok, ht] at hval
    cases v <;> simp_all
  obtain ⟨b, rfl⟩ := hv
  obtain ⟨fuel, hf⟩ := hd
  obtain ⟨b', h, hx, hw⟩ := trod_float ht hf
  simp [Value.cells] at h
  subst h
  simp only [Prod.mk.injEq] at hx
  exact ⟨b, rfl, hx.1, hx.2, hw⟩

theorem shut_float {t : TypeId} {k : FloatKind} {b : Nat} (ht : P.underlying t = some (.float k)) (hw : (Lit.float k b).wf = true) : DataW.Trod enc P w base spare held t (.float k b) (.lit (.float k b)) [] :=
  ⟨1, by simp [DataW.trod, Value.cells, ht, hw]⟩
end
end Go.RX

namespace Go.RX
open Go.ChangeShapes Go.WideShapes

section
variable {H : Type} {enc : TypeId × Value → H} {P : Program} {w : World} {base : Nat} {spare : Nat → Bool} {held : Bool}

theorem okWide_array {r : Reach} {b0 : Nat} {t e : TypeId} {n : Nat} {v : Value} (ht : P.underlying t = some (.array n e)) (h : Value.okWide P w r b0 t v) : ∃ cs, v = .agg cs ∧ cs.size = P.cellsOf t := by
  simp only [Value.okWide, ht] at h
  obtain ⟨cs, h1, h2, _⟩ := h
  exact ⟨cs, h1, h2⟩

/-- An array of two integers, read. -/
theorem open_arr2 {r : Reach} {b0 : Nat} {t e : TypeId} {k : IntKind} {v : Value} {d : DataW H} {ps : List MemPlace} (ht : P.underlying t = some (.array 2 e)) (hc : P.cellsOf t = 2) (ce : P.cellsOf e = 1) (ue : P.underlying e = some (.int k))
    (hval : Value.okWide P w r b0 t v) (hd : DataW.Trod enc P w base spare held t v d ps) :
    ∃ m n, v = .agg #[.int k m, .int k n] ∧ d = .agg [.lit (.int k m), .lit (.int k n)] ∧ ps = [] ∧ (Lit.int k m).wf = true ∧ (Lit.int k n).wf = true := by
  obtain ⟨cs, rfl, hsz⟩ := okWide_array ht hval
  obtain ⟨fuel, hf⟩ := hd
  obtain ⟨xs, n, _, hx, hl, hlen, hg⟩ := DataW.trod_array ht hf
  rw [hc] at hsz
  obtain ⟨a, b, hab⟩ : ∃ a b, cs = #[a, b] := by
    obtain ⟨l⟩ := cs
    match l, hsz with
    | [a, b], _ => exact ⟨a, b, rfl⟩
  subst hab
  obtain ⟨y0, y1, rfl⟩ : ∃ y0 y1, xs = [y0, y1] := by
    match xs, hlen with
    | [y0, y1], _ => exact ⟨y0, y1, rfl⟩
  have h0 := hg 0 (by decide)
  have h1 := hg 1 (by decide)
  simp only [Value.cells, ce, Nat.zero_mul, Nat.one_mul] at h0 h1
  obtain ⟨m0, e0, x0, w0⟩ := DataW.trod_int ue h0
  obtain ⟨m1, e1, x1, w1⟩ := DataW.trod_int ue h1
  simp only [List.drop_zero, List.take_succ_cons, List.take_zero, List.cons.injEq, and_true, List.drop_succ_cons] at e0 e1
  subst e0 e1
  simp only [Prod.mk.injEq] at hx
  obtain ⟨rfl, rfl⟩ := hx
  rw [x0, x1]
  exact ⟨m0, m1, rfl, rfl, rfl, w0, w1⟩

theorem shut_arr2 {t e : TypeId} {k : IntKind} {m n : Int} (ht : P.underlying t = some (.array 2 e)) (hc : P.cellsOf t = 2) (ce : P.cellsOf e = 1) (ue : P.underlying e = some (.int k))
    (w0 : (Lit.int k m).wf = true) (w1 : (Lit.int k n).wf = true) : DataW.Trod enc P w base spare held t (.agg #[.int k m, .int k n]) (.agg [.lit (.int k m), .lit (.int k n)]) [] := by
  refine ⟨2, ?_⟩
  have h0 := trod_int_mk (enc := enc) (w := w) (base := base) (spare := spare) (held := held) 0 ue w0
  have h1 := trod_int_mk (enc := enc) (w := w) (base := base) (spare := spare) (held := held) 0 ue w1
  have hp : (List.range 2).mapM (fun i => DataW.trod enc P w base spare held 1 e (((Value.agg #[.int k m, .int k n]).cells.toList.drop (i * P.cellsOf e)).take (P.cellsOf e))) = some [(.lit (.int k m), []), (.lit (.int k n), [])] := by
    simp [List.range_succ, Value.cells, ce, h0, h1]
  unfold DataW.trod
  rw [ht]
  split <;> simp_all [Value.cells]
  rintro a b (⟨_, h⟩ | ⟨_, h⟩) <;> exact h
end
end Go.RX
