import Derived.ChangeSame
import Derived.ChangeVars
import Derived.OpenShut
import Derived.LaidLaws
namespace Go.RX
noncomputable section

/-! ### The cells that a datum tells -/
section
variable {H : Type} {enc : TypeId × Value → H} {P : Program} {W : World} {base : Nat} {sp : Nat → Bool} {held : Bool}

def datParts (P : Program) (rec : TypeId → DataW H → Option (List Value)) : List (TypeId × Nat) → List (DataW H) → Nat → Option (List Value × Nat)
  | [], [], off => some ([], off)
  | (t, o) :: L, d :: ds, off => if o = off then
      match rec t d with
      | some v => match datParts P rec L ds (off + P.cellsOf t) with
        | some (r, e) => some (v ++ r, e)
        | none => none
      | none => none
    else none
  | _, _, _ => none

/-- The cells of a value of type t that reads as d: plain data. -/
def datCells (P : Program) : Nat → TypeId → DataW H → Option (List Value)
  | 0, _, _ => none
  | n + 1, t, d => match P.underlying t, d with
    | some .bool, .lit (.bool b) => some [.bool b]
    | some (.int _), .lit (.int k m) => some [.int k m]
    | some .string, .lit (.string l) => some [.string ⟨l.toArray⟩]
    | some (.struct fs), .agg ds => match datParts P (datCells P n) (fs.toList.map fun f => (f.type, f.offset)) ds 0 with
      | some (v, e) => if e = P.cellsOf t then some v else none
      | none => none
    | some (.array k e), .agg ds => match datParts P (datCells P n) ((List.range k).map fun i => (e, i * P.cellsOf e)) ds 0 with
      | some (v, e') => if e' = P.cellsOf t then some v else none
      | none => none
    | _, _ => none

theorem datParts_ok {rec : TypeId → DataW H → Option (List Value)} {tr : TypeId → List Value → Option (DataW H × List MemPlace)} {cs : List Value}
    (hrec : ∀ t d p c v, tr t c = some (d, p) → rec t d = some v → c = v) :
    ∀ (L : List (TypeId × Nat)) (xs : List (DataW H × List MemPlace)) (off : Nat) (r : List Value) (e : Nat), datParts P rec L (xs.map (·.1)) off = some (r, e) →
      (∀ (i : Nat) (x : TypeId × Nat), L[i]? = some x → tr x.1 ((cs.drop x.2).take (P.cellsOf x.1)) = xs[i]?) → off ≤ e ∧ (cs.drop off).take (e - off) = r
  | [], [], off, r, e, h, _ => by
    simp only [List.map_nil, datParts, Option.some.injEq, Prod.mk.injEq] at h
    obtain ⟨rfl, rfl⟩ := h
    simp
  | [], x :: xs, off, r, e, h, _ => by simp [datParts] at h
  | y :: L, [], off, r, e, h, _ => by simp [datParts] at h
  | (t, o) :: L, x :: xs, off, r, e, h, hx => by
    simp only [List.map_cons, datParts] at h
    split at h
    case isFalse => cases h
    rename_i ho
    subst ho
    split at h
    case h_2 => cases h
    rename_i v hv
    split at h
    case h_2 => cases h
    rename_i r' e' hr
    cases h
    have h0 := hx 0 (t, o) rfl
    simp only [List.getElem?_cons_zero] at h0
    have hc := hrec t x.1 x.2 _ v h0 hv
    obtain ⟨h1, h2⟩ := datParts_ok hrec L xs (o + P.cellsOf t) r' e hr (fun i y hy => by simpa using hx (i + 1) y (by simpa using hy))
    refine ⟨by omega, ?_⟩
    have hlen : e - o = P.cellsOf t + (e - (o + P.cellsOf t)) := by omega
    rw [hlen, List.take_add, hc, List.drop_drop, h2]

theorem datCells_ok : ∀ (n fuel : Nat) (t : TypeId) (d : DataW H) (p : List MemPlace) (cs v : List Value), DataW.trod enc P W base sp held fuel t cs = some (d, p) → datCells P n t d = some v → cs = v
  | 0, fuel, t, d, p, cs, v, _, h => by cases h
  | n + 1, fuel, t, d, p, cs, v, ht, h => by
    simp only [datCells] at h
    split at h
    · rename_i b hu
      cases h
      obtain ⟨b', rfl, hx⟩ := DataW.trod_bool hu ht
      simp only [Prod.mk.injEq, DataW.lit.injEq, Lit.bool.injEq] at hx
      rw [hx.1]
    · rename_i k' k m hu
      cases h
      obtain ⟨n', rfl, hx, _⟩ := DataW.trod_int hu ht
      simp only [Prod.mk.injEq, DataW.lit.injEq, Lit.int.injEq] at hx
      rw [hx.1.1, hx.1.2]
    · rename_i l hu
      cases h
      obtain ⟨s, rfl, hx, _⟩ := DataW.trod_string hu ht
      simp only [Prod.mk.injEq, DataW.lit.injEq, Lit.string.injEq] at hx
      rw [hx.1]
    · rename_i fs ds hu
      split at h
      case h_2 => cases h
      rename_i v' e hp
      split at h
      case isFalse => cases h
      rename_i he
      cases h
      obtain ⟨xs, m, rfl, hx, hl, _, hf⟩ := DataW.trod_struct hu ht
      simp only [Prod.mk.injEq, DataW.agg.injEq] at hx
      rw [hx.1] at hp
      obtain ⟨_, h2⟩ := datParts_ok (tr := fun t c => DataW.trod enc P W base sp held m t c) (cs := cs) (fun t d p c v h1 h2 => datCells_ok n m t d p c v h1 h2) _ xs 0 v e hp (fun i x hi => by
        simp only [List.getElem?_map, Option.map_eq_some_iff, Array.getElem?_toList] at hi
        obtain ⟨f, hfi, rfl⟩ := hi
        exact hf i f hfi)
      rw [he, ← hl] at h2
      simpa using h2
    · rename_i k e ds hu
      split at h
      case h_2 => cases h
      rename_i v' e' hp
      split at h
      case isFalse => cases h
      rename_i he
      cases h
      obtain ⟨xs, m, rfl, hx, hl, _, hf⟩ := DataW.trod_array hu ht
      simp only [Prod.mk.injEq, DataW.agg.injEq] at hx
      rw [hx.1] at hp
      obtain ⟨_, h2⟩ := datParts_ok (tr := fun t c => DataW.trod enc P W base sp held m t c) (cs := cs) (fun t d p c v h1 h2 => datCells_ok n m t d p c v h1 h2) _ xs 0 v e' hp (fun i x hi => by
        simp only [List.getElem?_map, Option.map_eq_some_iff] at hi
        obtain ⟨j, hj, rfl⟩ := hi
        have hik : i < k := by
          rcases Nat.lt_or_ge i k with h' | h'
          · exact h'
          · rw [List.getElem?_eq_none (by simpa using h')] at hj
            cases hj
        have hjk : i < k ∧ j = i := by
          rw [List.getElem?_range hik] at hj
          exact ⟨hik, (Option.some.inj hj).symm⟩
        obtain ⟨h1, rfl⟩ := hjk
        exact hf j h1)
      rw [he, ← hl] at h2
      simpa using h2
    · cases h

/-- The first listed variable's cells, where its datum is plain. -/
theorem laid_cells {name : String} {d : DataW Unit} {r : List (String × DataW Unit)} {ps : List MemPlace} (h : DataW.LaidVars P W ((name, d) :: r) ps) {g t n : Nat} {vs : List Value} (hg : P.globalNamed name = some g)
    (ht : (P.globals[g]?).map (·.type) = some t) (hv : datCells P n t d = some vs) : (∀ k v, vs[k]? = some v → W.cell? ⟨g, k, none⟩ = some v) ∧ ∃ q, DataW.LaidVars P W r q ∧ ∀ m ∈ q, m ∈ ps := by
  obtain ⟨g', t', cs, fuel, p, q, hg', ht', hvar, hd, hr, rfl⟩ := h
  obtain rfl := Option.some.inj (hg.symm.trans hg')
  obtain rfl := Option.some.inj (ht.symm.trans ht')
  have hc := datCells_ok _ _ _ _ _ _ _ hd hv
  refine ⟨fun k v hk => ?_, q, hr, fun m hm => by simp [hm]⟩
  rw [World.var?_cell hg hvar k, ← Array.getElem?_toList, hc]
  exact hk

/-- The first listed variable's cell, where it is a sentinel. -/
theorem laid_sentinel {name nm : String} {text : List UInt8} {r : List (String × DataW Unit)} {ps : List MemPlace} (h : DataW.LaidVars P W ((name, .iface nm (.ptr (.agg [.lit (.string text)]))) :: r) ps)
    (hok : ∀ b off, MemPlace.cell b off ∈ ps → ∀ u v, W.cell? ⟨b, off, none⟩ = some (.iface u v) → Value.okWide P W .any 0 u v)
    {g ti tp te ts : Nat} {ms : Array (String × TypeId)} {f : Field} (hg : P.globalNamed name = some g) (ht : (P.globals[g]?).map (·.type) = some ti)
    (hi : P.underlying ti = some (.interface ms)) (hrow : ∀ u, P.typeName? 3 u = some nm → u = tp) (hp : P.underlying tp = some (.pointer te)) (he : P.underlying te = some (.struct #[f])) (hft : f.type = ts) (hfo : f.offset = 0)
    (hs : P.underlying ts = some .string) (hc : P.cellsOf te = 1) (hcs : P.cellsOf ts = 1) :
    (∃ a, W.cell? ⟨g, 0, none⟩ = some (.iface tp (.pointer (some a)))) ∧ ∃ q, DataW.LaidVars P W r q ∧ ∀ m ∈ q, m ∈ ps := by
  obtain ⟨g', t', cs, fuel, p, q, hg', ht', hvar, hd, hr, rfl⟩ := h
  obtain rfl := Option.some.inj (hg.symm.trans hg')
  obtain rfl := Option.some.inj (ht.symm.trans ht')
  obtain ⟨l⟩ := cs
  have hcell := World.var?_cell hg hvar 0
  obtain ⟨a, s, e, _⟩ := errorString_of_trod hi hrow hp he hft hfo hs hc hcs hd fun u v e => by
    have e' : l = [.iface u v] := e
    subst e'
    exact hok g 0 (by simp [MemPlace.row]) u v (by simpa using hcell)
  have e' : l = [.iface tp (.pointer (some a))] := e
  subst e'
  exact ⟨⟨a, by simpa using hcell⟩, q, hr, fun m hm => by simp [hm]⟩

end
end
end Go.RX
