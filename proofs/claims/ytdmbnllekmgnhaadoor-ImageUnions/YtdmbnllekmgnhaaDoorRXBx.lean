import Derived.Test.YtdmbnllekmgnhaaDoorRXQ
import Derived.ChangeArms
import Derived.Carry
namespace Go.RX
open Go.ChangeShapes Go.WideShapes

section
variable {H : Type} {enc : TypeId × Value → H} {P : Program} {w : World} {base : Nat} {spare : Nat → Bool} {held : Bool}

theorem cell_spot {a : Addr} {v : Value} (h : w.cell? a = some v) : a.spot = none ∧ a.block < w.heap.size := by
  unfold World.cell? at h
  split at h
  · rename_i hb
    split at h
    · cases h
    · rename_i hs
      refine ⟨?_, (Array.getElem?_eq_some_iff.1 hb).1⟩
      cases hx : a.spot with
      | none => rfl
      | some x => rw [hx] at hs; exact absurd rfl hs
  · cases h

/-- A slice of structs of two integers, read: its elements' integers, one after the other. -/
theorem open_pairs {r : Reach} {b0 : Nat} {t e : TypeId} {f0 f1 : Field} {k : IntKind} {v : Value} {d : DataW H} {ps : List MemPlace} (ht : P.underlying t = some (.slice e)) (he : P.underlying e = some (.struct #[f0, f1])) (hc : P.cellsOf e = 2)
    (o0 : f0.offset = 0) (o1 : f1.offset = 1) (c0 : P.cellsOf f0.type = 1) (c1 : P.cellsOf f1.type = 1) (u0 : P.underlying f0.type = some (.int k)) (u1 : P.underlying f1.type = some (.int k))
    (hval : Value.okWide P w r b0 t v) (hd : DataW.Trod enc P w base spare held t v d ps) :
    v = .slice none 0 0 ∨ ∃ (a : Addr) (n cap : Nat) (zs : List Int), v = .slice (some a) n cap ∧ zs.length = 2 * n ∧ (0 < n → a.spot = none ∧ a.block < w.heap.size) ∧ ∀ i z, zs[i]? = some z → w.cell? ⟨a.block, a.off + i, none⟩ = some (.int k z) := by
  obtain ⟨a0, len0, cap0, rfl⟩ := okWide_slice ht hval
  obtain ⟨fuel, hf⟩ := hd
  have hcells : (Value.slice a0 len0 cap0).cells.toList = [.slice a0 len0 cap0] := by simp [Value.cells]
  rw [hcells] at hf
  rcases DataW.trod_slice ht hf with ⟨h, _⟩ | ⟨a, len, cap, elems, rest, n, _, h, _, hb, hl, hm, hlen, hel, _, _⟩
  · exact .inl (List.cons.inj h).1
  · obtain ⟨h, _⟩ := List.cons.inj h
    cases h
    refine .inr ⟨a, len0, cap0, ?_⟩
    have each : ∀ i, i < len0 → ∃ m0 m1, w.cell? ((a.add (i * 2)).add 0) = some (.int k m0) ∧ w.cell? ((a.add (i * 2)).add 1) = some (.int k m1) := by
      intro i hi
      have h1 := hel i hi
      rw [hc, List.getElem?_eq_getElem (by omega), Option.bind_eq_some_iff] at h1
      obtain ⟨cs, hcs, hy⟩ := h1
      obtain ⟨_, hcl, hcell⟩ := World.cells?_some hcs
      obtain ⟨y0, y1, n', hx, hl2, h3, h4⟩ := trod_struct2 he hy
      rw [o0, c0] at h3
      rw [o1, c1] at h4
      obtain ⟨m0, e0, _, _⟩ := DataW.trod_int u0 h3
      obtain ⟨m1, e1, _, _⟩ := DataW.trod_int u1 h4
      obtain ⟨x, y, rfl⟩ : ∃ x y, cs = [x, y] := by
        match cs, hcl with
        | [x, y], _ => exact ⟨x, y, rfl⟩
      simp only [List.drop_zero, List.take_succ_cons, List.take_zero, List.cons.injEq, and_true, List.drop_succ_cons] at e0 e1
      subst e0 e1
      exact ⟨m0, m1, hcell 0 (by decide), hcell 1 (by decide)⟩
    have hpos : 0 < len0 → a.spot = none ∧ a.block < w.heap.size := fun h => by
      obtain ⟨m0, m1, h0, _⟩ := each 0 h
      have : ((a.add (0 * 2)).add 0) = a := by simp [Addr.add]
      rw [this] at h0
      exact cell_spot h0
    refine ⟨(List.range (2 * len0)).map fun i => match w.cell? ⟨a.block, a.off + i, none⟩ with
      | some (.int _ z) => z
      | _ => 0, rfl, by simp, hpos, fun i z hz => ?_⟩
    rw [List.getElem?_map] at hz
    by_cases hi : i < 2 * len0
    · rw [List.getElem?_range hi] at hz
      have hs := (hpos (by omega)).1
      obtain ⟨m0, m1, h0, h1⟩ := each (i / 2) (by omega)
      have at_ : ∀ j, ((a.add (i / 2 * 2)).add j) = ⟨a.block, a.off + (i / 2 * 2 + j), none⟩ := fun j => by
        obtain ⟨ab, ao, as⟩ := a
        have hz' : as = none := hs
        subst hz'
        have e1 : (⟨ab, ao, none⟩ : Addr).add (i / 2 * 2) = ⟨ab, ao + i / 2 * 2, none⟩ := by
          unfold Addr.add
          split
          · rename_i h; rw [h, Nat.add_zero]
          · rfl
        rw [e1]
        unfold Addr.add
        split
        · rename_i h; rw [h]; rfl
        · simp only [Nat.add_assoc]
      rw [at_] at h0 h1
      have hcell : ∃ m, w.cell? ⟨a.block, a.off + i, none⟩ = some (.int k m) := by
        rcases (show i % 2 = 0 ∨ i % 2 = 1 by omega) with h | h
        · exact ⟨m0, by rw [show i = i / 2 * 2 + 0 by omega]; exact h0⟩
        · exact ⟨m1, by rw [show i = i / 2 * 2 + 1 by omega]; exact h1⟩
      obtain ⟨m, hm'⟩ := hcell
      simp only [Option.map_some, Option.some.injEq, hm'] at hz
      rw [hm', hz]
    · rw [List.getElem?_eq_none (by simpa using hi)] at hz
      cases hz
end
end Go.RX
