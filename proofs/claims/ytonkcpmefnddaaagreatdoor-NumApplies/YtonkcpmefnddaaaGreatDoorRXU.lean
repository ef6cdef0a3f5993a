import Derived.Test.YtonkcpmefnddaaaGreatDoorRXW
namespace Go.RX
noncomputable section
open Go.RowKit (Below)

/-! ### From one round to the next with cells on the heap: the symbols of the next round stand for what the last one left -/
/-- Cells that hold the same. -/
def LikeH (e1 e2 : Env) (ρ : Ren) (H1 H2 : SHeap) : Prop := ∀ (i : Nat) (o : SObj), H1[i]? = some o → ∃ (l1 l2 : List SVal) (el : TypeId) (fz : Nat × Nat), o = SObj.cells l1 el fz ∧ H2[i]? = some (SObj.cells l2 el fz) ∧ @denL e2 ρ l2 = @denL e1 ρ l1

theorem acts_env {e1 e2 : Env} {dl : List Deferred} {w0 w : World} {ρ : Ren} {t1 t2 : List SVal} {H1 H2 : SHeap} {a : Act} (h : @Acts e1 dl w0 ρ t1 H1 a w) (ht : @denL e2 ρ t2 = @denL e1 ρ t1)
    (hH : LikeH e1 e2 ρ H1 H2) : @Acts e2 dl w0 ρ t2 H2 a w := by
  have R := @Acts.rel e1 _ _ _ _ _ _ _ h
  refine @Acts.mk e2 _ _ _ _ _ _ _ (by rw [ht]; exact @Acts.tmps e1 _ _ _ _ _ _ _ h) (@Acts.defers e1 _ _ _ _ _ _ _ h) (@Rel.mk e2 _ _ _ _ (@Rel.below e1 _ _ _ _ R) (@Rel.fresh e1 _ _ _ _ R) ?_ ?_)
  · intro i j p q hi hj hb
    rcases @Rel.inj e1 _ _ _ _ R i j p q hi hj hb with he | ⟨l, e, sz, l', e', sz', g, hr⟩
    · exact .inl he
    · exfalso
      rcases hr with ⟨hr, _⟩ | hr | hr
      · obtain ⟨l1, l2, el, fz, h1, _⟩ := hH _ _ hr
        cases h1
      · obtain ⟨l1, l2, el, fz, h1, _⟩ := hH _ _ hr
        cases h1
      · obtain ⟨l1, l2, el, fz, h1, _⟩ := hH _ _ hr
        cases h1
  · intro i p hi
    obtain ⟨o, ob, h1, h2, h3⟩ := @Rel.obj e1 _ _ _ _ R i p hi
    obtain ⟨l1, l2, el, fz, rfl, h5, h6⟩ := hH _ _ h1
    obtain ⟨vs, h7, h8⟩ := h3
    exact ⟨_, ob, h5, h2, vs, by rw [h6]; exact h7, h8⟩

/-- The same with a frame that is told in part. -/
theorem acts_frame {e1 e2 : Env} {dl : List Deferred} {w0 w : World} {ρ : Ren} {t1 : List SVal} {H1 H2 : SHeap} {a : Act} {n : Nat} {known : List (Nat × SVal)} (h : @Acts e1 dl w0 ρ t1 H1 a w) (hl : a.tmps.toList.length = n)
    (hk : ∀ p ∈ known, @den e2 ρ p.2 = some (a.tmps.toList.getD p.1 undef)) (hH : LikeH e1 e2 ρ H1 H2) :
    @Acts e2 dl w0 ρ (frame n known fun i => a.tmps.toList.getD i undef) H2 a w :=
  acts_env h (by rw [@frame_den e2 ρ n known _ hl hk, @Acts.tmps e1 _ _ _ _ _ _ _ h]) hH
end
end Go.RX
