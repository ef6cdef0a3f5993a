import Derived.Test.YtdmbnllekmgnhaaDoorIM11
import Derived.Test.YtdmbnllekmgnhaaDoorIB1
namespace Go.Proofs.YtdmbnllekmgnhaaDoor
noncomputable section
open Go Go.RX
open Go.RowKit (Below)
set_option maxRecDepth 1000000
set_option maxHeartbeats 4000000
/-! ### The law -/
/-- A box of the caller's. -/
def BoxV (w : World) (u : Value) : Prop := u = .slice none 0 0 ∨ ∃ (a : Addr) (n cap : Nat) (zs : List Int), u = .slice (some a) n cap ∧ zs.length = 2 * n ∧ (0 < n → a.spot = none ∧ a.block < w.heap.size) ∧ ∀ k z, zs[k]? = some z → w.cell? ⟨a.block, a.off + k, none⟩ = some (vi z)
abbrev SlP := Option (Addr × Nat × Nat)
/-- What is known of it by its make. -/
def Desc (w : World) (u : Value) (c : Cl) (p : SlP) (zs : List Int) : Prop := match c with
  | .nil => u = .slice none 0 0
  | .k n => ∃ a cap, p = some (a, n, cap) ∧ u = .slice (some a) n cap ∧ zs.length = 2 * n ∧ (0 < n → a.spot = none ∧ a.block < w.heap.size) ∧ ∀ k z, zs[k]? = some z → w.cell? ⟨a.block, a.off + k, none⟩ = some (vi z)
  | .big => ∃ a n cap, p = some (a, n, cap) ∧ u = .slice (some a) n cap ∧ 5 ≤ n ∧ zs.length = 2 * n ∧ (0 < n → a.spot = none ∧ a.block < w.heap.size) ∧ ∀ k z, zs[k]? = some z → w.cell? ⟨a.block, a.off + k, none⟩ = some (vi z)
theorem desc_of {w : World} {u : Value} (h : BoxV w u) : ∃ c p zs, Cl.ok c ∧ Desc w u c p zs := by
  rcases h with rfl | ⟨a, n, cap, zs, rfl, h1, h2, h3⟩
  · exact ⟨.nil, none, [], trivial, rfl⟩
  · by_cases hn : n ≤ 4
    · exact ⟨.k n, some (a, n, cap), zs, hn, a, cap, rfl, rfl, h1, h2, h3⟩
    · exact ⟨.big, some (a, n, cap), zs, trivial, a, n, cap, rfl, rfl, by omega, h1, h2, h3⟩
def lenP (p : SlP) : Int := match p with
  | some x => x.2.1
  | none => 0
def rhoL (za zb : List Int) (ea eb eu na nb : Int) : Nat → Int := fun i => match i with
  | 20 => ea
  | 21 => eb
  | 22 => eu
  | 90 => na
  | 91 => nb
  | i => if i < 10 then za.getD i 0 else zb.getD (i - 10) 0
theorem rho_lo (za zb : List Int) (ea eb eu na nb : Int) : ∀ k, k < 8 → rhoL za zb ea eb eu na nb k = za.getD k 0
  | 0, _ => rfl
  | 1, _ => rfl
  | 2, _ => rfl
  | 3, _ => rfl
  | 4, _ => rfl
  | 5, _ => rfl
  | 6, _ => rfl
  | 7, _ => rfl
  | k + 8, h => absurd h (by omega)
theorem rho_hi (za zb : List Int) (ea eb eu na nb : Int) : ∀ k, k < 8 → rhoL za zb ea eb eu na nb (10 + k) = zb.getD k 0
  | 0, _ => rfl
  | 1, _ => rfl
  | 2, _ => rfl
  | 3, _ => rfl
  | 4, _ => rfl
  | 5, _ => rfl
  | 6, _ => rfl
  | 7, _ => rfl
  | k + 8, h => absurd h (by omega)
abbrev AQ (p q : SlP) : SlT := fun s => match s with
  | 0 => p
  | 1 => q
  | _ => none
theorem cells0_den (ρ : Nat → Int) (A : SlT) : ∀ n, n ≤ 4 → ∀ q, @denL (Go.RX.env0 Tryd.prog (nmQ A) (nmQ_flat A) ρ) q (cells0 n) = some ((List.range (2 * n)).map fun k => vi (ρ k))
  | 0, _, _ => rfl
  | 1, _, _ => rfl
  | 2, _, _ => rfl
  | 3, _, _ => rfl
  | 4, _, _ => rfl
  | n + 5, h, _ => absurd h (by omega)
theorem cells1_den (ρ : Nat → Int) (A : SlT) : ∀ n, n ≤ 4 → ∀ q, @denL (Go.RX.env0 Tryd.prog (nmQ A) (nmQ_flat A) ρ) q (cells1 n) = some ((List.range (2 * n)).map fun k => vi (ρ (10 + k)))
  | 0, _, _ => rfl
  | 1, _, _ => rfl
  | 2, _, _ => rfl
  | 3, _, _ => rfl
  | 4, _, _ => rfl
  | n + 5, h, _ => absurd h (by omega)
theorem cells0_len : ∀ n, n ≤ 4 → cells0 n ≠ [] → 0 < n
  | 0, _, h => absurd rfl h
  | n + 1, _, _ => by omega
theorem cells1_len : ∀ n, n ≤ 4 → cells1 n ≠ [] → 0 < n
  | 0, _, h => absurd rfl h
  | n + 1, _, _ => by omega
theorem getD_of {zs : List Int} {k : Nat} (h : k < zs.length) : zs[k]? = some (zs.getD k 0) := by
  rw [List.getD_eq_getElem?_getD, List.getElem?_eq_getElem h]
  rfl
theorem range_get {f : Nat → Int} {m k : Nat} {u : Value} (h : ((List.range m).map fun k => vi (f k))[k]? = some u) : k < m ∧ u = vi (f k) := by
  rw [List.getElem?_map] at h
  by_cases hk : k < m
  · rw [List.getElem?_range hk] at h
    exact ⟨hk, (Option.some.inj h).symm⟩
  · rw [List.getElem?_eq_none (by simpa using hk)] at h
    cases h

section
variable {w : World} {u v : Value} {a b : Cl} {p q : SlP} {za zb : List Int} {ea eb eu : Int}
abbrev rhoX (p q : SlP) (za zb : List Int) (ea eb eu : Int) : Nat → Int := rhoL za zb ea eb eu (lenP p) (lenP q)
theorem nmL (ha : a.ok) (hb : b.ok) (hu : Desc w u a p za) (hv : Desc w v b q zb) : Nm (rhoX p q za zb ea eb eu) (AQ p q) (RT a b) := nm_of fun s r hs => by
  unfold RT at hs
  split at hs
  · cases a with
    | nil => cases hs
    | k n =>
      cases hs
      obtain ⟨x, cap, rfl, _, _, h2, _⟩ := hu
      exact ⟨x, n, cap, rfl, fun h => (h2 h).1, Nat.le_refl _, .inl rfl⟩
    | big =>
      cases hs
      obtain ⟨x, n, cap, rfl, _, h5, _, h2, _⟩ := hu
      exact ⟨x, n, cap, rfl, fun _ => (h2 (by omega)).1, show 4 ≤ n by omega, .inr ⟨.var 90, rfl, rfl⟩⟩
  · cases b with
    | nil => cases hs
    | k n =>
      cases hs
      obtain ⟨x, cap, rfl, _, _, h2, _⟩ := hv
      exact ⟨x, n, cap, rfl, fun h => (h2 h).1, Nat.le_refl _, .inl rfl⟩
    | big =>
      cases hs
      obtain ⟨x, n, cap, rfl, _, h5, _, h2, _⟩ := hv
      exact ⟨x, n, cap, rfl, fun _ => (h2 (by omega)).1, show 4 ≤ n by omega, .inr ⟨.var 91, rfl, rfl⟩⟩
  · cases hs
theorem inL (ha : a.ok) (hb : b.ok) (hu : Desc w u a p za) (hv : Desc w v b q zb) : In (rhoX p q za zb ea eb eu) (AQ p q) (RT a b) w := fun s r _ hs => by
  unfold RT at hs
  split at hs
  · have key : ∀ (x : Addr) (n m cap : Nat), p = some (x, m, cap) → n ≤ 4 → n ≤ m → za.length = 2 * m → (0 < m → x.spot = none ∧ x.block < w.heap.size) → (∀ k z, za[k]? = some z → w.cell? ⟨x.block, x.off + k, none⟩ = some (vi z)) →
        @RoAt (Go.RX.env0 Tryd.prog (nmQ (AQ p q)) (nmQ_flat (AQ p q)) (rhoX p q za zb ea eb eu)) w x (cells0 n) := fun x n m cap _ hn hnm hl h2 hc =>
      @RoAt.mk (Go.RX.env0 Tryd.prog (nmQ (AQ p q)) (nmQ_flat (AQ p q)) (rhoX p q za zb ea eb eu)) w x _ (fun h => (h2 (Nat.lt_of_lt_of_le (cells0_len n hn h) hnm)).1) (fun h => (h2 (Nat.lt_of_lt_of_le (cells0_len n hn h) hnm)).2)
        ⟨_, cells0_den _ _ n hn, fun k u' hk => by
          obtain ⟨hk1, rfl⟩ := range_get hk
          rw [show rhoX p q za zb ea eb eu k = za.getD k 0 from rho_lo _ _ _ _ _ _ _ k (by omega)]
          exact hc k _ (getD_of (by omega))⟩
    cases a with
    | nil => cases hs
    | k n =>
      cases hs
      obtain ⟨x, cap, hp, _, h1, h2, h3⟩ := hu
      exact ⟨x, n, cap, by rw [hp]; rfl, key x n n cap hp ha (Nat.le_refl _) h1 h2 h3⟩
    | big =>
      cases hs
      obtain ⟨x, n, cap, hp, _, h5, h1, h2, h3⟩ := hu
      exact ⟨x, n, cap, by rw [hp]; rfl, key x 4 n cap hp (Nat.le_refl _) (by omega) h1 h2 h3⟩
  · have key : ∀ (x : Addr) (n m cap : Nat), q = some (x, m, cap) → n ≤ 4 → n ≤ m → zb.length = 2 * m → (0 < m → x.spot = none ∧ x.block < w.heap.size) → (∀ k z, zb[k]? = some z → w.cell? ⟨x.block, x.off + k, none⟩ = some (vi z)) →
        @RoAt (Go.RX.env0 Tryd.prog (nmQ (AQ p q)) (nmQ_flat (AQ p q)) (rhoX p q za zb ea eb eu)) w x (cells1 n) := fun x n m cap _ hn hnm hl h2 hc =>
      @RoAt.mk (Go.RX.env0 Tryd.prog (nmQ (AQ p q)) (nmQ_flat (AQ p q)) (rhoX p q za zb ea eb eu)) w x _ (fun h => (h2 (Nat.lt_of_lt_of_le (cells1_len n hn h) hnm)).1) (fun h => (h2 (Nat.lt_of_lt_of_le (cells1_len n hn h) hnm)).2)
        ⟨_, cells1_den _ _ n hn, fun k u' hk => by
          obtain ⟨hk1, rfl⟩ := range_get hk
          rw [show rhoX p q za zb ea eb eu (10 + k) = zb.getD k 0 from rho_hi _ _ _ _ _ _ _ k (by omega)]
          exact hc k _ (getD_of (by omega))⟩
    cases b with
    | nil => cases hs
    | k n =>
      cases hs
      obtain ⟨x, cap, hp, _, h1, h2, h3⟩ := hv
      exact ⟨x, n, cap, by rw [hp]; rfl, key x n n cap hp hb (Nat.le_refl _) h1 h2 h3⟩
    | big =>
      cases hs
      obtain ⟨x, n, cap, hp, _, h5, h1, h2, h3⟩ := hv
      exact ⟨x, n, cap, by rw [hp]; rfl, key x 4 n cap hp (Nat.le_refl _) (by omega) h1 h2 h3⟩
  · cases hs
theorem argL (hu : Desc w u a p za) (hv : Desc w v b q zb) {ρ : Nat → Int} {L : List CF} {R : RoT} : @denL (EQ ρ L (AQ p q) R) (fun _ => none) [argC 0 a, argC 1 b] = some [u, v] := by
  have h0 : @den (EQ ρ L (AQ p q) R) (fun _ => none) (argC 0 a) = some u := by
    cases a with
    | nil => cases hu; rfl
    | k n => obtain ⟨x, cap, rfl, rfl, _⟩ := hu; rfl
    | big => obtain ⟨x, n, cap, rfl, rfl, _⟩ := hu; rfl
  have h1 : @den (EQ ρ L (AQ p q) R) (fun _ => none) (argC 1 b) = some v := by
    cases b with
    | nil => cases hv; rfl
    | k n => obtain ⟨x, cap, rfl, rfl, _⟩ := hv; rfl
    | big => obtain ⟨x, n, cap, rfl, rfl, _⟩ := hv; rfl
  simp only [denL, h0, h1]
theorem bigF_ok {w : World} {u : Value} {c : Cl} {p : SlP} {zs : List Int} (h : Desc w u c p zs) {ρ : Nat → Int} (k : Nat) (hk : ρ k = lenP p) : ∀ f ∈ bigF k c, f.ok ρ := by
  cases c with
  | nil => exact all_nil
  | k n => exact all_nil
  | big =>
    obtain ⟨x, n, cap, rfl, _, h5, _⟩ := h
    have hn : ρ k = (n : Int) := hk
    have lt : ∀ m : Int, m < 5 → cmpI .lss (IE.ev ρ (.lit m)) (IE.ev ρ (.var k)) = true := fun m hm => by
      simp only [cmpI, IE.ev, hn, decide_eq_true_eq]
      omega
    have le : cmpI .leq (IE.ev ρ (.var k)) (IE.ev ρ (.lit 4)) = false := by
      simp only [cmpI, IE.ev, hn, decide_eq_false_iff_not]
      omega
    exact all_cons ⟨rfl, lt 0 (by decide)⟩ (all_cons ⟨rfl, lt 1 (by decide)⟩ (all_cons ⟨rfl, lt 2 (by decide)⟩ (all_cons ⟨rfl, lt 3 (by decide)⟩ (all_cons ⟨rfl, lt 4 (by decide)⟩ (all_cons ⟨rfl, le⟩ all_nil)))))
end

/-- What both functions answer of a box of some make. -/
def CBc (aR aS : Addr) (z : Nat → Int) : Cl → Int → Prop
  | .k 1, e => CB aR aS 1 [vi (z 0), vi (z 1)] e
  | .k 2, e => CB aR aS 2 [vi (z 0), vi (z 1), vi (z 2), vi (z 3)] e
  | .k 3, e => CB aR aS 3 [vi (z 0), vi (z 1), vi (z 2), vi (z 3), vi (z 4), vi (z 5)] e
  | _, _ => True
theorem cbc (aR aS : Addr) (z : Nat → Int) : ∀ c : Cl, ∃ e, CBc aR aS z c e
  | .nil => ⟨0, trivial⟩
  | .big => ⟨0, trivial⟩
  | .k 0 => ⟨0, trivial⟩
  | .k 1 => cb1 aR aS _ _
  | .k 2 => cb2 aR aS _ _ _ _
  | .k 3 => cb3 aR aS _ _ _ _ _ _
  | .k (_ + 4) => ⟨0, trivial⟩
def hullZ (ρ : Nat → Int) : Nat → Int := fun i => match (hullL 3)[i]? with
  | some (.sym (.int _ e)) => e.ev ρ
  | _ => 0
theorem rok_pair {aR aS : Addr} {ρ : Nat → Int} {L : List CF} {A : SlT} {R : RoT} {n : Nat} {cs : List SVal} {y : Nat} {vs : List Value} {e : Int} (h : CB aR aS n vs e) (hn : nfL cs = true) (hd : @denL (EQ ρ L A R) (fun _ => none) cs = some vs) (hy : ρ y = e) :
    ∀ x ∈ ([(35, n, cs, sy y), (10, n, cs, sy y)] : List REntry), @ROk (EQ ρ L A R) Tryd.prog (glob aR aS) x := by
  have hv : @den (EQ ρ L A R) (fun _ => none) (sy y) = some (vi e) := by rw [← hy]; rfl
  intro x hx
  simp only [List.mem_cons, List.not_mem_nil, or_false] at hx
  rcases hx with rfl | rfl
  · exact ⟨hn, rfl, vs, vi e, hd, hv, fun w u hG hV => (h w u hG hV).1⟩
  · exact ⟨hn, rfl, vs, vi e, hd, hv, fun w u hG hV => (h w u hG hV).2⟩
theorem roks0 {aR aS : Addr} {ρ : Nat → Int} {L : List CF} {A : SlT} {R : RoT} {c : Cl} (h : CBc aR aS (fun i => ρ i) c (ρ 20)) : ∀ x ∈ toldC cells0 20 c, @ROk (EQ ρ L A R) Tryd.prog (glob aR aS) x := by
  intro x hx
  unfold toldC at hx
  split at hx
  · exact rok_pair (show CB aR aS 1 _ _ from h) rfl rfl rfl x hx
  · exact rok_pair (show CB aR aS 2 _ _ from h) rfl rfl rfl x hx
  · exact rok_pair (show CB aR aS 3 _ _ from h) rfl rfl rfl x hx
  · cases hx
theorem roks1 {aR aS : Addr} {ρ : Nat → Int} {L : List CF} {A : SlT} {R : RoT} {c : Cl} (h : CBc aR aS (fun i => ρ (10 + i)) c (ρ 21)) : ∀ x ∈ toldC cells1 21 c, @ROk (EQ ρ L A R) Tryd.prog (glob aR aS) x := by
  intro x hx
  unfold toldC at hx
  split at hx
  · exact rok_pair (show CB aR aS 1 _ _ from h) rfl rfl rfl x hx
  · exact rok_pair (show CB aR aS 2 _ _ from h) rfl rfl rfl x hx
  · exact rok_pair (show CB aR aS 3 _ _ from h) rfl rfl rfl x hx
  · cases hx
theorem roks2 {aR aS : Addr} {ρ : Nat → Int} {L : List CF} {A : SlT} {R : RoT} {c : Cl} (h : CBc aR aS (hullZ ρ) c (ρ 22)) : ∀ x ∈ toldC hullL 22 c, @ROk (EQ ρ L A R) Tryd.prog (glob aR aS) x := by
  intro x hx
  unfold toldC at hx
  split at hx
  · exact rok_pair (show CB aR aS 1 _ _ from h) rfl rfl rfl x hx
  · exact rok_pair (show CB aR aS 2 _ _ from h) rfl rfl rfl x hx
  · exact rok_pair (show CB aR aS 3 _ _ from h) rfl rfl rfl x hx
  · cases hx
theorem awakeT_ok (aR aS : Addr) : TabOk Tryd.prog (glob aR aS) awakeT := fun e he w hG => by
  obtain rfl := List.mem_singleton.1 he
  exact awake_ok aR aS w hG

theorem unions_ok (aR aS : Addr) (w : World) (u v : Value) (hu : BoxV w u) (hv : BoxV w v) (hG : (glob aR aS).holds w) : Calls Tryd.prog 3 #[u, v] w (Ret (.bool true) w) := by
  obtain ⟨a, p, za, ha, du⟩ := desc_of hu
  obtain ⟨b, q, zb, hb, dv⟩ := desc_of hv
  obtain ⟨ea, hea⟩ := cbc aR aS (fun i => rhoX p q za zb 0 0 0 i) a
  obtain ⟨eb, heb⟩ := cbc aR aS (fun i => rhoX p q za zb 0 0 0 (10 + i)) b
  obtain ⟨eu, heu⟩ := cbc aR aS (hullZ (rhoX p q za zb 0 0 0)) (bothC a b)
  have e0 : CBc aR aS (fun i => rhoX p q za zb ea eb eu i) a ea := by
    revert hea
    unfold CBc
    split <;> exact id
  have e1 : CBc aR aS (fun i => rhoX p q za zb ea eb eu (10 + i)) b eb := by
    revert heb
    unfold CBc
    split <;> exact id
  have e2 : CBc aR aS (hullZ (rhoX p q za zb ea eb eu)) (bothC a b) eu := by
    revert heu
    unfold CBc
    split <;> exact id
  obtain ⟨L, hL, hrun⟩ := runs (rhoX p q za zb ea eb eu) aR aS (AQ p q) a b ha hb (bigF_ok du 90 rfl) (bigF_ok dv 91 rfl)
  have hT : ∀ x ∈ told a b, @ROk (EQ (rhoX p q za zb ea eb eu) L (AQ p q) (RT a b)) Tryd.prog (glob aR aS) x := fun x hx => by
    rcases List.mem_append.1 hx with hx | hx
    · exact roks0 e0 x hx
    · rcases List.mem_append.1 hx with hx | hx
      · exact roks1 e1 x hx
      · exact roks2 e2 x hx
  refine callQ hL (nmL ha hb du dv) (@orO_holds (EQ (rhoX p q za zb ea eb eu) L (AQ p q) (RT a b)) _ _ _ _ (@tabO_holds (EQ (rhoX p q za zb ea eb eu) L (AQ p q) (RT a b)) _ _ _ (awakeT_ok aR aS)) (@tabRd_holds (EQ (rhoX p q za zb ea eb eu) L (AQ p q) (RT a b)) _ _ _ hT)) hrun ?_ rfl (argL du dv) rfl hG (inL ha hb du dv)
  cases a <;> cases b <;> rfl
end
end Go.Proofs.YtdmbnllekmgnhaaDoor
