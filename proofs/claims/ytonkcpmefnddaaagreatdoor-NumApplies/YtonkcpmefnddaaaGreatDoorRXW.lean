import Derived.Test.YtonkcpmefnddaaaGreatDoorRXV
namespace Go.RX
noncomputable section
open Go.RowKit (Below)

/-! ### A loop that is not unrolled: what runs before it, its rounds by an invariant, what runs behind it -/
def hasLoop : Code → Bool
  | .loop _ => true
  | .seq x y => hasLoop x || hasLoop y
  | .block _ c => hasLoop c
  | _ => false

def loopBody : Code → Option Code
  | .loop c => some c
  | .seq x y => if hasLoop x then loopBody x else loopBody y
  | .block _ c => loopBody c
  | _ => none

/-- What has to hold where the loop ends. -/
def after (P : Program) : Code → (Exit → Act → World → Prop) → Exit → Act → World → Prop
  | .seq x y, Q => if hasLoop x then after P x (Exit.then (y.wpIn Fence.wide 0 P Q) Q) else after P y Q
  | .block id c, Q => after P c (Exit.inBlock id Q)
  | _, Q => Q

theorem loop_wp {P : Program} {B : Code} {X : Exit → Act → World → Prop} (Inv : Nat → Act → World → Prop)
    (step : ∀ k a w, Inv k a w → B.wpIn Fence.wide 0 P (Exit.then (fun a' w' => ∃ k', k' < k ∧ Inv k' a' w') X) a w) {k : Nat} {a : Act} {w : World} (h : Inv k a w) : (Code.loop B).wpIn Fence.wide 0 P X a w := by
  have key : ∀ m k a w, k < m → Inv k a w → Code.roundsIn Fence.wide 0 P B X m a w := by
    intro m
    induction m with
    | zero => intro k a w hk; omega
    | succ m ih =>
      intro k a w hk hI
      rw [roundsIn_succ]
      intro b k' cs hro hb hr
      obtain ⟨e, a', w', q, arr⟩ := step k a w hI b k' cs hro hb hr
      refine ⟨e, a', w', ?_, arr⟩
      cases e with
      | normal =>
        obtain ⟨j, hj, hI'⟩ := q
        exact ih j a' w' (by omega) hI'
      | exit id => exact q
      | goto l => exact q
      | ret => exact q
      | panic ch => exact q
      | outgrown => exact q
  exact wpIn_loop_rounds (k + 1) (key (k + 1) k a w (by omega) h)

section
variable [Env] {P : Program}

def front (P : Program) (G : Glob) (cf : CallF) (fuel : Nat) : Code → Sx → Option Sx
  | .loop _, s => some s
  | .seq x y, s => if hasLoop x then front P G cf fuel x s else match runCode P G cf fuel none x s with
    | some (.normal, s') => front P G cf fuel y s'
    | _ => none
  | .block _ c, s => front P G cf fuel c s
  | _, _ => none

def back (P : Program) (G : Glob) (cf : CallF) (fuel : Nat) : Code → SEx → Sx → Option (SEx × Sx)
  | .seq x y, e, s => if hasLoop x then match back P G cf fuel x e s with
      | some (.normal, s') => runCode P G cf fuel none y s'
      | r => r
    else back P G cf fuel y e s
  | .block id c, e, s => match back P G cf fuel c e s with
    | some (.exit id', s') => if id' = id then some (.normal, s') else some (.exit id', s')
    | r => r
  | _, e, s => some (e, s)

theorem front_ok {G : Glob} {cf : CallF} (hcf : CallOk P G cf) (hN : NamesOk P) (hm : P.follows .mixedOrders = true) {fuel : Nat} : ∀ (c : Code) (s s1 : Sx) (B : Code), front P G cf fuel c s = some s1 → loopBody c = some B →
    s.1.2.length ≤ s1.1.2.length ∧ ∀ {dl : List Deferred} {w0 : World} {ρ : Ren} {a : Act} {w : World}, Mk ρ s.2 dl → G.holds w0 → Acts dl w0 ρ s.1.1 s.1.2 a w → ∀ {Q : Exit → Act → World → Prop},
      (∀ ρ' dl' a' w', Mk ρ' s1.2 dl' → Acts dl' w0 ρ' s1.1.1 s1.1.2 a' w' → (Code.loop B).wpIn Fence.wide 0 P (after P c Q) a' w') → c.wpIn Fence.wide 0 P Q a w := by
  intro c
  induction c with
  | loop c _ =>
    intro s s1 B h hB
    simp only [front, Option.some.injEq] at h
    simp only [loopBody, Option.some.injEq] at hB
    subst h hB
    exact ⟨Nat.le_refl _, fun hM hG hA Q hQ => hQ _ _ _ _ hM hA⟩
  | seq x y ihx ihy =>
    intro s s1 B h hB
    simp only [front] at h
    simp only [loopBody] at hB
    by_cases hx : hasLoop x = true
    · rw [if_pos hx] at h hB
      obtain ⟨l1, k1⟩ := ihx _ _ _ h hB
      refine ⟨l1, fun hM hG hA Q hQ => wpIn_seq (k1 hM hG hA fun ρ' dl' a' w' hM' hA' => ?_)⟩
      have := hQ ρ' dl' a' w' hM' hA'
      simp only [after, if_pos hx] at this
      exact this
    · rw [if_neg hx] at h hB
      split at h
      case h_2 => cases h
      rename_i s2 h2
      obtain ⟨l1, k1⟩ := runCode_ok hcf hN hm _ _ _ _ h2
      obtain ⟨l2, k2⟩ := ihy _ _ _ h hB
      refine ⟨Nat.le_trans l1 l2, fun {dl w0 ρ a w} hM hG hA Q hQ => wpIn_seq (k1 (F := Fence.wide) rfl hM hG hA fun ρ1 d1 a1 w1 x1 hM1 hA1 => ?_)⟩
      refine k2 hM1 hG hA1 fun ρ' dl' a' w' hM' hA' => ?_
      have := hQ ρ' dl' a' w' hM' hA'
      simp only [after, if_neg hx] at this
      exact this
  | block id c ih =>
    intro s s1 B h hB
    simp only [front] at h
    simp only [loopBody] at hB
    obtain ⟨l1, k1⟩ := ih _ _ _ h hB
    exact ⟨l1, fun hM hG hA Q hQ => wpIn_block (k1 hM hG hA fun ρ' dl' a' w' hM' hA' => hQ ρ' dl' a' w' hM' hA')⟩
  | _ => intro s s1 B h hB; simp [loopBody] at hB

theorem back_ok {G : Glob} {cf : CallF} (hcf : CallOk P G cf) (hN : NamesOk P) (hm : P.follows .mixedOrders = true) {fuel : Nat} : ∀ (c : Code) (e : SEx) (s : Sx) (e' : SEx) (s' : Sx), back P G cf fuel c e s = some (e', s') →
    ∀ {dl : List Deferred} {w0 : World} {ρ : Ren} {a : Act} {w : World}, Mk ρ s.2 dl → G.holds w0 → Acts dl w0 ρ s.1.1 s.1.2 a w → ∀ {Q : Exit → Act → World → Prop},
      (∀ ρ' dl' a' w', Mk ρ' s'.2 dl' → Acts dl' w0 ρ' s'.1.1 s'.1.2 a' w' → Q e'.den a' w') → after P c Q e.den a w := by
  intro c
  induction c with
  | seq x y ihx ihy =>
    intro e s e' s' h dl w0 ρ a w hM hG hA Q hQ
    simp only [back] at h
    simp only [after]
    by_cases hx : hasLoop x = true
    · rw [if_pos hx] at h ⊢
      split at h
      · rename_i s2 h2
        obtain ⟨l1, k1⟩ := runCode_ok hcf hN hm _ _ _ _ h
        refine ihx _ _ _ _ h2 hM hG hA fun ρ1 d1 a1 w1 hM1 hA1 => ?_
        show y.wpIn Fence.wide 0 P Q a1 w1
        exact k1 (F := Fence.wide) rfl hM1 hG hA1 fun ρ' d' a' w' _ hM' hA' => hQ ρ' d' a' w' hM' hA'
      · rename_i hne
        refine ihx _ _ _ _ h hM hG hA fun ρ1 d1 a1 w1 hM1 hA1 => ?_
        have := hQ ρ1 d1 a1 w1 hM1 hA1
        cases e' with
        | normal => exact absurd h (hne s')
        | exit id => exact this
        | ret => exact this
    · rw [if_neg hx] at h ⊢
      exact ihy _ _ _ _ h hM hG hA hQ
  | block id c ih =>
    intro e s e' s' h dl w0 ρ a w hM hG hA Q hQ
    simp only [back] at h
    simp only [after]
    split at h
    · rename_i id' s2 h2
      refine ih _ _ _ _ h2 hM hG hA fun ρ1 d1 a1 w1 hM1 hA1 => ?_
      simp only [SEx.den, Exit.inBlock]
      split at h
      · rename_i hid
        cases h
        rw [if_pos hid]
        exact hQ ρ1 d1 a1 w1 hM1 hA1
      · rename_i hid
        cases h
        rw [if_neg hid]
        exact hQ ρ1 d1 a1 w1 hM1 hA1
    · rename_i hne
      refine ih _ _ _ _ h hM hG hA fun ρ1 d1 a1 w1 hM1 hA1 => ?_
      have := hQ ρ1 d1 a1 w1 hM1 hA1
      cases e' with
      | normal => exact this
      | exit id' => exact absurd h (hne id' s')
      | ret => exact this
  | _ => intro e s e' s' h dl w0 ρ a w hM hG hA Q hQ; simp only [back, Option.some.injEq, Prod.mk.injEq] at h; obtain ⟨rfl, rfl⟩ := h; exact hQ ρ dl a w hM hA

/-- What is looked at of an outcome: how it ends (0: it goes on; 1: it returns; n + 2: it leaves the block n), some temporaries, the marks. -/
def viewE : SEx → Nat
  | .normal => 0
  | .ret => 1
  | .exit id => id + 2

def view (ps : List Nat) (r : Option (SEx × Sx)) : Option (Nat × Nat × List SVal × List Nat) :=
  match r with
  | some (e, s) => some (viewE e, s.1.1.length, ps.map (getS s.1.1), s.2)
  | none => none

 omit [Env] in
theorem view_some {ps : List Nat} {r : Option (SEx × Sx)} {n len : Nat} {l : List SVal} (h : view ps r = some (n, len, l, [])) : ∃ e s, r = some (e, s) ∧ viewE e = n ∧ s.1.1.length = len ∧ ps.map (getS s.1.1) = l ∧ s.2 = [] := by
  unfold view at h
  split at h
  · rename_i e s
    simp only [Option.some.injEq, Prod.mk.injEq] at h
    exact ⟨e, s, rfl, h.1, h.2.1, h.2.2.1, h.2.2.2⟩
  · cases h

 omit [Env] in
theorem viewE_0 {e : SEx} (h : viewE e = 0) : e = .normal := by cases e <;> simp [viewE] at h ⊢
 omit [Env] in
theorem viewE_1 {e : SEx} (h : viewE e = 1) : e = .ret := by cases e <;> simp [viewE] at h ⊢
 omit [Env] in
theorem viewE_2 {e : SEx} {n : Nat} (h : viewE e = n + 2) : e = .exit n := by cases e <;> simp [viewE] at h ⊢; exact h

/-- A temporary's value. -/
theorem tmp_at {ρ : Ren} {t : List SVal} {l : List Value} (h : denL ρ t = some l) (i : Nat) {v : Value} (hv : den ρ (getS t i) = some v) : l.getD i undef = v := by
  rw [getS_eq] at hv
  cases hi : t[i]? with
  | some x =>
    obtain ⟨y, h1, h2⟩ := denL_get h i x hi
    rw [List.getD_eq_getElem?_getD, hi] at hv
    simp only [Option.getD_some] at hv
    rw [h2] at hv
    cases hv
    rw [List.getD_eq_getElem?_getD, h1]
    rfl
  | none =>
    have hlen := denL_length h
    have hl : l[i]? = none := by
      rw [List.getElem?_eq_none_iff] at hi ⊢
      omega
    rw [List.getD_eq_getElem?_getD, hi] at hv
    simp only [Option.getD_none, den, Option.some.injEq] at hv
    rw [List.getD_eq_getElem?_getD, hl]
    exact hv

/-- A frame of which some temporaries are told. -/
def frame (n : Nat) (known : List (Nat × SVal)) (g : Nat → Value) : List SVal := (List.range n).map fun i => match known.lookup i with
  | some x => x
  | none => .v (g i)

theorem denL_map {ρ : Ren} {f : Nat → SVal} {h : Nat → Value} : ∀ (l : List Nat), (∀ i ∈ l, den ρ (f i) = some (h i)) → denL ρ (l.map f) = some (l.map h)
  | [], _ => rfl
  | i :: l, hl => by
    simp only [List.map_cons, denL]
    rw [hl i (by simp), denL_map l fun j hj => hl j (by simp [hj])]

 omit [Env] in
theorem lookup_mem {known : List (Nat × SVal)} {i : Nat} {x : SVal} (h : known.lookup i = some x) : (i, x) ∈ known := by
  induction known with
  | nil => cases h
  | cons p ps ih =>
    obtain ⟨j, y⟩ := p
    simp only [List.lookup_cons] at h
    split at h
    · rename_i hb
      simp only [beq_iff_eq] at hb
      cases h
      subst hb
      simp
    · exact List.mem_cons_of_mem _ (ih h)

theorem frame_den {ρ : Ren} {n : Nat} {known : List (Nat × SVal)} {l : List Value} (hl : l.length = n) (hk : ∀ p ∈ known, den ρ p.2 = some (l.getD p.1 undef)) : denL ρ (frame n known fun i => l.getD i undef) = some l := by
  have e : l = (List.range n).map fun i => l.getD i undef := by
    refine List.ext_getElem? fun i => ?_
    by_cases hi : i < n
    · rw [List.getElem?_map, List.getElem?_range hi]
      rw [List.getElem?_eq_getElem (by omega)]
      simp [List.getD_eq_getElem?_getD, show i < l.length by omega]
    · rw [List.getElem?_eq_none (by omega), List.getElem?_eq_none (by simp; omega)]
  conv => rhs; rw [e]
  unfold frame
  refine denL_map _ fun i _ => ?_
  split
  · rename_i x hx
    exact hk (i, x) (lookup_mem hx)
  · rfl

/-- **A function whose body has one loop.** -/
theorem calls_loop {G : Glob} {cf : CallF} (hcf : CallOk P G cf) (hN : NamesOk P) (hm : P.follows .mixedOrders = true) {fuel : Nat} {f : FuncId} {fn : Func} {c B : Code} (hfn : P.funcs[f]? = some fn) (hc : fn.body = some c) (hB : loopBody c = some B)
    {args : List SVal} {vs : Array Value} {w : World} {R : Ending → World → Prop} (hG : G.holds w) (hv : denL (fun _ => none) args = some vs.toList) {s1 : Sx} (hfr : front P G cf fuel c ((args ++ List.replicate (fn.ntmps - args.length) (.v undef), []), []) = some s1)
    (hloop : ∀ ρ' dl' a' w', Mk ρ' s1.2 dl' → Acts dl' w ρ' s1.1.1 s1.1.2 a' w' → (Code.loop B).wpIn Fence.wide 0 P (after P c (bodyPostM Fence.wide 0 P fn R)) a' w') : Calls P f vs w R := by
  obtain ⟨l1, k1⟩ := front_ok hcf hN hm c _ _ B hfr hB
  refine (callsIn_wide (n := 0)).1 (callsIn_of_wp_marks hfn hc trivial ?_)
  have hlen := denL_length hv
  refine k1 (dl := []) (ρ := fun _ => none) rfl hG ⟨?_, rfl, Rel.start w⟩ hloop
  simp only [Array.toList_append, Array.toList_replicate]
  refine denL_append ?_ hv
  simp only [Array.length_toList] at hlen
  rw [hlen]
  exact denL_replicate_v _ _

/-- One round, from a frame that is told in part. -/
theorem round_wp {G : Glob} {cf : CallF} (hcf : CallOk P G cf) (hN : NamesOk P) (hm : P.follows .mixedOrders = true) {fuel : Nat} {B : Code} {n : Nat} {known : List (Nat × SVal)} {a : Act} {w : World} (hG : G.holds w) (hd : a.defers = []) (hl : a.tmps.toList.length = n)
    (hk : ∀ p ∈ known, den (fun _ => none) p.2 = some (a.tmps.toList.getD p.1 undef)) {e : SEx} {s' : Sx} (h : runCode P G cf fuel none B ((frame n known fun i => a.tmps.toList.getD i undef, []), []) = some (e, s')) {Q : Exit → Act → World → Prop}
    (hQ : ∀ ρ' dl' a' w', Mk ρ' s'.2 dl' → Acts dl' w ρ' s'.1.1 s'.1.2 a' w' → Q e.den a' w') : B.wpIn Fence.wide 0 P Q a w := by
  obtain ⟨l1, k1⟩ := runCode_ok hcf hN hm _ _ _ _ h
  exact k1 (F := Fence.wide) (dl := []) (ρ := fun _ => none) rfl rfl hG ⟨frame_den hl hk, hd, Rel.start w⟩ fun ρ' dl' a' w' _ hM hA => hQ ρ' dl' a' w' hM hA

/-- The end of the body. -/
theorem end_wp {G : Glob} {fn : Func} {R : Ending → World → Prop} {ρ : Ren} {dl : List Deferred} {w0 w : World} {s : Sx} {a : Act} (hG : G.holds w0) (hM : Mk ρ s.2 dl) (hs : s.2 = []) (hA : Acts dl w0 ρ s.1.1 s.1.2 a w) {e : SEx} (he : e = .normal ∨ e = .ret) {xs : List SVal}
    (hres : resE P G s.1.1 s.1.2 fn.results.toList = some xs) (hR : ∀ v w', den ρ (resV xs) = some v → Below w0.heap.size w0 w' → R (.returned v) w') : bodyPostM Fence.wide 0 P fn R e.den a w := by
  have : LeavesInM Fence.wide 0 P fn a.tmps R a.defers .returning w := by
    rw [hs] at hM
    obtain rfl : dl = [] := hM
    rw [hA.defers]
    refine takeMarks_ok (H' := s.1.2) (D := []) rfl rfl hA.rel fun w2 hx2 hR2 => ?_
    obtain ⟨v, h1, h2⟩ := results_ok (dl := []) (a := { a with defers := [] }) hG ⟨hA.tmps, rfl, hR2⟩ hres
    exact ⟨v, h1, hR v w2 h2 hR2.below⟩
  rcases he with rfl | rfl
  · exact this
  · exact this
end
end

noncomputable section
open Go.RowKit (Below)

/-! ### A body with two loops, one behind the other -/
def loopBody2 : Code → Option Code
  | .seq x y => if hasLoop x then (if hasLoop y then loopBody y else loopBody2 x) else loopBody2 y
  | .block _ c => loopBody2 c
  | _ => none

/-- What has to hold where the second loop ends. -/
def after2 (P : Program) : Code → (Exit → Act → World → Prop) → Exit → Act → World → Prop
  | .seq x y, Q => if hasLoop x then (if hasLoop y then after P y Q else after2 P x (Exit.then (y.wpIn Fence.wide 0 P Q) Q)) else after2 P y Q
  | .block id c, Q => after2 P c (Exit.inBlock id Q)
  | _, Q => Q

section
variable [Env] {P : Program}

/-- From where the first loop ends to the second one. -/
def nxt (P : Program) (G : Glob) (cf : CallF) (fuel : Nat) : Code → SEx → Sx → Option Sx
  | .seq x y, e, s => if hasLoop x then (if hasLoop y then
        match back P G cf fuel x e s with
        | some (.normal, s') => front P G cf fuel y s'
        | _ => none
      else nxt P G cf fuel x e s) else nxt P G cf fuel y e s
  | .block _ c, e, s => nxt P G cf fuel c e s
  | _, _, _ => none

def back2 (P : Program) (G : Glob) (cf : CallF) (fuel : Nat) : Code → SEx → Sx → Option (SEx × Sx)
  | .seq x y, e, s => if hasLoop x then (if hasLoop y then back P G cf fuel y e s else match back2 P G cf fuel x e s with
      | some (.normal, s') => runCode P G cf fuel none y s'
      | r => r) else back2 P G cf fuel y e s
  | .block id c, e, s => match back2 P G cf fuel c e s with
    | some (.exit id', s') => if id' = id then some (.normal, s') else some (.exit id', s')
    | r => r
  | _, e, s => some (e, s)

theorem nxt_ok {G : Glob} {cf : CallF} (hcf : CallOk P G cf) (hN : NamesOk P) (hm : P.follows .mixedOrders = true) {fuel : Nat} : ∀ (c : Code) (e : SEx) (s s1 : Sx) (B : Code), nxt P G cf fuel c e s = some s1 → loopBody2 c = some B →
    ∀ {dl : List Deferred} {w0 : World} {ρ : Ren} {a : Act} {w : World}, Mk ρ s.2 dl → G.holds w0 → Acts dl w0 ρ s.1.1 s.1.2 a w → ∀ {Q : Exit → Act → World → Prop},
      (∀ ρ' dl' a' w', Mk ρ' s1.2 dl' → Acts dl' w0 ρ' s1.1.1 s1.1.2 a' w' → (Code.loop B).wpIn Fence.wide 0 P (after2 P c Q) a' w') → after P c Q e.den a w := by
  intro c
  induction c with
  | seq x y ihx ihy =>
    intro e s s1 B h hB dl w0 ρ a w hM hG hA Q hQ
    simp only [nxt] at h
    simp only [loopBody2] at hB
    simp only [after]
    by_cases hx : hasLoop x = true
    · rw [if_pos hx] at h hB ⊢
      by_cases hy : hasLoop y = true
      · rw [if_pos hy] at h hB
        split at h
        case h_2 => cases h
        rename_i s2 h2
        obtain ⟨l1, k1⟩ := front_ok hcf hN hm _ _ _ _ h hB
        refine back_ok hcf hN hm _ _ _ _ _ h2 hM hG hA fun ρ1 d1 a1 w1 hM1 hA1 => ?_
        show y.wpIn Fence.wide 0 P Q a1 w1
        refine k1 hM1 hG hA1 fun ρ' dl' a' w' hM' hA' => ?_
        have := hQ ρ' dl' a' w' hM' hA'
        simp only [after2, if_pos hx, if_pos hy] at this
        exact this
      · rw [if_neg hy] at h hB
        refine ihx _ _ _ _ h hB hM hG hA fun ρ' dl' a' w' hM' hA' => ?_
        have := hQ ρ' dl' a' w' hM' hA'
        simp only [after2, if_pos hx, if_neg hy] at this
        exact this
    · rw [if_neg hx] at h hB ⊢
      refine ihy _ _ _ _ h hB hM hG hA fun ρ' dl' a' w' hM' hA' => ?_
      have := hQ ρ' dl' a' w' hM' hA'
      simp only [after2, if_neg hx] at this
      exact this
  | block id c ih =>
    intro e s s1 B h hB dl w0 ρ a w hM hG hA Q hQ
    simp only [nxt] at h
    simp only [loopBody2] at hB
    simp only [after]
    exact ih _ _ _ _ h hB hM hG hA fun ρ' dl' a' w' hM' hA' => hQ ρ' dl' a' w' hM' hA'
  | _ => intro e s s1 B h hB; simp [loopBody2] at hB

theorem back2_ok {G : Glob} {cf : CallF} (hcf : CallOk P G cf) (hN : NamesOk P) (hm : P.follows .mixedOrders = true) {fuel : Nat} : ∀ (c : Code) (e : SEx) (s : Sx) (e' : SEx) (s' : Sx), back2 P G cf fuel c e s = some (e', s') →
    ∀ {dl : List Deferred} {w0 : World} {ρ : Ren} {a : Act} {w : World}, Mk ρ s.2 dl → G.holds w0 → Acts dl w0 ρ s.1.1 s.1.2 a w → ∀ {Q : Exit → Act → World → Prop},
      (∀ ρ' dl' a' w', Mk ρ' s'.2 dl' → Acts dl' w0 ρ' s'.1.1 s'.1.2 a' w' → Q e'.den a' w') → after2 P c Q e.den a w := by
  intro c
  induction c with
  | seq x y ihx ihy =>
    intro e s e' s' h dl w0 ρ a w hM hG hA Q hQ
    simp only [back2] at h
    simp only [after2]
    by_cases hx : hasLoop x = true
    · rw [if_pos hx] at h ⊢
      by_cases hy : hasLoop y = true
      · rw [if_pos hy] at h ⊢
        exact back_ok hcf hN hm _ _ _ _ _ h hM hG hA hQ
      · rw [if_neg hy] at h ⊢
        split at h
        · rename_i s2 h2
          obtain ⟨l1, k1⟩ := runCode_ok hcf hN hm _ _ _ _ h
          refine ihx _ _ _ _ h2 hM hG hA fun ρ1 d1 a1 w1 hM1 hA1 => ?_
          show y.wpIn Fence.wide 0 P Q a1 w1
          exact k1 (F := Fence.wide) rfl hM1 hG hA1 fun ρ' d' a' w' _ hM' hA' => hQ ρ' d' a' w' hM' hA'
        · rename_i hne
          refine ihx _ _ _ _ h hM hG hA fun ρ1 d1 a1 w1 hM1 hA1 => ?_
          have := hQ ρ1 d1 a1 w1 hM1 hA1
          cases e' with
          | normal => exact absurd h (hne s')
          | exit id => exact this
          | ret => exact this
    · rw [if_neg hx] at h ⊢
      exact ihy _ _ _ _ h hM hG hA hQ
  | block id c ih =>
    intro e s e' s' h dl w0 ρ a w hM hG hA Q hQ
    simp only [back2] at h
    simp only [after2]
    split at h
    · rename_i id' s2 h2
      refine ih _ _ _ _ h2 hM hG hA fun ρ1 d1 a1 w1 hM1 hA1 => ?_
      simp only [SEx.den, Exit.inBlock]
      split at h
      · rename_i hid
        cases h
        rw [if_pos hid]
        exact hQ ρ1 d1 a1 w1 hM1 hA1
      · rename_i hid
        cases h
        rw [if_neg hid]
        exact hQ ρ1 d1 a1 w1 hM1 hA1
    · rename_i hne
      refine ih _ _ _ _ h hM hG hA fun ρ1 d1 a1 w1 hM1 hA1 => ?_
      have := hQ ρ1 d1 a1 w1 hM1 hA1
      cases e' with
      | normal => exact this
      | exit id' => exact absurd h (hne id' s')
      | ret => exact this
  | _ => intro e s e' s' h dl w0 ρ a w hM hG hA Q hQ; simp only [back2, Option.some.injEq, Prod.mk.injEq] at h; obtain ⟨rfl, rfl⟩ := h; exact hQ ρ dl a w hM hA
end
end
end Go.RX
