import Derived.Test.YtiomdkghnbbmcaaGreatDoorRX6
namespace Go.RX
noncomputable section
open Go.RowKit (Below)

variable [Env]

section
variable {P : Program} {F : Fence} {dl : List Deferred} {w0 w : World} {ρ : Ren} {H : SHeap} {t : List SVal} {a : Act} {o : Oper}

def countL : List Kd → Nat
  | [] => 0
  | .l :: ks => countL ks + 1
  | _ :: ks => countL ks

def zeroObj (P : Program) (o : Oper) : Option SObj :=
  match o.op with
  | .alloc e => match pureRun P (zeroValue e) with
    | some z => some (.cells (z.cells.toList.map .v) e (0, 0))
    | none => none
  | _ => none

def zeros (P : Program) : List Oper → List Kd → Option SHeap
  | o :: os, .l :: ks => match zeroObj P o, zeros P os ks with
    | some x, some xs => some (x :: xs)
    | _, _ => none
  | _ :: os, _ :: ks => zeros P os ks
  | _, _ => some []

 omit [Env] in
theorem zeros_at : ∀ {os : List Oper} {ks : List Kd} {zs : SHeap}, zeros P os ks = some zs → ∀ i o, os[i]? = some o → ks[i]? = some .l → ∃ x, zeroObj P o = some x ∧ zs[countL (ks.take i)]? = some x
  | [], ks, zs, _, i, o, ho, _ => by simp at ho
  | o' :: os, [], zs, _, i, o, _, hk => by simp at hk
  | o' :: os, k :: ks, zs, h, i, o, ho, hk => by
    cases i with
    | zero =>
      simp at ho hk
      subst ho hk
      simp only [zeros] at h
      split at h
      · rename_i x xs h1 h2
        cases h
        exact ⟨x, h1, by simp [countL]⟩
      · cases h
    | succ i =>
      simp at ho hk
      cases k with
      | l =>
        simp only [zeros] at h
        split at h
        · rename_i x xs h1 h2
          cases h
          obtain ⟨y, hy, hz⟩ := zeros_at h2 i o ho hk
          exact ⟨y, hy, by simpa [countL] using hz⟩
        · cases h
      | _ =>
        simp only [zeros] at h
        obtain ⟨y, hy, hz⟩ := zeros_at h i o ho hk
        exact ⟨y, hy, by simpa [countL] using hz⟩

 omit [Env] in
theorem countL_append : ∀ (k l : List Kd), countL (k ++ l) = countL k + countL l
  | [], l => by simp [countL]
  | .p :: k, l => by simp only [List.cons_append, countL]; exact countL_append k l
  | .a :: k, l => by simp only [List.cons_append, countL]; exact countL_append k l
  | .b :: k, l => by simp only [List.cons_append, countL]; exact countL_append k l
  | .l :: k, l => by simp only [List.cons_append, countL, countL_append k l]; omega

 omit [Env] in
theorem countL_take (ks : List Kd) (n : Nat) : countL (ks.take n) ≤ countL ks := by
  conv => rhs; rw [← List.take_append_drop n ks]
  rw [countL_append]
  omega

 omit [Env] in
theorem countL_lt {ks : List Kd} {i j : Nat} (hi : ks[i]? = some .l) (hij : i < j) : countL (ks.take i) < countL (ks.take j) := by
  have h1 : countL (ks.take (i + 1)) = countL (ks.take i) + 1 := by
    rw [List.take_add_one, hi]
    simp [countL_append, countL]
  have h2 : countL ((ks.take j).take (i + 1)) ≤ countL (ks.take j) := countL_take _ _
  rw [List.take_take, Nat.min_eq_left (by omega)] at h2
  omega

 omit [Env] in
theorem countL_inj {ks : List Kd} {i j : Nat} (hi : ks[i]? = some .l) (hj : ks[j]? = some .l) (h : countL (ks.take i) = countL (ks.take j)) : i = j := by
  rcases Nat.lt_trichotomy i j with h' | h' | h'
  · have := countL_lt hi h'; omega
  · exact h'
  · have := countL_lt hj h'; omega

def nmOf (n0 : Nat) (ks : List Kd) (i : Nat) : Nat := n0 + countL (ks.take i)

/-- What has not been laid yet has no block; its cells stand ready. -/
def Pend (P : Program) (ops : Array Oper) (ks : List Kd) (n0 : Nat) (listed : Array Bool) (ρ : Ren) (H : SHeap) : Prop :=
  ∀ i o, ops[i]? = some o → ks[i]? = some .l → listed.getD i true = false → ρ (nmOf n0 ks i) = none ∧ ∃ l e fz, zeroObj P o = some (.cells l e fz) ∧ H[nmOf n0 ks i]? = some (.cells l e fz)

 omit [Env] in
theorem getD_set_self_ne {listed : Array Bool} {i : Nat} : (listed.setIfInBounds i true).getD i true = true := by
  rcases Nat.lt_or_ge i listed.size with h' | h'
  · simp [h']
  · simp [h']

theorem stepR_of_bStep {G : Glob} {cf : CallF} {x : SVal} {H' : SHeap} (he : bStep P G cf t H o = some (x, H')) : stepR P G cf t H o = some (putS t o.dst x, H') := by
  unfold bStep at he
  unfold stepR
  cases hz : opE P G t H o with
  | none => simp [hz] at he
  | some r =>
    cases r with
    | val z K => simp only [hz, Option.some.injEq, Prod.mk.injEq] at he ⊢; simp [he.1, he.2]
    | skip K => simp only [hz, Option.some.injEq, Prod.mk.injEq] at he ⊢; simp [he.1, he.2]
    | call f args => simp only [hz] at he ⊢; simp [he]
    | yld i args => simp only [hz] at he ⊢; simp [he]

theorem AllS_ok {G : Glob} {cf : CallF} (hF : Wd F) (hcf : CallOk P G cf) (hG : G.holds w0) (hN : NamesOk P) {ops : Array Oper} {ks : List Kd} {ρ0 : Ren} {H0 : SHeap} {R : St} {Q : Exit → Act → World → Prop}
    (hQ : ∀ ρ' a' w', H0.length ≤ R.2.length → Ext ρ0 H0 ρ' R.2 → Acts dl w0 ρ' R.1 R.2 a' w' → Q .normal a' w') :
    ∀ (n : Nat) (listed : Array Bool) (s : St), AllS P G cf ops ks (nmOf H0.length ks) R n listed s →
      ∀ (ρ : Ren) (a : Act) (w : World), Acts dl w0 ρ s.1 s.2 a w → Pend P ops ks H0.length listed ρ s.2 → H0.length ≤ s.2.length → Ext ρ0 H0 ρ s.2 → wpAnyIn F 0 P .any ops Q n listed a w := by
  intro n
  induction n with
  | zero =>
    intro listed s h ρ a w hA _ hlen hE
    obtain ⟨h1, rfl⟩ := h
    exact ⟨h1, hQ ρ a w hlen hE hA⟩
  | succ n ih =>
    intro listed s h ρ a w hA hP hlen hE
    refine ⟨fun h0 => ?_, fun i hi => ?_⟩
    · obtain rfl := h.1 h0
      exact hQ ρ a w hlen hE hA
    obtain ⟨s', hs, hrest⟩ := h.2 i hi
    have hiun := (mem_ready.1 hi).1
    unfold dstep at hs
    split at hs
    · cases hs
    rename_i o ho
    split at hs
    case h_2 => cases hs
    rename_i x H' he
    cases hs
    -- the pending ones stay, where no name and no heap turns
    have hpend : Pend P ops ks H0.length (listed.setIfInBounds i true) ρ s.2 := fun j oj hj hk hun => by
      have hji : j ≠ i := fun e => by subst e; rw [getD_set_self_ne] at hun; cases hun
      rw [getD_set_ne true (Ne.symm hji)] at hun
      exact hP j oj hj hk hun
    have same : ∀ (v : Value) (w' : World), den ρ x = some v → Rel w0 ρ s.2 w' → H' = s.2 → wpAnyIn F 0 P .any ops Q n (listed.setIfInBounds i true) (a.put o.dst v) w' := by
      intro v w' hd hR hH
      subst hH
      exact ih _ _ hrest ρ _ w' (hA.put (Ren.le.refl _) hR o.dst hd) hpend hlen hE
    unfold wpOpIn
    simp only [ho]
    unfold eff at he
    rw [wanted_eq hA.tmps] at he
    split at he
    case isFalse hw =>
      cases he
      rw [if_neg hw]
      exact ⟨fun f _ => hF.fn f, same undef w (by simp [den]) hA.rel rfl⟩
    case isTrue hw =>
      rw [if_pos hw]
      split at he
      · -- p
        split at he
        case h_2 => cases he
        rename_i y hy
        cases he
        unfold pStep at hy
        unfold Oper.wpIn
        refine ⟨fun f _ => hF.fn f, ?_⟩
        split at hy
        · rename_i z hz
          cases hy
          obtain ⟨v, h1, h2⟩ := opP_ok (w := w) hN hA.tmps hz
          rw [hF.sem (opP_nd hz), h1, Oper.uponIn_value]
          exact same v w h2 hA.rel rfl
        · rename_i hz
          cases hy
          have h1 := opP_ok (w := w) hN hA.tmps hz
          rw [hF.sem (opP_nd hz), show (execOp a.eval o).run P w = .ok .skip w from h1, Oper.uponIn_skip]
          exact same undef w (by simp [den]) hA.rel rfl
        · rename_i f args hz
          split at hy
          case h_2 => cases hy
          rename_i z hfr
          cases hy
          obtain ⟨vs, h1, h2⟩ := opP_ok (w := w) hN hA.tmps hz
          rw [hF.sem (opP_nd hz), h1, Oper.uponIn_enter]
          refine ⟨hF.depth, (hF.calls (freshR_ok hcf hfr hG hA.rel h2)).mono ?_⟩
          rintro e w' ⟨ρc, v, rfl, h3, h4⟩
          refine same v w' (den_mono (ρ := ρc) (fun i b hb => ?_) _ h3) (hA.rel.later h4.below) rfl
          obtain ⟨_, _, h5, _⟩ := h4.obj i b hb
          simp at h5
        · cases hy
        · cases hy
      · -- l
        rename_i hkd
        cases he
        have hks : ks[i]? = some .l := by
          rw [List.getD_eq_getElem?_getD] at hkd
          cases hh : ks[i]? with
          | none => rw [hh] at hkd; cases hkd
          | some k => rw [hh] at hkd; exact congrArg some hkd
        obtain ⟨hnone, zl, ze, zfz, hz, hHz⟩ := hP i o ho hks hiun
        unfold zeroObj at hz
        split at hz
        case h_2 => cases hz
        rename_i e hop
        split at hz
        case h_2 => cases hz
        rename_i zv hzv
        simp only [Option.some.injEq, SObj.cells.injEq] at hz
        obtain ⟨hz1, hz2, hz3⟩ := hz
        subst hz1
        subst hz2
        subst hz3
        unfold Oper.wpIn
        refine ⟨fun f _ => hF.fn f, ?_⟩
        rw [hF.sem (fun c e => by rw [hop] at e; cases e)]
        have hrun : (execOp a.eval o).run P w = .ok (.value (.pointer (some ⟨w.heap.size, 0, none⟩))) { w with heap := w.heap.push (.cells zv.cells e (0, 0)) } := by
          unfold execOp
          simp only [hop]
          show ((do pure (Next.value (← Instr.alloc e true (.tuple #[]))) : Sem Next)).run P w = _
          refine run_bind_ok (a := Value.pointer (some ⟨w.heap.size, 0, none⟩)) ?_
          unfold Instr.alloc
          rw [run_bind_pure hzv]
          rfl
        rw [hrun, Oper.uponIn_value]
        have hext : ρ.le (ρ.with (nmOf H0.length ks i) ⟨w.heap.size, 0⟩) := fun j b hb => by
          unfold Ren.with
          split
          · rename_i hj; subst hj; rw [hnone] at hb; cases hb
          · exact hb
        have hR : Rel w0 (ρ.with (nmOf H0.length ks i) ⟨w.heap.size, 0⟩) s.2 { w with heap := w.heap.push (.cells zv.cells e (0, 0)) } := by
          have hb0 := hA.rel.below
          refine ⟨hb0.trans ⟨rfl, rfl, rfl, by simp, fun k hk => ?_⟩, ?_, ?_, ?_⟩
          · show (w.heap.push _)[k]? = _
            rw [Array.getElem?_push, if_neg (by have := hb0.size; omega)]
          · intro j b hb
            unfold Ren.with at hb
            simp only [Array.size_push]
            split at hb
            · simp at hb; subst hb; exact ⟨hb0.size, by simp⟩
            · obtain ⟨h1, h2⟩ := hA.rel.fresh j b hb; exact ⟨h1, by omega⟩
          · intro j k p q hj hk hb
            unfold Ren.with at hj hk
            split at hj <;> split at hk
            · exact .inl (by omega)
            · simp at hj; subst hj; have := (hA.rel.fresh _ _ hk).2; simp at hb; omega
            · simp at hk; subst hk; have := (hA.rel.fresh _ _ hj).2; simp at hb; omega
            · exact hA.rel.inj _ _ _ _ hj hk hb
          · intro j b hb
            by_cases hj : j = nmOf H0.length ks i
            · subst hj
              simp only [Ren.with, if_true, Option.some.injEq] at hb
              subst hb
              exact ⟨_, .cells zv.cells e (0, 0), hHz, by simp, ⟨zv.cells.toList, denL_map_v _, by simp⟩⟩
            · have hb' : ρ j = some b := by simpa [Ren.with, hj] using hb
              obtain ⟨o', ob', h1, h2, h3⟩ := hA.rel.obj j b hb'
              have hlt := (hA.rel.fresh j b hb').2
              refine ⟨o', ob', h1, ?_, h3.mono hext⟩
              show (w.heap.push _)[b.b]? = _
              rw [Array.getElem?_push, if_neg (by omega)]
              exact h2
        refine ih _ _ hrest (ρ.with (nmOf H0.length ks i) ⟨w.heap.size, 0⟩) _ _ (hA.put hext hR o.dst (by simp [den, Ren.with])) ?_ hlen ?_
        · intro j oj hj hk hun
          obtain ⟨h1, h2⟩ := hpend j oj hj hk hun
          have hji : j ≠ i := fun e => by subst e; rw [getD_set_self_ne] at hun; cases hun
          refine ⟨?_, h2⟩
          unfold Ren.with
          rw [if_neg (fun e => hji (countL_inj hk hks (by unfold nmOf at e; omega)))]
          exact h1
        · intro j hj
          obtain ⟨h1, h2⟩ := hE j hj
          refine ⟨?_, h2⟩
          unfold Ren.with
          rw [if_neg (by unfold nmOf; omega)]
          exact h1
      · -- a
        split at he
        case h_2 => cases he
        rename_i y hy
        cases he
        unfold aStep at hy
        split at hy
        case h_2 => cases hy
        rename_i ty p hop
        obtain ⟨ρ', v, w', h1, h2, h3, h4⟩ := load_ok hG hA.rel (den_seval hA.tmps p) hy
        obtain ⟨ad, u, hpv, h5, h6⟩ := loadVar_ok hG hA.rel (den_seval hA.tmps p) hy
        unfold Oper.wpIn
        refine ⟨fun f _ => hF.fn f, ?_⟩
        rw [hF.sem (fun c e => by rw [hop] at e; cases e)]
        have hrun : (execOp a.eval o).run P w = .ok (.value u) w := by
          unfold execOp
          simp only [hop]
          show ((do pure (Next.value (← Instr.loadAt ty (a.eval p))) : Sem Next)).run P w = _
          refine run_bind_ok (a := u) ?_
          rw [hpv]
          exact h5
        rw [hrun, Oper.uponIn_value]
        exact same u w h6 hA.rel rfl
      · -- b
        have hs' := stepR_of_bStep he
        have hl := stepR_len hcf hs'
        refine stepR_ok hF hcf hG hN hs' hA fun ρ' a' w' hx hA' => ih _ _ hrest ρ' a' w' hA' ?_ (Nat.le_trans hlen hl) (hE.trans hx hlen)
        intro j oj hj hk hun
        obtain ⟨h1, zl, ze, zfz, h2, h3⟩ := hpend j oj hj hk hun
        have hlt : nmOf H0.length ks j < s.2.length := (List.getElem?_eq_some_iff.1 h3).1
        obtain ⟨e1, e2⟩ := hx _ hlt
        exact ⟨by rw [e1]; exact h1, zl, ze, zfz, h2, e2 h1 _ _ _ h3⟩

/-- A region that draws its order. -/
def drawRun (P : Program) (G : Glob) (cf : CallF) (ops : Array Oper) (t : List SVal) (H : SHeap) : Option St :=
  if drawOk ops then
    match zeros P ops.toList (kds ops) with
    | some zs => lexRun P G cf ops (kds ops) (nmOf H.length (kds ops)) ops.size 0 (t, H ++ zs)
    | none => none
  else none

theorem lexRun_len {G : Glob} {cf : CallF} (hcf : CallOk P G cf) {ops : Array Oper} {ks : List Kd} {nm : Nat → Nat} : ∀ (n k : Nat) (s s' : St), lexRun P G cf ops ks nm n k s = some s' → s.2.length ≤ s'.2.length
  | 0, k, s, s', h => by cases h; exact Nat.le_refl _
  | n + 1, k, s, s', h => by
    simp only [lexRun] at h
    split at h
    case h_2 => cases h
    rename_i s1 hs
    refine Nat.le_trans ?_ (lexRun_len hcf n (k + 1) s1 s' h)
    unfold dstep at hs
    split at hs
    · cases hs
    rename_i o ho
    split at hs
    case h_2 => cases hs
    rename_i x H' he
    cases hs
    simp only
    unfold eff at he
    split at he
    · split at he
      · split at he <;> cases he; exact Nat.le_refl _
      · cases he; exact Nat.le_refl _
      · split at he <;> cases he; exact Nat.le_refl _
      · exact stepR_len hcf (stepR_of_bStep he)
    · cases he; exact Nat.le_refl _

theorem drawRun_ok {G : Glob} {cf : CallF} (hF : Wd F) (hcf : CallOk P G cf) (hN : NamesOk P) (hm : P.follows .mixedOrders = true) {ops : Array Oper} {t' : List SVal} {H' : SHeap} (h : drawRun P G cf ops t H = some (t', H')) :
    H.length ≤ H'.length ∧ ∀ {w0 : World} {ρ : Ren} {a : Act} {w : World}, G.holds w0 → Acts dl w0 ρ t H a w → ∀ {Q : Exit → Act → World → Prop} (id : Nat), (∀ ρ' a' w', Ext ρ H ρ' H' → Acts dl w0 ρ' t' H' a' w' → Q .normal a' w') →
      (Code.region id ops true).wpIn F 0 P Q a w := by
  unfold drawRun at h
  split at h
  case isFalse => cases h
  rename_i hok
  split at h
  case h_2 => cases h
  rename_i zs hzs
  have hlen := lexRun_len hcf _ _ _ _ h
  refine ⟨by simp only [List.length_append] at hlen; omega, fun {w0 ρ a w} hG hA Q id hQ => ?_⟩
  refine wpIn_region_any hm ?_
  have hB : Below w.heap.size w { w with drawn := w.drawn + 1 } := ⟨rfl, rfl, rfl, Nat.le_refl _, fun _ _ => rfl⟩
  have hR0 := hA.rel.later hB
  have hall := AllS_lex (drawOk_static hok) ops.size 0 (Array.replicate ops.size false) (t, H ++ zs) (fun j o ho hj => by
    rw [Array.getD_eq_getD_getElem?] at hj
    rcases Nat.lt_or_ge j ops.size with h' | h'
    · simp [h'] at hj
    · simp [Nat.not_lt.2 h'] at hj) (by simp) (fun j hj => by simp [hj]) (by omega) h
  refine AllS_ok (ρ0 := ρ) (H0 := H) (R := (t', H')) hF hcf hG hN (fun ρ' a' w' _ hE hA' => hQ ρ' a' w' hE hA') ops.size (Array.replicate ops.size false) (t, H ++ zs) hall ρ a _ ⟨hA.tmps, hA.defers, ?_⟩ ?_ (by simp) ?_
  · refine ⟨hR0.below, hR0.fresh, fun i j p q hi hj hb => (hR0.inj i j p q hi hj hb).append, fun i b hb => ?_⟩
    obtain ⟨o, ob, h1, h2, h3⟩ := hR0.obj i b hb
    exact ⟨o, ob, by rw [List.getElem?_append_left (List.getElem?_eq_some_iff.1 h1).1]; exact h1, h2, h3⟩
  · intro i o ho hk _
    refine ⟨hA.rel.none_at (by unfold nmOf; omega), ?_⟩
    obtain ⟨x, h1, h2⟩ := zeros_at hzs i o (by simpa using ho) hk
    have hx : ∃ l e fz, x = .cells l e fz := by
      unfold zeroObj at h1
      split at h1
      · split at h1
        · cases h1; exact ⟨_, _, _, rfl⟩
        · cases h1
      · cases h1
    obtain ⟨l, e, fz, rfl⟩ := hx
    refine ⟨l, e, fz, h1, ?_⟩
    unfold nmOf
    rw [List.getElem?_append_right (by omega)]
    simpa using h2
  · intro i hi
    exact ⟨rfl, fun _ l e fz hh => by rw [List.getElem?_append_left hi]; exact hh⟩

end
end
end Go.RX
