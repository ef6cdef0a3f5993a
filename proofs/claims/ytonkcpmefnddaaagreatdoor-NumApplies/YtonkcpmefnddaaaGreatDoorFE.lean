import Derived.Test.YtonkcpmefnddaaaGreatDoorFD
namespace Go.Proofs.YtonkcpmefnddaaaGreatDoor
noncomputable section
open Go Go.RX
open Go.RowKit (Below)
set_option maxRecDepth 1000000
set_option maxHeartbeats 4000000

theorem mant_ne {b : Nat} (hr : b % 2147483648 < 2139095040) (h0 : b % 2147483648 ≠ 0) : mantB b ≠ 0 := (magB_ok hr h0).1
theorem mant_or {b : Nat} (hr : b % 2147483648 < 2139095040) (h0 : b % 2147483648 ≠ 0) : 8388608 ≤ mantB b ∨ expB b = 1 := by
  have := (magB_ok hr h0).2.2.2.2
  unfold mantB expB
  omega
theorem num_24 : Num 1266679808 := by unfold Num; omega
theorem num_23 : Num 1258291200 := by unfold Num; omega
theorem num_0 : Num 0 := by unfold Num; omega

theorem geq_fl {b : Nat} (hr : b % 2147483648 < 2139095040) (h0 : b % 2147483648 ≠ 0) {e : Int} (h1 : 150 ≤ e) (h2 : e ≤ expB b ∨ e = 150) : cmpF .geq (fl (mantB b) (expB b - e)) 1266679808 = decide (e < expB b) := by
  have hE1 := expB_ge b
  have hE2 := expB_le hr
  have hM := mant_lt b
  have hne := mant_ne hr h0
  obtain ⟨n1, n2, n3⟩ := fl_num hne hM (show -149 ≤ expB b - e by omega) (by omega)
  rw [cmpF_key rfl n1 num_24, key_low (by omega), key_low (by omega)]
  simp only [cmpI]
  refine decide_eq_decide.2 ?_
  rcases Nat.lt_or_ge (mantB b) 8388608 with hs | hn
  · have hE : expB b = 1 := by rcases mant_or hr h0 with h | h <;> omega
    have := fl_small hne hs (show -149 ≤ expB b - e by omega) (by omega)
    omega
  · have := fl_norm hM hn (show -149 ≤ expB b - e by omega) (by omega)
    omega

theorem lss_fl {b : Nat} (hr : b % 2147483648 < 2139095040) (h0 : b % 2147483648 ≠ 0) {e : Int} (h1 : expB b ≤ e) (h2 : e ≤ 150 ∨ e = expB b) : cmpF .lss (fl (mantB b) (expB b - e)) 1258291200 = decide (expB b < e ∨ mantB b < 8388608) := by
  have hE1 := expB_ge b
  have hE2 := expB_le hr
  have hM := mant_lt b
  have hne := mant_ne hr h0
  obtain ⟨n1, n2, n3⟩ := fl_num hne hM (show -149 ≤ expB b - e by omega) (by omega)
  rw [cmpF_key rfl n1 num_23, key_low (by omega), key_low (by omega)]
  simp only [cmpI]
  refine decide_eq_decide.2 ?_
  rcases Nat.lt_or_ge (mantB b) 8388608 with hs | hn
  · have := fl_small hne hs (show -149 ≤ expB b - e by omega) (by omega)
    omega
  · have := fl_norm hM hn (show -149 ≤ expB b - e by omega) (by omega)
    omega

theorem neq_fl {b : Nat} (hr : b % 2147483648 < 2139095040) (h0 : b % 2147483648 ≠ 0) {e : Int} (h1 : expB b ≤ e) (h2 : e ≤ 150 ∨ e = expB b) : cmpF .neq (fl (mantB b) (expB b - e)) 0 = true := by
  have hE1 := expB_ge b
  have hE2 := expB_le hr
  have hM := mant_lt b
  have hne := mant_ne hr h0
  obtain ⟨n1, n2, n3⟩ := fl_num hne hM (show -149 ≤ expB b - e by omega) (by omega)
  rw [cmpF_key rfl n1 num_0, key_low (by omega), key_low (by omega)]
  simp only [cmpI, bne_iff_ne, ne_eq]
  omega

def KVB (X : Nat) (sg e : Int) (a : Act) : Prop := a.tmps.toList.getD 0 undef = .float .f32 X ∧ a.tmps.toList.getD 3 undef = .int .u64 sg ∧ a.tmps.toList.getD 4 undef = .int .u64 e
def InvB1 (aR aS : Addr) (w : World) (b : Nat) (sg : Int) (k : Nat) (a : Act) (v : World) : Prop := ∃ e : Int, 150 ≤ e ∧ (e ≤ expB b ∨ e = 150) ∧ k = (255 - e).toNat ∧ a.tmps.toList.length = 44 ∧ a.defers = [] ∧ (glob aR aS).holds v ∧ Below w.heap.size w v ∧ KVB (fl (mantB b) (expB b - e)) sg e a
def InvB2 (aR aS : Addr) (w : World) (b : Nat) (sg : Int) (k : Nat) (a : Act) (v : World) : Prop := ∃ e : Int, expB b ≤ e ∧ (e ≤ 150 ∨ e = expB b) ∧ k = e.toNat ∧ a.tmps.toList.length = 44 ∧ a.defers = [] ∧ (glob aR aS).holds v ∧ Below w.heap.size w v ∧ KVB (fl (mantB b) (expB b - e)) sg e a

theorem kvB_of {W : Nat → Nat} {ρ : Nat → Int} {L : List CF} {T : List XE} {sg e : Int} {X : Nat} {x0 x3 x4 : SVal} {ρ' : Ren} {dl : List Deferred} {w0 v : World} {t : List SVal} {H : SHeap} {a : Act} (hA : @Acts (E W c0 ρ L T) dl w0 ρ' t H a v) (hp : psB.map (getS t) = [x0, x3, x4])
    (h0 : @den (E W c0 ρ L T) ρ' x0 = some (.float .f32 X)) (h3 : @den (E W c0 ρ L T) ρ' x3 = some (.int .u64 sg)) (h4 : @den (E W c0 ρ L T) ρ' x4 = some (.int .u64 e)) : KVB X sg e a := by
  letI : Env := E W c0 ρ L T
  simp only [psB, List.map_cons, List.map_nil, List.cons.injEq, and_true] at hp
  obtain ⟨p0, p1, p2⟩ := hp
  exact ⟨tmp_at hA.tmps 0 (by rw [p0]; exact h0), tmp_at hA.tmps 3 (by rw [p1]; exact h3), tmp_at hA.tmps 4 (by rw [p2]; exact h4)⟩

theorem knownB_den {W : Nat → Nat} {ρ : Nat → Int} {L : List CF} {T : List XE} {sg e : Int} {X : Nat} {a : Act} (h : KVB X sg e a) (h0 : ρ 3 = sg) (h1 : ρ 1 = e) (h2 : W 1 = X) : ∀ p ∈ knownB, @den (E W c0 ρ L T) (fun _ => none) p.2 = some (a.tmps.toList.getD p.1 undef) := by
  letI : Env := E W c0 ρ L T
  obtain ⟨k0, k1, k2⟩ := h
  subst h0 h1 h2
  intro p hp
  simp only [knownB, List.mem_cons, List.not_mem_nil, or_false] at hp
  rcases hp with rfl | rfl | rfl
  · rw [k0]; rfl
  · rw [k1]; rfl
  · rw [k2]; rfl

/-- The end. -/
theorem endB2 (aR aS : Addr) (b : Nat) (hb : b < 4294967296) (hr : b % 2147483648 < 2139095040) (h0 : b % 2147483648 ≠ 0) (sg : Int) (hsg : sg = if 2147483648 ≤ b then 2147483648 else 0) (lt m sm : Bool) (hlt : decide (mantB b < 8388608) = lt) (hm : decide (expB b > 1) = m) (hp : (lt, m, sm) ∈ endsB) (hsm : sm = lt) (hx1 : (lt && m) = false)
    (w : World) (a : Act) (v : World) (hlen : a.tmps.toList.length = 44) (hd : a.defers = []) (hGv : (glob aR aS).holds v) (hB : Below w.heap.size w v) (hKV : KVB (fl (mantB b) 0) sg (expB b) a) (Q : Act → World → Prop) :
    b2Bt.wpIn Fence.wide 0 Tryz.prog (Exit.then Q (after2 Tryz.prog cBt (bodyPostM Fence.wide 0 Tryz.prog Tryz.f148 (Ret (.int .u64 b) w)))) a v := by
  have hE1 := expB_ge b
  have hE2 := expB_le hr
  have hM := mant_lt b
  have hne := mant_ne hr h0
  have hL : ∀ f ∈ L3B m sm, f.ok (rho 0 (expB b) 0 sg 0 (mantB b)) := fun f hf => by
    simp only [L3B, List.mem_cons, List.not_mem_nil, or_false] at hf
    rcases hf with rfl | rfl
    · exact ⟨rfl, hm⟩
    · refine ⟨rfl, ?_⟩
      show decide ((mantB b : Int) < 8388608) = sm
      rw [hsm, ← hlt]
      exact decide_eq_decide.2 (by omega)
  have hT : XF (w4 0 (fl (mantB b) 0) 0 0) c0 (rho 0 (expB b) 0 sg 0 (mantB b)) (T2B lt m) := fun x hx => by
    have l1 := lss_fl hr h0 (e := expB b) (by omega) (by omega)
    have l2 := neq_fl hr h0 (e := expB b) (by omega) (by omega)
    rw [show expB b - expB b = 0 by omega] at l1 l2
    simp only [T2B, hx1, Bool.false_eq_true, if_false, List.mem_cons, List.not_mem_nil, or_false] at hx
    rcases hx with rfl | rfl | rfl
    · refine xok_cmp (a := fl (mantB b) 0) (b := 1258291200) rfl rfl rfl ?_
      rw [l1, ← hlt]
      exact decide_eq_decide.2 (by omega)
    · exact xok_cmp (a := fl (mantB b) 0) (b := 0) rfl rfl rfl l2
    · refine xok_toI (a := fl (mantB b) 0) (e := .var 5) rfl rfl (toInt_fl hne hM) ?_ ?_
      · show (0 : Int) ≤ (mantB b : Int)
        omega
      · show (mantB b : Int) ≤ 18446744073709551615
        omega
  have hN := namesE (C := c0) hL hT
  have hcf := @call_ok' (E (w4 0 (fl (mantB b) 0) 0 0) c0 (rho 0 (expB b) 0 sg 0 (mantB b)) (L3B m sm) (T2B lt m)) Tryz.prog (glob aR aS) noO (@noO_holds (E (w4 0 (fl (mantB b) 0) 0 0) c0 (rho 0 (expB b) 0 sg 0 (mantB b)) (L3B m sm) (T2B lt m)) _ _) hN mixed 300 60
  have hx := List.map_inj_left.1 (exit2B_ok (w4 0 (fl (mantB b) 0) 0 0) (rho 0 (expB b) 0 sg 0 (mantB b)) aR aS (fun j => a.tmps.toList.getD j undef)) _ hp
  cases hr2 : exit2B (w4 0 (fl (mantB b) 0) 0 0) (rho 0 (expB b) 0 sg 0 (mantB b)) aR aS (lt, m, sm) (fun j => a.tmps.toList.getD j undef) with
  | none => rw [hr2] at hx; cases hx
  | some r =>
    obtain ⟨e, s⟩ := r
    rw [hr2] at hx
    simp only [end2B] at hx
    split at hx
    · simp at hx
    · rename_i e2 s2 hb2
      simp only [Option.some.injEq, Prod.mk.injEq] at hx
      obtain ⟨x1, x2, x3, x4, x5⟩ := hx
      obtain rfl := viewE_2 (n := 2) x1
      obtain rfl := viewE_1 x3
      refine @round_wp (E (w4 0 (fl (mantB b) 0) 0 0) c0 (rho 0 (expB b) 0 sg 0 (mantB b)) (L3B m sm) (T2B lt m)) Tryz.prog (glob aR aS) _ hcf hN mixed 300 b2Bt 44 knownB a v hGv hd hlen (knownB_den hKV rfl rfl rfl) _ _ hr2 _ fun ρ' dl' a' w' hMk hA => ?_
      refine @back2_ok (E (w4 0 (fl (mantB b) 0) 0 0) c0 (rho 0 (expB b) 0 sg 0 (mantB b)) (L3B m sm) (T2B lt m)) Tryz.prog (glob aR aS) _ hcf hN mixed 300 cBt (.exit 2) s .ret s2 hb2 _ _ _ _ _ hMk hGv hA _ fun ρ2 dl2 a2 w2 hM2 hA2 => ?_
      refine @end_wp (E (w4 0 (fl (mantB b) 0) 0 0) c0 (rho 0 (expB b) 0 sg 0 (mantB b)) (L3B m sm) (T2B lt m)) Tryz.prog (glob aR aS) Tryz.f148 _ ρ2 dl2 v w2 s2 a2 hGv hM2 x4 hA2 .ret (.inr rfl) _ x5 fun u w3 hu hB3 => ?_
      have hres : (resB sm).ev (rho 0 (expB b) 0 sg 0 (mantB b)) = (b : Int) := by
        have hs : b = (if 2147483648 ≤ b then 2147483648 else 0) + b % 2147483648 := by split <;> omega
        subst hsm
        cases sm with
        | true =>
          have h1 := of_decide_eq_true hlt
          have h2 : mantB b = b % 2147483648 := by
            have h3 : mantB b = if b % 2147483648 < 8388608 then b % 2147483648 else 8388608 + b % 2147483648 % 8388608 := rfl
            split at h3 <;> omega
          simp only [resB, if_true, IE.ev, binI, rho_3, rho_5]
          rw [wrap64_id _ (by split at hsg <;> omega) (by split at hsg <;> omega), h2, hsg]
          split <;> omega
        | false =>
          have h1 := of_decide_eq_false hlt
          have h2 : (b % 2147483648 : Int) = expB b * 8388608 + mantB b - 8388608 := by
            have h3 : mantB b = if b % 2147483648 < 8388608 then b % 2147483648 else 8388608 + b % 2147483648 % 8388608 := rfl
            have h4 : expB b = (if b % 2147483648 < 8388608 then -149 else -149 + ((b % 2147483648 / 8388608 - 1 : Nat) : Int)) + 150 := rfl
            by_cases hc : b % 2147483648 < 8388608
            · rw [if_pos hc] at h3 h4; omega
            · rw [if_neg hc] at h3 h4; omega
          simp only [resB, Bool.false_eq_true, if_false, IE.ev, binI, rho_1, rho_3, rho_5]
          rw [wrap64_id (expB b * 8388608) (by omega) (by omega), wrap64_id (sg + _) (by split at hsg <;> omega) (by split at hsg <;> omega), wrap64_id (_ + (mantB b : Int)) (by split at hsg <;> omega) (by split at hsg <;> omega), wrap64_id _ (by split at hsg <;> omega) (by split at hsg <;> omega), hsg]
          split <;> omega
      have : some (Value.int .u64 ((resB sm).ev (rho 0 (expB b) 0 sg 0 (mantB b)))) = some u := hu
      rw [hres] at this
      obtain rfl := Option.some.inj this
      exact ⟨rfl, hB.trans (hB3.mono hB.size)⟩

/-- A round of the second loop, or its end. -/
theorem stepB2 (aR aS : Addr) (b : Nat) (hb : b < 4294967296) (hr : b % 2147483648 < 2139095040) (h0 : b % 2147483648 ≠ 0) (sg : Int) (hsg : sg = if 2147483648 ≤ b then 2147483648 else 0) (w : World) (k : Nat) (a : Act) (v : World) (h : InvB2 aR aS w b sg k a v) :
    b2Bt.wpIn Fence.wide 0 Tryz.prog (Exit.then (fun a' w' => ∃ k', k' < k ∧ InvB2 aR aS w b sg k' a' w') (after2 Tryz.prog cBt (bodyPostM Fence.wide 0 Tryz.prog Tryz.f148 (Ret (.int .u64 b) w)))) a v := by
  obtain ⟨e, he1, he2, hk, hlen, hd, hGv, hB, hKV⟩ := h
  have hE1 := expB_ge b
  have hE2 := expB_le hr
  have hM := mant_lt b
  have hne := mant_ne hr h0
  rcases Int.lt_or_le (expB b) e with hlt | hge
  · generalize hX : fl (mantB b) (expB b - e) = X at hKV
    have hL : ∀ f ∈ L2B true, f.ok (rho 0 e 0 sg 0 0) := fun f hf => by
      obtain rfl := List.mem_singleton.1 hf
      exact ⟨rfl, decide_eq_true (show e > 1 by omega)⟩
    have hT : XF (w4 0 X (fl (mantB b) (expB b - e + 1)) 0) c0 (rho 0 e 0 sg 0 0) (T2B true true) := fun x hx => by
      simp only [T2B, Bool.and_self, if_true, List.mem_cons, List.not_mem_nil, or_false] at hx
      rcases hx with rfl | rfl | rfl
      · refine xok_cmp (a := X) (b := 1258291200) rfl rfl rfl ?_
        rw [← hX, lss_fl hr h0 he1 he2]
        exact decide_eq_true (.inl hlt)
      · refine xok_cmp (a := X) (b := 0) rfl rfl rfl ?_
        rw [← hX]
        exact neq_fl hr h0 he1 he2
      · refine xok_ar (a := X) (b := 1073741824) (c := fl (mantB b) (expB b - e + 1)) rfl rfl rfl ?_
        rw [← hX]
        exact mul_two hne hM (by omega) (by omega)
    have hN := namesE (C := c0) hL hT
    have hcf := @call_ok' (E (w4 0 X (fl (mantB b) (expB b - e + 1)) 0) c0 (rho 0 e 0 sg 0 0) (L2B true) (T2B true true)) Tryz.prog (glob aR aS) noO (@noO_holds (E (w4 0 X (fl (mantB b) (expB b - e + 1)) 0) c0 (rho 0 e 0 sg 0 0) (L2B true) (T2B true true)) _ _) hN mixed 300 60
    obtain ⟨e', s, hrun, he', hl, hp, hm⟩ := view_some (iter2B_ok (w4 0 X (fl (mantB b) (expB b - e + 1)) 0) (rho 0 e 0 sg 0 0) aR aS (fun j => a.tmps.toList.getD j undef))
    obtain rfl := viewE_0 he'
    refine @round_wp (E (w4 0 X (fl (mantB b) (expB b - e + 1)) 0) c0 (rho 0 e 0 sg 0 0) (L2B true) (T2B true true)) Tryz.prog (glob aR aS) _ hcf hN mixed 300 b2Bt 44 knownB a v hGv hd hlen (knownB_den hKV rfl rfl rfl) _ _ hrun _ fun ρ' dl' a' w' hMk hA => ?_
    show ∃ k', k' < k ∧ InvB2 aR aS w b sg k' a' w'
    have hbl := acts_below hA
    refine ⟨(e - 1).toNat, by omega, e - 1, by omega, by omega, rfl, len_of hA hl, ?_, hGv.later hbl, hB.trans (hbl.mono hB.size), ?_⟩
    · rw [acts_def hA]; exact mk_nil hMk hm
    · rw [show expB b - (e - 1) = expB b - e + 1 by omega]
      refine kvB_of hA hp rfl rfl ?_
      show some (Value.int .u64 (IntKind.wrap .u64 (e - 1))) = _
      rw [wrap64_id _ (by omega) (by omega)]
  · obtain rfl : e = expB b := by omega
    rw [show expB b - expB b = 0 by omega] at hKV
    rcases Nat.lt_or_ge (mantB b) 8388608 with hs | hn
    · have hE : expB b = 1 := by rcases mant_or hr h0 with h | h <;> omega
      exact endB2 aR aS b hb hr h0 sg hsg true false true (decide_eq_true hs) (decide_eq_false (by omega)) (by decide) rfl rfl w a v hlen hd hGv hB hKV _
    · have hmem : ∀ m : Bool, (false, m, false) ∈ endsB := by decide
      exact endB2 aR aS b hb hr h0 sg hsg false _ false (decide_eq_false (by omega)) rfl (hmem _) rfl rfl w a v hlen hd hGv hB hKV _

/-- A round of the first loop, or what follows it. -/
theorem stepB1 (aR aS : Addr) (b : Nat) (hb : b < 4294967296) (hr : b % 2147483648 < 2139095040) (h0 : b % 2147483648 ≠ 0) (sg : Int) (hsg : sg = if 2147483648 ≤ b then 2147483648 else 0) (w : World) (k : Nat) (a : Act) (v : World) (h : InvB1 aR aS w b sg k a v) :
    b1Bt.wpIn Fence.wide 0 Tryz.prog (Exit.then (fun a' w' => ∃ k', k' < k ∧ InvB1 aR aS w b sg k' a' w') (after Tryz.prog cBt (bodyPostM Fence.wide 0 Tryz.prog Tryz.f148 (Ret (.int .u64 b) w)))) a v := by
  obtain ⟨e, he1, he2, hk, hlen, hd, hGv, hB, hKV⟩ := h
  have hE1 := expB_ge b
  have hE2 := expB_le hr
  have hM := mant_lt b
  have hne := mant_ne hr h0
  have hgq := geq_fl hr h0 he1 he2
  generalize hX : fl (mantB b) (expB b - e) = X at hKV hgq
  rcases Int.lt_or_le e (expB b) with hlt | hge
  · have hT : XF (w4 0 X (fl (mantB b) (expB b - e - 1)) 0) c0 (rho 0 e 0 sg 0 0) (T1B true) := fun x hx => by
      simp only [T1B, if_true, List.mem_cons, List.not_mem_nil, or_false] at hx
      rcases hx with rfl | rfl
      · refine xok_cmp (a := X) (b := 1266679808) rfl rfl rfl ?_
        rw [hgq]
        exact decide_eq_true hlt
      · refine xok_ar (a := X) (b := 1073741824) (c := fl (mantB b) (expB b - e - 1)) rfl rfl rfl ?_
        rw [← hX]
        exact div_two hne hM (by omega) (by omega)
    have hN := namesE (C := c0) (L := []) (fun _ h => by cases h) hT
    have hcf := @call_ok' (E (w4 0 X (fl (mantB b) (expB b - e - 1)) 0) c0 (rho 0 e 0 sg 0 0) [] (T1B true)) Tryz.prog (glob aR aS) noO (@noO_holds (E (w4 0 X (fl (mantB b) (expB b - e - 1)) 0) c0 (rho 0 e 0 sg 0 0) [] (T1B true)) _ _) hN mixed 300 60
    obtain ⟨e', s, hrun, he', hl, hp, hm⟩ := view_some (iter1B_ok (w4 0 X (fl (mantB b) (expB b - e - 1)) 0) (rho 0 e 0 sg 0 0) aR aS (fun j => a.tmps.toList.getD j undef))
    obtain rfl := viewE_0 he'
    refine @round_wp (E (w4 0 X (fl (mantB b) (expB b - e - 1)) 0) c0 (rho 0 e 0 sg 0 0) [] (T1B true)) Tryz.prog (glob aR aS) _ hcf hN mixed 300 b1Bt 44 knownB a v hGv hd hlen (knownB_den hKV rfl rfl rfl) _ _ hrun _ fun ρ' dl' a' w' hMk hA => ?_
    show ∃ k', k' < k ∧ InvB1 aR aS w b sg k' a' w'
    have hbl := acts_below hA
    refine ⟨(255 - (e + 1)).toNat, by omega, e + 1, by omega, by omega, rfl, len_of hA hl, ?_, hGv.later hbl, hB.trans (hbl.mono hB.size), ?_⟩
    · rw [acts_def hA]; exact mk_nil hMk hm
    · rw [show expB b - (e + 1) = expB b - e - 1 by omega]
      refine kvB_of hA hp rfl rfl ?_
      show some (Value.int .u64 (IntKind.wrap .u64 (e + 1))) = _
      rw [wrap64_id _ (by omega) (by omega)]
  · have hT : XF (w4 0 X 0 0) c0 (rho 0 e 0 sg 0 0) (T1B false) := fun x hx => by
      simp only [T1B, Bool.false_eq_true, if_false, List.mem_cons, List.not_mem_nil, or_false] at hx
      subst hx
      refine xok_cmp (a := X) (b := 1266679808) rfl rfl rfl ?_
      rw [hgq]
      exact decide_eq_false (by omega)
    have hN := namesE (C := c0) (L := []) (fun _ h => by cases h) hT
    have hcf := @call_ok' (E (w4 0 X 0 0) c0 (rho 0 e 0 sg 0 0) [] (T1B false)) Tryz.prog (glob aR aS) noO (@noO_holds (E (w4 0 X 0 0) c0 (rho 0 e 0 sg 0 0) [] (T1B false)) _ _) hN mixed 300 60
    have hx := exit1B_ok (w4 0 X 0 0) (rho 0 e 0 sg 0 0) aR aS (fun j => a.tmps.toList.getD j undef)
    cases hr1 : iter1B (w4 0 X 0 0) (rho 0 e 0 sg 0 0) aR aS false (fun j => a.tmps.toList.getD j undef) with
    | none => rw [hr1] at hx; cases hx
    | some r =>
      obtain ⟨e1, s⟩ := r
      rw [hr1] at hx
      simp only [mid1B, Option.some.injEq, Prod.mk.injEq] at hx
      obtain ⟨x1, x2, x3, x4⟩ := hx
      obtain rfl := viewE_2 (n := 0) x1
      cases hs1 : @nxt (E (w4 0 X 0 0) c0 (rho 0 e 0 sg 0 0) [] (T1B false)) Tryz.prog (glob aR aS) (@call (E (w4 0 X 0 0) c0 (rho 0 e 0 sg 0 0) [] (T1B false)) Tryz.prog (glob aR aS) noO 300 60) 300 cBt (.exit 0) s with
      | none => rw [hs1] at x4; simp [viewB, view] at x4
      | some s1 =>
        rw [hs1] at x4
        obtain ⟨e3, s3, y0, y1, y2, y3, y4⟩ := view_some x4
        simp only [Option.some.injEq, Prod.mk.injEq] at y0
        obtain ⟨_, rfl⟩ := y0
        refine @round_wp (E (w4 0 X 0 0) c0 (rho 0 e 0 sg 0 0) [] (T1B false)) Tryz.prog (glob aR aS) _ hcf hN mixed 300 b1Bt 44 knownB a v hGv hd hlen (knownB_den hKV rfl rfl rfl) _ _ hr1 _ fun ρ' dl' a' w' hMk hA => ?_
        refine @nxt_ok (E (w4 0 X 0 0) c0 (rho 0 e 0 sg 0 0) [] (T1B false)) Tryz.prog (glob aR aS) _ hcf hN mixed 300 cBt (.exit 0) s s1 b2Bt hs1 loop2_Bt _ _ _ _ _ hMk hGv hA _ fun ρ2 dl2 a2 w2 hM2 hA2 => ?_
        have hbl := acts_below hA2
        refine loop_wp (InvB2 aR aS w b sg) (fun k a v h => stepB2 aR aS b hb hr h0 sg hsg w k a v h) (k := e.toNat) ⟨e, by omega, by omega, rfl, len_of hA2 y2, ?_, hGv.later hbl, hB.trans (hbl.mono hB.size), ?_⟩
        · rw [acts_def hA2]; exact mk_nil hM2 y4
        · rw [hX]; exact kvB_of hA2 y3 rfl rfl rfl

/-- **The bits of a finite float that is not 0.** -/
theorem bits_calls (aR aS : Addr) (b : Nat) (hb : b < 4294967296) (hr : b % 2147483648 < 2139095040) (h0 : b % 2147483648 ≠ 0) (w : World) (hG : (glob aR aS).holds w) :
    Calls Tryz.prog 148 #[.float .f32 b] w (Ret (.int .u64 b) w) := by
  have hE1 := expB_ge b
  have hE2 := expB_le hr
  have hM := mant_lt b
  have hne := mant_ne hr h0
  have hXr : fl (mantB b) (expB b - 150) = b % 2147483648 := by
    have := FF_end hr
    unfold FF at this
    rw [if_neg hne] at this
    exact this
  generalize hn : decide (2147483648 ≤ b) = neg
  have hT : XF (w4 b (b % 2147483648) 0 0) c0 (rho 0 0 0 0 0 0) (T0B neg) := fun x hx => by
    have hkey : cmpF .lss b 0 = neg := by
      rw [cmpF_key rfl ⟨hb, by omega⟩ num_0, ← hn]
      simp only [cmpI]
      refine decide_eq_decide.2 ?_
      unfold keyB
      split <;> omega
    cases neg with
    | false =>
      simp only [T0B, Bool.false_eq_true, if_false, List.mem_cons, List.not_mem_nil, or_false] at hx
      subst hx
      exact xok_cmp (a := b) (b := 0) rfl rfl rfl hkey
    | true =>
      have h1 := of_decide_eq_true hn
      simp only [T0B, if_true, List.mem_cons, List.not_mem_nil, or_false] at hx
      rcases hx with rfl | rfl
      · exact xok_cmp (a := b) (b := 0) rfl rfl rfl hkey
      · refine xok_ar (a := 0) (b := b) (c := b % 2147483648) rfl rfl rfl ?_
        rw [sub_zero' hb h0 hr, if_neg (by omega)]
        exact congrArg some (by omega)
  have hN := namesE (C := c0) (L := []) (fun _ h => by cases h) hT
  have hcf := @call_ok' (E (w4 b (b % 2147483648) 0 0) c0 (rho 0 0 0 0 0 0) [] (T0B neg)) Tryz.prog (glob aR aS) noO (@noO_holds (E (w4 b (b % 2147483648) 0 0) c0 (rho 0 0 0 0 0 0) [] (T0B neg)) _ _) hN mixed 300 60
  have hx0 := frontB_ok (w4 b (b % 2147483648) 0 0) (rho 0 0 0 0 0 0) aR aS
  have hx : viewB (frontB (w4 b (b % 2147483648) 0 0) (rho 0 0 0 0 0 0) aR aS neg) = some (0, 44, [xB neg, .v (.int .u64 (sgB neg)), .v (.int .u64 150)], []) := by
    simp only [List.map_cons, List.map_nil, List.cons.injEq, and_true] at hx0
    cases neg
    · exact hx0.2
    · exact hx0.1
  have hxd : ∀ ρ' : Ren, @den (E (w4 b (b % 2147483648) 0 0) c0 (rho 0 0 0 0 0 0) [] (T0B neg)) ρ' (xB neg) = some (.float .f32 (b % 2147483648)) := fun ρ' => by
    cases neg with
    | true => rfl
    | false =>
      have h1 := of_decide_eq_false hn
      show some (Value.float .f32 b) = _
      rw [Nat.mod_eq_of_lt (by omega)]
  cases hfr : frontB (w4 b (b % 2147483648) 0 0) (rho 0 0 0 0 0 0) aR aS neg with
  | none => rw [hfr] at hx; simp [viewB, view] at hx
  | some s =>
    rw [hfr] at hx
    obtain ⟨e3, s3, y0, y1, y2, y3, y4⟩ := view_some hx
    simp only [Option.some.injEq, Prod.mk.injEq] at y0
    obtain ⟨_, rfl⟩ := y0
    refine @calls_loop (E (w4 b (b % 2147483648) 0 0) c0 (rho 0 0 0 0 0 0) [] (T0B neg)) Tryz.prog (glob aR aS) _ hcf hN mixed 300 148 Tryz.f148 cBt b1Bt Tryz.func148 body_Bt loop1_Bt argB #[.float .f32 b] w _ hG rfl _ hfr fun ρ' dl' a' w' hMk hA => ?_
    have hbl := acts_below hA
    refine loop_wp (InvB1 aR aS w b (sgB neg)) (fun k a v h => stepB1 aR aS b hb hr h0 (sgB neg) ?_ w k a v h) (k := (255 - 150 : Int).toNat) ⟨150, by omega, by omega, rfl, len_of hA y2, ?_, hG.later hbl, hbl, ?_⟩
    · rw [← hn]
      unfold sgB
      by_cases hc : 2147483648 ≤ b <;> simp [hc]
    · rw [acts_def hA]; exact mk_nil hMk y4
    · rw [hXr]
      exact kvB_of hA y3 (hxd _) rfl rfl
end
end Go.Proofs.YtonkcpmefnddaaaGreatDoor
