import Derived.Test.YtonkcpmefnddaaaGreatDoorFB
import Derived.Test.YtonkcpmefnddaaaGreatDoorRXJ
namespace Go.Proofs.YtonkcpmefnddaaaGreatDoor
noncomputable section
open Go Go.RX
open Go.RowKit (Below)
set_option maxRecDepth 1000000
set_option maxHeartbeats 4000000

def mantB (b : Nat) : Nat := magB (b % 2147483648)
def expB (b : Nat) : Int := placeB (b % 2147483648) + 150
theorem expB_ge (b : Nat) : 1 ≤ expB b := by
  have := place_ge (b % 2147483648)
  unfold expB
  omega
theorem expB_le {b : Nat} (h : b % 2147483648 < 2139095040) : expB b ≤ 254 := by
  unfold expB placeB
  split <;> omega
theorem mant_lt (b : Nat) : mantB b < 16777216 := magB_lt _
theorem FF_end {b : Nat} (h : b % 2147483648 < 2139095040) : FF (mantB b) (expB b - 150) = b % 2147483648 := by
  have := FF_bits h
  unfold mantB expB
  rw [show placeB (b % 2147483648) + 150 - 150 = placeB (b % 2147483648) by omega]
  exact this

def KVF (b : Int) (e : Int) (X : Nat) (a : Act) : Prop := a.tmps.toList.getD 0 undef = .int .u64 b ∧ a.tmps.toList.getD 4 undef = .int .u64 e ∧ a.tmps.toList.getD 5 undef = .float .f32 X
def InvF1 (aR aS : Addr) (w : World) (b : Nat) (k : Nat) (a : Act) (v : World) : Prop := ∃ e : Int, 1 ≤ e ∧ e ≤ expB b ∧ (150 ≤ e ∨ e = expB b) ∧ k = e.toNat ∧ a.tmps.toList.length = 34 ∧ a.defers = [] ∧ (glob aR aS).holds v ∧ Below w.heap.size w v ∧ KVF b e (FF (mantB b) (expB b - e)) a
def InvF2 (aR aS : Addr) (w : World) (b : Nat) (k : Nat) (a : Act) (v : World) : Prop := ∃ e : Int, 1 ≤ e ∧ e ≤ 150 ∧ (expB b ≤ e ∨ e = 150) ∧ k = (150 - e).toNat ∧ a.tmps.toList.length = 34 ∧ a.defers = [] ∧ (glob aR aS).holds v ∧ Below w.heap.size w v ∧ KVF b e (FF (mantB b) (expB b - e)) a

theorem kvF_of {W : Nat → Nat} {ρ : Nat → Int} {L : List CF} {T : List XE} {b e : Int} {X : Nat} {x0 x4 x5 : SVal} {ρ' : Ren} {dl : List Deferred} {w0 v : World} {t : List SVal} {H : SHeap} {a : Act} (hA : @Acts (E W c0 ρ L T) dl w0 ρ' t H a v) (hp : psF.map (getS t) = [x0, x4, x5])
    (h0 : @den (E W c0 ρ L T) ρ' x0 = some (.int .u64 b)) (h4 : @den (E W c0 ρ L T) ρ' x4 = some (.int .u64 e)) (h5 : @den (E W c0 ρ L T) ρ' x5 = some (.float .f32 X)) : KVF b e X a := by
  letI : Env := E W c0 ρ L T
  simp only [psF, List.map_cons, List.map_nil, List.cons.injEq, and_true] at hp
  obtain ⟨p0, p1, p2⟩ := hp
  exact ⟨tmp_at hA.tmps 0 (by rw [p0]; exact h0), tmp_at hA.tmps 4 (by rw [p1]; exact h4), tmp_at hA.tmps 5 (by rw [p2]; exact h5)⟩

theorem knownF_den {W : Nat → Nat} {ρ : Nat → Int} {L : List CF} {T : List XE} {b e : Int} {X : Nat} {a : Act} (h : KVF b e X a) (h0 : ρ 0 = b) (h1 : ρ 1 = e) (h2 : W 1 = X) : ∀ p ∈ knownF, @den (E W c0 ρ L T) (fun _ => none) p.2 = some (a.tmps.toList.getD p.1 undef) := by
  letI : Env := E W c0 ρ L T
  obtain ⟨k0, k1, k2⟩ := h
  subst h0 h1 h2
  intro p hp
  simp only [knownF, List.mem_cons, List.not_mem_nil, or_false] at hp
  rcases hp with rfl | rfl | rfl
  · rw [k0]; rfl
  · rw [k1]; rfl
  · rw [k2]; rfl

theorem wrap64_id (n : Int) (h0 : 0 ≤ n) (h1 : n < 18446744073709551616) : IntKind.wrap .u64 n = n := by rw [wrap_u64]; omega

/-- The end. -/
theorem endF2 (aR aS : Addr) (b : Nat) (hb : b < 4294967296) (hr : b % 2147483648 < 2139095040) (hz : b ≠ 2147483648) (neg : Bool) (hneg : decide (2147483648 ≤ b) = neg) (w : World) (a : Act) (v : World) (hlen : a.tmps.toList.length = 34) (hd : a.defers = []) (hGv : (glob aR aS).holds v)
    (hB : Below w.heap.size w v) (hKV : KVF b 150 (b % 2147483648) a) (Q : Act → World → Prop) :
    b2Fl.wpIn Fence.wide 0 Tryz.prog (Exit.then Q (after2 Tryz.prog cFl (bodyPostM Fence.wide 0 Tryz.prog Tryz.f95 (Ret (.float .f32 b) w)))) a v := by
  have hL : ∀ f ∈ L3F neg, f.ok (rho b 150 0 0 0 0) := fun f hf => by
    simp only [L3F, List.mem_cons, List.not_mem_nil, or_false] at hf
    rcases hf with rfl | rfl
    · exact ⟨rfl, rfl⟩
    · refine ⟨rfl, ?_⟩
      show decide ((b : Int) ≥ 2147483648) = neg
      rw [← hneg]
      exact decide_eq_decide.2 (by omega)
  have hT : XF (w4 0 (b % 2147483648) b 0) c0 (rho b 150 0 0 0 0) (T3F neg) := fun x hx => by
    cases neg with
    | false => cases hx
    | true =>
      obtain rfl := List.mem_singleton.1 hx
      have hb2 := of_decide_eq_true hneg
      refine xok_ar (a := 0) (b := b % 2147483648) (c := b) rfl rfl rfl ?_
      rw [sub_zero' (by omega) (by omega) (by omega), if_pos (by omega)]
      congr 1
      omega
  have hN := namesE (C := c0) hL hT
  have hcf := @call_ok' (E (w4 0 (b % 2147483648) b 0) c0 (rho b 150 0 0 0 0) (L3F neg) (T3F neg)) Tryz.prog (glob aR aS) noO (@noO_holds (E (w4 0 (b % 2147483648) b 0) c0 (rho b 150 0 0 0 0) (L3F neg) (T3F neg)) _ _) hN mixed 300 60
  have hx0 := exit2F_ok (w4 0 (b % 2147483648) b 0) (rho b 150 0 0 0 0) aR aS (fun j => a.tmps.toList.getD j undef)
  have hx : end2F (w4 0 (b % 2147483648) b 0) (rho b 150 0 0 0 0) aR aS neg (exit2F (w4 0 (b % 2147483648) b 0) (rho b 150 0 0 0 0) aR aS neg (fun j => a.tmps.toList.getD j undef)) = some (4, [], some (1, [], some [if neg then .sym (.nm 2) else .sym (.nm 1)])) := by
    simp only [List.map_cons, List.map_nil, List.cons.injEq, and_true] at hx0
    cases neg
    · exact hx0.2
    · exact hx0.1
  cases hr2 : exit2F (w4 0 (b % 2147483648) b 0) (rho b 150 0 0 0 0) aR aS neg (fun j => a.tmps.toList.getD j undef) with
  | none => rw [hr2] at hx; cases hx
  | some r =>
    obtain ⟨e, s⟩ := r
    rw [hr2] at hx
    simp only [end2F] at hx
    split at hx
    · simp at hx
    · rename_i e2 s2 hb2
      simp only [Option.some.injEq, Prod.mk.injEq] at hx
      obtain ⟨x1, x2, x3, x4, x5⟩ := hx
      obtain rfl := viewE_2 (n := 2) x1
      obtain rfl := viewE_1 x3
      refine @round_wp (E (w4 0 (b % 2147483648) b 0) c0 (rho b 150 0 0 0 0) (L3F neg) (T3F neg)) Tryz.prog (glob aR aS) _ hcf hN mixed 300 b2Fl 34 knownF a v hGv hd hlen (knownF_den hKV rfl rfl rfl) _ _ hr2 _ fun ρ' dl' a' w' hM hA => ?_
      refine @back2_ok (E (w4 0 (b % 2147483648) b 0) c0 (rho b 150 0 0 0 0) (L3F neg) (T3F neg)) Tryz.prog (glob aR aS) _ hcf hN mixed 300 cFl (.exit 2) s .ret s2 hb2 _ _ _ _ _ hM hGv hA _ fun ρ2 dl2 a2 w2 hM2 hA2 => ?_
      refine @end_wp (E (w4 0 (b % 2147483648) b 0) c0 (rho b 150 0 0 0 0) (L3F neg) (T3F neg)) Tryz.prog (glob aR aS) Tryz.f95 _ ρ2 dl2 v w2 s2 a2 hGv hM2 x4 hA2 .ret (.inr rfl) _ x5 fun u w3 hu hB3 => ?_
      have : Value.float .f32 b = u := by
        cases neg
        · have hlt := of_decide_eq_false hneg
          have : some (Value.float .f32 (b % 2147483648)) = some u := hu
          rw [← Option.some.inj this, Nat.mod_eq_of_lt (by omega)]
        · have : some (Value.float .f32 b) = some u := hu
          exact Option.some.inj this
      subst this
      exact ⟨rfl, hB.trans (hB3.mono hB.size)⟩

/-- A round of the second loop, or its end. -/
theorem stepF2 (aR aS : Addr) (b : Nat) (hb : b < 4294967296) (hr : b % 2147483648 < 2139095040) (hz : b ≠ 2147483648) (w : World) (k : Nat) (a : Act) (v : World) (h : InvF2 aR aS w b k a v) :
    b2Fl.wpIn Fence.wide 0 Tryz.prog (Exit.then (fun a' w' => ∃ k', k' < k ∧ InvF2 aR aS w b k' a' w') (after2 Tryz.prog cFl (bodyPostM Fence.wide 0 Tryz.prog Tryz.f95 (Ret (.float .f32 b) w)))) a v := by
  obtain ⟨e, he1, he2, he3, hk, hlen, hd, hGv, hB, hKV⟩ := h
  have hE1 := expB_ge b
  have hE2 := expB_le hr
  have hM := mant_lt b
  rcases Int.lt_or_le e 150 with hlt | hge
  · have hL : ∀ f ∈ L2F true, f.ok (rho b e 0 0 0 0) := fun f hf => by
      obtain rfl := List.mem_singleton.1 hf
      exact ⟨rfl, decide_eq_true hlt⟩
    have hT : XF (w4 0 (FF (mantB b) (expB b - e)) (FF (mantB b) (expB b - e - 1)) 0) c0 (rho b e 0 0 0 0) T2F := fun x hx => by
      obtain rfl := List.mem_singleton.1 hx
      exact xok_ar (a := FF (mantB b) (expB b - e)) (b := 1073741824) (c := FF (mantB b) (expB b - e - 1)) rfl rfl rfl (FF_div hM (by omega) (by omega))
    have hN := namesE (C := c0) hL hT
    have hcf := @call_ok' (E (w4 0 (FF (mantB b) (expB b - e)) (FF (mantB b) (expB b - e - 1)) 0) c0 (rho b e 0 0 0 0) (L2F true) T2F) Tryz.prog (glob aR aS) noO (@noO_holds (E (w4 0 (FF (mantB b) (expB b - e)) (FF (mantB b) (expB b - e - 1)) 0) c0 (rho b e 0 0 0 0) (L2F true) T2F) _ _) hN mixed 300 60
    obtain ⟨e', s, hrun, he', hl, hp, hm⟩ := view_some (iter2F_ok (w4 0 (FF (mantB b) (expB b - e)) (FF (mantB b) (expB b - e - 1)) 0) (rho b e 0 0 0 0) aR aS (fun j => a.tmps.toList.getD j undef))
    obtain rfl := viewE_0 he'
    refine @round_wp (E (w4 0 (FF (mantB b) (expB b - e)) (FF (mantB b) (expB b - e - 1)) 0) c0 (rho b e 0 0 0 0) (L2F true) T2F) Tryz.prog (glob aR aS) _ hcf hN mixed 300 b2Fl 34 knownF a v hGv hd hlen (knownF_den hKV rfl rfl rfl) _ _ hrun _ fun ρ' dl' a' w' hMk hA => ?_
    show ∃ k', k' < k ∧ InvF2 aR aS w b k' a' w'
    have hbl := acts_below hA
    refine ⟨(150 - (e + 1)).toNat, by omega, e + 1, by omega, by omega, by omega, rfl, len_of hA hl, ?_, hGv.later hbl, hB.trans (hbl.mono hB.size), ?_⟩
    · rw [acts_def hA]; exact mk_nil hMk hm
    · rw [show expB b - (e + 1) = expB b - e - 1 by omega]
      refine kvF_of hA hp rfl ?_ rfl
      show some (Value.int .u64 (IntKind.wrap .u64 (e + 1))) = _
      rw [wrap64_id _ (by omega) (by omega)]
  · obtain rfl : e = 150 := by omega
    have hfin := FF_end hr
    rw [hfin] at hKV
    exact endF2 aR aS b hb hr hz _ rfl w a v hlen hd hGv hB hKV _

/-- A round of the first loop, or what follows it. -/
theorem stepF1 (aR aS : Addr) (b : Nat) (hb : b < 4294967296) (hr : b % 2147483648 < 2139095040) (hz : b ≠ 2147483648) (w : World) (k : Nat) (a : Act) (v : World) (h : InvF1 aR aS w b k a v) :
    b1Fl.wpIn Fence.wide 0 Tryz.prog (Exit.then (fun a' w' => ∃ k', k' < k ∧ InvF1 aR aS w b k' a' w') (after Tryz.prog cFl (bodyPostM Fence.wide 0 Tryz.prog Tryz.f95 (Ret (.float .f32 b) w)))) a v := by
  obtain ⟨e, he1, he2, he3, hk, hlen, hd, hGv, hB, hKV⟩ := h
  have hE1 := expB_ge b
  have hE2 := expB_le hr
  have hM := mant_lt b
  generalize hX : FF (mantB b) (expB b - e) = X at hKV
  rcases Int.lt_or_le 150 e with hlt | hge
  · have hL : ∀ f ∈ L1F true, f.ok (rho b e 0 0 0 0) := fun f hf => by
      obtain rfl := List.mem_singleton.1 hf
      exact ⟨rfl, decide_eq_true hlt⟩
    have hT : XF (w4 0 X (FF (mantB b) (expB b - e + 1)) 0) c0 (rho b e 0 0 0 0) T1F := fun x hx => by
      obtain rfl := List.mem_singleton.1 hx
      refine xok_ar (a := X) (b := 1073741824) (c := FF (mantB b) (expB b - e + 1)) rfl rfl rfl ?_
      rw [← hX]
      exact FF_mul hM (by omega) (by omega)
    have hN := namesE (C := c0) hL hT
    have hcf := @call_ok' (E (w4 0 X (FF (mantB b) (expB b - e + 1)) 0) c0 (rho b e 0 0 0 0) (L1F true) T1F) Tryz.prog (glob aR aS) noO (@noO_holds (E (w4 0 X (FF (mantB b) (expB b - e + 1)) 0) c0 (rho b e 0 0 0 0) (L1F true) T1F) _ _) hN mixed 300 60
    obtain ⟨e', s, hrun, he', hl, hp, hm⟩ := view_some (iter1F_ok (w4 0 X (FF (mantB b) (expB b - e + 1)) 0) (rho b e 0 0 0 0) aR aS (fun j => a.tmps.toList.getD j undef))
    obtain rfl := viewE_0 he'
    refine @round_wp (E (w4 0 X (FF (mantB b) (expB b - e + 1)) 0) c0 (rho b e 0 0 0 0) (L1F true) T1F) Tryz.prog (glob aR aS) _ hcf hN mixed 300 b1Fl 34 knownF a v hGv hd hlen (knownF_den hKV rfl rfl rfl) _ _ hrun _ fun ρ' dl' a' w' hMk hA => ?_
    show ∃ k', k' < k ∧ InvF1 aR aS w b k' a' w'
    have hbl := acts_below hA
    refine ⟨(e - 1).toNat, by omega, e - 1, by omega, by omega, by omega, rfl, len_of hA hl, ?_, hGv.later hbl, hB.trans (hbl.mono hB.size), ?_⟩
    · rw [acts_def hA]; exact mk_nil hMk hm
    · rw [show expB b - (e - 1) = expB b - e + 1 by omega]
      refine kvF_of hA hp rfl ?_ rfl
      show some (Value.int .u64 (IntKind.wrap .u64 (e - 1))) = _
      rw [wrap64_id _ (by omega) (by omega)]
  · have hL : ∀ f ∈ L1F false, f.ok (rho b e 0 0 0 0) := fun f hf => by
      obtain rfl := List.mem_singleton.1 hf
      exact ⟨rfl, decide_eq_false (show ¬ (e > 150) by omega)⟩
    have hT : XF (w4 0 X (FF (mantB b) (expB b - e + 1)) 0) c0 (rho b e 0 0 0 0) T1F := fun x hx => by
      obtain rfl := List.mem_singleton.1 hx
      refine xok_ar (a := X) (b := 1073741824) (c := FF (mantB b) (expB b - e + 1)) rfl rfl rfl ?_
      rw [← hX]
      exact FF_mul hM (by omega) (by omega)
    have hN := namesE (C := c0) hL hT
    have hcf := @call_ok' (E (w4 0 X (FF (mantB b) (expB b - e + 1)) 0) c0 (rho b e 0 0 0 0) (L1F false) T1F) Tryz.prog (glob aR aS) noO (@noO_holds (E (w4 0 X (FF (mantB b) (expB b - e + 1)) 0) c0 (rho b e 0 0 0 0) (L1F false) T1F) _ _) hN mixed 300 60
    have hx := exit1F_ok (w4 0 X (FF (mantB b) (expB b - e + 1)) 0) (rho b e 0 0 0 0) aR aS (fun j => a.tmps.toList.getD j undef)
    cases hr1 : iter1F (w4 0 X (FF (mantB b) (expB b - e + 1)) 0) (rho b e 0 0 0 0) aR aS false (fun j => a.tmps.toList.getD j undef) with
    | none => rw [hr1] at hx; cases hx
    | some r =>
      obtain ⟨e1, s⟩ := r
      rw [hr1] at hx
      simp only [mid1F, Option.some.injEq, Prod.mk.injEq] at hx
      obtain ⟨x1, x2, x3, x4⟩ := hx
      obtain rfl := viewE_2 (n := 0) x1
      cases hs1 : @nxt (E (w4 0 X (FF (mantB b) (expB b - e + 1)) 0) c0 (rho b e 0 0 0 0) (L1F false) T1F) Tryz.prog (glob aR aS) (@call (E (w4 0 X (FF (mantB b) (expB b - e + 1)) 0) c0 (rho b e 0 0 0 0) (L1F false) T1F) Tryz.prog (glob aR aS) noO 300 60) 300 cFl (.exit 0) s with
      | none => rw [hs1] at x4; simp [viewF, view] at x4
      | some s1 =>
        rw [hs1] at x4
        obtain ⟨e3, s3, y0, y1, y2, y3, y4⟩ := view_some x4
        simp only [Option.some.injEq, Prod.mk.injEq] at y0
        obtain ⟨_, rfl⟩ := y0
        refine @round_wp (E (w4 0 X (FF (mantB b) (expB b - e + 1)) 0) c0 (rho b e 0 0 0 0) (L1F false) T1F) Tryz.prog (glob aR aS) _ hcf hN mixed 300 b1Fl 34 knownF a v hGv hd hlen (knownF_den hKV rfl rfl rfl) _ _ hr1 _ fun ρ' dl' a' w' hMk hA => ?_
        refine @nxt_ok (E (w4 0 X (FF (mantB b) (expB b - e + 1)) 0) c0 (rho b e 0 0 0 0) (L1F false) T1F) Tryz.prog (glob aR aS) _ hcf hN mixed 300 cFl (.exit 0) s s1 b2Fl hs1 loop2_Fl _ _ _ _ _ hMk hGv hA _ fun ρ2 dl2 a2 w2 hM2 hA2 => ?_
        have hbl := acts_below hA2
        refine loop_wp (InvF2 aR aS w b) (fun k a v h => stepF2 aR aS b hb hr hz w k a v h) (k := (150 - e).toNat) ⟨e, by omega, by omega, by omega, rfl, len_of hA2 y2, ?_, hGv.later hbl, hB.trans (hbl.mono hB.size), ?_⟩
        · rw [acts_def hA2]; exact mk_nil hM2 y4
        · rw [hX]; exact kvF_of hA2 y3 rfl rfl rfl

/-- **The float of right bits is the one with these bits.** -/
theorem float_calls (aR aS : Addr) (b : Nat) (hb : b < 4294967296) (hr : b % 2147483648 < 2139095040) (hz : b ≠ 2147483648) (w : World) (hG : (glob aR aS).holds w) :
    Calls Tryz.prog 95 #[.int .u64 b] w (Ret (.float .f32 b) w) := by
  have hE1 := expB_ge b
  have hE2 := expB_le hr
  have hM := mant_lt b
  have hev : exE.ev (rho b 0 0 0 0 0) = ((b / 8388608 % 256 : Nat) : Int) := by
    simp only [exE, IE.ev, binI, rho_0]
    rw [Int.tdiv_eq_ediv_of_nonneg (by omega), wrap64_id _ (by omega) (by omega), Int.tmod_eq_emod_of_nonneg (by omega)]
    omega
  have hmv : mnE.ev (rho b 0 0 0 0 0) = ((b % 8388608 : Nat) : Int) := by
    simp only [mnE, IE.ev, binI, rho_0]
    rw [Int.tmod_eq_emod_of_nonneg (by omega)]
    omega
  generalize hn : decide (0 < b / 8388608 % 256) = nrm
  have hL : ∀ f ∈ L0F nrm, f.ok (rho b 0 0 0 0 0) := fun f hf => by
    obtain rfl := List.mem_singleton.1 hf
    refine ⟨rfl, ?_⟩
    show decide (exE.ev (rho b 0 0 0 0 0) > 0) = nrm
    rw [hev, ← hn]
    exact decide_eq_decide.2 (by omega)
  have hmant : (mF nrm).ev (rho b 0 0 0 0 0) = (mantB b : Int) := by
    unfold mF mantB magB
    cases nrm with
    | true =>
      have := of_decide_eq_true hn
      simp only [if_true, IE.ev, binI]
      rw [hmv, wrap64_id _ (by omega) (by omega), if_neg (by omega)]
      omega
    | false =>
      have := of_decide_eq_false hn
      simp only [Bool.false_eq_true, if_false]
      rw [hmv, if_pos (by omega)]
      omega
  have hexp : ∀ ρ' : Ren, @den (E (w4 0 (FF (mantB b) 0) 0 0) c0 (rho b 0 0 0 0 0) (L0F nrm) (T0F nrm)) ρ' (eF nrm) = some (.int .u64 (expB b)) := fun ρ' => by
    cases nrm with
    | true =>
      have := of_decide_eq_true hn
      show some (Value.int .u64 (exE.ev (rho b 0 0 0 0 0))) = _
      have e : ((b / 8388608 % 256 : Nat) : Int) = expB b := by
        unfold expB placeB
        rw [if_neg (by omega)]
        omega
      rw [hev, e]
    | false =>
      have := of_decide_eq_false hn
      have e : (1 : Int) = expB b := by
        unfold expB placeB
        rw [if_pos (by omega)]
        omega
      show some (Value.int .u64 1) = _
      rw [e]
  have hT : XF (w4 0 (FF (mantB b) 0) 0 0) c0 (rho b 0 0 0 0 0) (T0F nrm) := fun x hx => by
    obtain rfl := List.mem_singleton.1 hx
    refine xok_toF (k := .u64) (e := mF nrm) (c := FF (mantB b) 0) rfl rfl ?_
    rw [hmant]
    exact FF_int _
  have hN := namesE (C := c0) hL hT
  have hcf := @call_ok' (E (w4 0 (FF (mantB b) 0) 0 0) c0 (rho b 0 0 0 0 0) (L0F nrm) (T0F nrm)) Tryz.prog (glob aR aS) noO (@noO_holds (E (w4 0 (FF (mantB b) 0) 0 0) c0 (rho b 0 0 0 0 0) (L0F nrm) (T0F nrm)) _ _) hN mixed 300 60
  have hx0 := front0_ok (w4 0 (FF (mantB b) 0) 0 0) (rho b 0 0 0 0 0) aR aS
  have hx : viewF (front0 (w4 0 (FF (mantB b) 0) 0 0) (rho b 0 0 0 0 0) aR aS nrm) = some (0, 34, [.sym (.int .u64 (.var 0)), eF nrm, .sym (.nm 1)], []) := by
    simp only [List.map_cons, List.map_nil, List.cons.injEq, and_true] at hx0
    cases nrm
    · exact hx0.2
    · exact hx0.1
  cases hfr : front0 (w4 0 (FF (mantB b) 0) 0 0) (rho b 0 0 0 0 0) aR aS nrm with
  | none => rw [hfr] at hx; simp [viewF, view] at hx
  | some s =>
    rw [hfr] at hx
    obtain ⟨e3, s3, y0, y1, y2, y3, y4⟩ := view_some hx
    simp only [Option.some.injEq, Prod.mk.injEq] at y0
    obtain ⟨_, rfl⟩ := y0
    refine @calls_loop (E (w4 0 (FF (mantB b) 0) 0 0) c0 (rho b 0 0 0 0 0) (L0F nrm) (T0F nrm)) Tryz.prog (glob aR aS) _ hcf hN mixed 300 95 Tryz.f95 cFl b1Fl Tryz.func95 body_Fl loop1_Fl argF #[.int .u64 b] w _ hG rfl _ hfr fun ρ' dl' a' w' hMk hA => ?_
    have hbl := acts_below hA
    refine loop_wp (InvF1 aR aS w b) (fun k a v h => stepF1 aR aS b hb hr hz w k a v h) (k := (expB b).toNat) ⟨expB b, by omega, by omega, by omega, rfl, len_of hA y2, ?_, hG.later hbl, hbl, ?_⟩
    · rw [acts_def hA]; exact mk_nil hMk y4
    · rw [show expB b - expB b = 0 by omega]
      exact kvF_of hA y3 rfl (hexp _) rfl
end
end Go.Proofs.YtonkcpmefnddaaaGreatDoor
