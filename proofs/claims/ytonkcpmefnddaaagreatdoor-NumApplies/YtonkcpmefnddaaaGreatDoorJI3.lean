import Derived.Test.YtonkcpmefnddaaaGreatDoorJI
namespace Go.Proofs.YtonkcpmefnddaaaGreatDoor
noncomputable section
open Go Go.RX
open Go.RowKit (Below)
set_option maxRecDepth 1000000
set_option maxHeartbeats 4000000
theorem ints_1 {aR aS : Addr} {b n b2 n2 : Int} (hA : HN 1 b n) (hB : HN 1 b2 n2) (h1 : Chk aR aS 1 b 0) (h2 : Chk aR aS 1 b2 0) (i1 : IntV aR aS 1 b n) (i2 : IntV aR aS 1 b2 n2) (o : Nat) (ho : o < 20) : ApV aR aS ((o + 6 : Nat) : Int) 1 b 1 b2 := by
  obtain ⟨a1, a2, a3, a4, a5⟩ := id hA
  obtain ⟨c1, c2, c3, c4, c5⟩ := id hB
  have m1 : Am n := by unfold Am; omega
  have m2 : Am n2 := by unfold Am; omega
  have s1 : Sm n := by unfold Sm; omega
  have s2 : Sm n2 := by unfold Sm; omega
  have hd := div_1 hA hB i1 i2
  have hp := fun (o : Nat) (N B : Int) (h : ∀ ρ, runP (wF 0) (cF 0) ρ aR aS o 1 = some (jP o 1).2.2) (hE : WFun aR aS (fE o) n n2 (Wd N)) (hK : KFun aR aS (fK o) (kOf o 1) N B) => prog_of (k := 1) h m1 m2 h1 h2 i1 i2 hE hK
  rcases (show o = 0 ∨ o = 1 ∨ o = 2 ∨ o = 3 ∨ o = 4 ∨ o = 5 ∨ o = 6 ∨ o = 7 ∨ o = 8 ∨ o = 9 ∨ o = 10 ∨ o = 11 ∨ o = 12 ∨ o = 13 ∨ o = 14 ∨ o = 15 ∨ o = 16 ∨ o = 17 ∨ o = 18 ∨ o = 19 by omega) with rfl | rfl | rfl | rfl | rfl | rfl | rfl | rfl | rfl | rfl | rfl | rfl | rfl | rfl | rfl | rfl | rfl | rfl | rfl | rfl
  · refine ap_of (hp 0 (n + n2) _ (fun ρ => List.map_inj_left.1 (run_P0 _ _ _ aR aS) 1 (by decide)) (plus_ok aR aS n n2) (wrap_1 aR aS _)) (ref_of (n := n) (n2 := n2) (k := 1) (r := false) (fun ρ => List.map_inj_left.1 (run_R0 _ _ _ aR aS) 1 (by decide)) h1 h2 (fun _ h => by cases h) hd ?_)
    show binI .and .u64 (IntKind.wrap .u64 (b + b2)) 255 = _
    rw [and_u64_8 _ (wrap64_range _).1 (wrap64_range _).2, wrap_u64]
    omega
  · refine ap_of (hp 1 (n - n2) _ (fun ρ => List.map_inj_left.1 (run_P1 _ _ _ aR aS) 1 (by decide)) (minus_ok aR aS n n2) (wrap_1 aR aS _)) (ref_of (n := n) (n2 := n2) (k := 1) (r := false) (fun ρ => List.map_inj_left.1 (run_R1 _ _ _ aR aS) 1 (by decide)) h1 h2 (fun _ h => by cases h) hd ?_)
    show binI .and .u64 (IntKind.wrap .u64 (b - b2)) 255 = _
    rw [and_u64_8 _ (wrap64_range _).1 (wrap64_range _).2, wrap_u64]
    omega
  · refine ap_of (hp 2 (loI (loI n * loI n2)) _ (fun ρ => List.map_inj_left.1 (run_P2 _ _ _ aR aS) 1 (by decide)) (times_ok aR aS n n2) (wrap_1 aR aS _)) (ref_of (n := n) (n2 := n2) (k := 1) (r := false) (fun ρ => List.map_inj_left.1 (run_R2 _ _ _ aR aS) 1 (by decide)) h1 h2 (fun _ h => by cases h) hd ?_)
    show binI .and .u64 (IntKind.wrap .u64 (b * b2)) 255 = _
    rw [and_u64_8 _ (wrap64_range _).1 (wrap64_range _).2, wrap_u64]
    exact mulM (by decide) (by unfold loI; omega) (by unfold loI; omega)
  · refine ap_of (hp 3 (QD n n2) _ (fun ρ => List.map_inj_left.1 (run_P3 _ _ _ aR aS) 1 (by decide)) (quo_ok aR aS m1 m2).1 (wrap_1 aR aS _)) (ref_of (n := n) (n2 := n2) (k := 1) (r := false) (fun ρ => List.map_inj_left.1 (run_R3 _ _ _ aR aS) 1 (by decide)) h1 h2 (fun _ h => by cases h) hd ?_)
    show binI .and .u64 (QI n n2) 255 = _
    rw [and_u64_8 _ (qi_bnd n n2).1 (qi_bnd n n2).2]
    unfold QI QD loI
    split <;> omega
  · refine ap_of (hp 4 (RD n n2) _ (fun ρ => List.map_inj_left.1 (run_P4 _ _ _ aR aS) 1 (by decide)) (quo_ok aR aS m1 m2).2 (wrap_1 aR aS _)) (ref_of (n := n) (n2 := n2) (k := 1) (r := false) (fun ρ => List.map_inj_left.1 (run_R4 _ _ _ aR aS) 1 (by decide)) h1 h2 (fun _ h => by cases h) hd ?_)
    show binI .and .u64 (RI n n2) 255 = _
    rw [and_u64_8 _ (ri_bnd m2).1 (ri_bnd m2).2]
    rfl
  · have hb := bel_1 hB hA i2 i1
    have P := hp 5 (if n2 < n then n2 else n) _ (fun ρ => List.map_inj_left.1 (run_P5 _ _ _ aR aS) 1 (by decide)) (lesser_ok aR aS s1 s2) (wrap_1 aR aS _)
    by_cases h : n2 < n
    · rw [decide_eq_true h] at hb
      rw [if_pos h] at P
      refine ap_of P (ref_of (n := n) (n2 := n2) (k := 1) (r := true) (fun ρ => List.map_inj_left.1 (run_R5t _ _ _ aR aS) 1 (by decide)) h1 h2 (fun x hx => ?_) hd ?_)
      · obtain rfl := List.mem_singleton.1 hx
        exact sokE (vs := [agV 1 b2, agV 1 b]) (v := .bool true) rfl rfl rfl rfl fun w hG => hb w hG
      · show b2 = _
        omega
    · rw [decide_eq_false h] at hb
      rw [if_neg h] at P
      refine ap_of P (ref_of (n := n) (n2 := n2) (k := 1) (r := false) (fun ρ => List.map_inj_left.1 (run_R5f _ _ _ aR aS) 1 (by decide)) h1 h2 (fun x hx => ?_) hd ?_)
      · obtain rfl := List.mem_singleton.1 hx
        exact sokE (vs := [agV 1 b2, agV 1 b]) (v := .bool false) rfl rfl rfl rfl fun w hG => hb w hG
      · show b = _
        omega
  · have hb := bel_1 hA hB i1 i2
    have P := hp 6 (if n < n2 then n2 else n) _ (fun ρ => List.map_inj_left.1 (run_P6 _ _ _ aR aS) 1 (by decide)) (greater_ok aR aS s1 s2) (wrap_1 aR aS _)
    by_cases h : n < n2
    · rw [decide_eq_true h] at hb
      rw [if_pos h] at P
      refine ap_of P (ref_of (n := n) (n2 := n2) (k := 1) (r := true) (fun ρ => List.map_inj_left.1 (run_R6t _ _ _ aR aS) 1 (by decide)) h1 h2 (fun x hx => ?_) hd ?_)
      · obtain rfl := List.mem_singleton.1 hx
        exact sokE (vs := [agV 1 b, agV 1 b2]) (v := .bool true) rfl rfl rfl rfl fun w hG => hb w hG
      · show b2 = _
        omega
    · rw [decide_eq_false h] at hb
      rw [if_neg h] at P
      refine ap_of P (ref_of (n := n) (n2 := n2) (k := 1) (r := false) (fun ρ => List.map_inj_left.1 (run_R6f _ _ _ aR aS) 1 (by decide)) h1 h2 (fun x hx => ?_) hd ?_)
      · obtain rfl := List.mem_singleton.1 hx
        exact sokE (vs := [agV 1 b, agV 1 b2]) (v := .bool false) rfl rfl rfl rfl fun w hG => hb w hG
      · show b = _
        omega
  · refine ap_of (hp 7 (bitW .and n n2) _ (fun ρ => List.map_inj_left.1 (run_P7 _ _ _ aR aS) 1 (by decide)) (and_ok aR aS n n2) (wrap_1 aR aS _)) (ref_of (n := n) (n2 := n2) (k := 1) (r := false) (fun ρ => List.map_inj_left.1 (run_R7 _ _ _ aR aS) 1 (by decide)) h1 h2 (fun _ h => by cases h) hd ?_)
    show binI .and .u64 (binI .and .u64 b b2) 255 = _
    rw [and_u64_8 _ (binI_u64 .and (by simp) _ _).1 (binI_u64 .and (by simp) _ _).2]
    exact bits_num 8 rfl (by decide) (.inl rfl) a1 a2 c1 c2 (by omega) (by omega)
  · refine ap_of (hp 8 (bitW .or n n2) _ (fun ρ => List.map_inj_left.1 (run_P8 _ _ _ aR aS) 1 (by decide)) (or_ok aR aS n n2) (wrap_1 aR aS _)) (ref_of (n := n) (n2 := n2) (k := 1) (r := false) (fun ρ => List.map_inj_left.1 (run_R8 _ _ _ aR aS) 1 (by decide)) h1 h2 (fun _ h => by cases h) hd ?_)
    show binI .and .u64 (binI .or .u64 b b2) 255 = _
    rw [and_u64_8 _ (binI_u64 .or (by simp) _ _).1 (binI_u64 .or (by simp) _ _).2]
    exact bits_num 8 rfl (by decide) (.inr (.inl rfl)) a1 a2 c1 c2 (by omega) (by omega)
  · refine ap_of (hp 9 (bitW .xor n n2) _ (fun ρ => List.map_inj_left.1 (run_P9 _ _ _ aR aS) 1 (by decide)) (xor_ok aR aS n n2) (wrap_1 aR aS _)) (ref_of (n := n) (n2 := n2) (k := 1) (r := false) (fun ρ => List.map_inj_left.1 (run_R9 _ _ _ aR aS) 1 (by decide)) h1 h2 (fun _ h => by cases h) hd ?_)
    show binI .and .u64 (binI .xor .u64 b b2) 255 = _
    rw [and_u64_8 _ (binI_u64 .xor (by simp) _ _).1 (binI_u64 .xor (by simp) _ _).2]
    exact bits_num 8 rfl (by decide) (.inr (.inr rfl)) a1 a2 c1 c2 (by omega) (by omega)
  · have hs : 0 ≤ n2 → n2 < 64 → b2 = n2 := by omega
    have hs' : n2 < 0 ∨ 64 ≤ n2 → 64 ≤ b2 := by omega
    have e := shl_num (M := 256) (b := b) (n := n) (by decide) (by omega) hs hs'
    have hK := wrap_1 aR aS (shlN n n2)
    rw [e] at hK
    refine ap_of (hp 10 (shlN n n2) _ (fun ρ => List.map_inj_left.1 (run_P10 _ _ _ aR aS) 1 (by decide)) (shl_w aR aS m2) hK) (ref_of (n := n) (n2 := n2) (k := 1) (r := false) (fun ρ => List.map_inj_left.1 (run_R10 _ _ _ aR aS) 1 (by decide)) h1 h2 (fun x hx => ?_) hd rfl)
    obtain rfl := List.mem_singleton.1 hx
    exact sokE (vs := [.int .i64 16, agV 1 b, agV 1 b2]) (v := agV 1 (b * 2 ^ limOf b2 % 256)) rfl rfl rfl rfl fun w hG => sl_1 aR aS c1 a1 (by omega) w hG
  · have hs : 0 ≤ n2 → n2 < 64 → b2 = n2 := by omega
    have hs' : n2 < 0 ∨ 64 ≤ n2 → 64 ≤ b2 := by omega
    have e : shrN n n2 % 256 = b / 2 ^ limOf b2 := by
      rw [shr_num m1 hs hs', Int.emod_eq_of_lt (div_low n (limOf b2) (Int.le_refl 0) (c := 256) (by decide) (by omega) (by omega)).1 (div_low n (limOf b2) (Int.le_refl 0) (c := 256) (by decide) (by omega) (by omega)).2, show n = b by omega]
    have hK := wrap_1 aR aS (shrN n n2)
    rw [e] at hK
    refine ap_of (hp 11 (shrN n n2) _ (fun ρ => List.map_inj_left.1 (run_P11 _ _ _ aR aS) 1 (by decide)) (shr_w aR aS m1 m2) hK) (ref_of (n := n) (n2 := n2) (k := 1) (r := false) (fun ρ => List.map_inj_left.1 (run_R11 _ _ _ aR aS) 1 (by decide)) h1 h2 (fun x hx => ?_) hd rfl)
    obtain rfl := List.mem_singleton.1 hx
    exact sokE (vs := [.int .i64 17, agV 1 b, agV 1 b2]) (v := agV 1 (b / 2 ^ limOf b2)) rfl rfl rfl rfl fun w hG => sr_1 aR aS c1 a1 (by omega) w hG
  · refine ap_of (hp 12 (n + n2) _ (fun ρ => List.map_inj_left.1 (run_P12 _ _ _ aR aS) 1 (by decide)) (plus_ok aR aS n n2) (clamp_1 aR aS (n := n + n2) (by unfold Sm; omega))) (ref_of (n := n) (n2 := n2) (k := 1) (r := false) (fun ρ => List.map_inj_left.1 (run_R12 _ _ _ aR aS) 1 (by decide)) h1 h2 (fun x hx => ?_) hd rfl)
    obtain rfl := List.mem_singleton.1 hx
    exact sokE (vs := [.int .i64 18, agV 1 b, agV 1 b2]) (v := agV 1 ((if n + n2 < 0 then 0 else if 255 < n + n2 then 255 else n + n2) % 256)) rfl rfl rfl rfl fun w hG => held18_1 hA hB i1 i2 w hG
  · refine ap_of (hp 13 (n - n2) _ (fun ρ => List.map_inj_left.1 (run_P13 _ _ _ aR aS) 1 (by decide)) (minus_ok aR aS n n2) (clamp_1 aR aS (n := n - n2) (by unfold Sm; omega))) (ref_of (n := n) (n2 := n2) (k := 1) (r := false) (fun ρ => List.map_inj_left.1 (run_R13 _ _ _ aR aS) 1 (by decide)) h1 h2 (fun x hx => ?_) hd rfl)
    obtain rfl := List.mem_singleton.1 hx
    exact sokE (vs := [.int .i64 19, agV 1 b, agV 1 b2]) (v := agV 1 ((if n - n2 < 0 then 0 else if 255 < n - n2 then 255 else n - n2) % 256)) rfl rfl rfl rfl fun w hG => held19_1 hA hB i1 i2 w hG
  · refine ap_of (hp 14 ((n + n2 + 1) / 2) _ (fun ρ => List.map_inj_left.1 (run_P14 _ _ _ aR aS) 1 (by decide)) (avg_ok aR aS m1 m2) (wrap_1 aR aS _)) (ref_of (n := n) (n2 := n2) (k := 1) (r := false) (fun ρ => List.map_inj_left.1 (run_R14 _ _ _ aR aS) 1 (by decide)) h1 h2 (fun x hx => ?_) hd rfl)
    obtain rfl := List.mem_singleton.1 hx
    exact sokE (vs := [agV 1 b, agV 1 b2]) (v := agV 1 ((n + n2 + 1) / 2 % 256)) rfl rfl rfl rfl fun w hG => avg_1 hA hB i1 i2 w hG
  · have hb := bel_1 hA hB i1 i2
    have P := hp 15 ((if n < n2 then n2 else n) - (if n2 < n then n2 else n)) _ (fun ρ => List.map_inj_left.1 (run_P15 _ _ _ aR aS) 1 (by decide)) (dist_ok aR aS s1 s2) (wrap_1 aR aS _)
    by_cases h : n < n2
    · rw [decide_eq_true h] at hb
      rw [if_pos h, if_neg (show ¬ n2 < n by omega)] at P
      refine ap_of P (ref_of (n := n) (n2 := n2) (k := 1) (r := true) (fun ρ => List.map_inj_left.1 (run_R15t _ _ _ aR aS) 1 (by decide)) h1 h2 (fun x hx => ?_) hd ?_)
      · obtain rfl := List.mem_singleton.1 hx
        exact sokE (vs := [agV 1 b, agV 1 b2]) (v := .bool true) rfl rfl rfl rfl fun w hG => hb w hG
      · show binI .and .u64 (IntKind.wrap .u64 (b2 - b)) 255 = _
        rw [and_u64_8 _ (wrap64_range _).1 (wrap64_range _).2, wrap_u64]
        omega
    · rw [decide_eq_false h] at hb
      rw [if_neg h] at P
      have e : (if n2 < n then n2 else n) = n2 := by split <;> omega
      rw [e] at P
      refine ap_of P (ref_of (n := n) (n2 := n2) (k := 1) (r := false) (fun ρ => List.map_inj_left.1 (run_R15f _ _ _ aR aS) 1 (by decide)) h1 h2 (fun x hx => ?_) hd ?_)
      · obtain rfl := List.mem_singleton.1 hx
        exact sokE (vs := [agV 1 b, agV 1 b2]) (v := .bool false) rfl rfl rfl rfl fun w hG => hb w hG
      · show binI .and .u64 (IntKind.wrap .u64 (b - b2)) 255 = _
        rw [and_u64_8 _ (wrap64_range _).1 (wrap64_range _).2, wrap_u64]
        omega
  · exact (eq_of (k := 1) (by decide) h1 h2).1
  · exact (eq_of (k := 1) (by decide) h1 h2).2
  · exact (less_of (k := 1) (by decide) m1 m2 h1 h2 i1 i2 (bel_1 hA hB i1 i2) (bel_1 hB hA i2 i1)).1
  · exact (less_of (k := 1) (by decide) m1 m2 h1 h2 i1 i2 (bel_1 hA hB i1 i2) (bel_1 hB hA i2 i1)).2
theorem ints_2 {aR aS : Addr} {b n b2 n2 : Int} (hA : HN 2 b n) (hB : HN 2 b2 n2) (h1 : Chk aR aS 2 b 0) (h2 : Chk aR aS 2 b2 0) (i1 : IntV aR aS 2 b n) (i2 : IntV aR aS 2 b2 n2) (o : Nat) (ho : o < 20) : ApV aR aS ((o + 6 : Nat) : Int) 2 b 2 b2 := by
  obtain ⟨a1, a2, a3, a4, a5⟩ := id hA
  obtain ⟨c1, c2, c3, c4, c5⟩ := id hB
  have m1 : Am n := by unfold Am; omega
  have m2 : Am n2 := by unfold Am; omega
  have s1 : Sm n := by unfold Sm; omega
  have s2 : Sm n2 := by unfold Sm; omega
  have hd := div_2 hA hB i1 i2
  have hp := fun (o : Nat) (N B : Int) (h : ∀ ρ, runP (wF 0) (cF 0) ρ aR aS o 2 = some (jP o 2).2.2) (hE : WFun aR aS (fE o) n n2 (Wd N)) (hK : KFun aR aS (fK o) (kOf o 2) N B) => prog_of (k := 2) h m1 m2 h1 h2 i1 i2 hE hK
  rcases (show o = 0 ∨ o = 1 ∨ o = 2 ∨ o = 3 ∨ o = 4 ∨ o = 5 ∨ o = 6 ∨ o = 7 ∨ o = 8 ∨ o = 9 ∨ o = 10 ∨ o = 11 ∨ o = 12 ∨ o = 13 ∨ o = 14 ∨ o = 15 ∨ o = 16 ∨ o = 17 ∨ o = 18 ∨ o = 19 by omega) with rfl | rfl | rfl | rfl | rfl | rfl | rfl | rfl | rfl | rfl | rfl | rfl | rfl | rfl | rfl | rfl | rfl | rfl | rfl | rfl
  · refine ap_of (hp 0 (n + n2) _ (fun ρ => List.map_inj_left.1 (run_P0 _ _ _ aR aS) 2 (by decide)) (plus_ok aR aS n n2) (wrap_2 aR aS _)) (ref_of (n := n) (n2 := n2) (k := 2) (r := false) (fun ρ => List.map_inj_left.1 (run_R0 _ _ _ aR aS) 2 (by decide)) h1 h2 (fun _ h => by cases h) hd ?_)
    show binI .and .u64 (IntKind.wrap .u64 (b + b2)) 65535 = _
    rw [and_u64_16 _ (wrap64_range _).1 (wrap64_range _).2, wrap_u64]
    omega
  · refine ap_of (hp 1 (n - n2) _ (fun ρ => List.map_inj_left.1 (run_P1 _ _ _ aR aS) 2 (by decide)) (minus_ok aR aS n n2) (wrap_2 aR aS _)) (ref_of (n := n) (n2 := n2) (k := 2) (r := false) (fun ρ => List.map_inj_left.1 (run_R1 _ _ _ aR aS) 2 (by decide)) h1 h2 (fun _ h => by cases h) hd ?_)
    show binI .and .u64 (IntKind.wrap .u64 (b - b2)) 65535 = _
    rw [and_u64_16 _ (wrap64_range _).1 (wrap64_range _).2, wrap_u64]
    omega
  · refine ap_of (hp 2 (loI (loI n * loI n2)) _ (fun ρ => List.map_inj_left.1 (run_P2 _ _ _ aR aS) 2 (by decide)) (times_ok aR aS n n2) (wrap_2 aR aS _)) (ref_of (n := n) (n2 := n2) (k := 2) (r := false) (fun ρ => List.map_inj_left.1 (run_R2 _ _ _ aR aS) 2 (by decide)) h1 h2 (fun _ h => by cases h) hd ?_)
    show binI .and .u64 (IntKind.wrap .u64 (b * b2)) 65535 = _
    rw [and_u64_16 _ (wrap64_range _).1 (wrap64_range _).2, wrap_u64]
    exact mulM (by decide) (by unfold loI; omega) (by unfold loI; omega)
  · refine ap_of (hp 3 (QD n n2) _ (fun ρ => List.map_inj_left.1 (run_P3 _ _ _ aR aS) 2 (by decide)) (quo_ok aR aS m1 m2).1 (wrap_2 aR aS _)) (ref_of (n := n) (n2 := n2) (k := 2) (r := false) (fun ρ => List.map_inj_left.1 (run_R3 _ _ _ aR aS) 2 (by decide)) h1 h2 (fun _ h => by cases h) hd ?_)
    show binI .and .u64 (QI n n2) 65535 = _
    rw [and_u64_16 _ (qi_bnd n n2).1 (qi_bnd n n2).2]
    unfold QI QD loI
    split <;> omega
  · refine ap_of (hp 4 (RD n n2) _ (fun ρ => List.map_inj_left.1 (run_P4 _ _ _ aR aS) 2 (by decide)) (quo_ok aR aS m1 m2).2 (wrap_2 aR aS _)) (ref_of (n := n) (n2 := n2) (k := 2) (r := false) (fun ρ => List.map_inj_left.1 (run_R4 _ _ _ aR aS) 2 (by decide)) h1 h2 (fun _ h => by cases h) hd ?_)
    show binI .and .u64 (RI n n2) 65535 = _
    rw [and_u64_16 _ (ri_bnd m2).1 (ri_bnd m2).2]
    rfl
  · have hb := bel_2 hB hA i2 i1
    have P := hp 5 (if n2 < n then n2 else n) _ (fun ρ => List.map_inj_left.1 (run_P5 _ _ _ aR aS) 2 (by decide)) (lesser_ok aR aS s1 s2) (wrap_2 aR aS _)
    by_cases h : n2 < n
    · rw [decide_eq_true h] at hb
      rw [if_pos h] at P
      refine ap_of P (ref_of (n := n) (n2 := n2) (k := 2) (r := true) (fun ρ => List.map_inj_left.1 (run_R5t _ _ _ aR aS) 2 (by decide)) h1 h2 (fun x hx => ?_) hd ?_)
      · obtain rfl := List.mem_singleton.1 hx
        exact sokE (vs := [agV 2 b2, agV 2 b]) (v := .bool true) rfl rfl rfl rfl fun w hG => hb w hG
      · show b2 = _
        omega
    · rw [decide_eq_false h] at hb
      rw [if_neg h] at P
      refine ap_of P (ref_of (n := n) (n2 := n2) (k := 2) (r := false) (fun ρ => List.map_inj_left.1 (run_R5f _ _ _ aR aS) 2 (by decide)) h1 h2 (fun x hx => ?_) hd ?_)
      · obtain rfl := List.mem_singleton.1 hx
        exact sokE (vs := [agV 2 b2, agV 2 b]) (v := .bool false) rfl rfl rfl rfl fun w hG => hb w hG
      · show b = _
        omega
  · have hb := bel_2 hA hB i1 i2
    have P := hp 6 (if n < n2 then n2 else n) _ (fun ρ => List.map_inj_left.1 (run_P6 _ _ _ aR aS) 2 (by decide)) (greater_ok aR aS s1 s2) (wrap_2 aR aS _)
    by_cases h : n < n2
    · rw [decide_eq_true h] at hb
      rw [if_pos h] at P
      refine ap_of P (ref_of (n := n) (n2 := n2) (k := 2) (r := true) (fun ρ => List.map_inj_left.1 (run_R6t _ _ _ aR aS) 2 (by decide)) h1 h2 (fun x hx => ?_) hd ?_)
      · obtain rfl := List.mem_singleton.1 hx
        exact sokE (vs := [agV 2 b, agV 2 b2]) (v := .bool true) rfl rfl rfl rfl fun w hG => hb w hG
      · show b2 = _
        omega
    · rw [decide_eq_false h] at hb
      rw [if_neg h] at P
      refine ap_of P (ref_of (n := n) (n2 := n2) (k := 2) (r := false) (fun ρ => List.map_inj_left.1 (run_R6f _ _ _ aR aS) 2 (by decide)) h1 h2 (fun x hx => ?_) hd ?_)
      · obtain rfl := List.mem_singleton.1 hx
        exact sokE (vs := [agV 2 b, agV 2 b2]) (v := .bool false) rfl rfl rfl rfl fun w hG => hb w hG
      · show b = _
        omega
  · refine ap_of (hp 7 (bitW .and n n2) _ (fun ρ => List.map_inj_left.1 (run_P7 _ _ _ aR aS) 2 (by decide)) (and_ok aR aS n n2) (wrap_2 aR aS _)) (ref_of (n := n) (n2 := n2) (k := 2) (r := false) (fun ρ => List.map_inj_left.1 (run_R7 _ _ _ aR aS) 2 (by decide)) h1 h2 (fun _ h => by cases h) hd ?_)
    show binI .and .u64 (binI .and .u64 b b2) 65535 = _
    rw [and_u64_16 _ (binI_u64 .and (by simp) _ _).1 (binI_u64 .and (by simp) _ _).2]
    exact bits_num 16 rfl (by decide) (.inl rfl) a1 a2 c1 c2 (by omega) (by omega)
  · refine ap_of (hp 8 (bitW .or n n2) _ (fun ρ => List.map_inj_left.1 (run_P8 _ _ _ aR aS) 2 (by decide)) (or_ok aR aS n n2) (wrap_2 aR aS _)) (ref_of (n := n) (n2 := n2) (k := 2) (r := false) (fun ρ => List.map_inj_left.1 (run_R8 _ _ _ aR aS) 2 (by decide)) h1 h2 (fun _ h => by cases h) hd ?_)
    show binI .and .u64 (binI .or .u64 b b2) 65535 = _
    rw [and_u64_16 _ (binI_u64 .or (by simp) _ _).1 (binI_u64 .or (by simp) _ _).2]
    exact bits_num 16 rfl (by decide) (.inr (.inl rfl)) a1 a2 c1 c2 (by omega) (by omega)
  · refine ap_of (hp 9 (bitW .xor n n2) _ (fun ρ => List.map_inj_left.1 (run_P9 _ _ _ aR aS) 2 (by decide)) (xor_ok aR aS n n2) (wrap_2 aR aS _)) (ref_of (n := n) (n2 := n2) (k := 2) (r := false) (fun ρ => List.map_inj_left.1 (run_R9 _ _ _ aR aS) 2 (by decide)) h1 h2 (fun _ h => by cases h) hd ?_)
    show binI .and .u64 (binI .xor .u64 b b2) 65535 = _
    rw [and_u64_16 _ (binI_u64 .xor (by simp) _ _).1 (binI_u64 .xor (by simp) _ _).2]
    exact bits_num 16 rfl (by decide) (.inr (.inr rfl)) a1 a2 c1 c2 (by omega) (by omega)
  · have hs : 0 ≤ n2 → n2 < 64 → b2 = n2 := by omega
    have hs' : n2 < 0 ∨ 64 ≤ n2 → 64 ≤ b2 := by omega
    have e := shl_num (M := 65536) (b := b) (n := n) (by decide) (by omega) hs hs'
    have hK := wrap_2 aR aS (shlN n n2)
    rw [e] at hK
    refine ap_of (hp 10 (shlN n n2) _ (fun ρ => List.map_inj_left.1 (run_P10 _ _ _ aR aS) 2 (by decide)) (shl_w aR aS m2) hK) (ref_of (n := n) (n2 := n2) (k := 2) (r := false) (fun ρ => List.map_inj_left.1 (run_R10 _ _ _ aR aS) 2 (by decide)) h1 h2 (fun x hx => ?_) hd rfl)
    obtain rfl := List.mem_singleton.1 hx
    exact sokE (vs := [.int .i64 16, agV 2 b, agV 2 b2]) (v := agV 2 (b * 2 ^ limOf b2 % 65536)) rfl rfl rfl rfl fun w hG => sl_2 aR aS c1 a1 (by omega) w hG
  · have hs : 0 ≤ n2 → n2 < 64 → b2 = n2 := by omega
    have hs' : n2 < 0 ∨ 64 ≤ n2 → 64 ≤ b2 := by omega
    have e : shrN n n2 % 65536 = b / 2 ^ limOf b2 := by
      rw [shr_num m1 hs hs', Int.emod_eq_of_lt (div_low n (limOf b2) (Int.le_refl 0) (c := 65536) (by decide) (by omega) (by omega)).1 (div_low n (limOf b2) (Int.le_refl 0) (c := 65536) (by decide) (by omega) (by omega)).2, show n = b by omega]
    have hK := wrap_2 aR aS (shrN n n2)
    rw [e] at hK
    refine ap_of (hp 11 (shrN n n2) _ (fun ρ => List.map_inj_left.1 (run_P11 _ _ _ aR aS) 2 (by decide)) (shr_w aR aS m1 m2) hK) (ref_of (n := n) (n2 := n2) (k := 2) (r := false) (fun ρ => List.map_inj_left.1 (run_R11 _ _ _ aR aS) 2 (by decide)) h1 h2 (fun x hx => ?_) hd rfl)
    obtain rfl := List.mem_singleton.1 hx
    exact sokE (vs := [.int .i64 17, agV 2 b, agV 2 b2]) (v := agV 2 (b / 2 ^ limOf b2)) rfl rfl rfl rfl fun w hG => sr_2 aR aS c1 a1 (by omega) w hG
  · refine ap_of (hp 12 (n + n2) _ (fun ρ => List.map_inj_left.1 (run_P12 _ _ _ aR aS) 2 (by decide)) (plus_ok aR aS n n2) (clamp_2 aR aS (n := n + n2) (by unfold Sm; omega))) (ref_of (n := n) (n2 := n2) (k := 2) (r := false) (fun ρ => List.map_inj_left.1 (run_R12 _ _ _ aR aS) 2 (by decide)) h1 h2 (fun x hx => ?_) hd rfl)
    obtain rfl := List.mem_singleton.1 hx
    exact sokE (vs := [.int .i64 18, agV 2 b, agV 2 b2]) (v := agV 2 ((if n + n2 < 0 then 0 else if 65535 < n + n2 then 65535 else n + n2) % 65536)) rfl rfl rfl rfl fun w hG => held18_2 hA hB i1 i2 w hG
  · refine ap_of (hp 13 (n - n2) _ (fun ρ => List.map_inj_left.1 (run_P13 _ _ _ aR aS) 2 (by decide)) (minus_ok aR aS n n2) (clamp_2 aR aS (n := n - n2) (by unfold Sm; omega))) (ref_of (n := n) (n2 := n2) (k := 2) (r := false) (fun ρ => List.map_inj_left.1 (run_R13 _ _ _ aR aS) 2 (by decide)) h1 h2 (fun x hx => ?_) hd rfl)
    obtain rfl := List.mem_singleton.1 hx
    exact sokE (vs := [.int .i64 19, agV 2 b, agV 2 b2]) (v := agV 2 ((if n - n2 < 0 then 0 else if 65535 < n - n2 then 65535 else n - n2) % 65536)) rfl rfl rfl rfl fun w hG => held19_2 hA hB i1 i2 w hG
  · refine ap_of (hp 14 ((n + n2 + 1) / 2) _ (fun ρ => List.map_inj_left.1 (run_P14 _ _ _ aR aS) 2 (by decide)) (avg_ok aR aS m1 m2) (wrap_2 aR aS _)) (ref_of (n := n) (n2 := n2) (k := 2) (r := false) (fun ρ => List.map_inj_left.1 (run_R14 _ _ _ aR aS) 2 (by decide)) h1 h2 (fun x hx => ?_) hd rfl)
    obtain rfl := List.mem_singleton.1 hx
    exact sokE (vs := [agV 2 b, agV 2 b2]) (v := agV 2 ((n + n2 + 1) / 2 % 65536)) rfl rfl rfl rfl fun w hG => avg_2 hA hB i1 i2 w hG
  · have hb := bel_2 hA hB i1 i2
    have P := hp 15 ((if n < n2 then n2 else n) - (if n2 < n then n2 else n)) _ (fun ρ => List.map_inj_left.1 (run_P15 _ _ _ aR aS) 2 (by decide)) (dist_ok aR aS s1 s2) (wrap_2 aR aS _)
    by_cases h : n < n2
    · rw [decide_eq_true h] at hb
      rw [if_pos h, if_neg (show ¬ n2 < n by omega)] at P
      refine ap_of P (ref_of (n := n) (n2 := n2) (k := 2) (r := true) (fun ρ => List.map_inj_left.1 (run_R15t _ _ _ aR aS) 2 (by decide)) h1 h2 (fun x hx => ?_) hd ?_)
      · obtain rfl := List.mem_singleton.1 hx
        exact sokE (vs := [agV 2 b, agV 2 b2]) (v := .bool true) rfl rfl rfl rfl fun w hG => hb w hG
      · show binI .and .u64 (IntKind.wrap .u64 (b2 - b)) 65535 = _
        rw [and_u64_16 _ (wrap64_range _).1 (wrap64_range _).2, wrap_u64]
        omega
    · rw [decide_eq_false h] at hb
      rw [if_neg h] at P
      have e : (if n2 < n then n2 else n) = n2 := by split <;> omega
      rw [e] at P
      refine ap_of P (ref_of (n := n) (n2 := n2) (k := 2) (r := false) (fun ρ => List.map_inj_left.1 (run_R15f _ _ _ aR aS) 2 (by decide)) h1 h2 (fun x hx => ?_) hd ?_)
      · obtain rfl := List.mem_singleton.1 hx
        exact sokE (vs := [agV 2 b, agV 2 b2]) (v := .bool false) rfl rfl rfl rfl fun w hG => hb w hG
      · show binI .and .u64 (IntKind.wrap .u64 (b - b2)) 65535 = _
        rw [and_u64_16 _ (wrap64_range _).1 (wrap64_range _).2, wrap_u64]
        omega
  · exact (eq_of (k := 2) (by decide) h1 h2).1
  · exact (eq_of (k := 2) (by decide) h1 h2).2
  · exact (less_of (k := 2) (by decide) m1 m2 h1 h2 i1 i2 (bel_2 hA hB i1 i2) (bel_2 hB hA i2 i1)).1
  · exact (less_of (k := 2) (by decide) m1 m2 h1 h2 i1 i2 (bel_2 hA hB i1 i2) (bel_2 hB hA i2 i1)).2
end
end Go.Proofs.YtonkcpmefnddaaaGreatDoor

namespace Go.Proofs.YtonkcpmefnddaaaGreatDoor
noncomputable section
open Go Go.RX
open Go.RowKit (Below)
set_option maxRecDepth 1000000
set_option maxHeartbeats 4000000
theorem ints_3 {aR aS : Addr} {b n b2 n2 : Int} (hA : HN 3 b n) (hB : HN 3 b2 n2) (h1 : Chk aR aS 3 b 0) (h2 : Chk aR aS 3 b2 0) (i1 : IntV aR aS 3 b n) (i2 : IntV aR aS 3 b2 n2) (o : Nat) (ho : o < 20) : ApV aR aS ((o + 6 : Nat) : Int) 3 b 3 b2 := by
  obtain ⟨a1, a2, a3, a4, a5⟩ := id hA
  obtain ⟨c1, c2, c3, c4, c5⟩ := id hB
  have m1 : Am n := by unfold Am; omega
  have m2 : Am n2 := by unfold Am; omega
  have s1 : Sm n := by unfold Sm; omega
  have s2 : Sm n2 := by unfold Sm; omega
  have hd := div_3 hA hB i1 i2
  have hp := fun (o : Nat) (N B : Int) (h : ∀ ρ, runP (wF 0) (cF 0) ρ aR aS o 3 = some (jP o 3).2.2) (hE : WFun aR aS (fE o) n n2 (Wd N)) (hK : KFun aR aS (fK o) (kOf o 3) N B) => prog_of (k := 3) h m1 m2 h1 h2 i1 i2 hE hK
  rcases (show o = 0 ∨ o = 1 ∨ o = 2 ∨ o = 3 ∨ o = 4 ∨ o = 5 ∨ o = 6 ∨ o = 7 ∨ o = 8 ∨ o = 9 ∨ o = 10 ∨ o = 11 ∨ o = 12 ∨ o = 13 ∨ o = 14 ∨ o = 15 ∨ o = 16 ∨ o = 17 ∨ o = 18 ∨ o = 19 by omega) with rfl | rfl | rfl | rfl | rfl | rfl | rfl | rfl | rfl | rfl | rfl | rfl | rfl | rfl | rfl | rfl | rfl | rfl | rfl | rfl
  · refine ap_of (hp 0 (n + n2) _ (fun ρ => List.map_inj_left.1 (run_P0 _ _ _ aR aS) 3 (by decide)) (plus_ok aR aS n n2) (wrap_3 aR aS _)) (ref_of (n := n) (n2 := n2) (k := 3) (r := false) (fun ρ => List.map_inj_left.1 (run_R0 _ _ _ aR aS) 3 (by decide)) h1 h2 (fun _ h => by cases h) hd ?_)
    show binI .and .u64 (IntKind.wrap .u64 (b + b2)) 4294967295 = _
    rw [and_u64_32 _ (wrap64_range _).1 (wrap64_range _).2, wrap_u64]
    omega
  · refine ap_of (hp 1 (n - n2) _ (fun ρ => List.map_inj_left.1 (run_P1 _ _ _ aR aS) 3 (by decide)) (minus_ok aR aS n n2) (wrap_3 aR aS _)) (ref_of (n := n) (n2 := n2) (k := 3) (r := false) (fun ρ => List.map_inj_left.1 (run_R1 _ _ _ aR aS) 3 (by decide)) h1 h2 (fun _ h => by cases h) hd ?_)
    show binI .and .u64 (IntKind.wrap .u64 (b - b2)) 4294967295 = _
    rw [and_u64_32 _ (wrap64_range _).1 (wrap64_range _).2, wrap_u64]
    omega
  · refine ap_of (hp 2 (loI (loI n * loI n2)) _ (fun ρ => List.map_inj_left.1 (run_P2 _ _ _ aR aS) 3 (by decide)) (times_ok aR aS n n2) (wrap_3 aR aS _)) (ref_of (n := n) (n2 := n2) (k := 3) (r := false) (fun ρ => List.map_inj_left.1 (run_R2 _ _ _ aR aS) 3 (by decide)) h1 h2 (fun _ h => by cases h) hd ?_)
    show binI .and .u64 (IntKind.wrap .u64 (b * b2)) 4294967295 = _
    rw [and_u64_32 _ (wrap64_range _).1 (wrap64_range _).2, wrap_u64]
    exact mulM (by decide) (by unfold loI; omega) (by unfold loI; omega)
  · refine ap_of (hp 3 (QD n n2) _ (fun ρ => List.map_inj_left.1 (run_P3 _ _ _ aR aS) 3 (by decide)) (quo_ok aR aS m1 m2).1 (wrap_3 aR aS _)) (ref_of (n := n) (n2 := n2) (k := 3) (r := false) (fun ρ => List.map_inj_left.1 (run_R3 _ _ _ aR aS) 3 (by decide)) h1 h2 (fun _ h => by cases h) hd ?_)
    show binI .and .u64 (QI n n2) 4294967295 = _
    rw [and_u64_32 _ (qi_bnd n n2).1 (qi_bnd n n2).2]
    unfold QI QD loI
    split <;> omega
  · refine ap_of (hp 4 (RD n n2) _ (fun ρ => List.map_inj_left.1 (run_P4 _ _ _ aR aS) 3 (by decide)) (quo_ok aR aS m1 m2).2 (wrap_3 aR aS _)) (ref_of (n := n) (n2 := n2) (k := 3) (r := false) (fun ρ => List.map_inj_left.1 (run_R4 _ _ _ aR aS) 3 (by decide)) h1 h2 (fun _ h => by cases h) hd ?_)
    show binI .and .u64 (RI n n2) 4294967295 = _
    rw [and_u64_32 _ (ri_bnd m2).1 (ri_bnd m2).2]
    rfl
  · have hb := bel_3 hB hA i2 i1
    have P := hp 5 (if n2 < n then n2 else n) _ (fun ρ => List.map_inj_left.1 (run_P5 _ _ _ aR aS) 3 (by decide)) (lesser_ok aR aS s1 s2) (wrap_3 aR aS _)
    by_cases h : n2 < n
    · rw [decide_eq_true h] at hb
      rw [if_pos h] at P
      refine ap_of P (ref_of (n := n) (n2 := n2) (k := 3) (r := true) (fun ρ => List.map_inj_left.1 (run_R5t _ _ _ aR aS) 3 (by decide)) h1 h2 (fun x hx => ?_) hd ?_)
      · obtain rfl := List.mem_singleton.1 hx
        exact sokE (vs := [agV 3 b2, agV 3 b]) (v := .bool true) rfl rfl rfl rfl fun w hG => hb w hG
      · show b2 = _
        omega
    · rw [decide_eq_false h] at hb
      rw [if_neg h] at P
      refine ap_of P (ref_of (n := n) (n2 := n2) (k := 3) (r := false) (fun ρ => List.map_inj_left.1 (run_R5f _ _ _ aR aS) 3 (by decide)) h1 h2 (fun x hx => ?_) hd ?_)
      · obtain rfl := List.mem_singleton.1 hx
        exact sokE (vs := [agV 3 b2, agV 3 b]) (v := .bool false) rfl rfl rfl rfl fun w hG => hb w hG
      · show b = _
        omega
  · have hb := bel_3 hA hB i1 i2
    have P := hp 6 (if n < n2 then n2 else n) _ (fun ρ => List.map_inj_left.1 (run_P6 _ _ _ aR aS) 3 (by decide)) (greater_ok aR aS s1 s2) (wrap_3 aR aS _)
    by_cases h : n < n2
    · rw [decide_eq_true h] at hb
      rw [if_pos h] at P
      refine ap_of P (ref_of (n := n) (n2 := n2) (k := 3) (r := true) (fun ρ => List.map_inj_left.1 (run_R6t _ _ _ aR aS) 3 (by decide)) h1 h2 (fun x hx => ?_) hd ?_)
      · obtain rfl := List.mem_singleton.1 hx
        exact sokE (vs := [agV 3 b, agV 3 b2]) (v := .bool true) rfl rfl rfl rfl fun w hG => hb w hG
      · show b2 = _
        omega
    · rw [decide_eq_false h] at hb
      rw [if_neg h] at P
      refine ap_of P (ref_of (n := n) (n2 := n2) (k := 3) (r := false) (fun ρ => List.map_inj_left.1 (run_R6f _ _ _ aR aS) 3 (by decide)) h1 h2 (fun x hx => ?_) hd ?_)
      · obtain rfl := List.mem_singleton.1 hx
        exact sokE (vs := [agV 3 b, agV 3 b2]) (v := .bool false) rfl rfl rfl rfl fun w hG => hb w hG
      · show b = _
        omega
  · refine ap_of (hp 7 (bitW .and n n2) _ (fun ρ => List.map_inj_left.1 (run_P7 _ _ _ aR aS) 3 (by decide)) (and_ok aR aS n n2) (wrap_3 aR aS _)) (ref_of (n := n) (n2 := n2) (k := 3) (r := false) (fun ρ => List.map_inj_left.1 (run_R7 _ _ _ aR aS) 3 (by decide)) h1 h2 (fun _ h => by cases h) hd ?_)
    show binI .and .u64 (binI .and .u64 b b2) 4294967295 = _
    rw [and_u64_32 _ (binI_u64 .and (by simp) _ _).1 (binI_u64 .and (by simp) _ _).2]
    exact bits_num 32 rfl (by decide) (.inl rfl) a1 a2 c1 c2 (by omega) (by omega)
  · refine ap_of (hp 8 (bitW .or n n2) _ (fun ρ => List.map_inj_left.1 (run_P8 _ _ _ aR aS) 3 (by decide)) (or_ok aR aS n n2) (wrap_3 aR aS _)) (ref_of (n := n) (n2 := n2) (k := 3) (r := false) (fun ρ => List.map_inj_left.1 (run_R8 _ _ _ aR aS) 3 (by decide)) h1 h2 (fun _ h => by cases h) hd ?_)
    show binI .and .u64 (binI .or .u64 b b2) 4294967295 = _
    rw [and_u64_32 _ (binI_u64 .or (by simp) _ _).1 (binI_u64 .or (by simp) _ _).2]
    exact bits_num 32 rfl (by decide) (.inr (.inl rfl)) a1 a2 c1 c2 (by omega) (by omega)
  · refine ap_of (hp 9 (bitW .xor n n2) _ (fun ρ => List.map_inj_left.1 (run_P9 _ _ _ aR aS) 3 (by decide)) (xor_ok aR aS n n2) (wrap_3 aR aS _)) (ref_of (n := n) (n2 := n2) (k := 3) (r := false) (fun ρ => List.map_inj_left.1 (run_R9 _ _ _ aR aS) 3 (by decide)) h1 h2 (fun _ h => by cases h) hd ?_)
    show binI .and .u64 (binI .xor .u64 b b2) 4294967295 = _
    rw [and_u64_32 _ (binI_u64 .xor (by simp) _ _).1 (binI_u64 .xor (by simp) _ _).2]
    exact bits_num 32 rfl (by decide) (.inr (.inr rfl)) a1 a2 c1 c2 (by omega) (by omega)
  · have hs : 0 ≤ n2 → n2 < 64 → b2 = n2 := by omega
    have hs' : n2 < 0 ∨ 64 ≤ n2 → 64 ≤ b2 := by omega
    have e := shl_num (M := 4294967296) (b := b) (n := n) (by decide) (by omega) hs hs'
    have hK := wrap_3 aR aS (shlN n n2)
    rw [e] at hK
    refine ap_of (hp 10 (shlN n n2) _ (fun ρ => List.map_inj_left.1 (run_P10 _ _ _ aR aS) 3 (by decide)) (shl_w aR aS m2) hK) (ref_of (n := n) (n2 := n2) (k := 3) (r := false) (fun ρ => List.map_inj_left.1 (run_R10 _ _ _ aR aS) 3 (by decide)) h1 h2 (fun x hx => ?_) hd rfl)
    obtain rfl := List.mem_singleton.1 hx
    exact sokE (vs := [.int .i64 16, agV 3 b, agV 3 b2]) (v := agV 3 (b * 2 ^ limOf b2 % 4294967296)) rfl rfl rfl rfl fun w hG => sl_3 aR aS c1 a1 (by omega) w hG
  · have hs : 0 ≤ n2 → n2 < 64 → b2 = n2 := by omega
    have hs' : n2 < 0 ∨ 64 ≤ n2 → 64 ≤ b2 := by omega
    have e : shrN n n2 % 4294967296 = b / 2 ^ limOf b2 := by
      rw [shr_num m1 hs hs', Int.emod_eq_of_lt (div_low n (limOf b2) (Int.le_refl 0) (c := 4294967296) (by decide) (by omega) (by omega)).1 (div_low n (limOf b2) (Int.le_refl 0) (c := 4294967296) (by decide) (by omega) (by omega)).2, show n = b by omega]
    have hK := wrap_3 aR aS (shrN n n2)
    rw [e] at hK
    refine ap_of (hp 11 (shrN n n2) _ (fun ρ => List.map_inj_left.1 (run_P11 _ _ _ aR aS) 3 (by decide)) (shr_w aR aS m1 m2) hK) (ref_of (n := n) (n2 := n2) (k := 3) (r := false) (fun ρ => List.map_inj_left.1 (run_R11 _ _ _ aR aS) 3 (by decide)) h1 h2 (fun x hx => ?_) hd rfl)
    obtain rfl := List.mem_singleton.1 hx
    exact sokE (vs := [.int .i64 17, agV 3 b, agV 3 b2]) (v := agV 3 (b / 2 ^ limOf b2)) rfl rfl rfl rfl fun w hG => sr_3 aR aS c1 a1 (by omega) w hG
  · refine ap_of (hp 12 (n + n2) _ (fun ρ => List.map_inj_left.1 (run_P12 _ _ _ aR aS) 3 (by decide)) (plus_ok aR aS n n2) (clamp_3 aR aS (n := n + n2) (by unfold Sm; omega))) (ref_of (n := n) (n2 := n2) (k := 3) (r := false) (fun ρ => List.map_inj_left.1 (run_R12 _ _ _ aR aS) 3 (by decide)) h1 h2 (fun x hx => ?_) hd rfl)
    obtain rfl := List.mem_singleton.1 hx
    exact sokE (vs := [.int .i64 18, agV 3 b, agV 3 b2]) (v := agV 3 ((if n + n2 < 0 then 0 else if 4294967295 < n + n2 then 4294967295 else n + n2) % 4294967296)) rfl rfl rfl rfl fun w hG => held18_3 hA hB i1 i2 w hG
  · refine ap_of (hp 13 (n - n2) _ (fun ρ => List.map_inj_left.1 (run_P13 _ _ _ aR aS) 3 (by decide)) (minus_ok aR aS n n2) (clamp_3 aR aS (n := n - n2) (by unfold Sm; omega))) (ref_of (n := n) (n2 := n2) (k := 3) (r := false) (fun ρ => List.map_inj_left.1 (run_R13 _ _ _ aR aS) 3 (by decide)) h1 h2 (fun x hx => ?_) hd rfl)
    obtain rfl := List.mem_singleton.1 hx
    exact sokE (vs := [.int .i64 19, agV 3 b, agV 3 b2]) (v := agV 3 ((if n - n2 < 0 then 0 else if 4294967295 < n - n2 then 4294967295 else n - n2) % 4294967296)) rfl rfl rfl rfl fun w hG => held19_3 hA hB i1 i2 w hG
  · refine ap_of (hp 14 ((n + n2 + 1) / 2) _ (fun ρ => List.map_inj_left.1 (run_P14 _ _ _ aR aS) 3 (by decide)) (avg_ok aR aS m1 m2) (wrap_3 aR aS _)) (ref_of (n := n) (n2 := n2) (k := 3) (r := false) (fun ρ => List.map_inj_left.1 (run_R14 _ _ _ aR aS) 3 (by decide)) h1 h2 (fun x hx => ?_) hd rfl)
    obtain rfl := List.mem_singleton.1 hx
    exact sokE (vs := [agV 3 b, agV 3 b2]) (v := agV 3 ((n + n2 + 1) / 2 % 4294967296)) rfl rfl rfl rfl fun w hG => avg_3 hA hB i1 i2 w hG
  · have hb := bel_3 hA hB i1 i2
    have P := hp 15 ((if n < n2 then n2 else n) - (if n2 < n then n2 else n)) _ (fun ρ => List.map_inj_left.1 (run_P15 _ _ _ aR aS) 3 (by decide)) (dist_ok aR aS s1 s2) (wrap_3 aR aS _)
    by_cases h : n < n2
    · rw [decide_eq_true h] at hb
      rw [if_pos h, if_neg (show ¬ n2 < n by omega)] at P
      refine ap_of P (ref_of (n := n) (n2 := n2) (k := 3) (r := true) (fun ρ => List.map_inj_left.1 (run_R15t _ _ _ aR aS) 3 (by decide)) h1 h2 (fun x hx => ?_) hd ?_)
      · obtain rfl := List.mem_singleton.1 hx
        exact sokE (vs := [agV 3 b, agV 3 b2]) (v := .bool true) rfl rfl rfl rfl fun w hG => hb w hG
      · show binI .and .u64 (IntKind.wrap .u64 (b2 - b)) 4294967295 = _
        rw [and_u64_32 _ (wrap64_range _).1 (wrap64_range _).2, wrap_u64]
        omega
    · rw [decide_eq_false h] at hb
      rw [if_neg h] at P
      have e : (if n2 < n then n2 else n) = n2 := by split <;> omega
      rw [e] at P
      refine ap_of P (ref_of (n := n) (n2 := n2) (k := 3) (r := false) (fun ρ => List.map_inj_left.1 (run_R15f _ _ _ aR aS) 3 (by decide)) h1 h2 (fun x hx => ?_) hd ?_)
      · obtain rfl := List.mem_singleton.1 hx
        exact sokE (vs := [agV 3 b, agV 3 b2]) (v := .bool false) rfl rfl rfl rfl fun w hG => hb w hG
      · show binI .and .u64 (IntKind.wrap .u64 (b - b2)) 4294967295 = _
        rw [and_u64_32 _ (wrap64_range _).1 (wrap64_range _).2, wrap_u64]
        omega
  · exact (eq_of (k := 3) (by decide) h1 h2).1
  · exact (eq_of (k := 3) (by decide) h1 h2).2
  · exact (less_of (k := 3) (by decide) m1 m2 h1 h2 i1 i2 (bel_3 hA hB i1 i2) (bel_3 hB hA i2 i1)).1
  · exact (less_of (k := 3) (by decide) m1 m2 h1 h2 i1 i2 (bel_3 hA hB i1 i2) (bel_3 hB hA i2 i1)).2
theorem ints_4 {aR aS : Addr} {b n b2 n2 : Int} (hA : HN 4 b n) (hB : HN 4 b2 n2) (h1 : Chk aR aS 4 b 0) (h2 : Chk aR aS 4 b2 0) (i1 : IntV aR aS 4 b n) (i2 : IntV aR aS 4 b2 n2) (o : Nat) (ho : o < 20) : ApV aR aS ((o + 6 : Nat) : Int) 4 b 4 b2 := by
  obtain ⟨a1, a2, a3, a4, a5⟩ := id hA
  obtain ⟨c1, c2, c3, c4, c5⟩ := id hB
  have m1 : Am n := by unfold Am; omega
  have m2 : Am n2 := by unfold Am; omega
  have s1 : Sm n := by unfold Sm; omega
  have s2 : Sm n2 := by unfold Sm; omega
  have hd := div_4 hA hB i1 i2
  have hp := fun (o : Nat) (N B : Int) (h : ∀ ρ, runP (wF 0) (cF 0) ρ aR aS o 4 = some (jP o 4).2.2) (hE : WFun aR aS (fE o) n n2 (Wd N)) (hK : KFun aR aS (fK o) (kOf o 4) N B) => prog_of (k := 4) h m1 m2 h1 h2 i1 i2 hE hK
  rcases (show o = 0 ∨ o = 1 ∨ o = 2 ∨ o = 3 ∨ o = 4 ∨ o = 5 ∨ o = 6 ∨ o = 7 ∨ o = 8 ∨ o = 9 ∨ o = 10 ∨ o = 11 ∨ o = 12 ∨ o = 13 ∨ o = 14 ∨ o = 15 ∨ o = 16 ∨ o = 17 ∨ o = 18 ∨ o = 19 by omega) with rfl | rfl | rfl | rfl | rfl | rfl | rfl | rfl | rfl | rfl | rfl | rfl | rfl | rfl | rfl | rfl | rfl | rfl | rfl | rfl
  · refine ap_of (hp 0 (n + n2) _ (fun ρ => List.map_inj_left.1 (run_P0 _ _ _ aR aS) 4 (by decide)) (plus_ok aR aS n n2) (wrap_4 aR aS _)) (ref_of (n := n) (n2 := n2) (k := 4) (r := false) (fun ρ => List.map_inj_left.1 (run_R0 _ _ _ aR aS) 4 (by decide)) h1 h2 (fun _ h => by cases h) hd ?_)
    show binI .and .u64 (IntKind.wrap .u64 (b + b2)) 18446744073709551615 = _
    rw [and_u64_64 _ (wrap64_range _).1 (wrap64_range _).2, wrap_u64]
    omega
  · refine ap_of (hp 1 (n - n2) _ (fun ρ => List.map_inj_left.1 (run_P1 _ _ _ aR aS) 4 (by decide)) (minus_ok aR aS n n2) (wrap_4 aR aS _)) (ref_of (n := n) (n2 := n2) (k := 4) (r := false) (fun ρ => List.map_inj_left.1 (run_R1 _ _ _ aR aS) 4 (by decide)) h1 h2 (fun _ h => by cases h) hd ?_)
    show binI .and .u64 (IntKind.wrap .u64 (b - b2)) 18446744073709551615 = _
    rw [and_u64_64 _ (wrap64_range _).1 (wrap64_range _).2, wrap_u64]
    omega
  · refine ap_of (hp 2 (loI (loI n * loI n2)) _ (fun ρ => List.map_inj_left.1 (run_P2 _ _ _ aR aS) 4 (by decide)) (times_ok aR aS n n2) (wrap_4 aR aS _)) (ref_of (n := n) (n2 := n2) (k := 4) (r := false) (fun ρ => List.map_inj_left.1 (run_R2 _ _ _ aR aS) 4 (by decide)) h1 h2 (fun _ h => by cases h) hd ?_)
    show binI .and .u64 (IntKind.wrap .u64 (b * b2)) 18446744073709551615 = _
    rw [and_u64_64 _ (wrap64_range _).1 (wrap64_range _).2, wrap_u64]
    exact mulM (by decide) (by unfold loI; omega) (by unfold loI; omega)
  · refine ap_of (hp 3 (QD n n2) _ (fun ρ => List.map_inj_left.1 (run_P3 _ _ _ aR aS) 4 (by decide)) (quo_ok aR aS m1 m2).1 (wrap_4 aR aS _)) (ref_of (n := n) (n2 := n2) (k := 4) (r := false) (fun ρ => List.map_inj_left.1 (run_R3 _ _ _ aR aS) 4 (by decide)) h1 h2 (fun _ h => by cases h) hd ?_)
    show binI .and .u64 (QI n n2) 18446744073709551615 = _
    rw [and_u64_64 _ (qi_bnd n n2).1 (qi_bnd n n2).2]
    unfold QI QD loI
    split <;> omega
  · refine ap_of (hp 4 (RD n n2) _ (fun ρ => List.map_inj_left.1 (run_P4 _ _ _ aR aS) 4 (by decide)) (quo_ok aR aS m1 m2).2 (wrap_4 aR aS _)) (ref_of (n := n) (n2 := n2) (k := 4) (r := false) (fun ρ => List.map_inj_left.1 (run_R4 _ _ _ aR aS) 4 (by decide)) h1 h2 (fun _ h => by cases h) hd ?_)
    show binI .and .u64 (RI n n2) 18446744073709551615 = _
    rw [and_u64_64 _ (ri_bnd m2).1 (ri_bnd m2).2]
    rfl
  · have hb := bel_4 hB hA i2 i1
    have P := hp 5 (if n2 < n then n2 else n) _ (fun ρ => List.map_inj_left.1 (run_P5 _ _ _ aR aS) 4 (by decide)) (lesser_ok aR aS s1 s2) (wrap_4 aR aS _)
    by_cases h : n2 < n
    · rw [decide_eq_true h] at hb
      rw [if_pos h] at P
      refine ap_of P (ref_of (n := n) (n2 := n2) (k := 4) (r := true) (fun ρ => List.map_inj_left.1 (run_R5t _ _ _ aR aS) 4 (by decide)) h1 h2 (fun x hx => ?_) hd ?_)
      · obtain rfl := List.mem_singleton.1 hx
        exact sokE (vs := [agV 4 b2, agV 4 b]) (v := .bool true) rfl rfl rfl rfl fun w hG => hb w hG
      · show b2 = _
        omega
    · rw [decide_eq_false h] at hb
      rw [if_neg h] at P
      refine ap_of P (ref_of (n := n) (n2 := n2) (k := 4) (r := false) (fun ρ => List.map_inj_left.1 (run_R5f _ _ _ aR aS) 4 (by decide)) h1 h2 (fun x hx => ?_) hd ?_)
      · obtain rfl := List.mem_singleton.1 hx
        exact sokE (vs := [agV 4 b2, agV 4 b]) (v := .bool false) rfl rfl rfl rfl fun w hG => hb w hG
      · show b = _
        omega
  · have hb := bel_4 hA hB i1 i2
    have P := hp 6 (if n < n2 then n2 else n) _ (fun ρ => List.map_inj_left.1 (run_P6 _ _ _ aR aS) 4 (by decide)) (greater_ok aR aS s1 s2) (wrap_4 aR aS _)
    by_cases h : n < n2
    · rw [decide_eq_true h] at hb
      rw [if_pos h] at P
      refine ap_of P (ref_of (n := n) (n2 := n2) (k := 4) (r := true) (fun ρ => List.map_inj_left.1 (run_R6t _ _ _ aR aS) 4 (by decide)) h1 h2 (fun x hx => ?_) hd ?_)
      · obtain rfl := List.mem_singleton.1 hx
        exact sokE (vs := [agV 4 b, agV 4 b2]) (v := .bool true) rfl rfl rfl rfl fun w hG => hb w hG
      · show b2 = _
        omega
    · rw [decide_eq_false h] at hb
      rw [if_neg h] at P
      refine ap_of P (ref_of (n := n) (n2 := n2) (k := 4) (r := false) (fun ρ => List.map_inj_left.1 (run_R6f _ _ _ aR aS) 4 (by decide)) h1 h2 (fun x hx => ?_) hd ?_)
      · obtain rfl := List.mem_singleton.1 hx
        exact sokE (vs := [agV 4 b, agV 4 b2]) (v := .bool false) rfl rfl rfl rfl fun w hG => hb w hG
      · show b = _
        omega
  · refine ap_of (hp 7 (bitW .and n n2) _ (fun ρ => List.map_inj_left.1 (run_P7 _ _ _ aR aS) 4 (by decide)) (and_ok aR aS n n2) (wrap_4 aR aS _)) (ref_of (n := n) (n2 := n2) (k := 4) (r := false) (fun ρ => List.map_inj_left.1 (run_R7 _ _ _ aR aS) 4 (by decide)) h1 h2 (fun _ h => by cases h) hd ?_)
    show binI .and .u64 (binI .and .u64 b b2) 18446744073709551615 = _
    rw [and_u64_64 _ (binI_u64 .and (by simp) _ _).1 (binI_u64 .and (by simp) _ _).2]
    exact bits_num 64 rfl (by decide) (.inl rfl) a1 a2 c1 c2 (by omega) (by omega)
  · refine ap_of (hp 8 (bitW .or n n2) _ (fun ρ => List.map_inj_left.1 (run_P8 _ _ _ aR aS) 4 (by decide)) (or_ok aR aS n n2) (wrap_4 aR aS _)) (ref_of (n := n) (n2 := n2) (k := 4) (r := false) (fun ρ => List.map_inj_left.1 (run_R8 _ _ _ aR aS) 4 (by decide)) h1 h2 (fun _ h => by cases h) hd ?_)
    show binI .and .u64 (binI .or .u64 b b2) 18446744073709551615 = _
    rw [and_u64_64 _ (binI_u64 .or (by simp) _ _).1 (binI_u64 .or (by simp) _ _).2]
    exact bits_num 64 rfl (by decide) (.inr (.inl rfl)) a1 a2 c1 c2 (by omega) (by omega)
  · refine ap_of (hp 9 (bitW .xor n n2) _ (fun ρ => List.map_inj_left.1 (run_P9 _ _ _ aR aS) 4 (by decide)) (xor_ok aR aS n n2) (wrap_4 aR aS _)) (ref_of (n := n) (n2 := n2) (k := 4) (r := false) (fun ρ => List.map_inj_left.1 (run_R9 _ _ _ aR aS) 4 (by decide)) h1 h2 (fun _ h => by cases h) hd ?_)
    show binI .and .u64 (binI .xor .u64 b b2) 18446744073709551615 = _
    rw [and_u64_64 _ (binI_u64 .xor (by simp) _ _).1 (binI_u64 .xor (by simp) _ _).2]
    exact bits_num 64 rfl (by decide) (.inr (.inr rfl)) a1 a2 c1 c2 (by omega) (by omega)
  · have hs : 0 ≤ n2 → n2 < 64 → b2 = n2 := by omega
    have hs' : n2 < 0 ∨ 64 ≤ n2 → 64 ≤ b2 := by omega
    have e := shl_num (M := 18446744073709551616) (b := b) (n := n) (by decide) (by omega) hs hs'
    have hK := wrap_4 aR aS (shlN n n2)
    rw [e] at hK
    refine ap_of (hp 10 (shlN n n2) _ (fun ρ => List.map_inj_left.1 (run_P10 _ _ _ aR aS) 4 (by decide)) (shl_w aR aS m2) hK) (ref_of (n := n) (n2 := n2) (k := 4) (r := false) (fun ρ => List.map_inj_left.1 (run_R10 _ _ _ aR aS) 4 (by decide)) h1 h2 (fun x hx => ?_) hd rfl)
    obtain rfl := List.mem_singleton.1 hx
    exact sokE (vs := [.int .i64 16, agV 4 b, agV 4 b2]) (v := agV 4 (b * 2 ^ limOf b2 % 18446744073709551616)) rfl rfl rfl rfl fun w hG => sl_4 aR aS c1 a1 (by omega) w hG
  · have hs : 0 ≤ n2 → n2 < 64 → b2 = n2 := by omega
    have hs' : n2 < 0 ∨ 64 ≤ n2 → 64 ≤ b2 := by omega
    have e : shrN n n2 % 18446744073709551616 = b / 2 ^ limOf b2 := by
      rw [shr_num m1 hs hs', Int.emod_eq_of_lt (div_low n (limOf b2) (Int.le_refl 0) (c := 18446744073709551616) (by decide) (by omega) (by omega)).1 (div_low n (limOf b2) (Int.le_refl 0) (c := 18446744073709551616) (by decide) (by omega) (by omega)).2, show n = b by omega]
    have hK := wrap_4 aR aS (shrN n n2)
    rw [e] at hK
    refine ap_of (hp 11 (shrN n n2) _ (fun ρ => List.map_inj_left.1 (run_P11 _ _ _ aR aS) 4 (by decide)) (shr_w aR aS m1 m2) hK) (ref_of (n := n) (n2 := n2) (k := 4) (r := false) (fun ρ => List.map_inj_left.1 (run_R11 _ _ _ aR aS) 4 (by decide)) h1 h2 (fun x hx => ?_) hd rfl)
    obtain rfl := List.mem_singleton.1 hx
    exact sokE (vs := [.int .i64 17, agV 4 b, agV 4 b2]) (v := agV 4 (b / 2 ^ limOf b2)) rfl rfl rfl rfl fun w hG => sr_4 aR aS c1 a1 (by omega) w hG
  · refine ap_of (hp 12 (n + n2) _ (fun ρ => List.map_inj_left.1 (run_P12 _ _ _ aR aS) 4 (by decide)) (plus_ok aR aS n n2) (clamp_4 aR aS (n := n + n2) (by unfold Sm; omega))) (ref_of (n := n) (n2 := n2) (k := 4) (r := false) (fun ρ => List.map_inj_left.1 (run_R12 _ _ _ aR aS) 4 (by decide)) h1 h2 (fun x hx => ?_) hd rfl)
    obtain rfl := List.mem_singleton.1 hx
    exact sokE (vs := [.int .i64 18, agV 4 b, agV 4 b2]) (v := agV 4 ((if n + n2 < 0 then 0 else if 18446744073709551615 < n + n2 then 18446744073709551615 else n + n2) % 18446744073709551616)) rfl rfl rfl rfl fun w hG => held18_4 hA hB i1 i2 w hG
  · refine ap_of (hp 13 (n - n2) _ (fun ρ => List.map_inj_left.1 (run_P13 _ _ _ aR aS) 4 (by decide)) (minus_ok aR aS n n2) (clamp_4 aR aS (n := n - n2) (by unfold Sm; omega))) (ref_of (n := n) (n2 := n2) (k := 4) (r := false) (fun ρ => List.map_inj_left.1 (run_R13 _ _ _ aR aS) 4 (by decide)) h1 h2 (fun x hx => ?_) hd rfl)
    obtain rfl := List.mem_singleton.1 hx
    exact sokE (vs := [.int .i64 19, agV 4 b, agV 4 b2]) (v := agV 4 ((if n - n2 < 0 then 0 else if 18446744073709551615 < n - n2 then 18446744073709551615 else n - n2) % 18446744073709551616)) rfl rfl rfl rfl fun w hG => held19_4 hA hB i1 i2 w hG
  · refine ap_of (hp 14 ((n + n2 + 1) / 2) _ (fun ρ => List.map_inj_left.1 (run_P14 _ _ _ aR aS) 4 (by decide)) (avg_ok aR aS m1 m2) (wrap_4 aR aS _)) (ref_of (n := n) (n2 := n2) (k := 4) (r := false) (fun ρ => List.map_inj_left.1 (run_R14 _ _ _ aR aS) 4 (by decide)) h1 h2 (fun x hx => ?_) hd rfl)
    obtain rfl := List.mem_singleton.1 hx
    exact sokE (vs := [agV 4 b, agV 4 b2]) (v := agV 4 ((n + n2 + 1) / 2 % 18446744073709551616)) rfl rfl rfl rfl fun w hG => avg_4 hA hB i1 i2 w hG
  · have hb := bel_4 hA hB i1 i2
    have P := hp 15 ((if n < n2 then n2 else n) - (if n2 < n then n2 else n)) _ (fun ρ => List.map_inj_left.1 (run_P15 _ _ _ aR aS) 4 (by decide)) (dist_ok aR aS s1 s2) (wrap_4 aR aS _)
    by_cases h : n < n2
    · rw [decide_eq_true h] at hb
      rw [if_pos h, if_neg (show ¬ n2 < n by omega)] at P
      refine ap_of P (ref_of (n := n) (n2 := n2) (k := 4) (r := true) (fun ρ => List.map_inj_left.1 (run_R15t _ _ _ aR aS) 4 (by decide)) h1 h2 (fun x hx => ?_) hd ?_)
      · obtain rfl := List.mem_singleton.1 hx
        exact sokE (vs := [agV 4 b, agV 4 b2]) (v := .bool true) rfl rfl rfl rfl fun w hG => hb w hG
      · show binI .and .u64 (IntKind.wrap .u64 (b2 - b)) 18446744073709551615 = _
        rw [and_u64_64 _ (wrap64_range _).1 (wrap64_range _).2, wrap_u64]
        omega
    · rw [decide_eq_false h] at hb
      rw [if_neg h] at P
      have e : (if n2 < n then n2 else n) = n2 := by split <;> omega
      rw [e] at P
      refine ap_of P (ref_of (n := n) (n2 := n2) (k := 4) (r := false) (fun ρ => List.map_inj_left.1 (run_R15f _ _ _ aR aS) 4 (by decide)) h1 h2 (fun x hx => ?_) hd ?_)
      · obtain rfl := List.mem_singleton.1 hx
        exact sokE (vs := [agV 4 b, agV 4 b2]) (v := .bool false) rfl rfl rfl rfl fun w hG => hb w hG
      · show binI .and .u64 (IntKind.wrap .u64 (b - b2)) 18446744073709551615 = _
        rw [and_u64_64 _ (wrap64_range _).1 (wrap64_range _).2, wrap_u64]
        omega
  · exact (eq_of (k := 4) (by decide) h1 h2).1
  · exact (eq_of (k := 4) (by decide) h1 h2).2
  · exact (less_of (k := 4) (by decide) m1 m2 h1 h2 i1 i2 (bel_4 hA hB i1 i2) (bel_4 hB hA i2 i1)).1
  · exact (less_of (k := 4) (by decide) m1 m2 h1 h2 i1 i2 (bel_4 hA hB i1 i2) (bel_4 hB hA i2 i1)).2
end
end Go.Proofs.YtonkcpmefnddaaaGreatDoor

namespace Go.Proofs.YtonkcpmefnddaaaGreatDoor
noncomputable section
open Go Go.RX
open Go.RowKit (Below)
set_option maxRecDepth 1000000
set_option maxHeartbeats 4000000
theorem ints_5 {aR aS : Addr} {b n b2 n2 : Int} (hA : HN 5 b n) (hB : HN 5 b2 n2) (h1 : Chk aR aS 5 b 0) (h2 : Chk aR aS 5 b2 0) (i1 : IntV aR aS 5 b n) (i2 : IntV aR aS 5 b2 n2) (o : Nat) (ho : o < 20) : ApV aR aS ((o + 6 : Nat) : Int) 5 b 5 b2 := by
  obtain ⟨a1, a2, a3, a4, a5⟩ := id hA
  obtain ⟨c1, c2, c3, c4, c5⟩ := id hB
  have m1 : Am n := by unfold Am; omega
  have m2 : Am n2 := by unfold Am; omega
  have s1 : Sm n := by unfold Sm; omega
  have s2 : Sm n2 := by unfold Sm; omega
  have hd := div_5 hA hB i1 i2
  have hp := fun (o : Nat) (N B : Int) (h : ∀ ρ, runP (wF 0) (cF 0) ρ aR aS o 5 = some (jP o 5).2.2) (hE : WFun aR aS (fE o) n n2 (Wd N)) (hK : KFun aR aS (fK o) (kOf o 5) N B) => prog_of (k := 5) h m1 m2 h1 h2 i1 i2 hE hK
  rcases (show o = 0 ∨ o = 1 ∨ o = 2 ∨ o = 3 ∨ o = 4 ∨ o = 5 ∨ o = 6 ∨ o = 7 ∨ o = 8 ∨ o = 9 ∨ o = 10 ∨ o = 11 ∨ o = 12 ∨ o = 13 ∨ o = 14 ∨ o = 15 ∨ o = 16 ∨ o = 17 ∨ o = 18 ∨ o = 19 by omega) with rfl | rfl | rfl | rfl | rfl | rfl | rfl | rfl | rfl | rfl | rfl | rfl | rfl | rfl | rfl | rfl | rfl | rfl | rfl | rfl
  · refine ap_of (hp 0 (n + n2) _ (fun ρ => List.map_inj_left.1 (run_P0 _ _ _ aR aS) 5 (by decide)) (plus_ok aR aS n n2) (wrap_5 aR aS _)) (ref_of (n := n) (n2 := n2) (k := 5) (r := false) (fun ρ => List.map_inj_left.1 (run_R0 _ _ _ aR aS) 5 (by decide)) h1 h2 (fun _ h => by cases h) hd ?_)
    show binI .and .u64 (IntKind.wrap .u64 (b + b2)) 255 = _
    rw [and_u64_8 _ (wrap64_range _).1 (wrap64_range _).2, wrap_u64]
    omega
  · refine ap_of (hp 1 (n - n2) _ (fun ρ => List.map_inj_left.1 (run_P1 _ _ _ aR aS) 5 (by decide)) (minus_ok aR aS n n2) (wrap_5 aR aS _)) (ref_of (n := n) (n2 := n2) (k := 5) (r := false) (fun ρ => List.map_inj_left.1 (run_R1 _ _ _ aR aS) 5 (by decide)) h1 h2 (fun _ h => by cases h) hd ?_)
    show binI .and .u64 (IntKind.wrap .u64 (b - b2)) 255 = _
    rw [and_u64_8 _ (wrap64_range _).1 (wrap64_range _).2, wrap_u64]
    omega
  · refine ap_of (hp 2 (loI (loI n * loI n2)) _ (fun ρ => List.map_inj_left.1 (run_P2 _ _ _ aR aS) 5 (by decide)) (times_ok aR aS n n2) (wrap_5 aR aS _)) (ref_of (n := n) (n2 := n2) (k := 5) (r := false) (fun ρ => List.map_inj_left.1 (run_R2 _ _ _ aR aS) 5 (by decide)) h1 h2 (fun _ h => by cases h) hd ?_)
    show binI .and .u64 (IntKind.wrap .u64 (b * b2)) 255 = _
    rw [and_u64_8 _ (wrap64_range _).1 (wrap64_range _).2, wrap_u64]
    exact mulM (by decide) (by unfold loI; omega) (by unfold loI; omega)
  · refine ap_of (hp 3 (QD n n2) _ (fun ρ => List.map_inj_left.1 (run_P3 _ _ _ aR aS) 5 (by decide)) (quo_ok aR aS m1 m2).1 (wrap_5 aR aS _)) (ref_of (n := n) (n2 := n2) (k := 5) (r := false) (fun ρ => List.map_inj_left.1 (run_R3 _ _ _ aR aS) 5 (by decide)) h1 h2 (fun _ h => by cases h) hd ?_)
    show binI .and .u64 (QI n n2) 255 = _
    rw [and_u64_8 _ (qi_bnd n n2).1 (qi_bnd n n2).2]
    unfold QI QD loI
    split <;> omega
  · refine ap_of (hp 4 (RD n n2) _ (fun ρ => List.map_inj_left.1 (run_P4 _ _ _ aR aS) 5 (by decide)) (quo_ok aR aS m1 m2).2 (wrap_5 aR aS _)) (ref_of (n := n) (n2 := n2) (k := 5) (r := false) (fun ρ => List.map_inj_left.1 (run_R4 _ _ _ aR aS) 5 (by decide)) h1 h2 (fun _ h => by cases h) hd ?_)
    show binI .and .u64 (RI n n2) 255 = _
    rw [and_u64_8 _ (ri_bnd m2).1 (ri_bnd m2).2]
    rfl
  · have hb := bel_5 hB hA i2 i1
    have P := hp 5 (if n2 < n then n2 else n) _ (fun ρ => List.map_inj_left.1 (run_P5 _ _ _ aR aS) 5 (by decide)) (lesser_ok aR aS s1 s2) (wrap_5 aR aS _)
    by_cases h : n2 < n
    · rw [decide_eq_true h] at hb
      rw [if_pos h] at P
      refine ap_of P (ref_of (n := n) (n2 := n2) (k := 5) (r := true) (fun ρ => List.map_inj_left.1 (run_R5t _ _ _ aR aS) 5 (by decide)) h1 h2 (fun x hx => ?_) hd ?_)
      · obtain rfl := List.mem_singleton.1 hx
        exact sokE (vs := [agV 5 b2, agV 5 b]) (v := .bool true) rfl rfl rfl rfl fun w hG => hb w hG
      · show b2 = _
        omega
    · rw [decide_eq_false h] at hb
      rw [if_neg h] at P
      refine ap_of P (ref_of (n := n) (n2 := n2) (k := 5) (r := false) (fun ρ => List.map_inj_left.1 (run_R5f _ _ _ aR aS) 5 (by decide)) h1 h2 (fun x hx => ?_) hd ?_)
      · obtain rfl := List.mem_singleton.1 hx
        exact sokE (vs := [agV 5 b2, agV 5 b]) (v := .bool false) rfl rfl rfl rfl fun w hG => hb w hG
      · show b = _
        omega
  · have hb := bel_5 hA hB i1 i2
    have P := hp 6 (if n < n2 then n2 else n) _ (fun ρ => List.map_inj_left.1 (run_P6 _ _ _ aR aS) 5 (by decide)) (greater_ok aR aS s1 s2) (wrap_5 aR aS _)
    by_cases h : n < n2
    · rw [decide_eq_true h] at hb
      rw [if_pos h] at P
      refine ap_of P (ref_of (n := n) (n2 := n2) (k := 5) (r := true) (fun ρ => List.map_inj_left.1 (run_R6t _ _ _ aR aS) 5 (by decide)) h1 h2 (fun x hx => ?_) hd ?_)
      · obtain rfl := List.mem_singleton.1 hx
        exact sokE (vs := [agV 5 b, agV 5 b2]) (v := .bool true) rfl rfl rfl rfl fun w hG => hb w hG
      · show b2 = _
        omega
    · rw [decide_eq_false h] at hb
      rw [if_neg h] at P
      refine ap_of P (ref_of (n := n) (n2 := n2) (k := 5) (r := false) (fun ρ => List.map_inj_left.1 (run_R6f _ _ _ aR aS) 5 (by decide)) h1 h2 (fun x hx => ?_) hd ?_)
      · obtain rfl := List.mem_singleton.1 hx
        exact sokE (vs := [agV 5 b, agV 5 b2]) (v := .bool false) rfl rfl rfl rfl fun w hG => hb w hG
      · show b = _
        omega
  · refine ap_of (hp 7 (bitW .and n n2) _ (fun ρ => List.map_inj_left.1 (run_P7 _ _ _ aR aS) 5 (by decide)) (and_ok aR aS n n2) (wrap_5 aR aS _)) (ref_of (n := n) (n2 := n2) (k := 5) (r := false) (fun ρ => List.map_inj_left.1 (run_R7 _ _ _ aR aS) 5 (by decide)) h1 h2 (fun _ h => by cases h) hd ?_)
    show binI .and .u64 (binI .and .u64 b b2) 255 = _
    rw [and_u64_8 _ (binI_u64 .and (by simp) _ _).1 (binI_u64 .and (by simp) _ _).2]
    exact bits_num 8 rfl (by decide) (.inl rfl) a1 a2 c1 c2 (by omega) (by omega)
  · refine ap_of (hp 8 (bitW .or n n2) _ (fun ρ => List.map_inj_left.1 (run_P8 _ _ _ aR aS) 5 (by decide)) (or_ok aR aS n n2) (wrap_5 aR aS _)) (ref_of (n := n) (n2 := n2) (k := 5) (r := false) (fun ρ => List.map_inj_left.1 (run_R8 _ _ _ aR aS) 5 (by decide)) h1 h2 (fun _ h => by cases h) hd ?_)
    show binI .and .u64 (binI .or .u64 b b2) 255 = _
    rw [and_u64_8 _ (binI_u64 .or (by simp) _ _).1 (binI_u64 .or (by simp) _ _).2]
    exact bits_num 8 rfl (by decide) (.inr (.inl rfl)) a1 a2 c1 c2 (by omega) (by omega)
  · refine ap_of (hp 9 (bitW .xor n n2) _ (fun ρ => List.map_inj_left.1 (run_P9 _ _ _ aR aS) 5 (by decide)) (xor_ok aR aS n n2) (wrap_5 aR aS _)) (ref_of (n := n) (n2 := n2) (k := 5) (r := false) (fun ρ => List.map_inj_left.1 (run_R9 _ _ _ aR aS) 5 (by decide)) h1 h2 (fun _ h => by cases h) hd ?_)
    show binI .and .u64 (binI .xor .u64 b b2) 255 = _
    rw [and_u64_8 _ (binI_u64 .xor (by simp) _ _).1 (binI_u64 .xor (by simp) _ _).2]
    exact bits_num 8 rfl (by decide) (.inr (.inr rfl)) a1 a2 c1 c2 (by omega) (by omega)
  · have hs : 0 ≤ n2 → n2 < 64 → b2 = n2 := by omega
    have hs' : n2 < 0 ∨ 64 ≤ n2 → 64 ≤ b2 := by omega
    have e := shl_num (M := 256) (b := b) (n := n) (by decide) (by omega) hs hs'
    have hK := wrap_5 aR aS (shlN n n2)
    rw [e] at hK
    refine ap_of (hp 10 (shlN n n2) _ (fun ρ => List.map_inj_left.1 (run_P10 _ _ _ aR aS) 5 (by decide)) (shl_w aR aS m2) hK) (ref_of (n := n) (n2 := n2) (k := 5) (r := false) (fun ρ => List.map_inj_left.1 (run_R10 _ _ _ aR aS) 5 (by decide)) h1 h2 (fun x hx => ?_) hd rfl)
    obtain rfl := List.mem_singleton.1 hx
    exact sokE (vs := [.int .i64 16, agV 5 b, agV 5 b2]) (v := agV 5 (b * 2 ^ limOf b2 % 256)) rfl rfl rfl rfl fun w hG => sl_5 aR aS c1 a1 (by omega) w hG
  · have hs : 0 ≤ n2 → n2 < 64 → b2 = n2 := by omega
    have hs' : n2 < 0 ∨ 64 ≤ n2 → 64 ≤ b2 := by omega
    have e : shrN n n2 % 256 = n / 2 ^ limOf b2 % 256 := by
      rw [shr_num m1 hs hs']
    have hK := wrap_5 aR aS (shrN n n2)
    rw [e] at hK
    refine ap_of (hp 11 (shrN n n2) _ (fun ρ => List.map_inj_left.1 (run_P11 _ _ _ aR aS) 5 (by decide)) (shr_w aR aS m1 m2) hK) (ref_of (n := n) (n2 := n2) (k := 5) (r := false) (fun ρ => List.map_inj_left.1 (run_R11 _ _ _ aR aS) 5 (by decide)) h1 h2 (fun x hx => ?_) hd rfl)
    obtain rfl := List.mem_singleton.1 hx
    exact sokE (vs := [.int .i64 17, agV 5 b, agV 5 b2]) (v := agV 5 (n / 2 ^ limOf b2 % 256)) rfl rfl rfl rfl fun w hG => sr_5 aR aS c1 a3 (by omega) (by omega) w hG
  · refine ap_of (hp 12 (n + n2) _ (fun ρ => List.map_inj_left.1 (run_P12 _ _ _ aR aS) 5 (by decide)) (plus_ok aR aS n n2) (clamp_5 aR aS (n := n + n2) (by unfold Sm; omega))) (ref_of (n := n) (n2 := n2) (k := 5) (r := false) (fun ρ => List.map_inj_left.1 (run_R12 _ _ _ aR aS) 5 (by decide)) h1 h2 (fun x hx => ?_) hd rfl)
    obtain rfl := List.mem_singleton.1 hx
    exact sokE (vs := [.int .i64 18, agV 5 b, agV 5 b2]) (v := agV 5 ((if n + n2 < (-128) then (-128) else if 127 < n + n2 then 127 else n + n2) % 256)) rfl rfl rfl rfl fun w hG => held18_5 hA hB i1 i2 w hG
  · refine ap_of (hp 13 (n - n2) _ (fun ρ => List.map_inj_left.1 (run_P13 _ _ _ aR aS) 5 (by decide)) (minus_ok aR aS n n2) (clamp_5 aR aS (n := n - n2) (by unfold Sm; omega))) (ref_of (n := n) (n2 := n2) (k := 5) (r := false) (fun ρ => List.map_inj_left.1 (run_R13 _ _ _ aR aS) 5 (by decide)) h1 h2 (fun x hx => ?_) hd rfl)
    obtain rfl := List.mem_singleton.1 hx
    exact sokE (vs := [.int .i64 19, agV 5 b, agV 5 b2]) (v := agV 5 ((if n - n2 < (-128) then (-128) else if 127 < n - n2 then 127 else n - n2) % 256)) rfl rfl rfl rfl fun w hG => held19_5 hA hB i1 i2 w hG
  · refine ap_of (hp 14 ((n + n2 + 1) / 2) _ (fun ρ => List.map_inj_left.1 (run_P14 _ _ _ aR aS) 5 (by decide)) (avg_ok aR aS m1 m2) (wrap_5 aR aS _)) (ref_of (n := n) (n2 := n2) (k := 5) (r := false) (fun ρ => List.map_inj_left.1 (run_R14 _ _ _ aR aS) 5 (by decide)) h1 h2 (fun x hx => ?_) hd rfl)
    obtain rfl := List.mem_singleton.1 hx
    exact sokE (vs := [agV 5 b, agV 5 b2]) (v := agV 5 ((n + n2 + 1) / 2 % 256)) rfl rfl rfl rfl fun w hG => avg_5 hA hB i1 i2 w hG
  · have hb := bel_5 hA hB i1 i2
    have P := hp 15 ((if n < n2 then n2 else n) - (if n2 < n then n2 else n)) _ (fun ρ => List.map_inj_left.1 (run_P15 _ _ _ aR aS) 5 (by decide)) (dist_ok aR aS s1 s2) (wrap_1 aR aS _)
    by_cases h : n < n2
    · rw [decide_eq_true h] at hb
      rw [if_pos h, if_neg (show ¬ n2 < n by omega)] at P
      refine ap_of P (ref_of (n := n) (n2 := n2) (k := 5) (r := true) (fun ρ => List.map_inj_left.1 (run_R15t _ _ _ aR aS) 5 (by decide)) h1 h2 (fun x hx => ?_) hd ?_)
      · obtain rfl := List.mem_singleton.1 hx
        exact sokE (vs := [agV 5 b, agV 5 b2]) (v := .bool true) rfl rfl rfl rfl fun w hG => hb w hG
      · show binI .and .u64 (IntKind.wrap .u64 (b2 - b)) 255 = _
        rw [and_u64_8 _ (wrap64_range _).1 (wrap64_range _).2, wrap_u64]
        omega
    · rw [decide_eq_false h] at hb
      rw [if_neg h] at P
      have e : (if n2 < n then n2 else n) = n2 := by split <;> omega
      rw [e] at P
      refine ap_of P (ref_of (n := n) (n2 := n2) (k := 5) (r := false) (fun ρ => List.map_inj_left.1 (run_R15f _ _ _ aR aS) 5 (by decide)) h1 h2 (fun x hx => ?_) hd ?_)
      · obtain rfl := List.mem_singleton.1 hx
        exact sokE (vs := [agV 5 b, agV 5 b2]) (v := .bool false) rfl rfl rfl rfl fun w hG => hb w hG
      · show binI .and .u64 (IntKind.wrap .u64 (b - b2)) 255 = _
        rw [and_u64_8 _ (wrap64_range _).1 (wrap64_range _).2, wrap_u64]
        omega
  · exact (eq_of (k := 5) (by decide) h1 h2).1
  · exact (eq_of (k := 5) (by decide) h1 h2).2
  · exact (less_of (k := 5) (by decide) m1 m2 h1 h2 i1 i2 (bel_5 hA hB i1 i2) (bel_5 hB hA i2 i1)).1
  · exact (less_of (k := 5) (by decide) m1 m2 h1 h2 i1 i2 (bel_5 hA hB i1 i2) (bel_5 hB hA i2 i1)).2
theorem ints_6 {aR aS : Addr} {b n b2 n2 : Int} (hA : HN 6 b n) (hB : HN 6 b2 n2) (h1 : Chk aR aS 6 b 0) (h2 : Chk aR aS 6 b2 0) (i1 : IntV aR aS 6 b n) (i2 : IntV aR aS 6 b2 n2) (o : Nat) (ho : o < 20) : ApV aR aS ((o + 6 : Nat) : Int) 6 b 6 b2 := by
  obtain ⟨a1, a2, a3, a4, a5⟩ := id hA
  obtain ⟨c1, c2, c3, c4, c5⟩ := id hB
  have m1 : Am n := by unfold Am; omega
  have m2 : Am n2 := by unfold Am; omega
  have s1 : Sm n := by unfold Sm; omega
  have s2 : Sm n2 := by unfold Sm; omega
  have hd := div_6 hA hB i1 i2
  have hp := fun (o : Nat) (N B : Int) (h : ∀ ρ, runP (wF 0) (cF 0) ρ aR aS o 6 = some (jP o 6).2.2) (hE : WFun aR aS (fE o) n n2 (Wd N)) (hK : KFun aR aS (fK o) (kOf o 6) N B) => prog_of (k := 6) h m1 m2 h1 h2 i1 i2 hE hK
  rcases (show o = 0 ∨ o = 1 ∨ o = 2 ∨ o = 3 ∨ o = 4 ∨ o = 5 ∨ o = 6 ∨ o = 7 ∨ o = 8 ∨ o = 9 ∨ o = 10 ∨ o = 11 ∨ o = 12 ∨ o = 13 ∨ o = 14 ∨ o = 15 ∨ o = 16 ∨ o = 17 ∨ o = 18 ∨ o = 19 by omega) with rfl | rfl | rfl | rfl | rfl | rfl | rfl | rfl | rfl | rfl | rfl | rfl | rfl | rfl | rfl | rfl | rfl | rfl | rfl | rfl
  · refine ap_of (hp 0 (n + n2) _ (fun ρ => List.map_inj_left.1 (run_P0 _ _ _ aR aS) 6 (by decide)) (plus_ok aR aS n n2) (wrap_6 aR aS _)) (ref_of (n := n) (n2 := n2) (k := 6) (r := false) (fun ρ => List.map_inj_left.1 (run_R0 _ _ _ aR aS) 6 (by decide)) h1 h2 (fun _ h => by cases h) hd ?_)
    show binI .and .u64 (IntKind.wrap .u64 (b + b2)) 65535 = _
    rw [and_u64_16 _ (wrap64_range _).1 (wrap64_range _).2, wrap_u64]
    omega
  · refine ap_of (hp 1 (n - n2) _ (fun ρ => List.map_inj_left.1 (run_P1 _ _ _ aR aS) 6 (by decide)) (minus_ok aR aS n n2) (wrap_6 aR aS _)) (ref_of (n := n) (n2 := n2) (k := 6) (r := false) (fun ρ => List.map_inj_left.1 (run_R1 _ _ _ aR aS) 6 (by decide)) h1 h2 (fun _ h => by cases h) hd ?_)
    show binI .and .u64 (IntKind.wrap .u64 (b - b2)) 65535 = _
    rw [and_u64_16 _ (wrap64_range _).1 (wrap64_range _).2, wrap_u64]
    omega
  · refine ap_of (hp 2 (loI (loI n * loI n2)) _ (fun ρ => List.map_inj_left.1 (run_P2 _ _ _ aR aS) 6 (by decide)) (times_ok aR aS n n2) (wrap_6 aR aS _)) (ref_of (n := n) (n2 := n2) (k := 6) (r := false) (fun ρ => List.map_inj_left.1 (run_R2 _ _ _ aR aS) 6 (by decide)) h1 h2 (fun _ h => by cases h) hd ?_)
    show binI .and .u64 (IntKind.wrap .u64 (b * b2)) 65535 = _
    rw [and_u64_16 _ (wrap64_range _).1 (wrap64_range _).2, wrap_u64]
    exact mulM (by decide) (by unfold loI; omega) (by unfold loI; omega)
  · refine ap_of (hp 3 (QD n n2) _ (fun ρ => List.map_inj_left.1 (run_P3 _ _ _ aR aS) 6 (by decide)) (quo_ok aR aS m1 m2).1 (wrap_6 aR aS _)) (ref_of (n := n) (n2 := n2) (k := 6) (r := false) (fun ρ => List.map_inj_left.1 (run_R3 _ _ _ aR aS) 6 (by decide)) h1 h2 (fun _ h => by cases h) hd ?_)
    show binI .and .u64 (QI n n2) 65535 = _
    rw [and_u64_16 _ (qi_bnd n n2).1 (qi_bnd n n2).2]
    unfold QI QD loI
    split <;> omega
  · refine ap_of (hp 4 (RD n n2) _ (fun ρ => List.map_inj_left.1 (run_P4 _ _ _ aR aS) 6 (by decide)) (quo_ok aR aS m1 m2).2 (wrap_6 aR aS _)) (ref_of (n := n) (n2 := n2) (k := 6) (r := false) (fun ρ => List.map_inj_left.1 (run_R4 _ _ _ aR aS) 6 (by decide)) h1 h2 (fun _ h => by cases h) hd ?_)
    show binI .and .u64 (RI n n2) 65535 = _
    rw [and_u64_16 _ (ri_bnd m2).1 (ri_bnd m2).2]
    rfl
  · have hb := bel_6 hB hA i2 i1
    have P := hp 5 (if n2 < n then n2 else n) _ (fun ρ => List.map_inj_left.1 (run_P5 _ _ _ aR aS) 6 (by decide)) (lesser_ok aR aS s1 s2) (wrap_6 aR aS _)
    by_cases h : n2 < n
    · rw [decide_eq_true h] at hb
      rw [if_pos h] at P
      refine ap_of P (ref_of (n := n) (n2 := n2) (k := 6) (r := true) (fun ρ => List.map_inj_left.1 (run_R5t _ _ _ aR aS) 6 (by decide)) h1 h2 (fun x hx => ?_) hd ?_)
      · obtain rfl := List.mem_singleton.1 hx
        exact sokE (vs := [agV 6 b2, agV 6 b]) (v := .bool true) rfl rfl rfl rfl fun w hG => hb w hG
      · show b2 = _
        omega
    · rw [decide_eq_false h] at hb
      rw [if_neg h] at P
      refine ap_of P (ref_of (n := n) (n2 := n2) (k := 6) (r := false) (fun ρ => List.map_inj_left.1 (run_R5f _ _ _ aR aS) 6 (by decide)) h1 h2 (fun x hx => ?_) hd ?_)
      · obtain rfl := List.mem_singleton.1 hx
        exact sokE (vs := [agV 6 b2, agV 6 b]) (v := .bool false) rfl rfl rfl rfl fun w hG => hb w hG
      · show b = _
        omega
  · have hb := bel_6 hA hB i1 i2
    have P := hp 6 (if n < n2 then n2 else n) _ (fun ρ => List.map_inj_left.1 (run_P6 _ _ _ aR aS) 6 (by decide)) (greater_ok aR aS s1 s2) (wrap_6 aR aS _)
    by_cases h : n < n2
    · rw [decide_eq_true h] at hb
      rw [if_pos h] at P
      refine ap_of P (ref_of (n := n) (n2 := n2) (k := 6) (r := true) (fun ρ => List.map_inj_left.1 (run_R6t _ _ _ aR aS) 6 (by decide)) h1 h2 (fun x hx => ?_) hd ?_)
      · obtain rfl := List.mem_singleton.1 hx
        exact sokE (vs := [agV 6 b, agV 6 b2]) (v := .bool true) rfl rfl rfl rfl fun w hG => hb w hG
      · show b2 = _
        omega
    · rw [decide_eq_false h] at hb
      rw [if_neg h] at P
      refine ap_of P (ref_of (n := n) (n2 := n2) (k := 6) (r := false) (fun ρ => List.map_inj_left.1 (run_R6f _ _ _ aR aS) 6 (by decide)) h1 h2 (fun x hx => ?_) hd ?_)
      · obtain rfl := List.mem_singleton.1 hx
        exact sokE (vs := [agV 6 b, agV 6 b2]) (v := .bool false) rfl rfl rfl rfl fun w hG => hb w hG
      · show b = _
        omega
  · refine ap_of (hp 7 (bitW .and n n2) _ (fun ρ => List.map_inj_left.1 (run_P7 _ _ _ aR aS) 6 (by decide)) (and_ok aR aS n n2) (wrap_6 aR aS _)) (ref_of (n := n) (n2 := n2) (k := 6) (r := false) (fun ρ => List.map_inj_left.1 (run_R7 _ _ _ aR aS) 6 (by decide)) h1 h2 (fun _ h => by cases h) hd ?_)
    show binI .and .u64 (binI .and .u64 b b2) 65535 = _
    rw [and_u64_16 _ (binI_u64 .and (by simp) _ _).1 (binI_u64 .and (by simp) _ _).2]
    exact bits_num 16 rfl (by decide) (.inl rfl) a1 a2 c1 c2 (by omega) (by omega)
  · refine ap_of (hp 8 (bitW .or n n2) _ (fun ρ => List.map_inj_left.1 (run_P8 _ _ _ aR aS) 6 (by decide)) (or_ok aR aS n n2) (wrap_6 aR aS _)) (ref_of (n := n) (n2 := n2) (k := 6) (r := false) (fun ρ => List.map_inj_left.1 (run_R8 _ _ _ aR aS) 6 (by decide)) h1 h2 (fun _ h => by cases h) hd ?_)
    show binI .and .u64 (binI .or .u64 b b2) 65535 = _
    rw [and_u64_16 _ (binI_u64 .or (by simp) _ _).1 (binI_u64 .or (by simp) _ _).2]
    exact bits_num 16 rfl (by decide) (.inr (.inl rfl)) a1 a2 c1 c2 (by omega) (by omega)
  · refine ap_of (hp 9 (bitW .xor n n2) _ (fun ρ => List.map_inj_left.1 (run_P9 _ _ _ aR aS) 6 (by decide)) (xor_ok aR aS n n2) (wrap_6 aR aS _)) (ref_of (n := n) (n2 := n2) (k := 6) (r := false) (fun ρ => List.map_inj_left.1 (run_R9 _ _ _ aR aS) 6 (by decide)) h1 h2 (fun _ h => by cases h) hd ?_)
    show binI .and .u64 (binI .xor .u64 b b2) 65535 = _
    rw [and_u64_16 _ (binI_u64 .xor (by simp) _ _).1 (binI_u64 .xor (by simp) _ _).2]
    exact bits_num 16 rfl (by decide) (.inr (.inr rfl)) a1 a2 c1 c2 (by omega) (by omega)
  · have hs : 0 ≤ n2 → n2 < 64 → b2 = n2 := by omega
    have hs' : n2 < 0 ∨ 64 ≤ n2 → 64 ≤ b2 := by omega
    have e := shl_num (M := 65536) (b := b) (n := n) (by decide) (by omega) hs hs'
    have hK := wrap_6 aR aS (shlN n n2)
    rw [e] at hK
    refine ap_of (hp 10 (shlN n n2) _ (fun ρ => List.map_inj_left.1 (run_P10 _ _ _ aR aS) 6 (by decide)) (shl_w aR aS m2) hK) (ref_of (n := n) (n2 := n2) (k := 6) (r := false) (fun ρ => List.map_inj_left.1 (run_R10 _ _ _ aR aS) 6 (by decide)) h1 h2 (fun x hx => ?_) hd rfl)
    obtain rfl := List.mem_singleton.1 hx
    exact sokE (vs := [.int .i64 16, agV 6 b, agV 6 b2]) (v := agV 6 (b * 2 ^ limOf b2 % 65536)) rfl rfl rfl rfl fun w hG => sl_6 aR aS c1 a1 (by omega) w hG
  · have hs : 0 ≤ n2 → n2 < 64 → b2 = n2 := by omega
    have hs' : n2 < 0 ∨ 64 ≤ n2 → 64 ≤ b2 := by omega
    have e : shrN n n2 % 65536 = n / 2 ^ limOf b2 % 65536 := by
      rw [shr_num m1 hs hs']
    have hK := wrap_6 aR aS (shrN n n2)
    rw [e] at hK
    refine ap_of (hp 11 (shrN n n2) _ (fun ρ => List.map_inj_left.1 (run_P11 _ _ _ aR aS) 6 (by decide)) (shr_w aR aS m1 m2) hK) (ref_of (n := n) (n2 := n2) (k := 6) (r := false) (fun ρ => List.map_inj_left.1 (run_R11 _ _ _ aR aS) 6 (by decide)) h1 h2 (fun x hx => ?_) hd rfl)
    obtain rfl := List.mem_singleton.1 hx
    exact sokE (vs := [.int .i64 17, agV 6 b, agV 6 b2]) (v := agV 6 (n / 2 ^ limOf b2 % 65536)) rfl rfl rfl rfl fun w hG => sr_6 aR aS c1 a3 (by omega) (by omega) w hG
  · refine ap_of (hp 12 (n + n2) _ (fun ρ => List.map_inj_left.1 (run_P12 _ _ _ aR aS) 6 (by decide)) (plus_ok aR aS n n2) (clamp_6 aR aS (n := n + n2) (by unfold Sm; omega))) (ref_of (n := n) (n2 := n2) (k := 6) (r := false) (fun ρ => List.map_inj_left.1 (run_R12 _ _ _ aR aS) 6 (by decide)) h1 h2 (fun x hx => ?_) hd rfl)
    obtain rfl := List.mem_singleton.1 hx
    exact sokE (vs := [.int .i64 18, agV 6 b, agV 6 b2]) (v := agV 6 ((if n + n2 < (-32768) then (-32768) else if 32767 < n + n2 then 32767 else n + n2) % 65536)) rfl rfl rfl rfl fun w hG => held18_6 hA hB i1 i2 w hG
  · refine ap_of (hp 13 (n - n2) _ (fun ρ => List.map_inj_left.1 (run_P13 _ _ _ aR aS) 6 (by decide)) (minus_ok aR aS n n2) (clamp_6 aR aS (n := n - n2) (by unfold Sm; omega))) (ref_of (n := n) (n2 := n2) (k := 6) (r := false) (fun ρ => List.map_inj_left.1 (run_R13 _ _ _ aR aS) 6 (by decide)) h1 h2 (fun x hx => ?_) hd rfl)
    obtain rfl := List.mem_singleton.1 hx
    exact sokE (vs := [.int .i64 19, agV 6 b, agV 6 b2]) (v := agV 6 ((if n - n2 < (-32768) then (-32768) else if 32767 < n - n2 then 32767 else n - n2) % 65536)) rfl rfl rfl rfl fun w hG => held19_6 hA hB i1 i2 w hG
  · refine ap_of (hp 14 ((n + n2 + 1) / 2) _ (fun ρ => List.map_inj_left.1 (run_P14 _ _ _ aR aS) 6 (by decide)) (avg_ok aR aS m1 m2) (wrap_6 aR aS _)) (ref_of (n := n) (n2 := n2) (k := 6) (r := false) (fun ρ => List.map_inj_left.1 (run_R14 _ _ _ aR aS) 6 (by decide)) h1 h2 (fun x hx => ?_) hd rfl)
    obtain rfl := List.mem_singleton.1 hx
    exact sokE (vs := [agV 6 b, agV 6 b2]) (v := agV 6 ((n + n2 + 1) / 2 % 65536)) rfl rfl rfl rfl fun w hG => avg_6 hA hB i1 i2 w hG
  · have hb := bel_6 hA hB i1 i2
    have P := hp 15 ((if n < n2 then n2 else n) - (if n2 < n then n2 else n)) _ (fun ρ => List.map_inj_left.1 (run_P15 _ _ _ aR aS) 6 (by decide)) (dist_ok aR aS s1 s2) (wrap_2 aR aS _)
    by_cases h : n < n2
    · rw [decide_eq_true h] at hb
      rw [if_pos h, if_neg (show ¬ n2 < n by omega)] at P
      refine ap_of P (ref_of (n := n) (n2 := n2) (k := 6) (r := true) (fun ρ => List.map_inj_left.1 (run_R15t _ _ _ aR aS) 6 (by decide)) h1 h2 (fun x hx => ?_) hd ?_)
      · obtain rfl := List.mem_singleton.1 hx
        exact sokE (vs := [agV 6 b, agV 6 b2]) (v := .bool true) rfl rfl rfl rfl fun w hG => hb w hG
      · show binI .and .u64 (IntKind.wrap .u64 (b2 - b)) 65535 = _
        rw [and_u64_16 _ (wrap64_range _).1 (wrap64_range _).2, wrap_u64]
        omega
    · rw [decide_eq_false h] at hb
      rw [if_neg h] at P
      have e : (if n2 < n then n2 else n) = n2 := by split <;> omega
      rw [e] at P
      refine ap_of P (ref_of (n := n) (n2 := n2) (k := 6) (r := false) (fun ρ => List.map_inj_left.1 (run_R15f _ _ _ aR aS) 6 (by decide)) h1 h2 (fun x hx => ?_) hd ?_)
      · obtain rfl := List.mem_singleton.1 hx
        exact sokE (vs := [agV 6 b, agV 6 b2]) (v := .bool false) rfl rfl rfl rfl fun w hG => hb w hG
      · show binI .and .u64 (IntKind.wrap .u64 (b - b2)) 65535 = _
        rw [and_u64_16 _ (wrap64_range _).1 (wrap64_range _).2, wrap_u64]
        omega
  · exact (eq_of (k := 6) (by decide) h1 h2).1
  · exact (eq_of (k := 6) (by decide) h1 h2).2
  · exact (less_of (k := 6) (by decide) m1 m2 h1 h2 i1 i2 (bel_6 hA hB i1 i2) (bel_6 hB hA i2 i1)).1
  · exact (less_of (k := 6) (by decide) m1 m2 h1 h2 i1 i2 (bel_6 hA hB i1 i2) (bel_6 hB hA i2 i1)).2
end
end Go.Proofs.YtonkcpmefnddaaaGreatDoor

namespace Go.Proofs.YtonkcpmefnddaaaGreatDoor
noncomputable section
open Go Go.RX
open Go.RowKit (Below)
set_option maxRecDepth 1000000
set_option maxHeartbeats 4000000
theorem ints_7 {aR aS : Addr} {b n b2 n2 : Int} (hA : HN 7 b n) (hB : HN 7 b2 n2) (h1 : Chk aR aS 7 b 0) (h2 : Chk aR aS 7 b2 0) (i1 : IntV aR aS 7 b n) (i2 : IntV aR aS 7 b2 n2) (o : Nat) (ho : o < 20) : ApV aR aS ((o + 6 : Nat) : Int) 7 b 7 b2 := by
  obtain ⟨a1, a2, a3, a4, a5⟩ := id hA
  obtain ⟨c1, c2, c3, c4, c5⟩ := id hB
  have m1 : Am n := by unfold Am; omega
  have m2 : Am n2 := by unfold Am; omega
  have s1 : Sm n := by unfold Sm; omega
  have s2 : Sm n2 := by unfold Sm; omega
  have hd := div_7 hA hB i1 i2
  have hp := fun (o : Nat) (N B : Int) (h : ∀ ρ, runP (wF 0) (cF 0) ρ aR aS o 7 = some (jP o 7).2.2) (hE : WFun aR aS (fE o) n n2 (Wd N)) (hK : KFun aR aS (fK o) (kOf o 7) N B) => prog_of (k := 7) h m1 m2 h1 h2 i1 i2 hE hK
  rcases (show o = 0 ∨ o = 1 ∨ o = 2 ∨ o = 3 ∨ o = 4 ∨ o = 5 ∨ o = 6 ∨ o = 7 ∨ o = 8 ∨ o = 9 ∨ o = 10 ∨ o = 11 ∨ o = 12 ∨ o = 13 ∨ o = 14 ∨ o = 15 ∨ o = 16 ∨ o = 17 ∨ o = 18 ∨ o = 19 by omega) with rfl | rfl | rfl | rfl | rfl | rfl | rfl | rfl | rfl | rfl | rfl | rfl | rfl | rfl | rfl | rfl | rfl | rfl | rfl | rfl
  · refine ap_of (hp 0 (n + n2) _ (fun ρ => List.map_inj_left.1 (run_P0 _ _ _ aR aS) 7 (by decide)) (plus_ok aR aS n n2) (wrap_7 aR aS _)) (ref_of (n := n) (n2 := n2) (k := 7) (r := false) (fun ρ => List.map_inj_left.1 (run_R0 _ _ _ aR aS) 7 (by decide)) h1 h2 (fun _ h => by cases h) hd ?_)
    show binI .and .u64 (IntKind.wrap .u64 (b + b2)) 4294967295 = _
    rw [and_u64_32 _ (wrap64_range _).1 (wrap64_range _).2, wrap_u64]
    omega
  · refine ap_of (hp 1 (n - n2) _ (fun ρ => List.map_inj_left.1 (run_P1 _ _ _ aR aS) 7 (by decide)) (minus_ok aR aS n n2) (wrap_7 aR aS _)) (ref_of (n := n) (n2 := n2) (k := 7) (r := false) (fun ρ => List.map_inj_left.1 (run_R1 _ _ _ aR aS) 7 (by decide)) h1 h2 (fun _ h => by cases h) hd ?_)
    show binI .and .u64 (IntKind.wrap .u64 (b - b2)) 4294967295 = _
    rw [and_u64_32 _ (wrap64_range _).1 (wrap64_range _).2, wrap_u64]
    omega
  · refine ap_of (hp 2 (loI (loI n * loI n2)) _ (fun ρ => List.map_inj_left.1 (run_P2 _ _ _ aR aS) 7 (by decide)) (times_ok aR aS n n2) (wrap_7 aR aS _)) (ref_of (n := n) (n2 := n2) (k := 7) (r := false) (fun ρ => List.map_inj_left.1 (run_R2 _ _ _ aR aS) 7 (by decide)) h1 h2 (fun _ h => by cases h) hd ?_)
    show binI .and .u64 (IntKind.wrap .u64 (b * b2)) 4294967295 = _
    rw [and_u64_32 _ (wrap64_range _).1 (wrap64_range _).2, wrap_u64]
    exact mulM (by decide) (by unfold loI; omega) (by unfold loI; omega)
  · refine ap_of (hp 3 (QD n n2) _ (fun ρ => List.map_inj_left.1 (run_P3 _ _ _ aR aS) 7 (by decide)) (quo_ok aR aS m1 m2).1 (wrap_7 aR aS _)) (ref_of (n := n) (n2 := n2) (k := 7) (r := false) (fun ρ => List.map_inj_left.1 (run_R3 _ _ _ aR aS) 7 (by decide)) h1 h2 (fun _ h => by cases h) hd ?_)
    show binI .and .u64 (QI n n2) 4294967295 = _
    rw [and_u64_32 _ (qi_bnd n n2).1 (qi_bnd n n2).2]
    unfold QI QD loI
    split <;> omega
  · refine ap_of (hp 4 (RD n n2) _ (fun ρ => List.map_inj_left.1 (run_P4 _ _ _ aR aS) 7 (by decide)) (quo_ok aR aS m1 m2).2 (wrap_7 aR aS _)) (ref_of (n := n) (n2 := n2) (k := 7) (r := false) (fun ρ => List.map_inj_left.1 (run_R4 _ _ _ aR aS) 7 (by decide)) h1 h2 (fun _ h => by cases h) hd ?_)
    show binI .and .u64 (RI n n2) 4294967295 = _
    rw [and_u64_32 _ (ri_bnd m2).1 (ri_bnd m2).2]
    rfl
  · have hb := bel_7 hB hA i2 i1
    have P := hp 5 (if n2 < n then n2 else n) _ (fun ρ => List.map_inj_left.1 (run_P5 _ _ _ aR aS) 7 (by decide)) (lesser_ok aR aS s1 s2) (wrap_7 aR aS _)
    by_cases h : n2 < n
    · rw [decide_eq_true h] at hb
      rw [if_pos h] at P
      refine ap_of P (ref_of (n := n) (n2 := n2) (k := 7) (r := true) (fun ρ => List.map_inj_left.1 (run_R5t _ _ _ aR aS) 7 (by decide)) h1 h2 (fun x hx => ?_) hd ?_)
      · obtain rfl := List.mem_singleton.1 hx
        exact sokE (vs := [agV 7 b2, agV 7 b]) (v := .bool true) rfl rfl rfl rfl fun w hG => hb w hG
      · show b2 = _
        omega
    · rw [decide_eq_false h] at hb
      rw [if_neg h] at P
      refine ap_of P (ref_of (n := n) (n2 := n2) (k := 7) (r := false) (fun ρ => List.map_inj_left.1 (run_R5f _ _ _ aR aS) 7 (by decide)) h1 h2 (fun x hx => ?_) hd ?_)
      · obtain rfl := List.mem_singleton.1 hx
        exact sokE (vs := [agV 7 b2, agV 7 b]) (v := .bool false) rfl rfl rfl rfl fun w hG => hb w hG
      · show b = _
        omega
  · have hb := bel_7 hA hB i1 i2
    have P := hp 6 (if n < n2 then n2 else n) _ (fun ρ => List.map_inj_left.1 (run_P6 _ _ _ aR aS) 7 (by decide)) (greater_ok aR aS s1 s2) (wrap_7 aR aS _)
    by_cases h : n < n2
    · rw [decide_eq_true h] at hb
      rw [if_pos h] at P
      refine ap_of P (ref_of (n := n) (n2 := n2) (k := 7) (r := true) (fun ρ => List.map_inj_left.1 (run_R6t _ _ _ aR aS) 7 (by decide)) h1 h2 (fun x hx => ?_) hd ?_)
      · obtain rfl := List.mem_singleton.1 hx
        exact sokE (vs := [agV 7 b, agV 7 b2]) (v := .bool true) rfl rfl rfl rfl fun w hG => hb w hG
      · show b2 = _
        omega
    · rw [decide_eq_false h] at hb
      rw [if_neg h] at P
      refine ap_of P (ref_of (n := n) (n2 := n2) (k := 7) (r := false) (fun ρ => List.map_inj_left.1 (run_R6f _ _ _ aR aS) 7 (by decide)) h1 h2 (fun x hx => ?_) hd ?_)
      · obtain rfl := List.mem_singleton.1 hx
        exact sokE (vs := [agV 7 b, agV 7 b2]) (v := .bool false) rfl rfl rfl rfl fun w hG => hb w hG
      · show b = _
        omega
  · refine ap_of (hp 7 (bitW .and n n2) _ (fun ρ => List.map_inj_left.1 (run_P7 _ _ _ aR aS) 7 (by decide)) (and_ok aR aS n n2) (wrap_7 aR aS _)) (ref_of (n := n) (n2 := n2) (k := 7) (r := false) (fun ρ => List.map_inj_left.1 (run_R7 _ _ _ aR aS) 7 (by decide)) h1 h2 (fun _ h => by cases h) hd ?_)
    show binI .and .u64 (binI .and .u64 b b2) 4294967295 = _
    rw [and_u64_32 _ (binI_u64 .and (by simp) _ _).1 (binI_u64 .and (by simp) _ _).2]
    exact bits_num 32 rfl (by decide) (.inl rfl) a1 a2 c1 c2 (by omega) (by omega)
  · refine ap_of (hp 8 (bitW .or n n2) _ (fun ρ => List.map_inj_left.1 (run_P8 _ _ _ aR aS) 7 (by decide)) (or_ok aR aS n n2) (wrap_7 aR aS _)) (ref_of (n := n) (n2 := n2) (k := 7) (r := false) (fun ρ => List.map_inj_left.1 (run_R8 _ _ _ aR aS) 7 (by decide)) h1 h2 (fun _ h => by cases h) hd ?_)
    show binI .and .u64 (binI .or .u64 b b2) 4294967295 = _
    rw [and_u64_32 _ (binI_u64 .or (by simp) _ _).1 (binI_u64 .or (by simp) _ _).2]
    exact bits_num 32 rfl (by decide) (.inr (.inl rfl)) a1 a2 c1 c2 (by omega) (by omega)
  · refine ap_of (hp 9 (bitW .xor n n2) _ (fun ρ => List.map_inj_left.1 (run_P9 _ _ _ aR aS) 7 (by decide)) (xor_ok aR aS n n2) (wrap_7 aR aS _)) (ref_of (n := n) (n2 := n2) (k := 7) (r := false) (fun ρ => List.map_inj_left.1 (run_R9 _ _ _ aR aS) 7 (by decide)) h1 h2 (fun _ h => by cases h) hd ?_)
    show binI .and .u64 (binI .xor .u64 b b2) 4294967295 = _
    rw [and_u64_32 _ (binI_u64 .xor (by simp) _ _).1 (binI_u64 .xor (by simp) _ _).2]
    exact bits_num 32 rfl (by decide) (.inr (.inr rfl)) a1 a2 c1 c2 (by omega) (by omega)
  · have hs : 0 ≤ n2 → n2 < 64 → b2 = n2 := by omega
    have hs' : n2 < 0 ∨ 64 ≤ n2 → 64 ≤ b2 := by omega
    have e := shl_num (M := 4294967296) (b := b) (n := n) (by decide) (by omega) hs hs'
    have hK := wrap_7 aR aS (shlN n n2)
    rw [e] at hK
    refine ap_of (hp 10 (shlN n n2) _ (fun ρ => List.map_inj_left.1 (run_P10 _ _ _ aR aS) 7 (by decide)) (shl_w aR aS m2) hK) (ref_of (n := n) (n2 := n2) (k := 7) (r := false) (fun ρ => List.map_inj_left.1 (run_R10 _ _ _ aR aS) 7 (by decide)) h1 h2 (fun x hx => ?_) hd rfl)
    obtain rfl := List.mem_singleton.1 hx
    exact sokE (vs := [.int .i64 16, agV 7 b, agV 7 b2]) (v := agV 7 (b * 2 ^ limOf b2 % 4294967296)) rfl rfl rfl rfl fun w hG => sl_7 aR aS c1 a1 (by omega) w hG
  · have hs : 0 ≤ n2 → n2 < 64 → b2 = n2 := by omega
    have hs' : n2 < 0 ∨ 64 ≤ n2 → 64 ≤ b2 := by omega
    have e : shrN n n2 % 4294967296 = n / 2 ^ limOf b2 % 4294967296 := by
      rw [shr_num m1 hs hs']
    have hK := wrap_7 aR aS (shrN n n2)
    rw [e] at hK
    refine ap_of (hp 11 (shrN n n2) _ (fun ρ => List.map_inj_left.1 (run_P11 _ _ _ aR aS) 7 (by decide)) (shr_w aR aS m1 m2) hK) (ref_of (n := n) (n2 := n2) (k := 7) (r := false) (fun ρ => List.map_inj_left.1 (run_R11 _ _ _ aR aS) 7 (by decide)) h1 h2 (fun x hx => ?_) hd rfl)
    obtain rfl := List.mem_singleton.1 hx
    exact sokE (vs := [.int .i64 17, agV 7 b, agV 7 b2]) (v := agV 7 (n / 2 ^ limOf b2 % 4294967296)) rfl rfl rfl rfl fun w hG => sr_7 aR aS c1 a3 (by omega) (by omega) w hG
  · refine ap_of (hp 12 (n + n2) _ (fun ρ => List.map_inj_left.1 (run_P12 _ _ _ aR aS) 7 (by decide)) (plus_ok aR aS n n2) (clamp_7 aR aS (n := n + n2) (by unfold Sm; omega))) (ref_of (n := n) (n2 := n2) (k := 7) (r := false) (fun ρ => List.map_inj_left.1 (run_R12 _ _ _ aR aS) 7 (by decide)) h1 h2 (fun x hx => ?_) hd rfl)
    obtain rfl := List.mem_singleton.1 hx
    exact sokE (vs := [.int .i64 18, agV 7 b, agV 7 b2]) (v := agV 7 ((if n + n2 < (-2147483648) then (-2147483648) else if 2147483647 < n + n2 then 2147483647 else n + n2) % 4294967296)) rfl rfl rfl rfl fun w hG => held18_7 hA hB i1 i2 w hG
  · refine ap_of (hp 13 (n - n2) _ (fun ρ => List.map_inj_left.1 (run_P13 _ _ _ aR aS) 7 (by decide)) (minus_ok aR aS n n2) (clamp_7 aR aS (n := n - n2) (by unfold Sm; omega))) (ref_of (n := n) (n2 := n2) (k := 7) (r := false) (fun ρ => List.map_inj_left.1 (run_R13 _ _ _ aR aS) 7 (by decide)) h1 h2 (fun x hx => ?_) hd rfl)
    obtain rfl := List.mem_singleton.1 hx
    exact sokE (vs := [.int .i64 19, agV 7 b, agV 7 b2]) (v := agV 7 ((if n - n2 < (-2147483648) then (-2147483648) else if 2147483647 < n - n2 then 2147483647 else n - n2) % 4294967296)) rfl rfl rfl rfl fun w hG => held19_7 hA hB i1 i2 w hG
  · refine ap_of (hp 14 ((n + n2 + 1) / 2) _ (fun ρ => List.map_inj_left.1 (run_P14 _ _ _ aR aS) 7 (by decide)) (avg_ok aR aS m1 m2) (wrap_7 aR aS _)) (ref_of (n := n) (n2 := n2) (k := 7) (r := false) (fun ρ => List.map_inj_left.1 (run_R14 _ _ _ aR aS) 7 (by decide)) h1 h2 (fun x hx => ?_) hd rfl)
    obtain rfl := List.mem_singleton.1 hx
    exact sokE (vs := [agV 7 b, agV 7 b2]) (v := agV 7 ((n + n2 + 1) / 2 % 4294967296)) rfl rfl rfl rfl fun w hG => avg_7 hA hB i1 i2 w hG
  · have hb := bel_7 hA hB i1 i2
    have P := hp 15 ((if n < n2 then n2 else n) - (if n2 < n then n2 else n)) _ (fun ρ => List.map_inj_left.1 (run_P15 _ _ _ aR aS) 7 (by decide)) (dist_ok aR aS s1 s2) (wrap_3 aR aS _)
    by_cases h : n < n2
    · rw [decide_eq_true h] at hb
      rw [if_pos h, if_neg (show ¬ n2 < n by omega)] at P
      refine ap_of P (ref_of (n := n) (n2 := n2) (k := 7) (r := true) (fun ρ => List.map_inj_left.1 (run_R15t _ _ _ aR aS) 7 (by decide)) h1 h2 (fun x hx => ?_) hd ?_)
      · obtain rfl := List.mem_singleton.1 hx
        exact sokE (vs := [agV 7 b, agV 7 b2]) (v := .bool true) rfl rfl rfl rfl fun w hG => hb w hG
      · show binI .and .u64 (IntKind.wrap .u64 (b2 - b)) 4294967295 = _
        rw [and_u64_32 _ (wrap64_range _).1 (wrap64_range _).2, wrap_u64]
        omega
    · rw [decide_eq_false h] at hb
      rw [if_neg h] at P
      have e : (if n2 < n then n2 else n) = n2 := by split <;> omega
      rw [e] at P
      refine ap_of P (ref_of (n := n) (n2 := n2) (k := 7) (r := false) (fun ρ => List.map_inj_left.1 (run_R15f _ _ _ aR aS) 7 (by decide)) h1 h2 (fun x hx => ?_) hd ?_)
      · obtain rfl := List.mem_singleton.1 hx
        exact sokE (vs := [agV 7 b, agV 7 b2]) (v := .bool false) rfl rfl rfl rfl fun w hG => hb w hG
      · show binI .and .u64 (IntKind.wrap .u64 (b - b2)) 4294967295 = _
        rw [and_u64_32 _ (wrap64_range _).1 (wrap64_range _).2, wrap_u64]
        omega
  · exact (eq_of (k := 7) (by decide) h1 h2).1
  · exact (eq_of (k := 7) (by decide) h1 h2).2
  · exact (less_of (k := 7) (by decide) m1 m2 h1 h2 i1 i2 (bel_7 hA hB i1 i2) (bel_7 hB hA i2 i1)).1
  · exact (less_of (k := 7) (by decide) m1 m2 h1 h2 i1 i2 (bel_7 hA hB i1 i2) (bel_7 hB hA i2 i1)).2
theorem ints_8 {aR aS : Addr} {b n b2 n2 : Int} (hA : HN 8 b n) (hB : HN 8 b2 n2) (h1 : Chk aR aS 8 b 0) (h2 : Chk aR aS 8 b2 0) (i1 : IntV aR aS 8 b n) (i2 : IntV aR aS 8 b2 n2) (o : Nat) (ho : o < 20) : ApV aR aS ((o + 6 : Nat) : Int) 8 b 8 b2 := by
  obtain ⟨a1, a2, a3, a4, a5⟩ := id hA
  obtain ⟨c1, c2, c3, c4, c5⟩ := id hB
  have m1 : Am n := by unfold Am; omega
  have m2 : Am n2 := by unfold Am; omega
  have s1 : Sm n := by unfold Sm; omega
  have s2 : Sm n2 := by unfold Sm; omega
  have hd := div_8 hA hB i1 i2
  have hp := fun (o : Nat) (N B : Int) (h : ∀ ρ, runP (wF 0) (cF 0) ρ aR aS o 8 = some (jP o 8).2.2) (hE : WFun aR aS (fE o) n n2 (Wd N)) (hK : KFun aR aS (fK o) (kOf o 8) N B) => prog_of (k := 8) h m1 m2 h1 h2 i1 i2 hE hK
  rcases (show o = 0 ∨ o = 1 ∨ o = 2 ∨ o = 3 ∨ o = 4 ∨ o = 5 ∨ o = 6 ∨ o = 7 ∨ o = 8 ∨ o = 9 ∨ o = 10 ∨ o = 11 ∨ o = 12 ∨ o = 13 ∨ o = 14 ∨ o = 15 ∨ o = 16 ∨ o = 17 ∨ o = 18 ∨ o = 19 by omega) with rfl | rfl | rfl | rfl | rfl | rfl | rfl | rfl | rfl | rfl | rfl | rfl | rfl | rfl | rfl | rfl | rfl | rfl | rfl | rfl
  · refine ap_of (hp 0 (n + n2) _ (fun ρ => List.map_inj_left.1 (run_P0 _ _ _ aR aS) 8 (by decide)) (plus_ok aR aS n n2) (wrap_8 aR aS _)) (ref_of (n := n) (n2 := n2) (k := 8) (r := false) (fun ρ => List.map_inj_left.1 (run_R0 _ _ _ aR aS) 8 (by decide)) h1 h2 (fun _ h => by cases h) hd ?_)
    show binI .and .u64 (IntKind.wrap .u64 (b + b2)) 18446744073709551615 = _
    rw [and_u64_64 _ (wrap64_range _).1 (wrap64_range _).2, wrap_u64]
    omega
  · refine ap_of (hp 1 (n - n2) _ (fun ρ => List.map_inj_left.1 (run_P1 _ _ _ aR aS) 8 (by decide)) (minus_ok aR aS n n2) (wrap_8 aR aS _)) (ref_of (n := n) (n2 := n2) (k := 8) (r := false) (fun ρ => List.map_inj_left.1 (run_R1 _ _ _ aR aS) 8 (by decide)) h1 h2 (fun _ h => by cases h) hd ?_)
    show binI .and .u64 (IntKind.wrap .u64 (b - b2)) 18446744073709551615 = _
    rw [and_u64_64 _ (wrap64_range _).1 (wrap64_range _).2, wrap_u64]
    omega
  · refine ap_of (hp 2 (loI (loI n * loI n2)) _ (fun ρ => List.map_inj_left.1 (run_P2 _ _ _ aR aS) 8 (by decide)) (times_ok aR aS n n2) (wrap_8 aR aS _)) (ref_of (n := n) (n2 := n2) (k := 8) (r := false) (fun ρ => List.map_inj_left.1 (run_R2 _ _ _ aR aS) 8 (by decide)) h1 h2 (fun _ h => by cases h) hd ?_)
    show binI .and .u64 (IntKind.wrap .u64 (b * b2)) 18446744073709551615 = _
    rw [and_u64_64 _ (wrap64_range _).1 (wrap64_range _).2, wrap_u64]
    exact mulM (by decide) (by unfold loI; omega) (by unfold loI; omega)
  · refine ap_of (hp 3 (QD n n2) _ (fun ρ => List.map_inj_left.1 (run_P3 _ _ _ aR aS) 8 (by decide)) (quo_ok aR aS m1 m2).1 (wrap_8 aR aS _)) (ref_of (n := n) (n2 := n2) (k := 8) (r := false) (fun ρ => List.map_inj_left.1 (run_R3 _ _ _ aR aS) 8 (by decide)) h1 h2 (fun _ h => by cases h) hd ?_)
    show binI .and .u64 (QI n n2) 18446744073709551615 = _
    rw [and_u64_64 _ (qi_bnd n n2).1 (qi_bnd n n2).2]
    unfold QI QD loI
    split <;> omega
  · refine ap_of (hp 4 (RD n n2) _ (fun ρ => List.map_inj_left.1 (run_P4 _ _ _ aR aS) 8 (by decide)) (quo_ok aR aS m1 m2).2 (wrap_8 aR aS _)) (ref_of (n := n) (n2 := n2) (k := 8) (r := false) (fun ρ => List.map_inj_left.1 (run_R4 _ _ _ aR aS) 8 (by decide)) h1 h2 (fun _ h => by cases h) hd ?_)
    show binI .and .u64 (RI n n2) 18446744073709551615 = _
    rw [and_u64_64 _ (ri_bnd m2).1 (ri_bnd m2).2]
    rfl
  · have hb := bel_8 hB hA i2 i1
    have P := hp 5 (if n2 < n then n2 else n) _ (fun ρ => List.map_inj_left.1 (run_P5 _ _ _ aR aS) 8 (by decide)) (lesser_ok aR aS s1 s2) (wrap_8 aR aS _)
    by_cases h : n2 < n
    · rw [decide_eq_true h] at hb
      rw [if_pos h] at P
      refine ap_of P (ref_of (n := n) (n2 := n2) (k := 8) (r := true) (fun ρ => List.map_inj_left.1 (run_R5t _ _ _ aR aS) 8 (by decide)) h1 h2 (fun x hx => ?_) hd ?_)
      · obtain rfl := List.mem_singleton.1 hx
        exact sokE (vs := [agV 8 b2, agV 8 b]) (v := .bool true) rfl rfl rfl rfl fun w hG => hb w hG
      · show b2 = _
        omega
    · rw [decide_eq_false h] at hb
      rw [if_neg h] at P
      refine ap_of P (ref_of (n := n) (n2 := n2) (k := 8) (r := false) (fun ρ => List.map_inj_left.1 (run_R5f _ _ _ aR aS) 8 (by decide)) h1 h2 (fun x hx => ?_) hd ?_)
      · obtain rfl := List.mem_singleton.1 hx
        exact sokE (vs := [agV 8 b2, agV 8 b]) (v := .bool false) rfl rfl rfl rfl fun w hG => hb w hG
      · show b = _
        omega
  · have hb := bel_8 hA hB i1 i2
    have P := hp 6 (if n < n2 then n2 else n) _ (fun ρ => List.map_inj_left.1 (run_P6 _ _ _ aR aS) 8 (by decide)) (greater_ok aR aS s1 s2) (wrap_8 aR aS _)
    by_cases h : n < n2
    · rw [decide_eq_true h] at hb
      rw [if_pos h] at P
      refine ap_of P (ref_of (n := n) (n2 := n2) (k := 8) (r := true) (fun ρ => List.map_inj_left.1 (run_R6t _ _ _ aR aS) 8 (by decide)) h1 h2 (fun x hx => ?_) hd ?_)
      · obtain rfl := List.mem_singleton.1 hx
        exact sokE (vs := [agV 8 b, agV 8 b2]) (v := .bool true) rfl rfl rfl rfl fun w hG => hb w hG
      · show b2 = _
        omega
    · rw [decide_eq_false h] at hb
      rw [if_neg h] at P
      refine ap_of P (ref_of (n := n) (n2 := n2) (k := 8) (r := false) (fun ρ => List.map_inj_left.1 (run_R6f _ _ _ aR aS) 8 (by decide)) h1 h2 (fun x hx => ?_) hd ?_)
      · obtain rfl := List.mem_singleton.1 hx
        exact sokE (vs := [agV 8 b, agV 8 b2]) (v := .bool false) rfl rfl rfl rfl fun w hG => hb w hG
      · show b = _
        omega
  · refine ap_of (hp 7 (bitW .and n n2) _ (fun ρ => List.map_inj_left.1 (run_P7 _ _ _ aR aS) 8 (by decide)) (and_ok aR aS n n2) (wrap_8 aR aS _)) (ref_of (n := n) (n2 := n2) (k := 8) (r := false) (fun ρ => List.map_inj_left.1 (run_R7 _ _ _ aR aS) 8 (by decide)) h1 h2 (fun _ h => by cases h) hd ?_)
    show binI .and .u64 (binI .and .u64 b b2) 18446744073709551615 = _
    rw [and_u64_64 _ (binI_u64 .and (by simp) _ _).1 (binI_u64 .and (by simp) _ _).2]
    exact bits_num 64 rfl (by decide) (.inl rfl) a1 a2 c1 c2 (by omega) (by omega)
  · refine ap_of (hp 8 (bitW .or n n2) _ (fun ρ => List.map_inj_left.1 (run_P8 _ _ _ aR aS) 8 (by decide)) (or_ok aR aS n n2) (wrap_8 aR aS _)) (ref_of (n := n) (n2 := n2) (k := 8) (r := false) (fun ρ => List.map_inj_left.1 (run_R8 _ _ _ aR aS) 8 (by decide)) h1 h2 (fun _ h => by cases h) hd ?_)
    show binI .and .u64 (binI .or .u64 b b2) 18446744073709551615 = _
    rw [and_u64_64 _ (binI_u64 .or (by simp) _ _).1 (binI_u64 .or (by simp) _ _).2]
    exact bits_num 64 rfl (by decide) (.inr (.inl rfl)) a1 a2 c1 c2 (by omega) (by omega)
  · refine ap_of (hp 9 (bitW .xor n n2) _ (fun ρ => List.map_inj_left.1 (run_P9 _ _ _ aR aS) 8 (by decide)) (xor_ok aR aS n n2) (wrap_8 aR aS _)) (ref_of (n := n) (n2 := n2) (k := 8) (r := false) (fun ρ => List.map_inj_left.1 (run_R9 _ _ _ aR aS) 8 (by decide)) h1 h2 (fun _ h => by cases h) hd ?_)
    show binI .and .u64 (binI .xor .u64 b b2) 18446744073709551615 = _
    rw [and_u64_64 _ (binI_u64 .xor (by simp) _ _).1 (binI_u64 .xor (by simp) _ _).2]
    exact bits_num 64 rfl (by decide) (.inr (.inr rfl)) a1 a2 c1 c2 (by omega) (by omega)
  · have hs : 0 ≤ n2 → n2 < 64 → b2 = n2 := by omega
    have hs' : n2 < 0 ∨ 64 ≤ n2 → 64 ≤ b2 := by omega
    have e := shl_num (M := 18446744073709551616) (b := b) (n := n) (by decide) (by omega) hs hs'
    have hK := wrap_8 aR aS (shlN n n2)
    rw [e] at hK
    refine ap_of (hp 10 (shlN n n2) _ (fun ρ => List.map_inj_left.1 (run_P10 _ _ _ aR aS) 8 (by decide)) (shl_w aR aS m2) hK) (ref_of (n := n) (n2 := n2) (k := 8) (r := false) (fun ρ => List.map_inj_left.1 (run_R10 _ _ _ aR aS) 8 (by decide)) h1 h2 (fun x hx => ?_) hd rfl)
    obtain rfl := List.mem_singleton.1 hx
    exact sokE (vs := [.int .i64 16, agV 8 b, agV 8 b2]) (v := agV 8 (b * 2 ^ limOf b2 % 18446744073709551616)) rfl rfl rfl rfl fun w hG => sl_8 aR aS c1 a1 (by omega) w hG
  · have hs : 0 ≤ n2 → n2 < 64 → b2 = n2 := by omega
    have hs' : n2 < 0 ∨ 64 ≤ n2 → 64 ≤ b2 := by omega
    have e : shrN n n2 % 18446744073709551616 = n / 2 ^ limOf b2 % 18446744073709551616 := by
      rw [shr_num m1 hs hs']
    have hK := wrap_8 aR aS (shrN n n2)
    rw [e] at hK
    refine ap_of (hp 11 (shrN n n2) _ (fun ρ => List.map_inj_left.1 (run_P11 _ _ _ aR aS) 8 (by decide)) (shr_w aR aS m1 m2) hK) (ref_of (n := n) (n2 := n2) (k := 8) (r := false) (fun ρ => List.map_inj_left.1 (run_R11 _ _ _ aR aS) 8 (by decide)) h1 h2 (fun x hx => ?_) hd rfl)
    obtain rfl := List.mem_singleton.1 hx
    exact sokE (vs := [.int .i64 17, agV 8 b, agV 8 b2]) (v := agV 8 (n / 2 ^ limOf b2 % 18446744073709551616)) rfl rfl rfl rfl fun w hG => sr_8 aR aS c1 a3 (by omega) (by omega) w hG
  · refine ap_of (hp 12 (n + n2) _ (fun ρ => List.map_inj_left.1 (run_P12 _ _ _ aR aS) 8 (by decide)) (plus_ok aR aS n n2) (clamp_8 aR aS (n := n + n2) (by unfold Sm; omega))) (ref_of (n := n) (n2 := n2) (k := 8) (r := false) (fun ρ => List.map_inj_left.1 (run_R12 _ _ _ aR aS) 8 (by decide)) h1 h2 (fun x hx => ?_) hd rfl)
    obtain rfl := List.mem_singleton.1 hx
    exact sokE (vs := [.int .i64 18, agV 8 b, agV 8 b2]) (v := agV 8 ((if n + n2 < (-9223372036854775808) then (-9223372036854775808) else if 9223372036854775807 < n + n2 then 9223372036854775807 else n + n2) % 18446744073709551616)) rfl rfl rfl rfl fun w hG => held18_8 hA hB i1 i2 w hG
  · refine ap_of (hp 13 (n - n2) _ (fun ρ => List.map_inj_left.1 (run_P13 _ _ _ aR aS) 8 (by decide)) (minus_ok aR aS n n2) (clamp_8 aR aS (n := n - n2) (by unfold Sm; omega))) (ref_of (n := n) (n2 := n2) (k := 8) (r := false) (fun ρ => List.map_inj_left.1 (run_R13 _ _ _ aR aS) 8 (by decide)) h1 h2 (fun x hx => ?_) hd rfl)
    obtain rfl := List.mem_singleton.1 hx
    exact sokE (vs := [.int .i64 19, agV 8 b, agV 8 b2]) (v := agV 8 ((if n - n2 < (-9223372036854775808) then (-9223372036854775808) else if 9223372036854775807 < n - n2 then 9223372036854775807 else n - n2) % 18446744073709551616)) rfl rfl rfl rfl fun w hG => held19_8 hA hB i1 i2 w hG
  · refine ap_of (hp 14 ((n + n2 + 1) / 2) _ (fun ρ => List.map_inj_left.1 (run_P14 _ _ _ aR aS) 8 (by decide)) (avg_ok aR aS m1 m2) (wrap_8 aR aS _)) (ref_of (n := n) (n2 := n2) (k := 8) (r := false) (fun ρ => List.map_inj_left.1 (run_R14 _ _ _ aR aS) 8 (by decide)) h1 h2 (fun x hx => ?_) hd rfl)
    obtain rfl := List.mem_singleton.1 hx
    exact sokE (vs := [agV 8 b, agV 8 b2]) (v := agV 8 ((n + n2 + 1) / 2 % 18446744073709551616)) rfl rfl rfl rfl fun w hG => avg_8 hA hB i1 i2 w hG
  · have hb := bel_8 hA hB i1 i2
    have P := hp 15 ((if n < n2 then n2 else n) - (if n2 < n then n2 else n)) _ (fun ρ => List.map_inj_left.1 (run_P15 _ _ _ aR aS) 8 (by decide)) (dist_ok aR aS s1 s2) (wrap_4 aR aS _)
    by_cases h : n < n2
    · rw [decide_eq_true h] at hb
      rw [if_pos h, if_neg (show ¬ n2 < n by omega)] at P
      refine ap_of P (ref_of (n := n) (n2 := n2) (k := 8) (r := true) (fun ρ => List.map_inj_left.1 (run_R15t _ _ _ aR aS) 8 (by decide)) h1 h2 (fun x hx => ?_) hd ?_)
      · obtain rfl := List.mem_singleton.1 hx
        exact sokE (vs := [agV 8 b, agV 8 b2]) (v := .bool true) rfl rfl rfl rfl fun w hG => hb w hG
      · show binI .and .u64 (IntKind.wrap .u64 (b2 - b)) 18446744073709551615 = _
        rw [and_u64_64 _ (wrap64_range _).1 (wrap64_range _).2, wrap_u64]
        omega
    · rw [decide_eq_false h] at hb
      rw [if_neg h] at P
      have e : (if n2 < n then n2 else n) = n2 := by split <;> omega
      rw [e] at P
      refine ap_of P (ref_of (n := n) (n2 := n2) (k := 8) (r := false) (fun ρ => List.map_inj_left.1 (run_R15f _ _ _ aR aS) 8 (by decide)) h1 h2 (fun x hx => ?_) hd ?_)
      · obtain rfl := List.mem_singleton.1 hx
        exact sokE (vs := [agV 8 b, agV 8 b2]) (v := .bool false) rfl rfl rfl rfl fun w hG => hb w hG
      · show binI .and .u64 (IntKind.wrap .u64 (b - b2)) 18446744073709551615 = _
        rw [and_u64_64 _ (wrap64_range _).1 (wrap64_range _).2, wrap_u64]
        omega
  · exact (eq_of (k := 8) (by decide) h1 h2).1
  · exact (eq_of (k := 8) (by decide) h1 h2).2
  · exact (less_of (k := 8) (by decide) m1 m2 h1 h2 i1 i2 (bel_8 hA hB i1 i2) (bel_8 hB hA i2 i1)).1
  · exact (less_of (k := 8) (by decide) m1 m2 h1 h2 i1 i2 (bel_8 hA hB i1 i2) (bel_8 hB hA i2 i1)).2
end
end Go.Proofs.YtonkcpmefnddaaaGreatDoor
