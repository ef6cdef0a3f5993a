import Derived.Test.YtgecchiocfkpkaaGreatDoorLO
namespace Go.Proofs.YtgecchiocfkpkaaGreatDoor
noncomputable section
open Go Go.RX
open Go.RowKit (Below)
set_option maxRecDepth 1000000
set_option maxHeartbeats 4000000
def z_and : IE := .bin .and .i64 (.var 0) (.var 2)
def L_and (e1 e2 n1 n2 : Bool) : List CF := [⟨.eql, .var 1, .var 0, e1⟩, ⟨.eql, .var 0, .var 1, e1⟩, ⟨.eql, .var 3, .var 2, e2⟩, ⟨.eql, .var 2, .var 3, e2⟩, ⟨.lss, .var 0, .lit 0, n1⟩, ⟨.lss, .var 2, .lit 0, n2⟩,
  ⟨.leq, .var 9, z_and, true⟩, ⟨.leq, z_and, .var 10, true⟩, ⟨.leq, .var 9, .lit 0, true⟩, ⟨.leq, .tri 3 (.var 1) (.var 3) (.lit 0), .var 10, true⟩, ⟨.leq, .var 9, .tri 2 (.var 0) (.var 2) (.lit 0), true⟩, ⟨.leq, .var 15, .var 10, true⟩]
def X_and : List SEntry := [(179, [sA, sB], sy 15), (68, [.sym (.int .i64 (.tri 2 (.var 1) (.var 3) (.lit 0)))], sy 15), (66, [sy 7, sy 0], .agg [sy 7, wd8 11]), (66, [sy 7, sy 2], .agg [sy 7, wd8 12]),
  (65, [.v (.int .i64 13), .agg [sy 7, wd8 11], .agg [sy 7, wd8 12]], .tuple [.agg [sy 7, wd8 13], .v (.int .i64 0)]), (67, [.agg [sy 7, wd8 13]], sy 14)]
def p_and (e1 e2 n1 n2 : Bool) : SVal := if e1 && e2 then .agg [.sym (.int .i64 z_and), .sym (.int .i64 z_and)] else if n1 || n2 then s9 else .agg [.v (.int .i64 0), .sym (.int .i64 (.tri 3 (.var 1) (.var 3) (.lit 0)))]
def t_and (e1 e2 n1 n2 : Bool) : SVal := if e1 && e2 then .agg [sy 14, sy 14] else if n1 || n2 then s45 else .agg [.v (.int .i64 0), .sym (.int .i64 (.tri 3 (.var 1) (.var 3) (.lit 0)))]
theorem run_and (ρ : Nat → Int) (aR aS : Addr) (e1 e2 n1 n2 : Bool) : runE ρ aR aS (L_and e1 e2 n1 n2) (U_op 13 ++ X_and) [(24, xP 13, p_and e1 e2 n1 n2), (8, xP 13, t_and e1 e2 n1 n2)] := by
  unfold runE
  cases e1 <;> cases e2 <;> cases n1 <;> cases n2 <;> kernel_rfl
theorem apd_13 (aR aS : Addr) {al ah bl bh lo hi wd k rk rl rh wd2 : Int} (hR : ResV aR aS 13 k rk 0) (hK : KdV aR aS k lo hi wd) (hR2 : KdV aR aS rk rl rh wd2) {s : Int × Bool × Int × Int × Int} (hs : s ∈ bitK) (es : s.1 = k) (el : s.2.2.1 = lo) (eh' : s.2.2.2.1 = hi) (h32 : ∃ v : Nat, v ≤ 32 ∧ hi = 2 ^ v - 1)
    (b0 : lo ≤ 0) (a0 : lo ≤ al) (a1 : al ≤ ah) (a2 : ah ≤ hi) (c0 : lo ≤ bl) (c1 : bl ≤ bh) (c2 : bh ≤ hi) (er : rl = lo) (eh : rh = hi) : ∃ sl sh, ApD aR aS 13 k al ah bl bh sl sh := by
  obtain ⟨v, v32, hv⟩ := h32
  have ep : ∀ i : Nat, ((2 ^ i : Nat) : Int) = (2 : Int) ^ i := fun i => by norm_cast
  have hv32 : hi < 4294967296 := by
    have h := Nat.pow_le_pow_right (show 0 < 2 by decide) v32
    have := ep v
    omega
  obtain ⟨c, hc, hb⟩ := bits_ex (max (max ah bh) 0) (by omega)
  have hb2 : Bits c (max ah bh) ∨ max ah bh < 0 := by
    rcases Int.lt_or_le (max ah bh) 0 with g | g
    · exact .inr g
    · left; rwa [show max (max ah bh) 0 = max ah bh by omega] at hb
  have hF : ((2 ^ c - 1 : Nat) : Int) ≤ hi := by
    have q1 : 1 ≤ 2 ^ v := Nat.one_le_two_pow
    have q2 : 1 ≤ 2 ^ (c - 1) := Nat.one_le_two_pow
    have q3 : 1 ≤ 2 ^ c := Nat.one_le_two_pow
    rcases Nat.lt_or_ge v c with g | g
    · exfalso
      have h2 := hb.2 (by omega)
      have h3 := Nat.pow_le_pow_right (show 0 < 2 by decide) (show v ≤ c - 1 by omega)
      have h4 := ep v
      have h5 := ep (c - 1)
      omega
    · have h3 := Nat.pow_le_pow_right (show 0 < 2 by decide) g
      have h4 := ep v
      omega
  have hfull : ∀ w, (glob aR aS).holds w → Calls Tryz.prog 68 #[.int .i64 (max ah bh)] w (Ret (.int .i64 ((2 ^ c - 1 : Nat) : Int)) w) := by
    rcases hb2 with g | g
    · exact fu_ok aR aS hc g
    · have h0 : c = 0 := by
        rcases Nat.eq_zero_or_pos c with h | h
        · exact h
        · have h2 := hb.2 (by omega)
          have h3 : 1 ≤ 2 ^ (c - 1) := Nat.one_le_two_pow
          have h4 := ep (c - 1)
          omega
      subst h0
      exact fu_ok aR aS hc ⟨by show max ah bh < 1; omega, fun h => absurd rfl h⟩
  have x0 : s.2.2.1 ≤ al := by omega
  have x1 : al ≤ s.2.2.2.1 := by omega
  have y0 : s.2.2.1 ≤ bl := by omega
  have y1 : bl ≤ s.2.2.2.1 := by omega
  obtain ⟨z0, z1, g0, g1, gz⟩ := bit_and hs x0 x1 y0 y1
  have hM := (bitK_ok hs).1
  have w1 := wr_ok aR aS hs al
  have w2 := wr_ok aR aS hs bl
  have m1 : 0 ≤ al % (s.2.2.2.2 + 1) ∧ al % (s.2.2.2.2 + 1) ≤ s.2.2.2.2 := by
    have := Int.emod_nonneg al (show s.2.2.2.2 + 1 ≠ 0 by omega)
    have := Int.emod_lt_of_pos al (show 0 < s.2.2.2.2 + 1 by omega)
    omega
  have m2 : 0 ≤ bl % (s.2.2.2.2 + 1) ∧ bl % (s.2.2.2.2 + 1) ≤ s.2.2.2.2 := by
    have := Int.emod_nonneg bl (show s.2.2.2.2 + 1 ≠ 0 by omega)
    have := Int.emod_lt_of_pos bl (show 0 < s.2.2.2.2 + 1 by omega)
    omega
  have w3 := ra_and aR aS hs m1.2 m2.1 m2.2 g0 g1
  have w4 := nu_ok aR aS hs g0 g1
  rw [gz] at w4
  rw [es] at w1 w2 w3 w4
  rw [el] at z0
  rw [eh'] at z1
  generalize al % (s.2.2.2.2 + 1) = A at w1 w3 w4
  generalize bl % (s.2.2.2.2 + 1) = B at w2 w3 w4
  generalize binI .and .u64 A B = Z at w3 w4
  generalize hF' : ((2 ^ c - 1 : Nat) : Int) = F at hF
  clear g0 g1 gz m1 m2 hM
  refine apd_x (m := mL [A, B, Z, binI .and .i64 al bl, F]) (L := L_and (ah == al) (bh == bl) (decide (al < 0)) (decide (bl < 0))) (X := X_and) (x := if ((ah == al) && (bh == bl)) = true then binI .and .i64 al bl else if (decide (al < 0) || decide (bl < 0)) = true then lo else 0) (y := if ((ah == al) && (bh == bl)) = true then binI .and .i64 al bl else if (decide (al < 0) || decide (bl < 0)) = true then hi else triI 3 ah bh 0) hR hK hR2 (fun f hf => ?_) (fun u hu => ?_) (run_and _ aR aS _ _ _ _) ?_ ?_ ?_ ?_ rfl rfl
  · simp only [L_and, List.mem_cons, List.not_mem_nil, or_false] at hf
    rcases hf with rfl | rfl | rfl | rfl | rfl | rfl | rfl | rfl | rfl | rfl | rfl | rfl
    · exact ⟨rfl, rfl⟩
    · exact ⟨rfl, show (al == ah) = (ah == al) from BEq.comm⟩
    · exact ⟨rfl, rfl⟩
    · exact ⟨rfl, show (bl == bh) = (bh == bl) from BEq.comm⟩
    · exact ⟨rfl, rfl⟩
    · exact ⟨rfl, rfl⟩
    · exact ⟨rfl, decide_eq_true (show rl ≤ binI .and .i64 al bl by omega)⟩
    · exact ⟨rfl, decide_eq_true (show binI .and .i64 al bl ≤ rh by omega)⟩
    · exact ⟨rfl, decide_eq_true (show rl ≤ 0 by omega)⟩
    · exact ⟨rfl, decide_eq_true (show triI 3 ah bh 0 ≤ rh by rw [tri_3]; omega)⟩
    · exact ⟨rfl, decide_eq_true (show rl ≤ triI 2 al bl 0 by rw [tri_2]; omega)⟩
    · exact ⟨rfl, decide_eq_true (show F ≤ rh by omega)⟩
  · simp only [X_and, List.mem_cons, List.not_mem_nil, or_false] at hu
    rcases hu with rfl | rfl | rfl | rfl | rfl | rfl
    · exact sokE rfl rfl (vs := [spV al ah, spV bl bh]) (v := .int .i64 F) rfl rfl (by rw [← hF']; exact on_ok aR aS (by omega) (by omega) hc hb)
    · refine sokE rfl rfl (vs := [.int .i64 (triI 2 ah bh 0)]) (v := .int .i64 F) rfl rfl ?_
      rw [tri_2, ← hF']
      exact hfull
    · exact sokE rfl rfl (vs := [.int .i64 k, .int .i64 al]) (v := bV k A) rfl rfl w1
    · exact sokE rfl rfl (vs := [.int .i64 k, .int .i64 bl]) (v := bV k B) rfl rfl w2
    · exact sokE rfl rfl (vs := [.int .i64 13, bV k A, bV k B]) (v := .tuple #[bV k Z, .int .i64 0]) rfl rfl w3
    · exact sokE rfl rfl (vs := [bV k Z]) (v := .int .i64 (binI .and .i64 al bl)) rfl rfl w4
  · unfold p_and
    split
    · rfl
    · split <;> rfl
  · unfold t_and
    split
    · rfl
    · split <;> rfl
  · unfold p_and
    split
    · rfl
    · split
      · rw [← er, ← eh]; rfl
      · rfl
  · unfold t_and
    split
    · rfl
    · split <;> rfl
def z_or : IE := .bin .or .i64 (.var 0) (.var 2)
def L_or (e1 e2 n1 n2 : Bool) : List CF := [⟨.eql, .var 1, .var 0, e1⟩, ⟨.eql, .var 0, .var 1, e1⟩, ⟨.eql, .var 3, .var 2, e2⟩, ⟨.eql, .var 2, .var 3, e2⟩, ⟨.lss, .var 0, .lit 0, n1⟩, ⟨.lss, .var 2, .lit 0, n2⟩,
  ⟨.leq, .var 9, z_or, true⟩, ⟨.leq, z_or, .var 10, true⟩, ⟨.leq, .var 9, .lit 0, true⟩, ⟨.leq, .tri 3 (.var 1) (.var 3) (.lit 0), .var 10, true⟩, ⟨.leq, .var 9, .tri 2 (.var 0) (.var 2) (.lit 0), true⟩, ⟨.leq, .var 15, .var 10, true⟩]
def X_or : List SEntry := [(179, [sA, sB], sy 15), (68, [.sym (.int .i64 (.tri 2 (.var 1) (.var 3) (.lit 0)))], sy 15), (66, [sy 7, sy 0], .agg [sy 7, wd8 11]), (66, [sy 7, sy 2], .agg [sy 7, wd8 12]),
  (65, [.v (.int .i64 14), .agg [sy 7, wd8 11], .agg [sy 7, wd8 12]], .tuple [.agg [sy 7, wd8 13], .v (.int .i64 0)]), (67, [.agg [sy 7, wd8 13]], sy 14)]
def p_or (e1 e2 n1 n2 : Bool) : SVal := if e1 && e2 then .agg [.sym (.int .i64 z_or), .sym (.int .i64 z_or)] else if n1 || n2 then s9 else .agg [.sym (.int .i64 (.tri 2 (.var 0) (.var 2) (.lit 0))), sy 15]
def t_or (e1 e2 n1 n2 : Bool) : SVal := if e1 && e2 then .agg [sy 14, sy 14] else if n1 || n2 then s45 else .agg [.sym (.int .i64 (.tri 2 (.var 0) (.var 2) (.lit 0))), sy 15]
theorem run_or (ρ : Nat → Int) (aR aS : Addr) (e1 e2 n1 n2 : Bool) : runE ρ aR aS (L_or e1 e2 n1 n2) (U_op 14 ++ X_or) [(24, xP 14, p_or e1 e2 n1 n2), (8, xP 14, t_or e1 e2 n1 n2)] := by
  unfold runE
  cases e1 <;> cases e2 <;> cases n1 <;> cases n2 <;> kernel_rfl
theorem apd_14 (aR aS : Addr) {al ah bl bh lo hi wd k rk rl rh wd2 : Int} (hR : ResV aR aS 14 k rk 0) (hK : KdV aR aS k lo hi wd) (hR2 : KdV aR aS rk rl rh wd2) {s : Int × Bool × Int × Int × Int} (hs : s ∈ bitK) (es : s.1 = k) (el : s.2.2.1 = lo) (eh' : s.2.2.2.1 = hi) (h32 : ∃ v : Nat, v ≤ 32 ∧ hi = 2 ^ v - 1)
    (b0 : lo ≤ 0) (a0 : lo ≤ al) (a1 : al ≤ ah) (a2 : ah ≤ hi) (c0 : lo ≤ bl) (c1 : bl ≤ bh) (c2 : bh ≤ hi) (er : rl = lo) (eh : rh = hi) : ∃ sl sh, ApD aR aS 14 k al ah bl bh sl sh := by
  obtain ⟨v, v32, hv⟩ := h32
  have ep : ∀ i : Nat, ((2 ^ i : Nat) : Int) = (2 : Int) ^ i := fun i => by norm_cast
  have hv32 : hi < 4294967296 := by
    have h := Nat.pow_le_pow_right (show 0 < 2 by decide) v32
    have := ep v
    omega
  obtain ⟨c, hc, hb⟩ := bits_ex (max (max ah bh) 0) (by omega)
  have hb2 : Bits c (max ah bh) ∨ max ah bh < 0 := by
    rcases Int.lt_or_le (max ah bh) 0 with g | g
    · exact .inr g
    · left; rwa [show max (max ah bh) 0 = max ah bh by omega] at hb
  have hF : ((2 ^ c - 1 : Nat) : Int) ≤ hi := by
    have q1 : 1 ≤ 2 ^ v := Nat.one_le_two_pow
    have q2 : 1 ≤ 2 ^ (c - 1) := Nat.one_le_two_pow
    have q3 : 1 ≤ 2 ^ c := Nat.one_le_two_pow
    rcases Nat.lt_or_ge v c with g | g
    · exfalso
      have h2 := hb.2 (by omega)
      have h3 := Nat.pow_le_pow_right (show 0 < 2 by decide) (show v ≤ c - 1 by omega)
      have h4 := ep v
      have h5 := ep (c - 1)
      omega
    · have h3 := Nat.pow_le_pow_right (show 0 < 2 by decide) g
      have h4 := ep v
      omega
  have hfull : ∀ w, (glob aR aS).holds w → Calls Tryz.prog 68 #[.int .i64 (max ah bh)] w (Ret (.int .i64 ((2 ^ c - 1 : Nat) : Int)) w) := by
    rcases hb2 with g | g
    · exact fu_ok aR aS hc g
    · have h0 : c = 0 := by
        rcases Nat.eq_zero_or_pos c with h | h
        · exact h
        · have h2 := hb.2 (by omega)
          have h3 : 1 ≤ 2 ^ (c - 1) := Nat.one_le_two_pow
          have h4 := ep (c - 1)
          omega
      subst h0
      exact fu_ok aR aS hc ⟨by show max ah bh < 1; omega, fun h => absurd rfl h⟩
  have x0 : s.2.2.1 ≤ al := by omega
  have x1 : al ≤ s.2.2.2.1 := by omega
  have y0 : s.2.2.1 ≤ bl := by omega
  have y1 : bl ≤ s.2.2.2.1 := by omega
  obtain ⟨z0, z1, g0, g1, gz⟩ := bit_or hs x0 x1 y0 y1
  have hM := (bitK_ok hs).1
  have w1 := wr_ok aR aS hs al
  have w2 := wr_ok aR aS hs bl
  have m1 : 0 ≤ al % (s.2.2.2.2 + 1) ∧ al % (s.2.2.2.2 + 1) ≤ s.2.2.2.2 := by
    have := Int.emod_nonneg al (show s.2.2.2.2 + 1 ≠ 0 by omega)
    have := Int.emod_lt_of_pos al (show 0 < s.2.2.2.2 + 1 by omega)
    omega
  have m2 : 0 ≤ bl % (s.2.2.2.2 + 1) ∧ bl % (s.2.2.2.2 + 1) ≤ s.2.2.2.2 := by
    have := Int.emod_nonneg bl (show s.2.2.2.2 + 1 ≠ 0 by omega)
    have := Int.emod_lt_of_pos bl (show 0 < s.2.2.2.2 + 1 by omega)
    omega
  have w3 := ra_or aR aS hs m1.2 m2.1 m2.2 g0 g1
  have w4 := nu_ok aR aS hs g0 g1
  rw [gz] at w4
  rw [es] at w1 w2 w3 w4
  rw [el] at z0
  rw [eh'] at z1
  generalize al % (s.2.2.2.2 + 1) = A at w1 w3 w4
  generalize bl % (s.2.2.2.2 + 1) = B at w2 w3 w4
  generalize binI .or .u64 A B = Z at w3 w4
  generalize hF' : ((2 ^ c - 1 : Nat) : Int) = F at hF
  clear g0 g1 gz m1 m2 hM
  refine apd_x (m := mL [A, B, Z, binI .or .i64 al bl, F]) (L := L_or (ah == al) (bh == bl) (decide (al < 0)) (decide (bl < 0))) (X := X_or) (x := if ((ah == al) && (bh == bl)) = true then binI .or .i64 al bl else if (decide (al < 0) || decide (bl < 0)) = true then lo else triI 2 al bl 0) (y := if ((ah == al) && (bh == bl)) = true then binI .or .i64 al bl else if (decide (al < 0) || decide (bl < 0)) = true then hi else F) hR hK hR2 (fun f hf => ?_) (fun u hu => ?_) (run_or _ aR aS _ _ _ _) ?_ ?_ ?_ ?_ rfl rfl
  · simp only [L_or, List.mem_cons, List.not_mem_nil, or_false] at hf
    rcases hf with rfl | rfl | rfl | rfl | rfl | rfl | rfl | rfl | rfl | rfl | rfl | rfl
    · exact ⟨rfl, rfl⟩
    · exact ⟨rfl, show (al == ah) = (ah == al) from BEq.comm⟩
    · exact ⟨rfl, rfl⟩
    · exact ⟨rfl, show (bl == bh) = (bh == bl) from BEq.comm⟩
    · exact ⟨rfl, rfl⟩
    · exact ⟨rfl, rfl⟩
    · exact ⟨rfl, decide_eq_true (show rl ≤ binI .or .i64 al bl by omega)⟩
    · exact ⟨rfl, decide_eq_true (show binI .or .i64 al bl ≤ rh by omega)⟩
    · exact ⟨rfl, decide_eq_true (show rl ≤ 0 by omega)⟩
    · exact ⟨rfl, decide_eq_true (show triI 3 ah bh 0 ≤ rh by rw [tri_3]; omega)⟩
    · exact ⟨rfl, decide_eq_true (show rl ≤ triI 2 al bl 0 by rw [tri_2]; omega)⟩
    · exact ⟨rfl, decide_eq_true (show F ≤ rh by omega)⟩
  · simp only [X_or, List.mem_cons, List.not_mem_nil, or_false] at hu
    rcases hu with rfl | rfl | rfl | rfl | rfl | rfl
    · exact sokE rfl rfl (vs := [spV al ah, spV bl bh]) (v := .int .i64 F) rfl rfl (by rw [← hF']; exact on_ok aR aS (by omega) (by omega) hc hb)
    · refine sokE rfl rfl (vs := [.int .i64 (triI 2 ah bh 0)]) (v := .int .i64 F) rfl rfl ?_
      rw [tri_2, ← hF']
      exact hfull
    · exact sokE rfl rfl (vs := [.int .i64 k, .int .i64 al]) (v := bV k A) rfl rfl w1
    · exact sokE rfl rfl (vs := [.int .i64 k, .int .i64 bl]) (v := bV k B) rfl rfl w2
    · exact sokE rfl rfl (vs := [.int .i64 14, bV k A, bV k B]) (v := .tuple #[bV k Z, .int .i64 0]) rfl rfl w3
    · exact sokE rfl rfl (vs := [bV k Z]) (v := .int .i64 (binI .or .i64 al bl)) rfl rfl w4
  · unfold p_or
    split
    · rfl
    · split <;> rfl
  · unfold t_or
    split
    · rfl
    · split <;> rfl
  · unfold p_or
    split
    · rfl
    · split
      · rw [← er, ← eh]; rfl
      · rfl
  · unfold t_or
    split
    · rfl
    · split <;> rfl
def z_xor : IE := .bin .xor .i64 (.var 0) (.var 2)
def L_xor (e1 e2 n1 n2 : Bool) : List CF := [⟨.eql, .var 1, .var 0, e1⟩, ⟨.eql, .var 0, .var 1, e1⟩, ⟨.eql, .var 3, .var 2, e2⟩, ⟨.eql, .var 2, .var 3, e2⟩, ⟨.lss, .var 0, .lit 0, n1⟩, ⟨.lss, .var 2, .lit 0, n2⟩,
  ⟨.leq, .var 9, z_xor, true⟩, ⟨.leq, z_xor, .var 10, true⟩, ⟨.leq, .var 9, .lit 0, true⟩, ⟨.leq, .tri 3 (.var 1) (.var 3) (.lit 0), .var 10, true⟩, ⟨.leq, .var 9, .tri 2 (.var 0) (.var 2) (.lit 0), true⟩, ⟨.leq, .var 15, .var 10, true⟩]
def X_xor : List SEntry := [(179, [sA, sB], sy 15), (68, [.sym (.int .i64 (.tri 2 (.var 1) (.var 3) (.lit 0)))], sy 15), (66, [sy 7, sy 0], .agg [sy 7, wd8 11]), (66, [sy 7, sy 2], .agg [sy 7, wd8 12]),
  (65, [.v (.int .i64 15), .agg [sy 7, wd8 11], .agg [sy 7, wd8 12]], .tuple [.agg [sy 7, wd8 13], .v (.int .i64 0)]), (67, [.agg [sy 7, wd8 13]], sy 14)]
def p_xor (e1 e2 n1 n2 : Bool) : SVal := if e1 && e2 then .agg [.sym (.int .i64 z_xor), .sym (.int .i64 z_xor)] else if n1 || n2 then s9 else .agg [.v (.int .i64 0), sy 15]
def t_xor (e1 e2 n1 n2 : Bool) : SVal := if e1 && e2 then .agg [sy 14, sy 14] else if n1 || n2 then s45 else .agg [.v (.int .i64 0), sy 15]
theorem run_xor (ρ : Nat → Int) (aR aS : Addr) (e1 e2 n1 n2 : Bool) : runE ρ aR aS (L_xor e1 e2 n1 n2) (U_op 15 ++ X_xor) [(24, xP 15, p_xor e1 e2 n1 n2), (8, xP 15, t_xor e1 e2 n1 n2)] := by
  unfold runE
  cases e1 <;> cases e2 <;> cases n1 <;> cases n2 <;> kernel_rfl
theorem apd_15 (aR aS : Addr) {al ah bl bh lo hi wd k rk rl rh wd2 : Int} (hR : ResV aR aS 15 k rk 0) (hK : KdV aR aS k lo hi wd) (hR2 : KdV aR aS rk rl rh wd2) {s : Int × Bool × Int × Int × Int} (hs : s ∈ bitK) (es : s.1 = k) (el : s.2.2.1 = lo) (eh' : s.2.2.2.1 = hi) (h32 : ∃ v : Nat, v ≤ 32 ∧ hi = 2 ^ v - 1)
    (b0 : lo ≤ 0) (a0 : lo ≤ al) (a1 : al ≤ ah) (a2 : ah ≤ hi) (c0 : lo ≤ bl) (c1 : bl ≤ bh) (c2 : bh ≤ hi) (er : rl = lo) (eh : rh = hi) : ∃ sl sh, ApD aR aS 15 k al ah bl bh sl sh := by
  obtain ⟨v, v32, hv⟩ := h32
  have ep : ∀ i : Nat, ((2 ^ i : Nat) : Int) = (2 : Int) ^ i := fun i => by norm_cast
  have hv32 : hi < 4294967296 := by
    have h := Nat.pow_le_pow_right (show 0 < 2 by decide) v32
    have := ep v
    omega
  obtain ⟨c, hc, hb⟩ := bits_ex (max (max ah bh) 0) (by omega)
  have hb2 : Bits c (max ah bh) ∨ max ah bh < 0 := by
    rcases Int.lt_or_le (max ah bh) 0 with g | g
    · exact .inr g
    · left; rwa [show max (max ah bh) 0 = max ah bh by omega] at hb
  have hF : ((2 ^ c - 1 : Nat) : Int) ≤ hi := by
    have q1 : 1 ≤ 2 ^ v := Nat.one_le_two_pow
    have q2 : 1 ≤ 2 ^ (c - 1) := Nat.one_le_two_pow
    have q3 : 1 ≤ 2 ^ c := Nat.one_le_two_pow
    rcases Nat.lt_or_ge v c with g | g
    · exfalso
      have h2 := hb.2 (by omega)
      have h3 := Nat.pow_le_pow_right (show 0 < 2 by decide) (show v ≤ c - 1 by omega)
      have h4 := ep v
      have h5 := ep (c - 1)
      omega
    · have h3 := Nat.pow_le_pow_right (show 0 < 2 by decide) g
      have h4 := ep v
      omega
  have hfull : ∀ w, (glob aR aS).holds w → Calls Tryz.prog 68 #[.int .i64 (max ah bh)] w (Ret (.int .i64 ((2 ^ c - 1 : Nat) : Int)) w) := by
    rcases hb2 with g | g
    · exact fu_ok aR aS hc g
    · have h0 : c = 0 := by
        rcases Nat.eq_zero_or_pos c with h | h
        · exact h
        · have h2 := hb.2 (by omega)
          have h3 : 1 ≤ 2 ^ (c - 1) := Nat.one_le_two_pow
          have h4 := ep (c - 1)
          omega
      subst h0
      exact fu_ok aR aS hc ⟨by show max ah bh < 1; omega, fun h => absurd rfl h⟩
  have x0 : s.2.2.1 ≤ al := by omega
  have x1 : al ≤ s.2.2.2.1 := by omega
  have y0 : s.2.2.1 ≤ bl := by omega
  have y1 : bl ≤ s.2.2.2.1 := by omega
  obtain ⟨z0, z1, g0, g1, gz⟩ := bit_xor hs x0 x1 y0 y1
  have hM := (bitK_ok hs).1
  have w1 := wr_ok aR aS hs al
  have w2 := wr_ok aR aS hs bl
  have m1 : 0 ≤ al % (s.2.2.2.2 + 1) ∧ al % (s.2.2.2.2 + 1) ≤ s.2.2.2.2 := by
    have := Int.emod_nonneg al (show s.2.2.2.2 + 1 ≠ 0 by omega)
    have := Int.emod_lt_of_pos al (show 0 < s.2.2.2.2 + 1 by omega)
    omega
  have m2 : 0 ≤ bl % (s.2.2.2.2 + 1) ∧ bl % (s.2.2.2.2 + 1) ≤ s.2.2.2.2 := by
    have := Int.emod_nonneg bl (show s.2.2.2.2 + 1 ≠ 0 by omega)
    have := Int.emod_lt_of_pos bl (show 0 < s.2.2.2.2 + 1 by omega)
    omega
  have w3 := ra_xor aR aS hs m1.2 m2.1 m2.2 g0 g1
  have w4 := nu_ok aR aS hs g0 g1
  rw [gz] at w4
  rw [es] at w1 w2 w3 w4
  rw [el] at z0
  rw [eh'] at z1
  generalize al % (s.2.2.2.2 + 1) = A at w1 w3 w4
  generalize bl % (s.2.2.2.2 + 1) = B at w2 w3 w4
  generalize binI .xor .u64 A B = Z at w3 w4
  generalize hF' : ((2 ^ c - 1 : Nat) : Int) = F at hF
  clear g0 g1 gz m1 m2 hM
  refine apd_x (m := mL [A, B, Z, binI .xor .i64 al bl, F]) (L := L_xor (ah == al) (bh == bl) (decide (al < 0)) (decide (bl < 0))) (X := X_xor) (x := if ((ah == al) && (bh == bl)) = true then binI .xor .i64 al bl else if (decide (al < 0) || decide (bl < 0)) = true then lo else 0) (y := if ((ah == al) && (bh == bl)) = true then binI .xor .i64 al bl else if (decide (al < 0) || decide (bl < 0)) = true then hi else F) hR hK hR2 (fun f hf => ?_) (fun u hu => ?_) (run_xor _ aR aS _ _ _ _) ?_ ?_ ?_ ?_ rfl rfl
  · simp only [L_xor, List.mem_cons, List.not_mem_nil, or_false] at hf
    rcases hf with rfl | rfl | rfl | rfl | rfl | rfl | rfl | rfl | rfl | rfl | rfl | rfl
    · exact ⟨rfl, rfl⟩
    · exact ⟨rfl, show (al == ah) = (ah == al) from BEq.comm⟩
    · exact ⟨rfl, rfl⟩
    · exact ⟨rfl, show (bl == bh) = (bh == bl) from BEq.comm⟩
    · exact ⟨rfl, rfl⟩
    · exact ⟨rfl, rfl⟩
    · exact ⟨rfl, decide_eq_true (show rl ≤ binI .xor .i64 al bl by omega)⟩
    · exact ⟨rfl, decide_eq_true (show binI .xor .i64 al bl ≤ rh by omega)⟩
    · exact ⟨rfl, decide_eq_true (show rl ≤ 0 by omega)⟩
    · exact ⟨rfl, decide_eq_true (show triI 3 ah bh 0 ≤ rh by rw [tri_3]; omega)⟩
    · exact ⟨rfl, decide_eq_true (show rl ≤ triI 2 al bl 0 by rw [tri_2]; omega)⟩
    · exact ⟨rfl, decide_eq_true (show F ≤ rh by omega)⟩
  · simp only [X_xor, List.mem_cons, List.not_mem_nil, or_false] at hu
    rcases hu with rfl | rfl | rfl | rfl | rfl | rfl
    · exact sokE rfl rfl (vs := [spV al ah, spV bl bh]) (v := .int .i64 F) rfl rfl (by rw [← hF']; exact on_ok aR aS (by omega) (by omega) hc hb)
    · refine sokE rfl rfl (vs := [.int .i64 (triI 2 ah bh 0)]) (v := .int .i64 F) rfl rfl ?_
      rw [tri_2, ← hF']
      exact hfull
    · exact sokE rfl rfl (vs := [.int .i64 k, .int .i64 al]) (v := bV k A) rfl rfl w1
    · exact sokE rfl rfl (vs := [.int .i64 k, .int .i64 bl]) (v := bV k B) rfl rfl w2
    · exact sokE rfl rfl (vs := [.int .i64 15, bV k A, bV k B]) (v := .tuple #[bV k Z, .int .i64 0]) rfl rfl w3
    · exact sokE rfl rfl (vs := [bV k Z]) (v := .int .i64 (binI .xor .i64 al bl)) rfl rfl w4
  · unfold p_xor
    split
    · rfl
    · split <;> rfl
  · unfold t_xor
    split
    · rfl
    · split <;> rfl
  · unfold p_xor
    split
    · rfl
    · split
      · rw [← er, ← eh]; rfl
      · rfl
  · unfold t_xor
    split
    · rfl
    · split <;> rfl
end
end Go.Proofs.YtgecchiocfkpkaaGreatDoor
