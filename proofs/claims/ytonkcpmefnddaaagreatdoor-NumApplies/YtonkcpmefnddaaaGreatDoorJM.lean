import Derived.Test.YtonkcpmefnddaaaGreatDoorJD
namespace Go.Proofs.YtonkcpmefnddaaaGreatDoor
noncomputable section
open Go Go.RX
open Go.RowKit (Below)
set_option maxRecDepth 1000000
set_option maxHeartbeats 4000000
theorem two_1 (aR aS : Addr) : IntV aR aS 1 2 2 := n_u8ok aR aS 2 (by omega) (by omega) (by omega)
theorem two_2 (aR aS : Addr) : IntV aR aS 2 2 2 := n_u16ok aR aS 2 (by omega) (by omega) (by omega)
theorem two_3 (aR aS : Addr) : IntV aR aS 3 2 2 := n_u32ok aR aS 2 (by omega) (by omega) (by omega)
theorem two_4 (aR aS : Addr) : IntV aR aS 4 2 2 := n_u64ok aR aS 2 (by omega) (by omega)
theorem two_5 (aR aS : Addr) : IntV aR aS 5 2 2 := n_i8pos aR aS 2 (by omega) (by omega) (by omega)
theorem two_6 (aR aS : Addr) : IntV aR aS 6 2 2 := n_i16pos aR aS 2 (by omega) (by omega) (by omega)
theorem two_7 (aR aS : Addr) : IntV aR aS 7 2 2 := n_i32pos aR aS 2 (by omega) (by omega) (by omega)
theorem two_8 (aR aS : Addr) : IntV aR aS 8 2 2 := n_i64pos aR aS 2 (by omega) (by omega) (by omega)

/-! ### Which of two is below; the average of the reference -/
def BelV (aR aS : Addr) (k b b2 : Int) (r : Bool) : Prop := ∀ w, (glob aR aS).holds w → Calls Tryz.prog 93 #[agV k b, agV k b2] w (Ret (.bool r) w)
def LB (s r : Bool) : List CF := if s then [⟨.lss, .var 4, .var 14, r⟩] else [⟨.lss, .var 0, .var 10, r⟩]
theorem lb_ok {b n k b2 n2 : Int} (s : Bool) (h : if s then -9223372036854775808 ≤ n ∧ n < 9223372036854775808 ∧ -9223372036854775808 ≤ n2 ∧ n2 < 9223372036854775808 else b = n ∧ b2 = n2) : ∀ c ∈ LB s (decide (n < n2)), c.ok (rd b n 0 k b2 n2 0 k) := fun c hc => by
  cases s
  · obtain ⟨h1, h2⟩ : b = n ∧ b2 = n2 := h
    obtain rfl := List.mem_singleton.1 hc
    refine ⟨rfl, ?_⟩
    show decide (b < b2) = decide (n < n2)
    rw [h1, h2]
  · obtain ⟨h1, h2, h3, h4⟩ : -9223372036854775808 ≤ n ∧ n < 9223372036854775808 ∧ -9223372036854775808 ≤ n2 ∧ n2 < 9223372036854775808 := h
    obtain rfl := List.mem_singleton.1 hc
    refine ⟨rfl, ?_⟩
    show decide (IntKind.wrap .i64 n < IntKind.wrap .i64 n2) = decide (n < n2)
    rw [i64_id h1 h2, i64_id h3 h4]
theorem bel_of {aR aS : Addr} {k b n b2 n2 : Int} (i1 : IntV aR aS k b n) (i2 : IntV aR aS k b2 n2) {s r : Bool} (hL : ∀ c ∈ LB s r, c.ok (rd b n 0 k b2 n2 0 k)) (h : runE (wF 0) (cF 0) (rd b n 0 k b2 n2 0 k) aR aS (LB s r) [] (UN k) [(93, [ag0 k, ag1 k], .v (.bool r))]) : BelV aR aS k b b2 r := fun w hG =>
  calls_symF (W := wF 0) (C := cF 0) (ρ := rd b n 0 k b2 n2 0 k) (T := []) hL (fun _ h => by cases h) (UN_ok i1 i2) h List.mem_cons_self rfl rfl (vs := [agV k b, agV k b2]) rfl rfl hG
/-- The average: by halves. -/
def AvgV (aR aS : Addr) (k b b2 B : Int) : Prop := ∀ w, (glob aR aS).holds w → Calls Tryz.prog 102 #[agV k b, agV k b2] w (Ret (agV k B) w)
def ra (b b2 p r q s : Int) : Nat → Int := fun i => match i with
  | 0 => b
  | 10 => b2
  | 33 => p
  | 34 => r
  | 35 => q
  | 36 => s
  | _ => 0
def UV2 (k : Int) : List SEntry := [(98, [ag0 k, .v (agV k 2)], .tuple [.sym (.int .u64 (.var 33)), .sym (.int .u64 (.var 34))]), (98, [ag1 k, .v (agV k 2)], .tuple [.sym (.int .u64 (.var 35)), .sym (.int .u64 (.var 36))])]
def L_av (g : Bool) : List CF := [⟨.gtr, .bin .add .u64 (.var 34) (.var 36), .lit 0, g⟩]
def pq : IE := .bin .add .u64 (.var 33) (.var 35)
def avE (g : Bool) (m : Int) : IE := .bin .and .u64 (.bin .add .u64 pq (.lit (if g then 1 else 0))) (.lit m)
theorem avg_of {aR aS : Addr} {k b n b2 n2 m : Int} (d1 : DivV aR aS k b n 2 2) (d2 : DivV aR aS k b2 n2 2 2) {g : Bool} (hg : decide (IntKind.wrap .u64 (n % 2 + n2 % 2) > 0) = g) {B : Int}
    (h : runE (wF 0) (cF 0) (ra b b2 (loI (n / 2)) (n % 2) (loI (n2 / 2)) (n2 % 2)) aR aS (L_av g) [] (UV2 k) [(102, [ag0 k, ag1 k], .agg [.v (.int .i64 k), .sym (.int .u64 (avE g m))])]) (hB : (avE g m).ev (ra b b2 (loI (n / 2)) (n % 2) (loI (n2 / 2)) (n2 % 2)) = B) : AvgV aR aS k b b2 B := fun w hG => by
  refine calls_symF (W := wF 0) (C := cF 0) (ρ := ra b b2 (loI (n / 2)) (n % 2) (loI (n2 / 2)) (n2 % 2)) (L := L_av g) (T := []) (fun c hc => ?_) (fun _ h => by cases h) (fun e he => ?_) h List.mem_cons_self rfl rfl (vs := [agV k b, agV k b2]) rfl (by rw [← hB]; rfl) hG
  · obtain rfl := List.mem_singleton.1 hc
    exact ⟨rfl, hg⟩
  · simp only [UV2, List.mem_cons, List.not_mem_nil, or_false] at he
    rcases he with rfl | rfl
    · exact sokE (vs := [agV k b, agV k 2]) (v := .tuple #[.int .u64 (loI (n / 2)), .int .u64 (n % 2)]) rfl rfl rfl rfl fun w hG => d1 w hG
    · exact sokE (vs := [agV k b2, agV k 2]) (v := .tuple #[.int .u64 (loI (n2 / 2)), .int .u64 (n2 % 2)]) rfl rfl rfl rfl fun w hG => d2 w hG
theorem avg_ev {b b2 n n2 : Int} (m M : Int) (hm : ∀ x : Int, 0 ≤ x → x < 18446744073709551616 → binI .and .u64 x m = x % M) (hM : M ∣ 18446744073709551616) (g : Bool) (hg : decide (IntKind.wrap .u64 (n % 2 + n2 % 2) > 0) = g) : (avE g m).ev (ra b b2 (loI (n / 2)) (n % 2) (loI (n2 / 2)) (n2 % 2)) = (n + n2 + 1) / 2 % M := by
  have key : ∀ u : Int, u = (if g then 1 else 0) → binI .and .u64 (IntKind.wrap .u64 (IntKind.wrap .u64 (loI (n / 2) + loI (n2 / 2)) + u)) m = (n + n2 + 1) / 2 % M := fun u hu => by
    rw [hm _ (wrap64_range _).1 (wrap64_range _).2, wrap_u64, Int.emod_emod_of_dvd _ hM]
    have e : (n + n2 + 1) / 2 = n / 2 + n2 / 2 + u := by
      rw [wrap_u64] at hg
      cases g
      · have := of_decide_eq_false hg
        simp only [Bool.false_eq_true, if_false] at hu
        omega
      · have := of_decide_eq_true hg
        simp only [if_true] at hu
        omega
    rw [e, wrap_u64]
    unfold loI
    have e1 : ∀ x y : Int, (x + y) % M = (x % M + y % M) % M := fun x y => Int.add_emod x y M
    rw [e1, Int.emod_emod_of_dvd _ hM, e1 (n / 2 % 18446744073709551616), Int.emod_emod_of_dvd _ hM, Int.emod_emod_of_dvd _ hM, e1 (n / 2 + n2 / 2), e1 (n / 2)]
  cases g
  · exact key 0 rfl
  · exact key 1 rfl
theorem run_bel0 (W : Nat → Nat) (C : Nat → Nat × Nat) (ρ : Nat → Int) (aR aS : Addr) (r : Bool) : runE W C ρ aR aS (LB false r) [] (UN 0) [(93, [ag0 0, ag1 0], .v (.bool r))] := by
  unfold runE
  cases r <;> kernel_rfl
theorem bel_0 {aR aS : Addr} {b n b2 n2 : Int} (hA : HN 0 b n) (hB : HN 0 b2 n2) (i1 : IntV aR aS 0 b n) (i2 : IntV aR aS 0 b2 n2) : BelV aR aS 0 b b2 (decide (n < n2)) := by
  obtain ⟨a1, a2, a3, a4, a5⟩ := hA
  obtain ⟨c1, c2, c3, c4, c5⟩ := hB
  exact bel_of i1 i2 (lb_ok false (by simp only [Bool.false_eq_true, if_false]; omega)) (run_bel0 _ _ _ aR aS _)
theorem run_bel1 (W : Nat → Nat) (C : Nat → Nat × Nat) (ρ : Nat → Int) (aR aS : Addr) (r : Bool) : runE W C ρ aR aS (LB false r) [] (UN 1) [(93, [ag0 1, ag1 1], .v (.bool r))] := by
  unfold runE
  cases r <;> kernel_rfl
theorem bel_1 {aR aS : Addr} {b n b2 n2 : Int} (hA : HN 1 b n) (hB : HN 1 b2 n2) (i1 : IntV aR aS 1 b n) (i2 : IntV aR aS 1 b2 n2) : BelV aR aS 1 b b2 (decide (n < n2)) := by
  obtain ⟨a1, a2, a3, a4, a5⟩ := hA
  obtain ⟨c1, c2, c3, c4, c5⟩ := hB
  exact bel_of i1 i2 (lb_ok false (by simp only [Bool.false_eq_true, if_false]; omega)) (run_bel1 _ _ _ aR aS _)
theorem run_av1 (W : Nat → Nat) (C : Nat → Nat × Nat) (ρ : Nat → Int) (aR aS : Addr) (g : Bool) : runE W C ρ aR aS (L_av g) [] (UV2 1) [(102, [ag0 1, ag1 1], .agg [.v (.int .i64 1), .sym (.int .u64 (avE g 255))])] := by
  unfold runE
  cases g <;> kernel_rfl
theorem avg_1 {aR aS : Addr} {b n b2 n2 : Int} (hA : HN 1 b n) (hB : HN 1 b2 n2) (i1 : IntV aR aS 1 b n) (i2 : IntV aR aS 1 b2 n2) : AvgV aR aS 1 b b2 ((n + n2 + 1) / 2 % 256) := by
  have h2 : HN 1 2 2 := by refine ⟨?_, ?_, ?_, ?_, ?_⟩ <;> omega
  have j : IntV aR aS 1 2 2 := two_1 aR aS
  exact avg_of (m := 255) (div_1 hA h2 i1 j) (div_1 hB h2 i2 j) rfl (run_av1 _ _ _ aR aS _) (avg_ev 255 256 and_u64_8 (by decide) _ rfl)
theorem run_bel2 (W : Nat → Nat) (C : Nat → Nat × Nat) (ρ : Nat → Int) (aR aS : Addr) (r : Bool) : runE W C ρ aR aS (LB false r) [] (UN 2) [(93, [ag0 2, ag1 2], .v (.bool r))] := by
  unfold runE
  cases r <;> kernel_rfl
theorem bel_2 {aR aS : Addr} {b n b2 n2 : Int} (hA : HN 2 b n) (hB : HN 2 b2 n2) (i1 : IntV aR aS 2 b n) (i2 : IntV aR aS 2 b2 n2) : BelV aR aS 2 b b2 (decide (n < n2)) := by
  obtain ⟨a1, a2, a3, a4, a5⟩ := hA
  obtain ⟨c1, c2, c3, c4, c5⟩ := hB
  exact bel_of i1 i2 (lb_ok false (by simp only [Bool.false_eq_true, if_false]; omega)) (run_bel2 _ _ _ aR aS _)
theorem run_av2 (W : Nat → Nat) (C : Nat → Nat × Nat) (ρ : Nat → Int) (aR aS : Addr) (g : Bool) : runE W C ρ aR aS (L_av g) [] (UV2 2) [(102, [ag0 2, ag1 2], .agg [.v (.int .i64 2), .sym (.int .u64 (avE g 65535))])] := by
  unfold runE
  cases g <;> kernel_rfl
theorem avg_2 {aR aS : Addr} {b n b2 n2 : Int} (hA : HN 2 b n) (hB : HN 2 b2 n2) (i1 : IntV aR aS 2 b n) (i2 : IntV aR aS 2 b2 n2) : AvgV aR aS 2 b b2 ((n + n2 + 1) / 2 % 65536) := by
  have h2 : HN 2 2 2 := by refine ⟨?_, ?_, ?_, ?_, ?_⟩ <;> omega
  have j : IntV aR aS 2 2 2 := two_2 aR aS
  exact avg_of (m := 65535) (div_2 hA h2 i1 j) (div_2 hB h2 i2 j) rfl (run_av2 _ _ _ aR aS _) (avg_ev 65535 65536 and_u64_16 (by decide) _ rfl)
theorem run_bel3 (W : Nat → Nat) (C : Nat → Nat × Nat) (ρ : Nat → Int) (aR aS : Addr) (r : Bool) : runE W C ρ aR aS (LB false r) [] (UN 3) [(93, [ag0 3, ag1 3], .v (.bool r))] := by
  unfold runE
  cases r <;> kernel_rfl
theorem bel_3 {aR aS : Addr} {b n b2 n2 : Int} (hA : HN 3 b n) (hB : HN 3 b2 n2) (i1 : IntV aR aS 3 b n) (i2 : IntV aR aS 3 b2 n2) : BelV aR aS 3 b b2 (decide (n < n2)) := by
  obtain ⟨a1, a2, a3, a4, a5⟩ := hA
  obtain ⟨c1, c2, c3, c4, c5⟩ := hB
  exact bel_of i1 i2 (lb_ok false (by simp only [Bool.false_eq_true, if_false]; omega)) (run_bel3 _ _ _ aR aS _)
theorem run_av3 (W : Nat → Nat) (C : Nat → Nat × Nat) (ρ : Nat → Int) (aR aS : Addr) (g : Bool) : runE W C ρ aR aS (L_av g) [] (UV2 3) [(102, [ag0 3, ag1 3], .agg [.v (.int .i64 3), .sym (.int .u64 (avE g 4294967295))])] := by
  unfold runE
  cases g <;> kernel_rfl
theorem avg_3 {aR aS : Addr} {b n b2 n2 : Int} (hA : HN 3 b n) (hB : HN 3 b2 n2) (i1 : IntV aR aS 3 b n) (i2 : IntV aR aS 3 b2 n2) : AvgV aR aS 3 b b2 ((n + n2 + 1) / 2 % 4294967296) := by
  have h2 : HN 3 2 2 := by refine ⟨?_, ?_, ?_, ?_, ?_⟩ <;> omega
  have j : IntV aR aS 3 2 2 := two_3 aR aS
  exact avg_of (m := 4294967295) (div_3 hA h2 i1 j) (div_3 hB h2 i2 j) rfl (run_av3 _ _ _ aR aS _) (avg_ev 4294967295 4294967296 and_u64_32 (by decide) _ rfl)
theorem run_bel4 (W : Nat → Nat) (C : Nat → Nat × Nat) (ρ : Nat → Int) (aR aS : Addr) (r : Bool) : runE W C ρ aR aS (LB false r) [] (UN 4) [(93, [ag0 4, ag1 4], .v (.bool r))] := by
  unfold runE
  cases r <;> kernel_rfl
theorem bel_4 {aR aS : Addr} {b n b2 n2 : Int} (hA : HN 4 b n) (hB : HN 4 b2 n2) (i1 : IntV aR aS 4 b n) (i2 : IntV aR aS 4 b2 n2) : BelV aR aS 4 b b2 (decide (n < n2)) := by
  obtain ⟨a1, a2, a3, a4, a5⟩ := hA
  obtain ⟨c1, c2, c3, c4, c5⟩ := hB
  exact bel_of i1 i2 (lb_ok false (by simp only [Bool.false_eq_true, if_false]; omega)) (run_bel4 _ _ _ aR aS _)
theorem run_av4 (W : Nat → Nat) (C : Nat → Nat × Nat) (ρ : Nat → Int) (aR aS : Addr) (g : Bool) : runE W C ρ aR aS (L_av g) [] (UV2 4) [(102, [ag0 4, ag1 4], .agg [.v (.int .i64 4), .sym (.int .u64 (avE g 18446744073709551615))])] := by
  unfold runE
  cases g <;> kernel_rfl
theorem avg_4 {aR aS : Addr} {b n b2 n2 : Int} (hA : HN 4 b n) (hB : HN 4 b2 n2) (i1 : IntV aR aS 4 b n) (i2 : IntV aR aS 4 b2 n2) : AvgV aR aS 4 b b2 ((n + n2 + 1) / 2 % 18446744073709551616) := by
  have h2 : HN 4 2 2 := by refine ⟨?_, ?_, ?_, ?_, ?_⟩ <;> omega
  have j : IntV aR aS 4 2 2 := two_4 aR aS
  exact avg_of (m := 18446744073709551615) (div_4 hA h2 i1 j) (div_4 hB h2 i2 j) rfl (run_av4 _ _ _ aR aS _) (avg_ev 18446744073709551615 18446744073709551616 and_u64_64 (by decide) _ rfl)
theorem run_bel5 (W : Nat → Nat) (C : Nat → Nat × Nat) (ρ : Nat → Int) (aR aS : Addr) (r : Bool) : runE W C ρ aR aS (LB true r) [] (UN 5) [(93, [ag0 5, ag1 5], .v (.bool r))] := by
  unfold runE
  cases r <;> kernel_rfl
theorem bel_5 {aR aS : Addr} {b n b2 n2 : Int} (hA : HN 5 b n) (hB : HN 5 b2 n2) (i1 : IntV aR aS 5 b n) (i2 : IntV aR aS 5 b2 n2) : BelV aR aS 5 b b2 (decide (n < n2)) := by
  obtain ⟨a1, a2, a3, a4, a5⟩ := hA
  obtain ⟨c1, c2, c3, c4, c5⟩ := hB
  exact bel_of i1 i2 (lb_ok true (by simp only [if_true]; omega)) (run_bel5 _ _ _ aR aS _)
theorem run_av5 (W : Nat → Nat) (C : Nat → Nat × Nat) (ρ : Nat → Int) (aR aS : Addr) (g : Bool) : runE W C ρ aR aS (L_av g) [] (UV2 5) [(102, [ag0 5, ag1 5], .agg [.v (.int .i64 5), .sym (.int .u64 (avE g 255))])] := by
  unfold runE
  cases g <;> kernel_rfl
theorem avg_5 {aR aS : Addr} {b n b2 n2 : Int} (hA : HN 5 b n) (hB : HN 5 b2 n2) (i1 : IntV aR aS 5 b n) (i2 : IntV aR aS 5 b2 n2) : AvgV aR aS 5 b b2 ((n + n2 + 1) / 2 % 256) := by
  have h2 : HN 5 2 2 := by refine ⟨?_, ?_, ?_, ?_, ?_⟩ <;> omega
  have j : IntV aR aS 5 2 2 := two_5 aR aS
  exact avg_of (m := 255) (div_5 hA h2 i1 j) (div_5 hB h2 i2 j) rfl (run_av5 _ _ _ aR aS _) (avg_ev 255 256 and_u64_8 (by decide) _ rfl)
theorem run_bel6 (W : Nat → Nat) (C : Nat → Nat × Nat) (ρ : Nat → Int) (aR aS : Addr) (r : Bool) : runE W C ρ aR aS (LB true r) [] (UN 6) [(93, [ag0 6, ag1 6], .v (.bool r))] := by
  unfold runE
  cases r <;> kernel_rfl
theorem bel_6 {aR aS : Addr} {b n b2 n2 : Int} (hA : HN 6 b n) (hB : HN 6 b2 n2) (i1 : IntV aR aS 6 b n) (i2 : IntV aR aS 6 b2 n2) : BelV aR aS 6 b b2 (decide (n < n2)) := by
  obtain ⟨a1, a2, a3, a4, a5⟩ := hA
  obtain ⟨c1, c2, c3, c4, c5⟩ := hB
  exact bel_of i1 i2 (lb_ok true (by simp only [if_true]; omega)) (run_bel6 _ _ _ aR aS _)
theorem run_av6 (W : Nat → Nat) (C : Nat → Nat × Nat) (ρ : Nat → Int) (aR aS : Addr) (g : Bool) : runE W C ρ aR aS (L_av g) [] (UV2 6) [(102, [ag0 6, ag1 6], .agg [.v (.int .i64 6), .sym (.int .u64 (avE g 65535))])] := by
  unfold runE
  cases g <;> kernel_rfl
theorem avg_6 {aR aS : Addr} {b n b2 n2 : Int} (hA : HN 6 b n) (hB : HN 6 b2 n2) (i1 : IntV aR aS 6 b n) (i2 : IntV aR aS 6 b2 n2) : AvgV aR aS 6 b b2 ((n + n2 + 1) / 2 % 65536) := by
  have h2 : HN 6 2 2 := by refine ⟨?_, ?_, ?_, ?_, ?_⟩ <;> omega
  have j : IntV aR aS 6 2 2 := two_6 aR aS
  exact avg_of (m := 65535) (div_6 hA h2 i1 j) (div_6 hB h2 i2 j) rfl (run_av6 _ _ _ aR aS _) (avg_ev 65535 65536 and_u64_16 (by decide) _ rfl)
theorem run_bel7 (W : Nat → Nat) (C : Nat → Nat × Nat) (ρ : Nat → Int) (aR aS : Addr) (r : Bool) : runE W C ρ aR aS (LB true r) [] (UN 7) [(93, [ag0 7, ag1 7], .v (.bool r))] := by
  unfold runE
  cases r <;> kernel_rfl
theorem bel_7 {aR aS : Addr} {b n b2 n2 : Int} (hA : HN 7 b n) (hB : HN 7 b2 n2) (i1 : IntV aR aS 7 b n) (i2 : IntV aR aS 7 b2 n2) : BelV aR aS 7 b b2 (decide (n < n2)) := by
  obtain ⟨a1, a2, a3, a4, a5⟩ := hA
  obtain ⟨c1, c2, c3, c4, c5⟩ := hB
  exact bel_of i1 i2 (lb_ok true (by simp only [if_true]; omega)) (run_bel7 _ _ _ aR aS _)
theorem run_av7 (W : Nat → Nat) (C : Nat → Nat × Nat) (ρ : Nat → Int) (aR aS : Addr) (g : Bool) : runE W C ρ aR aS (L_av g) [] (UV2 7) [(102, [ag0 7, ag1 7], .agg [.v (.int .i64 7), .sym (.int .u64 (avE g 4294967295))])] := by
  unfold runE
  cases g <;> kernel_rfl
theorem avg_7 {aR aS : Addr} {b n b2 n2 : Int} (hA : HN 7 b n) (hB : HN 7 b2 n2) (i1 : IntV aR aS 7 b n) (i2 : IntV aR aS 7 b2 n2) : AvgV aR aS 7 b b2 ((n + n2 + 1) / 2 % 4294967296) := by
  have h2 : HN 7 2 2 := by refine ⟨?_, ?_, ?_, ?_, ?_⟩ <;> omega
  have j : IntV aR aS 7 2 2 := two_7 aR aS
  exact avg_of (m := 4294967295) (div_7 hA h2 i1 j) (div_7 hB h2 i2 j) rfl (run_av7 _ _ _ aR aS _) (avg_ev 4294967295 4294967296 and_u64_32 (by decide) _ rfl)
theorem run_bel8 (W : Nat → Nat) (C : Nat → Nat × Nat) (ρ : Nat → Int) (aR aS : Addr) (r : Bool) : runE W C ρ aR aS (LB true r) [] (UN 8) [(93, [ag0 8, ag1 8], .v (.bool r))] := by
  unfold runE
  cases r <;> kernel_rfl
theorem bel_8 {aR aS : Addr} {b n b2 n2 : Int} (hA : HN 8 b n) (hB : HN 8 b2 n2) (i1 : IntV aR aS 8 b n) (i2 : IntV aR aS 8 b2 n2) : BelV aR aS 8 b b2 (decide (n < n2)) := by
  obtain ⟨a1, a2, a3, a4, a5⟩ := hA
  obtain ⟨c1, c2, c3, c4, c5⟩ := hB
  exact bel_of i1 i2 (lb_ok true (by simp only [if_true]; omega)) (run_bel8 _ _ _ aR aS _)
theorem run_av8 (W : Nat → Nat) (C : Nat → Nat × Nat) (ρ : Nat → Int) (aR aS : Addr) (g : Bool) : runE W C ρ aR aS (L_av g) [] (UV2 8) [(102, [ag0 8, ag1 8], .agg [.v (.int .i64 8), .sym (.int .u64 (avE g 18446744073709551615))])] := by
  unfold runE
  cases g <;> kernel_rfl
theorem avg_8 {aR aS : Addr} {b n b2 n2 : Int} (hA : HN 8 b n) (hB : HN 8 b2 n2) (i1 : IntV aR aS 8 b n) (i2 : IntV aR aS 8 b2 n2) : AvgV aR aS 8 b b2 ((n + n2 + 1) / 2 % 18446744073709551616) := by
  have h2 : HN 8 2 2 := by refine ⟨?_, ?_, ?_, ?_, ?_⟩ <;> omega
  have j : IntV aR aS 8 2 2 := two_8 aR aS
  exact avg_of (m := 18446744073709551615) (div_8 hA h2 i1 j) (div_8 hB h2 i2 j) rfl (run_av8 _ _ _ aR aS _) (avg_ev 18446744073709551615 18446744073709551616 and_u64_64 (by decide) _ rfl)
end
end Go.Proofs.YtonkcpmefnddaaaGreatDoor

namespace Go.Proofs.YtonkcpmefnddaaaGreatDoor
noncomputable section
open Go Go.RX
open Go.RowKit (Below)
set_option maxRecDepth 1000000
set_option maxHeartbeats 4000000

/-! ### Apply of integers, the program's: by the numbers, the operation on wide integers, and what is kept of it -/
def re (b n b2 n2 N B q r : Int) : Nat → Int := fun i => match i with
  | 0 => b
  | 2 => hiW n
  | 3 => loI n
  | 10 => b2
  | 12 => hiW n2
  | 13 => loI n2
  | 22 => hiW N
  | 23 => loI N
  | 24 => B
  | 31 => q
  | 32 => r
  | _ => 0
def w2 : SVal := .agg [.sym (.int .u64 (.var 2)), .sym (.int .u64 (.var 3))]
def w12 : SVal := .agg [.sym (.int .u64 (.var 12)), .sym (.int .u64 (.var 13))]
def wN : SVal := .agg [.sym (.int .u64 (.var 22)), .sym (.int .u64 (.var 23))]
def agN (k : Int) : SVal := .agg [.v (.int .i64 k), .sym (.int .u64 (.var 24))]
def kOf (o : Nat) (k : Nat) : Int := if o = 15 then (if 5 ≤ k then (k : Int) - 4 else k) else k
def fE (o : Nat) : FuncId := match o with
  | 0 => 56
  | 1 => 59
  | 2 => 62
  | 3 => 65
  | 4 => 67
  | 5 => 68
  | 6 => 70
  | 7 => 72
  | 8 => 73
  | 9 => 74
  | 10 => 75
  | 11 => 76
  | 12 => 56
  | 13 => 59
  | 14 => 77
  | _ => 79
def fK (o : Nat) : FuncId := if o = 12 ∨ o = 13 then 54 else 37
def uP (o k : Nat) : List SEntry := [(25, [ag0 k], .v (.int .i64 0)), (25, [ag1 k], .v (.int .i64 0)), (33, [ag0 k], w2), (33, [ag1 k], w12), (fE o, [w2, w12], wN), (fK o, [.v (.int .i64 (kOf o k)), wN], agN (kOf o k))]
def jP (o k : Nat) : SEntry := (7, [.v (.int .i64 ((o + 6 : Nat) : Int)), ag0 k, ag1 k], .tuple [agN (kOf o k), .v (.int .i64 0)])
noncomputable def runP (W : Nat → Nat) (C : Nat → Nat × Nat) (ρ : Nat → Int) (aR aS : Addr) (o k : Nat) : Option SVal := (@call (E W C ρ [] []) Tryz.prog (glob aR aS) (tabS (uP o k)) 300 60 (.fn (jP o k).1) (jP o k).2.1 []).map fun r => nrm r.1
def k18 : List Nat := [1, 2, 3, 4, 5, 6, 7, 8]
def k08 : List Nat := [0, 1, 2, 3, 4, 5, 6, 7, 8]
theorem intW {aR aS : Addr} {k b n : Int} (i : IntV aR aS k b n) (h0 : -18446744073709551616 ≤ n) (h1 : n < 18446744073709551616) (w : World) (hG : (glob aR aS).holds w) : Calls Tryz.prog 33 #[agV k b] w (Ret (Wd n) w) := by
  have h := (i w hG).1
  rw [hiI_hiW h0 h1] at h
  exact h
/-- What both say of two integers. -/
def ApI (aR aS : Addr) (f : FuncId) (op k b b2 K B : Int) : Prop := ∀ w, (glob aR aS).holds w → Calls Tryz.prog f #[.int .i64 op, agV k b, agV k b2] w (Ret (.tuple #[agV K B, .int .i64 0]) w)
theorem prog_of {aR aS : Addr} {o k : Nat} {b n b2 n2 N B : Int} (h : ∀ ρ, runP (wF 0) (cF 0) ρ aR aS o k = some (jP o k).2.2) (hn : Am n) (hn2 : Am n2) (h1 : Chk aR aS k b 0) (h2 : Chk aR aS k b2 0) (i1 : IntV aR aS k b n) (i2 : IntV aR aS k b2 n2)
    (hE : WFun aR aS (fE o) n n2 (Wd N)) (hK : KFun aR aS (fK o) (kOf o k) N B) : ApI aR aS 7 ((o + 6 : Nat) : Int) k b b2 (kOf o k) B := fun w hG => by
  obtain ⟨a1, a2⟩ := hn
  obtain ⟨c1, c2⟩ := hn2
  have hr : runE (wF 0) (cF 0) (re b n b2 n2 N B 0 0) aR aS [] [] (uP o k) [jP o k] := by
    unfold runE
    exact congrArg (fun x => [x]) (h (re b n b2 n2 N B 0 0))
  refine calls_symF (W := wF 0) (C := cF 0) (ρ := re b n b2 n2 N B 0 0) (L := []) (T := []) (fun _ h => by cases h) (fun _ h => by cases h) (fun e he => ?_) hr (e := jP o k) List.mem_cons_self rfl rfl (vs := [.int .i64 ((o + 6 : Nat) : Int), agV k b, agV k b2]) rfl rfl hG
  simp only [uP, List.mem_cons, List.not_mem_nil, or_false] at he
  rcases he with rfl | rfl | rfl | rfl | rfl | rfl
  · exact sokE (vs := [agV k b]) (v := .int .i64 0) rfl rfl rfl rfl fun w hG => (h1 w hG).2
  · exact sokE (vs := [agV k b2]) (v := .int .i64 0) rfl rfl rfl rfl fun w hG => (h2 w hG).2
  · exact sokE (vs := [agV k b]) (v := Wd n) rfl rfl rfl rfl fun w hG => intW i1 (by omega) a2 w hG
  · exact sokE (vs := [agV k b2]) (v := Wd n2) rfl rfl rfl rfl fun w hG => intW i2 (by omega) c2 w hG
  · exact sokE (vs := [Wd n, Wd n2]) (v := Wd N) rfl rfl rfl rfl fun w hG => hE w hG
  · exact sokE (vs := [.int .i64 (kOf o k), Wd N]) (v := agV (kOf o k) B) rfl rfl rfl rfl fun w hG => hK w hG
theorem run_P0 (W : Nat → Nat) (C : Nat → Nat × Nat) (ρ : Nat → Int) (aR aS : Addr) : k18.map (runP W C ρ aR aS 0) = k18.map fun k => some (jP 0 k).2.2 := by kernel_rfl
theorem run_P1 (W : Nat → Nat) (C : Nat → Nat × Nat) (ρ : Nat → Int) (aR aS : Addr) : k18.map (runP W C ρ aR aS 1) = k18.map fun k => some (jP 1 k).2.2 := by kernel_rfl
theorem run_P2 (W : Nat → Nat) (C : Nat → Nat × Nat) (ρ : Nat → Int) (aR aS : Addr) : k18.map (runP W C ρ aR aS 2) = k18.map fun k => some (jP 2 k).2.2 := by kernel_rfl
theorem run_P3 (W : Nat → Nat) (C : Nat → Nat × Nat) (ρ : Nat → Int) (aR aS : Addr) : k18.map (runP W C ρ aR aS 3) = k18.map fun k => some (jP 3 k).2.2 := by kernel_rfl
theorem run_P4 (W : Nat → Nat) (C : Nat → Nat × Nat) (ρ : Nat → Int) (aR aS : Addr) : k18.map (runP W C ρ aR aS 4) = k18.map fun k => some (jP 4 k).2.2 := by kernel_rfl
theorem run_P5 (W : Nat → Nat) (C : Nat → Nat × Nat) (ρ : Nat → Int) (aR aS : Addr) : k18.map (runP W C ρ aR aS 5) = k18.map fun k => some (jP 5 k).2.2 := by kernel_rfl
theorem run_P6 (W : Nat → Nat) (C : Nat → Nat × Nat) (ρ : Nat → Int) (aR aS : Addr) : k18.map (runP W C ρ aR aS 6) = k18.map fun k => some (jP 6 k).2.2 := by kernel_rfl
theorem run_P7 (W : Nat → Nat) (C : Nat → Nat × Nat) (ρ : Nat → Int) (aR aS : Addr) : k08.map (runP W C ρ aR aS 7) = k08.map fun k => some (jP 7 k).2.2 := by kernel_rfl
theorem run_P8 (W : Nat → Nat) (C : Nat → Nat × Nat) (ρ : Nat → Int) (aR aS : Addr) : k08.map (runP W C ρ aR aS 8) = k08.map fun k => some (jP 8 k).2.2 := by kernel_rfl
theorem run_P9 (W : Nat → Nat) (C : Nat → Nat × Nat) (ρ : Nat → Int) (aR aS : Addr) : k08.map (runP W C ρ aR aS 9) = k08.map fun k => some (jP 9 k).2.2 := by kernel_rfl
theorem run_P10 (W : Nat → Nat) (C : Nat → Nat × Nat) (ρ : Nat → Int) (aR aS : Addr) : k18.map (runP W C ρ aR aS 10) = k18.map fun k => some (jP 10 k).2.2 := by kernel_rfl
theorem run_P11 (W : Nat → Nat) (C : Nat → Nat × Nat) (ρ : Nat → Int) (aR aS : Addr) : k18.map (runP W C ρ aR aS 11) = k18.map fun k => some (jP 11 k).2.2 := by kernel_rfl
theorem run_P12 (W : Nat → Nat) (C : Nat → Nat × Nat) (ρ : Nat → Int) (aR aS : Addr) : k18.map (runP W C ρ aR aS 12) = k18.map fun k => some (jP 12 k).2.2 := by kernel_rfl
theorem run_P13 (W : Nat → Nat) (C : Nat → Nat × Nat) (ρ : Nat → Int) (aR aS : Addr) : k18.map (runP W C ρ aR aS 13) = k18.map fun k => some (jP 13 k).2.2 := by kernel_rfl
theorem run_P14 (W : Nat → Nat) (C : Nat → Nat × Nat) (ρ : Nat → Int) (aR aS : Addr) : k18.map (runP W C ρ aR aS 14) = k18.map fun k => some (jP 14 k).2.2 := by kernel_rfl
theorem run_P15 (W : Nat → Nat) (C : Nat → Nat × Nat) (ρ : Nat → Int) (aR aS : Addr) : k18.map (runP W C ρ aR aS 15) = k18.map fun k => some (jP 15 k).2.2 := by kernel_rfl
end
end Go.Proofs.YtonkcpmefnddaaaGreatDoor

namespace Go.Proofs.YtonkcpmefnddaaaGreatDoor
noncomputable section
open Go Go.RX
open Go.RowKit (Below)
set_option maxRecDepth 1000000
set_option maxHeartbeats 4000000

/-! ### Apply of integers, the reference's -/
def mK (k : Nat) : Int := match k with
  | 0 => 1
  | 1 => 255
  | 2 => 65535
  | 3 => 4294967295
  | 4 => 18446744073709551615
  | 5 => 255
  | 6 => 65535
  | 7 => 4294967295
  | 8 => 18446744073709551615
  | _ => 0
/-- The result: from the table, or an expression. -/
def xR (o : Nat) (r : Bool) : IE := match o with
  | 0 => .bin .add .u64 (.var 0) (.var 10)
  | 1 => .bin .sub .u64 (.var 0) (.var 10)
  | 2 => .bin .mul .u64 (.var 0) (.var 10)
  | 3 => .var 31
  | 4 => .var 32
  | 7 => .bin .and .u64 (.var 0) (.var 10)
  | 8 => .bin .or .u64 (.var 0) (.var 10)
  | 9 => .bin .xor .u64 (.var 0) (.var 10)
  | _ => if r then .bin .sub .u64 (.var 10) (.var 0) else .bin .sub .u64 (.var 0) (.var 10)
def eR (o k : Nat) (r : Bool) : IE := if o = 5 ∨ o = 6 then (if r then .var 10 else .var 0) else if o = 10 ∨ o = 11 ∨ o = 12 ∨ o = 13 ∨ o = 14 then .var 24 else .bin .and .u64 (xR o r) (.lit (mK k))
def uX (o k : Nat) (r : Bool) : List SEntry := match o with
  | 5 => [(93, [ag1 k, ag0 k], .v (.bool r))]
  | 6 => [(93, [ag0 k, ag1 k], .v (.bool r))]
  | 10 => [(100, [.v (.int .i64 16), ag0 k, ag1 k], agN k)]
  | 11 => [(100, [.v (.int .i64 17), ag0 k, ag1 k], agN k)]
  | 12 => [(101, [.v (.int .i64 18), ag0 k, ag1 k], agN k)]
  | 13 => [(101, [.v (.int .i64 19), ag0 k, ag1 k], agN k)]
  | 14 => [(102, [ag0 k, ag1 k], agN k)]
  | 15 => [(93, [ag0 k, ag1 k], .v (.bool r))]
  | _ => []
def uR (o k : Nat) (r : Bool) : List SEntry := uX o k r ++ [(35, [ag0 k], .v (.int .i64 0)), (35, [ag1 k], .v (.int .i64 0)), (98, [ag0 k, ag1 k], .tuple [.sym (.int .u64 (.var 31)), .sym (.int .u64 (.var 32))])]
def jR2 (o k : Nat) (r : Bool) : SEntry := (8, [.v (.int .i64 ((o + 6 : Nat) : Int)), ag0 k, ag1 k], .tuple [.agg [.v (.int .i64 (kOf o k)), .sym (.int .u64 (eR o k r))], .v (.int .i64 0)])
noncomputable def runR (W : Nat → Nat) (C : Nat → Nat × Nat) (ρ : Nat → Int) (aR aS : Addr) (o : Nat) (r : Bool) (k : Nat) : Option SVal := (@call (E W C ρ [] []) Tryz.prog (glob aR aS) (tabS (uR o k r)) 300 60 (.fn (jR2 o k r).1) (jR2 o k r).2.1 []).map fun r => nrm r.1
theorem ref_of {aR aS : Addr} {o k : Nat} {r : Bool} {b n b2 n2 B : Int} {q s : Int} (h : ∀ ρ, runR (wF 0) (cF 0) ρ aR aS o r k = some (jR2 o k r).2.2) (h1 : Chk aR aS k b 0) (h2 : Chk aR aS k b2 0)
    (hX : ∀ e ∈ uX o k r, @SOk (E (wF 0) (cF 0) (re b n b2 n2 0 B q s) [] []) Tryz.prog (glob aR aS) e) (hd : ∀ w, (glob aR aS).holds w → Calls Tryz.prog 98 #[agV k b, agV k b2] w (Ret (.tuple #[.int .u64 q, .int .u64 s]) w)) (hB : (eR o k r).ev (re b n b2 n2 0 B q s) = B) : ApI aR aS 8 ((o + 6 : Nat) : Int) k b b2 (kOf o k) B := fun w hG => by
  have hr : runE (wF 0) (cF 0) (re b n b2 n2 0 B q s) aR aS [] [] (uR o k r) [jR2 o k r] := by
    unfold runE
    exact congrArg (fun x => [x]) (h (re b n b2 n2 0 B q s))
  refine calls_symF (W := wF 0) (C := cF 0) (ρ := re b n b2 n2 0 B q s) (L := []) (T := []) (fun _ h => by cases h) (fun _ h => by cases h) (fun e he => ?_) hr (e := jR2 o k r) List.mem_cons_self rfl rfl (vs := [.int .i64 ((o + 6 : Nat) : Int), agV k b, agV k b2]) rfl (by rw [show some (Value.tuple #[agV (kOf o k) B, .int .i64 0]) = some (Value.tuple #[agV (kOf o k) ((eR o k r).ev (re b n b2 n2 0 B q s)), .int .i64 0]) by rw [hB]]; rfl) hG
  rcases List.mem_append.1 he with he | he
  · exact hX e he
  simp only [List.mem_cons, List.not_mem_nil, or_false] at he
  rcases he with rfl | rfl | rfl
  · exact sokE (vs := [agV k b]) (v := .int .i64 0) rfl rfl rfl rfl fun w hG => (h1 w hG).1
  · exact sokE (vs := [agV k b2]) (v := .int .i64 0) rfl rfl rfl rfl fun w hG => (h2 w hG).1
  · exact sokE (vs := [agV k b, agV k b2]) (v := .tuple #[.int .u64 q, .int .u64 s]) rfl rfl rfl rfl fun w hG => hd w hG
theorem run_R0 (W : Nat → Nat) (C : Nat → Nat × Nat) (ρ : Nat → Int) (aR aS : Addr) : k18.map (runR W C ρ aR aS 0 false) = k18.map fun k => some (jR2 0 k false).2.2 := by kernel_rfl
theorem run_R1 (W : Nat → Nat) (C : Nat → Nat × Nat) (ρ : Nat → Int) (aR aS : Addr) : k18.map (runR W C ρ aR aS 1 false) = k18.map fun k => some (jR2 1 k false).2.2 := by kernel_rfl
theorem run_R2 (W : Nat → Nat) (C : Nat → Nat × Nat) (ρ : Nat → Int) (aR aS : Addr) : k18.map (runR W C ρ aR aS 2 false) = k18.map fun k => some (jR2 2 k false).2.2 := by kernel_rfl
theorem run_R3 (W : Nat → Nat) (C : Nat → Nat × Nat) (ρ : Nat → Int) (aR aS : Addr) : k18.map (runR W C ρ aR aS 3 false) = k18.map fun k => some (jR2 3 k false).2.2 := by kernel_rfl
theorem run_R4 (W : Nat → Nat) (C : Nat → Nat × Nat) (ρ : Nat → Int) (aR aS : Addr) : k18.map (runR W C ρ aR aS 4 false) = k18.map fun k => some (jR2 4 k false).2.2 := by kernel_rfl
theorem run_R5t (W : Nat → Nat) (C : Nat → Nat × Nat) (ρ : Nat → Int) (aR aS : Addr) : k18.map (runR W C ρ aR aS 5 true) = k18.map fun k => some (jR2 5 k true).2.2 := by kernel_rfl
theorem run_R5f (W : Nat → Nat) (C : Nat → Nat × Nat) (ρ : Nat → Int) (aR aS : Addr) : k18.map (runR W C ρ aR aS 5 false) = k18.map fun k => some (jR2 5 k false).2.2 := by kernel_rfl
theorem run_R6t (W : Nat → Nat) (C : Nat → Nat × Nat) (ρ : Nat → Int) (aR aS : Addr) : k18.map (runR W C ρ aR aS 6 true) = k18.map fun k => some (jR2 6 k true).2.2 := by kernel_rfl
theorem run_R6f (W : Nat → Nat) (C : Nat → Nat × Nat) (ρ : Nat → Int) (aR aS : Addr) : k18.map (runR W C ρ aR aS 6 false) = k18.map fun k => some (jR2 6 k false).2.2 := by kernel_rfl
theorem run_R7 (W : Nat → Nat) (C : Nat → Nat × Nat) (ρ : Nat → Int) (aR aS : Addr) : k08.map (runR W C ρ aR aS 7 false) = k08.map fun k => some (jR2 7 k false).2.2 := by kernel_rfl
theorem run_R8 (W : Nat → Nat) (C : Nat → Nat × Nat) (ρ : Nat → Int) (aR aS : Addr) : k08.map (runR W C ρ aR aS 8 false) = k08.map fun k => some (jR2 8 k false).2.2 := by kernel_rfl
theorem run_R9 (W : Nat → Nat) (C : Nat → Nat × Nat) (ρ : Nat → Int) (aR aS : Addr) : k08.map (runR W C ρ aR aS 9 false) = k08.map fun k => some (jR2 9 k false).2.2 := by kernel_rfl
theorem run_R10 (W : Nat → Nat) (C : Nat → Nat × Nat) (ρ : Nat → Int) (aR aS : Addr) : k18.map (runR W C ρ aR aS 10 false) = k18.map fun k => some (jR2 10 k false).2.2 := by kernel_rfl
theorem run_R11 (W : Nat → Nat) (C : Nat → Nat × Nat) (ρ : Nat → Int) (aR aS : Addr) : k18.map (runR W C ρ aR aS 11 false) = k18.map fun k => some (jR2 11 k false).2.2 := by kernel_rfl
theorem run_R12 (W : Nat → Nat) (C : Nat → Nat × Nat) (ρ : Nat → Int) (aR aS : Addr) : k18.map (runR W C ρ aR aS 12 false) = k18.map fun k => some (jR2 12 k false).2.2 := by kernel_rfl
theorem run_R13 (W : Nat → Nat) (C : Nat → Nat × Nat) (ρ : Nat → Int) (aR aS : Addr) : k18.map (runR W C ρ aR aS 13 false) = k18.map fun k => some (jR2 13 k false).2.2 := by kernel_rfl
theorem run_R14 (W : Nat → Nat) (C : Nat → Nat × Nat) (ρ : Nat → Int) (aR aS : Addr) : k18.map (runR W C ρ aR aS 14 false) = k18.map fun k => some (jR2 14 k false).2.2 := by kernel_rfl
theorem run_R15t (W : Nat → Nat) (C : Nat → Nat × Nat) (ρ : Nat → Int) (aR aS : Addr) : k18.map (runR W C ρ aR aS 15 true) = k18.map fun k => some (jR2 15 k true).2.2 := by kernel_rfl
theorem run_R15f (W : Nat → Nat) (C : Nat → Nat × Nat) (ρ : Nat → Int) (aR aS : Addr) : k18.map (runR W C ρ aR aS 15 false) = k18.map fun k => some (jR2 15 k false).2.2 := by kernel_rfl
end
end Go.Proofs.YtonkcpmefnddaaaGreatDoor
