import Derived.Test.YtbhhdjlmbmeiaaaGreatDoorHT
namespace Go.Proofs.YtbhhdjlmbmeiaaaGreatDoor
noncomputable section
open Go Go.RX
open Go.RowKit (Below)
set_option maxRecDepth 1000000
set_option maxHeartbeats 4000000
def L_S2_0e : List CF := []
theorem run_S2_0e : RunE L_S2_0e [] (UI 0) [(7, [.v (.int .i64 2), ag0 0], .v (.tuple #[.agg #[.int .i64 0, .int .u64 0], .int .i64 12])), (8, [.v (.int .i64 2), ag0 0], .v (.tuple #[.agg #[.int .i64 0, .int .u64 0], .int .i64 12]))] := fun W C ρ aR aS => by unfold runE; kernel_rfl
theorem ag_S2_0e {aR aS : Addr} (b n : Int) (_ : HN 0 b n)  (hc : Chk aR aS 0 b 0) (hi : IntV aR aS 0 b n) : AgS aR aS 2 0 b := ⟨0, 0, 12, fun w hG => pair_of (W := wF (FloatKind.nearest .f32 n)) (C := cF (FloatKind.nearest .f32 n)) (ρ := ri b n 0 2) (fun _ h => by cases h) (fun _ h => by cases h) (UI_ok (nearest_num n) hc hi) (run_S2_0e _ _ _ aR aS) rfl rfl rfl (vs := [.int .i64 2, agV 0 b]) rfl rfl rfl w hG⟩
def L_S6_0e : List CF := []
theorem run_S6_0e : RunE L_S6_0e [] (UI 0) [(7, [.v (.int .i64 6), ag0 0], .v (.tuple #[.agg #[.int .i64 0, .int .u64 0], .int .i64 12])), (8, [.v (.int .i64 6), ag0 0], .v (.tuple #[.agg #[.int .i64 0, .int .u64 0], .int .i64 12]))] := fun W C ρ aR aS => by unfold runE; kernel_rfl
theorem ag_S6_0e {aR aS : Addr} (b n : Int) (_ : HN 0 b n)  (hc : Chk aR aS 0 b 0) (hi : IntV aR aS 0 b n) : AgS aR aS 6 0 b := ⟨0, 0, 12, fun w hG => pair_of (W := wF (FloatKind.nearest .f32 n)) (C := cF (FloatKind.nearest .f32 n)) (ρ := ri b n 0 6) (fun _ h => by cases h) (fun _ h => by cases h) (UI_ok (nearest_num n) hc hi) (run_S6_0e _ _ _ aR aS) rfl rfl rfl (vs := [.int .i64 6, agV 0 b]) rfl rfl rfl w hG⟩
def L_S10_0e : List CF := []
theorem run_S10_0e : RunE L_S10_0e [] (UI 0) [(7, [.v (.int .i64 10), ag0 0], .v (.tuple #[.agg #[.int .i64 0, .int .u64 0], .int .i64 12])), (8, [.v (.int .i64 10), ag0 0], .v (.tuple #[.agg #[.int .i64 0, .int .u64 0], .int .i64 12]))] := fun W C ρ aR aS => by unfold runE; kernel_rfl
theorem ag_S10_0e {aR aS : Addr} (b n : Int) (_ : HN 0 b n)  (hc : Chk aR aS 0 b 0) (hi : IntV aR aS 0 b n) : AgS aR aS 10 0 b := ⟨0, 0, 12, fun w hG => pair_of (W := wF (FloatKind.nearest .f32 n)) (C := cF (FloatKind.nearest .f32 n)) (ρ := ri b n 0 10) (fun _ h => by cases h) (fun _ h => by cases h) (UI_ok (nearest_num n) hc hi) (run_S10_0e _ _ _ aR aS) rfl rfl rfl (vs := [.int .i64 10, agV 0 b]) rfl rfl rfl w hG⟩
def L_S3_1p : List CF := [⟨.neq, .var 2, .lit 0, false⟩,
  ⟨.lss, .var 3, .lit 0, false⟩,
  ⟨.neq, .lit 0, .var 2, false⟩,
  ⟨.lss, .lit 4294967295, .var 3, false⟩,
  ⟨.gtr, .var 0, .lit 4294967295, false⟩]
theorem ok_S3_1p (b n : Int) (h : HN 1 b n) (h0 : 0 ≤ n) (h1 : n ≤ 4294967295) : ∀ f ∈ L_S3_1p, f.ok (ri b n 1 3) := by
  obtain ⟨hb0, hb1, hn, l0, l1⟩ := h
  intro f hf
  simp only [L_S3_1p, List.mem_cons, List.not_mem_nil, or_false] at hf
  rcases hf with rfl | rfl | rfl | rfl | rfl
  · exact ⟨rfl, cmp_neq_f (by simp (disch := omega) only [IE.ev, ri, rc_2, hiI_pos] <;> omega)⟩
  · exact ⟨rfl, cmp_lss_f (by simp (disch := omega) only [IE.ev, ri, rc_3, loI] <;> omega)⟩
  · exact ⟨rfl, cmp_neq_f (by simp (disch := omega) only [IE.ev, ri, rc_2, hiI_pos] <;> omega)⟩
  · exact ⟨rfl, cmp_lss_f (by simp (disch := omega) only [IE.ev, ri, rc_3, loI] <;> omega)⟩
  · exact ⟨rfl, cmp_gtr_f (by simp (disch := omega) only [IE.ev, ri, rc_0] <;> omega)⟩
theorem run_S3_1p : RunE L_S3_1p [] (UI 1) [(7, [.v (.int .i64 3), ag0 1], .tuple [.agg [.v (.int .i64 3), .sym (.int .u64 (.sh .shr .u64 (.sh .shl .u64 (.var 3) (.lit 32)) (.lit 32)))], .v (.int .i64 0)]), (8, [.v (.int .i64 3), ag0 1], .tuple [.agg [.v (.int .i64 3), .sym (.int .u64 (.bin .and .u64 (.var 0) (.lit 4294967295)))], .v (.int .i64 0)])] := fun W C ρ aR aS => by unfold runE; kernel_rfl
theorem ag_S3_1p {aR aS : Addr} (b n : Int) (h : HN 1 b n) (h0 : 0 ≤ n) (h1 : n ≤ 4294967295) (hc : Chk aR aS 1 b 0) (hi : IntV aR aS 1 b n) : AgS aR aS 3 1 b := by
  have e : (IE.ev (ri b n 1 3) (.bin .and .u64 (.var 0) (.lit 4294967295)) : Int) = IE.ev (ri b n 1 3) (.sh .shr .u64 (.sh .shl .u64 (.var 3) (.lit 32)) (.lit 32)) := by
    obtain ⟨hb0, hb1, hn, l0, l1⟩ := h
    simp (disch := omega) only [IE.ev, ri, rc_0, rc_3, loI, and_u64_32, shl_u64_32, shr_u64_32, wrap_u64] <;> omega
  exact ⟨3, IE.ev (ri b n 1 3) (.sh .shr .u64 (.sh .shl .u64 (.var 3) (.lit 32)) (.lit 32)), 0, fun w hG => pair_of (W := wF (FloatKind.nearest .f32 n)) (C := cF (FloatKind.nearest .f32 n)) (ρ := ri b n 1 3) (ok_S3_1p b n h h0 h1) (fun _ h => by cases h) (UI_ok (nearest_num n) hc hi) (run_S3_1p _ _ _ aR aS) rfl rfl rfl (vs := [.int .i64 3, agV 1 b]) rfl rfl (tupE 3 0 e) w hG⟩
def L_S6_1p : List CF := [⟨.neq, .var 2, .lit 18446744073709551615, true⟩,
  ⟨.lss, (.cv .i64 (.var 2)), .lit (-1), false⟩,
  ⟨.neq, .lit 0, .var 2, false⟩,
  ⟨.lss, .lit 32767, .var 3, false⟩,
  ⟨.gtr, .var 0, .lit 32767, false⟩]
theorem ok_S6_1p (b n : Int) (h : HN 1 b n) (h0 : 0 ≤ n) (h1 : n ≤ 32767) : ∀ f ∈ L_S6_1p, f.ok (ri b n 1 6) := by
  obtain ⟨hb0, hb1, hn, l0, l1⟩ := h
  intro f hf
  simp only [L_S6_1p, List.mem_cons, List.not_mem_nil, or_false] at hf
  rcases hf with rfl | rfl | rfl | rfl | rfl
  · exact ⟨rfl, cmp_neq_t (by simp (disch := omega) only [IE.ev, ri, rc_2, hiI_pos] <;> omega)⟩
  · exact ⟨rfl, cmp_lss_f (by simp (disch := omega) only [IE.ev, ri, rc_2, hiI_pos, wrap_i64] <;> omega)⟩
  · exact ⟨rfl, cmp_neq_f (by simp (disch := omega) only [IE.ev, ri, rc_2, hiI_pos] <;> omega)⟩
  · exact ⟨rfl, cmp_lss_f (by simp (disch := omega) only [IE.ev, ri, rc_3, loI] <;> omega)⟩
  · exact ⟨rfl, cmp_gtr_f (by simp (disch := omega) only [IE.ev, ri, rc_0] <;> omega)⟩
theorem run_S6_1p : RunE L_S6_1p [] (UI 1) [(7, [.v (.int .i64 6), ag0 1], .tuple [.agg [.v (.int .i64 6), .sym (.int .u64 (.sh .shr .u64 (.sh .shl .u64 (.var 3) (.lit 48)) (.lit 48)))], .v (.int .i64 0)]), (8, [.v (.int .i64 6), ag0 1], .tuple [.agg [.v (.int .i64 6), .sym (.int .u64 (.bin .and .u64 (.var 0) (.lit 65535)))], .v (.int .i64 0)])] := fun W C ρ aR aS => by unfold runE; kernel_rfl
theorem ag_S6_1p {aR aS : Addr} (b n : Int) (h : HN 1 b n) (h0 : 0 ≤ n) (h1 : n ≤ 32767) (hc : Chk aR aS 1 b 0) (hi : IntV aR aS 1 b n) : AgS aR aS 6 1 b := by
  have e : (IE.ev (ri b n 1 6) (.bin .and .u64 (.var 0) (.lit 65535)) : Int) = IE.ev (ri b n 1 6) (.sh .shr .u64 (.sh .shl .u64 (.var 3) (.lit 48)) (.lit 48)) := by
    obtain ⟨hb0, hb1, hn, l0, l1⟩ := h
    simp (disch := omega) only [IE.ev, ri, rc_0, rc_3, loI, and_u64_16, shl_u64_48, shr_u64_48, wrap_u64] <;> omega
  exact ⟨6, IE.ev (ri b n 1 6) (.sh .shr .u64 (.sh .shl .u64 (.var 3) (.lit 48)) (.lit 48)), 0, fun w hG => pair_of (W := wF (FloatKind.nearest .f32 n)) (C := cF (FloatKind.nearest .f32 n)) (ρ := ri b n 1 6) (ok_S6_1p b n h h0 h1) (fun _ h => by cases h) (UI_ok (nearest_num n) hc hi) (run_S6_1p _ _ _ aR aS) rfl rfl rfl (vs := [.int .i64 6, agV 1 b]) rfl rfl (tupE 6 0 e) w hG⟩
def L_S10_1e : List CF := []
theorem run_S10_1e : RunE L_S10_1e [] (UI 1) [(7, [.v (.int .i64 10), ag0 1], .v (.tuple #[.agg #[.int .i64 0, .int .u64 0], .int .i64 12])), (8, [.v (.int .i64 10), ag0 1], .v (.tuple #[.agg #[.int .i64 0, .int .u64 0], .int .i64 12]))] := fun W C ρ aR aS => by unfold runE; kernel_rfl
theorem ag_S10_1e {aR aS : Addr} (b n : Int) (_ : HN 1 b n)  (hc : Chk aR aS 1 b 0) (hi : IntV aR aS 1 b n) : AgS aR aS 10 1 b := ⟨0, 0, 12, fun w hG => pair_of (W := wF (FloatKind.nearest .f32 n)) (C := cF (FloatKind.nearest .f32 n)) (ρ := ri b n 1 10) (fun _ h => by cases h) (fun _ h => by cases h) (UI_ok (nearest_num n) hc hi) (run_S10_1e _ _ _ aR aS) rfl rfl rfl (vs := [.int .i64 10, agV 1 b]) rfl rfl rfl w hG⟩
def L_S2_2p : List CF := [⟨.neq, .var 2, .lit 0, false⟩,
  ⟨.lss, .var 3, .lit 0, false⟩,
  ⟨.neq, .lit 0, .var 2, false⟩,
  ⟨.lss, .lit 65535, .var 3, false⟩,
  ⟨.gtr, .var 0, .lit 65535, false⟩]
theorem ok_S2_2p (b n : Int) (h : HN 2 b n) (h0 : 0 ≤ n) (h1 : n ≤ 65535) : ∀ f ∈ L_S2_2p, f.ok (ri b n 2 2) := by
  obtain ⟨hb0, hb1, hn, l0, l1⟩ := h
  intro f hf
  simp only [L_S2_2p, List.mem_cons, List.not_mem_nil, or_false] at hf
  rcases hf with rfl | rfl | rfl | rfl | rfl
  · exact ⟨rfl, cmp_neq_f (by simp (disch := omega) only [IE.ev, ri, rc_2, hiI_pos] <;> omega)⟩
  · exact ⟨rfl, cmp_lss_f (by simp (disch := omega) only [IE.ev, ri, rc_3, loI] <;> omega)⟩
  · exact ⟨rfl, cmp_neq_f (by simp (disch := omega) only [IE.ev, ri, rc_2, hiI_pos] <;> omega)⟩
  · exact ⟨rfl, cmp_lss_f (by simp (disch := omega) only [IE.ev, ri, rc_3, loI] <;> omega)⟩
  · exact ⟨rfl, cmp_gtr_f (by simp (disch := omega) only [IE.ev, ri, rc_0] <;> omega)⟩
theorem run_S2_2p : RunE L_S2_2p [] (UI 2) [(7, [.v (.int .i64 2), ag0 2], .tuple [.agg [.v (.int .i64 2), .sym (.int .u64 (.sh .shr .u64 (.sh .shl .u64 (.var 3) (.lit 48)) (.lit 48)))], .v (.int .i64 0)]), (8, [.v (.int .i64 2), ag0 2], .tuple [.agg [.v (.int .i64 2), .sym (.int .u64 (.bin .and .u64 (.var 0) (.lit 65535)))], .v (.int .i64 0)])] := fun W C ρ aR aS => by unfold runE; kernel_rfl
theorem ag_S2_2p {aR aS : Addr} (b n : Int) (h : HN 2 b n) (h0 : 0 ≤ n) (h1 : n ≤ 65535) (hc : Chk aR aS 2 b 0) (hi : IntV aR aS 2 b n) : AgS aR aS 2 2 b := by
  have e : (IE.ev (ri b n 2 2) (.bin .and .u64 (.var 0) (.lit 65535)) : Int) = IE.ev (ri b n 2 2) (.sh .shr .u64 (.sh .shl .u64 (.var 3) (.lit 48)) (.lit 48)) := by
    obtain ⟨hb0, hb1, hn, l0, l1⟩ := h
    simp (disch := omega) only [IE.ev, ri, rc_0, rc_3, loI, and_u64_16, shl_u64_48, shr_u64_48, wrap_u64] <;> omega
  exact ⟨2, IE.ev (ri b n 2 2) (.sh .shr .u64 (.sh .shl .u64 (.var 3) (.lit 48)) (.lit 48)), 0, fun w hG => pair_of (W := wF (FloatKind.nearest .f32 n)) (C := cF (FloatKind.nearest .f32 n)) (ρ := ri b n 2 2) (ok_S2_2p b n h h0 h1) (fun _ h => by cases h) (UI_ok (nearest_num n) hc hi) (run_S2_2p _ _ _ aR aS) rfl rfl rfl (vs := [.int .i64 2, agV 2 b]) rfl rfl (tupE 2 0 e) w hG⟩
def L_S5_2a : List CF := [⟨.neq, .var 2, .lit 18446744073709551615, true⟩,
  ⟨.lss, (.cv .i64 (.var 2)), .lit (-1), false⟩,
  ⟨.neq, .lit 0, .var 2, false⟩,
  ⟨.lss, .lit 127, .var 3, true⟩,
  ⟨.gtr, .var 0, .lit 127, true⟩]
theorem ok_S5_2a (b n : Int) (h : HN 2 b n) (h0 : 127 < n) : ∀ f ∈ L_S5_2a, f.ok (ri b n 2 5) := by
  obtain ⟨hb0, hb1, hn, l0, l1⟩ := h
  intro f hf
  simp only [L_S5_2a, List.mem_cons, List.not_mem_nil, or_false] at hf
  rcases hf with rfl | rfl | rfl | rfl | rfl
  · exact ⟨rfl, cmp_neq_t (by simp (disch := omega) only [IE.ev, ri, rc_2, hiI_pos] <;> omega)⟩
  · exact ⟨rfl, cmp_lss_f (by simp (disch := omega) only [IE.ev, ri, rc_2, hiI_pos, wrap_i64] <;> omega)⟩
  · exact ⟨rfl, cmp_neq_f (by simp (disch := omega) only [IE.ev, ri, rc_2, hiI_pos] <;> omega)⟩
  · exact ⟨rfl, cmp_lss_t (by simp (disch := omega) only [IE.ev, ri, rc_3, loI] <;> omega)⟩
  · exact ⟨rfl, cmp_gtr_t (by simp (disch := omega) only [IE.ev, ri, rc_0] <;> omega)⟩
theorem run_S5_2a : RunE L_S5_2a [] (UI 2) [(7, [.v (.int .i64 5), ag0 2], .v (.tuple #[.agg #[.int .i64 5, .int .u64 127], .int .i64 0])), (8, [.v (.int .i64 5), ag0 2], .v (.tuple #[.agg #[.int .i64 5, .int .u64 127], .int .i64 0]))] := fun W C ρ aR aS => by unfold runE; kernel_rfl
theorem ag_S5_2a {aR aS : Addr} (b n : Int) (h : HN 2 b n) (h0 : 127 < n) (hc : Chk aR aS 2 b 0) (hi : IntV aR aS 2 b n) : AgS aR aS 5 2 b := ⟨5, 127, 0, fun w hG => pair_of (W := wF (FloatKind.nearest .f32 n)) (C := cF (FloatKind.nearest .f32 n)) (ρ := ri b n 2 5) (ok_S5_2a b n h h0) (fun _ h => by cases h) (UI_ok (nearest_num n) hc hi) (run_S5_2a _ _ _ aR aS) rfl rfl rfl (vs := [.int .i64 5, agV 2 b]) rfl rfl rfl w hG⟩
def L_S8_2p : List CF := [⟨.neq, .var 2, .lit 18446744073709551615, true⟩,
  ⟨.lss, (.cv .i64 (.var 2)), .lit (-1), false⟩,
  ⟨.neq, .lit 0, .var 2, false⟩,
  ⟨.lss, .lit 9223372036854775807, .var 3, false⟩,
  ⟨.gtr, .var 0, .lit 9223372036854775807, false⟩]
theorem ok_S8_2p (b n : Int) (h : HN 2 b n) (h0 : 0 ≤ n) (h1 : n ≤ 9223372036854775807) : ∀ f ∈ L_S8_2p, f.ok (ri b n 2 8) := by
  obtain ⟨hb0, hb1, hn, l0, l1⟩ := h
  intro f hf
  simp only [L_S8_2p, List.mem_cons, List.not_mem_nil, or_false] at hf
  rcases hf with rfl | rfl | rfl | rfl | rfl
  · exact ⟨rfl, cmp_neq_t (by simp (disch := omega) only [IE.ev, ri, rc_2, hiI_pos] <;> omega)⟩
  · exact ⟨rfl, cmp_lss_f (by simp (disch := omega) only [IE.ev, ri, rc_2, hiI_pos, wrap_i64] <;> omega)⟩
  · exact ⟨rfl, cmp_neq_f (by simp (disch := omega) only [IE.ev, ri, rc_2, hiI_pos] <;> omega)⟩
  · exact ⟨rfl, cmp_lss_f (by simp (disch := omega) only [IE.ev, ri, rc_3, loI] <;> omega)⟩
  · exact ⟨rfl, cmp_gtr_f (by simp (disch := omega) only [IE.ev, ri, rc_0] <;> omega)⟩
theorem run_S8_2p : RunE L_S8_2p [] (UI 2) [(7, [.v (.int .i64 8), ag0 2], .tuple [.agg [.v (.int .i64 8), .sym (.int .u64 (.sh .shr .u64 (.sh .shl .u64 (.var 3) (.lit 0)) (.lit 0)))], .v (.int .i64 0)]), (8, [.v (.int .i64 8), ag0 2], .tuple [.agg [.v (.int .i64 8), .sym (.int .u64 (.bin .and .u64 (.var 0) (.lit 18446744073709551615)))], .v (.int .i64 0)])] := fun W C ρ aR aS => by unfold runE; kernel_rfl
theorem ag_S8_2p {aR aS : Addr} (b n : Int) (h : HN 2 b n) (h0 : 0 ≤ n) (h1 : n ≤ 9223372036854775807) (hc : Chk aR aS 2 b 0) (hi : IntV aR aS 2 b n) : AgS aR aS 8 2 b := by
  have e : (IE.ev (ri b n 2 8) (.bin .and .u64 (.var 0) (.lit 18446744073709551615)) : Int) = IE.ev (ri b n 2 8) (.sh .shr .u64 (.sh .shl .u64 (.var 3) (.lit 0)) (.lit 0)) := by
    obtain ⟨hb0, hb1, hn, l0, l1⟩ := h
    simp (disch := omega) only [IE.ev, ri, rc_0, rc_3, loI, and_u64_64, shl_u64_0, shr_u64_0, wrap_u64] <;> omega
  exact ⟨8, IE.ev (ri b n 2 8) (.sh .shr .u64 (.sh .shl .u64 (.var 3) (.lit 0)) (.lit 0)), 0, fun w hG => pair_of (W := wF (FloatKind.nearest .f32 n)) (C := cF (FloatKind.nearest .f32 n)) (ρ := ri b n 2 8) (ok_S8_2p b n h h0 h1) (fun _ h => by cases h) (UI_ok (nearest_num n) hc hi) (run_S8_2p _ _ _ aR aS) rfl rfl rfl (vs := [.int .i64 8, agV 2 b]) rfl rfl (tupE 8 0 e) w hG⟩
def L_S1_3p : List CF := [⟨.neq, .var 2, .lit 0, false⟩,
  ⟨.lss, .var 3, .lit 0, false⟩,
  ⟨.neq, .lit 0, .var 2, false⟩,
  ⟨.lss, .lit 255, .var 3, false⟩,
  ⟨.gtr, .var 0, .lit 255, false⟩]
theorem ok_S1_3p (b n : Int) (h : HN 3 b n) (h0 : 0 ≤ n) (h1 : n ≤ 255) : ∀ f ∈ L_S1_3p, f.ok (ri b n 3 1) := by
  obtain ⟨hb0, hb1, hn, l0, l1⟩ := h
  intro f hf
  simp only [L_S1_3p, List.mem_cons, List.not_mem_nil, or_false] at hf
  rcases hf with rfl | rfl | rfl | rfl | rfl
  · exact ⟨rfl, cmp_neq_f (by simp (disch := omega) only [IE.ev, ri, rc_2, hiI_pos] <;> omega)⟩
  · exact ⟨rfl, cmp_lss_f (by simp (disch := omega) only [IE.ev, ri, rc_3, loI] <;> omega)⟩
  · exact ⟨rfl, cmp_neq_f (by simp (disch := omega) only [IE.ev, ri, rc_2, hiI_pos] <;> omega)⟩
  · exact ⟨rfl, cmp_lss_f (by simp (disch := omega) only [IE.ev, ri, rc_3, loI] <;> omega)⟩
  · exact ⟨rfl, cmp_gtr_f (by simp (disch := omega) only [IE.ev, ri, rc_0] <;> omega)⟩
theorem run_S1_3p : RunE L_S1_3p [] (UI 3) [(7, [.v (.int .i64 1), ag0 3], .tuple [.agg [.v (.int .i64 1), .sym (.int .u64 (.sh .shr .u64 (.sh .shl .u64 (.var 3) (.lit 56)) (.lit 56)))], .v (.int .i64 0)]), (8, [.v (.int .i64 1), ag0 3], .tuple [.agg [.v (.int .i64 1), .sym (.int .u64 (.bin .and .u64 (.var 0) (.lit 255)))], .v (.int .i64 0)])] := fun W C ρ aR aS => by unfold runE; kernel_rfl
theorem ag_S1_3p {aR aS : Addr} (b n : Int) (h : HN 3 b n) (h0 : 0 ≤ n) (h1 : n ≤ 255) (hc : Chk aR aS 3 b 0) (hi : IntV aR aS 3 b n) : AgS aR aS 1 3 b := by
  have e : (IE.ev (ri b n 3 1) (.bin .and .u64 (.var 0) (.lit 255)) : Int) = IE.ev (ri b n 3 1) (.sh .shr .u64 (.sh .shl .u64 (.var 3) (.lit 56)) (.lit 56)) := by
    obtain ⟨hb0, hb1, hn, l0, l1⟩ := h
    simp (disch := omega) only [IE.ev, ri, rc_0, rc_3, loI, and_u64_8, shl_u64_56, shr_u64_56, wrap_u64] <;> omega
  exact ⟨1, IE.ev (ri b n 3 1) (.sh .shr .u64 (.sh .shl .u64 (.var 3) (.lit 56)) (.lit 56)), 0, fun w hG => pair_of (W := wF (FloatKind.nearest .f32 n)) (C := cF (FloatKind.nearest .f32 n)) (ρ := ri b n 3 1) (ok_S1_3p b n h h0 h1) (fun _ h => by cases h) (UI_ok (nearest_num n) hc hi) (run_S1_3p _ _ _ aR aS) rfl rfl rfl (vs := [.int .i64 1, agV 3 b]) rfl rfl (tupE 1 0 e) w hG⟩
def L_S3_3p : List CF := [⟨.neq, .var 2, .lit 0, false⟩,
  ⟨.lss, .var 3, .lit 0, false⟩,
  ⟨.neq, .lit 0, .var 2, false⟩,
  ⟨.lss, .lit 4294967295, .var 3, false⟩,
  ⟨.gtr, .var 0, .lit 4294967295, false⟩]
theorem ok_S3_3p (b n : Int) (h : HN 3 b n) (h0 : 0 ≤ n) (h1 : n ≤ 4294967295) : ∀ f ∈ L_S3_3p, f.ok (ri b n 3 3) := by
  obtain ⟨hb0, hb1, hn, l0, l1⟩ := h
  intro f hf
  simp only [L_S3_3p, List.mem_cons, List.not_mem_nil, or_false] at hf
  rcases hf with rfl | rfl | rfl | rfl | rfl
  · exact ⟨rfl, cmp_neq_f (by simp (disch := omega) only [IE.ev, ri, rc_2, hiI_pos] <;> omega)⟩
  · exact ⟨rfl, cmp_lss_f (by simp (disch := omega) only [IE.ev, ri, rc_3, loI] <;> omega)⟩
  · exact ⟨rfl, cmp_neq_f (by simp (disch := omega) only [IE.ev, ri, rc_2, hiI_pos] <;> omega)⟩
  · exact ⟨rfl, cmp_lss_f (by simp (disch := omega) only [IE.ev, ri, rc_3, loI] <;> omega)⟩
  · exact ⟨rfl, cmp_gtr_f (by simp (disch := omega) only [IE.ev, ri, rc_0] <;> omega)⟩
theorem run_S3_3p : RunE L_S3_3p [] (UI 3) [(7, [.v (.int .i64 3), ag0 3], .tuple [.agg [.v (.int .i64 3), .sym (.int .u64 (.sh .shr .u64 (.sh .shl .u64 (.var 3) (.lit 32)) (.lit 32)))], .v (.int .i64 0)]), (8, [.v (.int .i64 3), ag0 3], .tuple [.agg [.v (.int .i64 3), .sym (.int .u64 (.bin .and .u64 (.var 0) (.lit 4294967295)))], .v (.int .i64 0)])] := fun W C ρ aR aS => by unfold runE; kernel_rfl
theorem ag_S3_3p {aR aS : Addr} (b n : Int) (h : HN 3 b n) (h0 : 0 ≤ n) (h1 : n ≤ 4294967295) (hc : Chk aR aS 3 b 0) (hi : IntV aR aS 3 b n) : AgS aR aS 3 3 b := by
  have e : (IE.ev (ri b n 3 3) (.bin .and .u64 (.var 0) (.lit 4294967295)) : Int) = IE.ev (ri b n 3 3) (.sh .shr .u64 (.sh .shl .u64 (.var 3) (.lit 32)) (.lit 32)) := by
    obtain ⟨hb0, hb1, hn, l0, l1⟩ := h
    simp (disch := omega) only [IE.ev, ri, rc_0, rc_3, loI, and_u64_32, shl_u64_32, shr_u64_32, wrap_u64] <;> omega
  exact ⟨3, IE.ev (ri b n 3 3) (.sh .shr .u64 (.sh .shl .u64 (.var 3) (.lit 32)) (.lit 32)), 0, fun w hG => pair_of (W := wF (FloatKind.nearest .f32 n)) (C := cF (FloatKind.nearest .f32 n)) (ρ := ri b n 3 3) (ok_S3_3p b n h h0 h1) (fun _ h => by cases h) (UI_ok (nearest_num n) hc hi) (run_S3_3p _ _ _ aR aS) rfl rfl rfl (vs := [.int .i64 3, agV 3 b]) rfl rfl (tupE 3 0 e) w hG⟩
def L_S6_3p : List CF := [⟨.neq, .var 2, .lit 18446744073709551615, true⟩,
  ⟨.lss, (.cv .i64 (.var 2)), .lit (-1), false⟩,
  ⟨.neq, .lit 0, .var 2, false⟩,
  ⟨.lss, .lit 32767, .var 3, false⟩,
  ⟨.gtr, .var 0, .lit 32767, false⟩]
theorem ok_S6_3p (b n : Int) (h : HN 3 b n) (h0 : 0 ≤ n) (h1 : n ≤ 32767) : ∀ f ∈ L_S6_3p, f.ok (ri b n 3 6) := by
  obtain ⟨hb0, hb1, hn, l0, l1⟩ := h
  intro f hf
  simp only [L_S6_3p, List.mem_cons, List.not_mem_nil, or_false] at hf
  rcases hf with rfl | rfl | rfl | rfl | rfl
  · exact ⟨rfl, cmp_neq_t (by simp (disch := omega) only [IE.ev, ri, rc_2, hiI_pos] <;> omega)⟩
  · exact ⟨rfl, cmp_lss_f (by simp (disch := omega) only [IE.ev, ri, rc_2, hiI_pos, wrap_i64] <;> omega)⟩
  · exact ⟨rfl, cmp_neq_f (by simp (disch := omega) only [IE.ev, ri, rc_2, hiI_pos] <;> omega)⟩
  · exact ⟨rfl, cmp_lss_f (by simp (disch := omega) only [IE.ev, ri, rc_3, loI] <;> omega)⟩
  · exact ⟨rfl, cmp_gtr_f (by simp (disch := omega) only [IE.ev, ri, rc_0] <;> omega)⟩
theorem run_S6_3p : RunE L_S6_3p [] (UI 3) [(7, [.v (.int .i64 6), ag0 3], .tuple [.agg [.v (.int .i64 6), .sym (.int .u64 (.sh .shr .u64 (.sh .shl .u64 (.var 3) (.lit 48)) (.lit 48)))], .v (.int .i64 0)]), (8, [.v (.int .i64 6), ag0 3], .tuple [.agg [.v (.int .i64 6), .sym (.int .u64 (.bin .and .u64 (.var 0) (.lit 65535)))], .v (.int .i64 0)])] := fun W C ρ aR aS => by unfold runE; kernel_rfl
theorem ag_S6_3p {aR aS : Addr} (b n : Int) (h : HN 3 b n) (h0 : 0 ≤ n) (h1 : n ≤ 32767) (hc : Chk aR aS 3 b 0) (hi : IntV aR aS 3 b n) : AgS aR aS 6 3 b := by
  have e : (IE.ev (ri b n 3 6) (.bin .and .u64 (.var 0) (.lit 65535)) : Int) = IE.ev (ri b n 3 6) (.sh .shr .u64 (.sh .shl .u64 (.var 3) (.lit 48)) (.lit 48)) := by
    obtain ⟨hb0, hb1, hn, l0, l1⟩ := h
    simp (disch := omega) only [IE.ev, ri, rc_0, rc_3, loI, and_u64_16, shl_u64_48, shr_u64_48, wrap_u64] <;> omega
  exact ⟨6, IE.ev (ri b n 3 6) (.sh .shr .u64 (.sh .shl .u64 (.var 3) (.lit 48)) (.lit 48)), 0, fun w hG => pair_of (W := wF (FloatKind.nearest .f32 n)) (C := cF (FloatKind.nearest .f32 n)) (ρ := ri b n 3 6) (ok_S6_3p b n h h0 h1) (fun _ h => by cases h) (UI_ok (nearest_num n) hc hi) (run_S6_3p _ _ _ aR aS) rfl rfl rfl (vs := [.int .i64 6, agV 3 b]) rfl rfl (tupE 6 0 e) w hG⟩
def L_S8_3p : List CF := [⟨.neq, .var 2, .lit 18446744073709551615, true⟩,
  ⟨.lss, (.cv .i64 (.var 2)), .lit (-1), false⟩,
  ⟨.neq, .lit 0, .var 2, false⟩,
  ⟨.lss, .lit 9223372036854775807, .var 3, false⟩,
  ⟨.gtr, .var 0, .lit 9223372036854775807, false⟩]
theorem ok_S8_3p (b n : Int) (h : HN 3 b n) (h0 : 0 ≤ n) (h1 : n ≤ 9223372036854775807) : ∀ f ∈ L_S8_3p, f.ok (ri b n 3 8) := by
  obtain ⟨hb0, hb1, hn, l0, l1⟩ := h
  intro f hf
  simp only [L_S8_3p, List.mem_cons, List.not_mem_nil, or_false] at hf
  rcases hf with rfl | rfl | rfl | rfl | rfl
  · exact ⟨rfl, cmp_neq_t (by simp (disch := omega) only [IE.ev, ri, rc_2, hiI_pos] <;> omega)⟩
  · exact ⟨rfl, cmp_lss_f (by simp (disch := omega) only [IE.ev, ri, rc_2, hiI_pos, wrap_i64] <;> omega)⟩
  · exact ⟨rfl, cmp_neq_f (by simp (disch := omega) only [IE.ev, ri, rc_2, hiI_pos] <;> omega)⟩
  · exact ⟨rfl, cmp_lss_f (by simp (disch := omega) only [IE.ev, ri, rc_3, loI] <;> omega)⟩
  · exact ⟨rfl, cmp_gtr_f (by simp (disch := omega) only [IE.ev, ri, rc_0] <;> omega)⟩
theorem run_S8_3p : RunE L_S8_3p [] (UI 3) [(7, [.v (.int .i64 8), ag0 3], .tuple [.agg [.v (.int .i64 8), .sym (.int .u64 (.sh .shr .u64 (.sh .shl .u64 (.var 3) (.lit 0)) (.lit 0)))], .v (.int .i64 0)]), (8, [.v (.int .i64 8), ag0 3], .tuple [.agg [.v (.int .i64 8), .sym (.int .u64 (.bin .and .u64 (.var 0) (.lit 18446744073709551615)))], .v (.int .i64 0)])] := fun W C ρ aR aS => by unfold runE; kernel_rfl
theorem ag_S8_3p {aR aS : Addr} (b n : Int) (h : HN 3 b n) (h0 : 0 ≤ n) (h1 : n ≤ 9223372036854775807) (hc : Chk aR aS 3 b 0) (hi : IntV aR aS 3 b n) : AgS aR aS 8 3 b := by
  have e : (IE.ev (ri b n 3 8) (.bin .and .u64 (.var 0) (.lit 18446744073709551615)) : Int) = IE.ev (ri b n 3 8) (.sh .shr .u64 (.sh .shl .u64 (.var 3) (.lit 0)) (.lit 0)) := by
    obtain ⟨hb0, hb1, hn, l0, l1⟩ := h
    simp (disch := omega) only [IE.ev, ri, rc_0, rc_3, loI, and_u64_64, shl_u64_0, shr_u64_0, wrap_u64] <;> omega
  exact ⟨8, IE.ev (ri b n 3 8) (.sh .shr .u64 (.sh .shl .u64 (.var 3) (.lit 0)) (.lit 0)), 0, fun w hG => pair_of (W := wF (FloatKind.nearest .f32 n)) (C := cF (FloatKind.nearest .f32 n)) (ρ := ri b n 3 8) (ok_S8_3p b n h h0 h1) (fun _ h => by cases h) (UI_ok (nearest_num n) hc hi) (run_S8_3p _ _ _ aR aS) rfl rfl rfl (vs := [.int .i64 8, agV 3 b]) rfl rfl (tupE 8 0 e) w hG⟩
def L_S1_4p : List CF := [⟨.neq, .var 2, .lit 0, false⟩,
  ⟨.lss, .var 3, .lit 0, false⟩,
  ⟨.neq, .lit 0, .var 2, false⟩,
  ⟨.lss, .lit 255, .var 3, false⟩,
  ⟨.gtr, .var 0, .lit 255, false⟩]
theorem ok_S1_4p (b n : Int) (h : HN 4 b n) (h0 : 0 ≤ n) (h1 : n ≤ 255) : ∀ f ∈ L_S1_4p, f.ok (ri b n 4 1) := by
  obtain ⟨hb0, hb1, hn, l0, l1⟩ := h
  intro f hf
  simp only [L_S1_4p, List.mem_cons, List.not_mem_nil, or_false] at hf
  rcases hf with rfl | rfl | rfl | rfl | rfl
  · exact ⟨rfl, cmp_neq_f (by simp (disch := omega) only [IE.ev, ri, rc_2, hiI_pos] <;> omega)⟩
  · exact ⟨rfl, cmp_lss_f (by simp (disch := omega) only [IE.ev, ri, rc_3, loI] <;> omega)⟩
  · exact ⟨rfl, cmp_neq_f (by simp (disch := omega) only [IE.ev, ri, rc_2, hiI_pos] <;> omega)⟩
  · exact ⟨rfl, cmp_lss_f (by simp (disch := omega) only [IE.ev, ri, rc_3, loI] <;> omega)⟩
  · exact ⟨rfl, cmp_gtr_f (by simp (disch := omega) only [IE.ev, ri, rc_0] <;> omega)⟩
theorem run_S1_4p : RunE L_S1_4p [] (UI 4) [(7, [.v (.int .i64 1), ag0 4], .tuple [.agg [.v (.int .i64 1), .sym (.int .u64 (.sh .shr .u64 (.sh .shl .u64 (.var 3) (.lit 56)) (.lit 56)))], .v (.int .i64 0)]), (8, [.v (.int .i64 1), ag0 4], .tuple [.agg [.v (.int .i64 1), .sym (.int .u64 (.bin .and .u64 (.var 0) (.lit 255)))], .v (.int .i64 0)])] := fun W C ρ aR aS => by unfold runE; kernel_rfl
theorem ag_S1_4p {aR aS : Addr} (b n : Int) (h : HN 4 b n) (h0 : 0 ≤ n) (h1 : n ≤ 255) (hc : Chk aR aS 4 b 0) (hi : IntV aR aS 4 b n) : AgS aR aS 1 4 b := by
  have e : (IE.ev (ri b n 4 1) (.bin .and .u64 (.var 0) (.lit 255)) : Int) = IE.ev (ri b n 4 1) (.sh .shr .u64 (.sh .shl .u64 (.var 3) (.lit 56)) (.lit 56)) := by
    obtain ⟨hb0, hb1, hn, l0, l1⟩ := h
    simp (disch := omega) only [IE.ev, ri, rc_0, rc_3, loI, and_u64_8, shl_u64_56, shr_u64_56, wrap_u64] <;> omega
  exact ⟨1, IE.ev (ri b n 4 1) (.sh .shr .u64 (.sh .shl .u64 (.var 3) (.lit 56)) (.lit 56)), 0, fun w hG => pair_of (W := wF (FloatKind.nearest .f32 n)) (C := cF (FloatKind.nearest .f32 n)) (ρ := ri b n 4 1) (ok_S1_4p b n h h0 h1) (fun _ h => by cases h) (UI_ok (nearest_num n) hc hi) (run_S1_4p _ _ _ aR aS) rfl rfl rfl (vs := [.int .i64 1, agV 4 b]) rfl rfl (tupE 1 0 e) w hG⟩
def L_S3_4p : List CF := [⟨.neq, .var 2, .lit 0, false⟩,
  ⟨.lss, .var 3, .lit 0, false⟩,
  ⟨.neq, .lit 0, .var 2, false⟩,
  ⟨.lss, .lit 4294967295, .var 3, false⟩,
  ⟨.gtr, .var 0, .lit 4294967295, false⟩]
theorem ok_S3_4p (b n : Int) (h : HN 4 b n) (h0 : 0 ≤ n) (h1 : n ≤ 4294967295) : ∀ f ∈ L_S3_4p, f.ok (ri b n 4 3) := by
  obtain ⟨hb0, hb1, hn, l0, l1⟩ := h
  intro f hf
  simp only [L_S3_4p, List.mem_cons, List.not_mem_nil, or_false] at hf
  rcases hf with rfl | rfl | rfl | rfl | rfl
  · exact ⟨rfl, cmp_neq_f (by simp (disch := omega) only [IE.ev, ri, rc_2, hiI_pos] <;> omega)⟩
  · exact ⟨rfl, cmp_lss_f (by simp (disch := omega) only [IE.ev, ri, rc_3, loI] <;> omega)⟩
  · exact ⟨rfl, cmp_neq_f (by simp (disch := omega) only [IE.ev, ri, rc_2, hiI_pos] <;> omega)⟩
  · exact ⟨rfl, cmp_lss_f (by simp (disch := omega) only [IE.ev, ri, rc_3, loI] <;> omega)⟩
  · exact ⟨rfl, cmp_gtr_f (by simp (disch := omega) only [IE.ev, ri, rc_0] <;> omega)⟩
theorem run_S3_4p : RunE L_S3_4p [] (UI 4) [(7, [.v (.int .i64 3), ag0 4], .tuple [.agg [.v (.int .i64 3), .sym (.int .u64 (.sh .shr .u64 (.sh .shl .u64 (.var 3) (.lit 32)) (.lit 32)))], .v (.int .i64 0)]), (8, [.v (.int .i64 3), ag0 4], .tuple [.agg [.v (.int .i64 3), .sym (.int .u64 (.bin .and .u64 (.var 0) (.lit 4294967295)))], .v (.int .i64 0)])] := fun W C ρ aR aS => by unfold runE; kernel_rfl
theorem ag_S3_4p {aR aS : Addr} (b n : Int) (h : HN 4 b n) (h0 : 0 ≤ n) (h1 : n ≤ 4294967295) (hc : Chk aR aS 4 b 0) (hi : IntV aR aS 4 b n) : AgS aR aS 3 4 b := by
  have e : (IE.ev (ri b n 4 3) (.bin .and .u64 (.var 0) (.lit 4294967295)) : Int) = IE.ev (ri b n 4 3) (.sh .shr .u64 (.sh .shl .u64 (.var 3) (.lit 32)) (.lit 32)) := by
    obtain ⟨hb0, hb1, hn, l0, l1⟩ := h
    simp (disch := omega) only [IE.ev, ri, rc_0, rc_3, loI, and_u64_32, shl_u64_32, shr_u64_32, wrap_u64] <;> omega
  exact ⟨3, IE.ev (ri b n 4 3) (.sh .shr .u64 (.sh .shl .u64 (.var 3) (.lit 32)) (.lit 32)), 0, fun w hG => pair_of (W := wF (FloatKind.nearest .f32 n)) (C := cF (FloatKind.nearest .f32 n)) (ρ := ri b n 4 3) (ok_S3_4p b n h h0 h1) (fun _ h => by cases h) (UI_ok (nearest_num n) hc hi) (run_S3_4p _ _ _ aR aS) rfl rfl rfl (vs := [.int .i64 3, agV 4 b]) rfl rfl (tupE 3 0 e) w hG⟩
def L_S5_4a : List CF := [⟨.neq, .var 2, .lit 18446744073709551615, true⟩,
  ⟨.lss, (.cv .i64 (.var 2)), .lit (-1), false⟩,
  ⟨.neq, .lit 0, .var 2, false⟩,
  ⟨.lss, .lit 127, .var 3, true⟩,
  ⟨.gtr, .var 0, .lit 127, true⟩]
theorem ok_S5_4a (b n : Int) (h : HN 4 b n) (h0 : 127 < n) : ∀ f ∈ L_S5_4a, f.ok (ri b n 4 5) := by
  obtain ⟨hb0, hb1, hn, l0, l1⟩ := h
  intro f hf
  simp only [L_S5_4a, List.mem_cons, List.not_mem_nil, or_false] at hf
  rcases hf with rfl | rfl | rfl | rfl | rfl
  · exact ⟨rfl, cmp_neq_t (by simp (disch := omega) only [IE.ev, ri, rc_2, hiI_pos] <;> omega)⟩
  · exact ⟨rfl, cmp_lss_f (by simp (disch := omega) only [IE.ev, ri, rc_2, hiI_pos, wrap_i64] <;> omega)⟩
  · exact ⟨rfl, cmp_neq_f (by simp (disch := omega) only [IE.ev, ri, rc_2, hiI_pos] <;> omega)⟩
  · exact ⟨rfl, cmp_lss_t (by simp (disch := omega) only [IE.ev, ri, rc_3, loI] <;> omega)⟩
  · exact ⟨rfl, cmp_gtr_t (by simp (disch := omega) only [IE.ev, ri, rc_0] <;> omega)⟩
theorem run_S5_4a : RunE L_S5_4a [] (UI 4) [(7, [.v (.int .i64 5), ag0 4], .v (.tuple #[.agg #[.int .i64 5, .int .u64 127], .int .i64 0])), (8, [.v (.int .i64 5), ag0 4], .v (.tuple #[.agg #[.int .i64 5, .int .u64 127], .int .i64 0]))] := fun W C ρ aR aS => by unfold runE; kernel_rfl
theorem ag_S5_4a {aR aS : Addr} (b n : Int) (h : HN 4 b n) (h0 : 127 < n) (hc : Chk aR aS 4 b 0) (hi : IntV aR aS 4 b n) : AgS aR aS 5 4 b := ⟨5, 127, 0, fun w hG => pair_of (W := wF (FloatKind.nearest .f32 n)) (C := cF (FloatKind.nearest .f32 n)) (ρ := ri b n 4 5) (ok_S5_4a b n h h0) (fun _ h => by cases h) (UI_ok (nearest_num n) hc hi) (run_S5_4a _ _ _ aR aS) rfl rfl rfl (vs := [.int .i64 5, agV 4 b]) rfl rfl rfl w hG⟩
def L_S7_4a : List CF := [⟨.neq, .var 2, .lit 18446744073709551615, true⟩,
  ⟨.lss, (.cv .i64 (.var 2)), .lit (-1), false⟩,
  ⟨.neq, .lit 0, .var 2, false⟩,
  ⟨.lss, .lit 2147483647, .var 3, true⟩,
  ⟨.gtr, .var 0, .lit 2147483647, true⟩]
theorem ok_S7_4a (b n : Int) (h : HN 4 b n) (h0 : 2147483647 < n) : ∀ f ∈ L_S7_4a, f.ok (ri b n 4 7) := by
  obtain ⟨hb0, hb1, hn, l0, l1⟩ := h
  intro f hf
  simp only [L_S7_4a, List.mem_cons, List.not_mem_nil, or_false] at hf
  rcases hf with rfl | rfl | rfl | rfl | rfl
  · exact ⟨rfl, cmp_neq_t (by simp (disch := omega) only [IE.ev, ri, rc_2, hiI_pos] <;> omega)⟩
  · exact ⟨rfl, cmp_lss_f (by simp (disch := omega) only [IE.ev, ri, rc_2, hiI_pos, wrap_i64] <;> omega)⟩
  · exact ⟨rfl, cmp_neq_f (by simp (disch := omega) only [IE.ev, ri, rc_2, hiI_pos] <;> omega)⟩
  · exact ⟨rfl, cmp_lss_t (by simp (disch := omega) only [IE.ev, ri, rc_3, loI] <;> omega)⟩
  · exact ⟨rfl, cmp_gtr_t (by simp (disch := omega) only [IE.ev, ri, rc_0] <;> omega)⟩
theorem run_S7_4a : RunE L_S7_4a [] (UI 4) [(7, [.v (.int .i64 7), ag0 4], .v (.tuple #[.agg #[.int .i64 7, .int .u64 2147483647], .int .i64 0])), (8, [.v (.int .i64 7), ag0 4], .v (.tuple #[.agg #[.int .i64 7, .int .u64 2147483647], .int .i64 0]))] := fun W C ρ aR aS => by unfold runE; kernel_rfl
theorem ag_S7_4a {aR aS : Addr} (b n : Int) (h : HN 4 b n) (h0 : 2147483647 < n) (hc : Chk aR aS 4 b 0) (hi : IntV aR aS 4 b n) : AgS aR aS 7 4 b := ⟨7, 2147483647, 0, fun w hG => pair_of (W := wF (FloatKind.nearest .f32 n)) (C := cF (FloatKind.nearest .f32 n)) (ρ := ri b n 4 7) (ok_S7_4a b n h h0) (fun _ h => by cases h) (UI_ok (nearest_num n) hc hi) (run_S7_4a _ _ _ aR aS) rfl rfl rfl (vs := [.int .i64 7, agV 4 b]) rfl rfl rfl w hG⟩
def L_S10_4e : List CF := []
theorem run_S10_4e : RunE L_S10_4e [] (UI 4) [(7, [.v (.int .i64 10), ag0 4], .v (.tuple #[.agg #[.int .i64 0, .int .u64 0], .int .i64 12])), (8, [.v (.int .i64 10), ag0 4], .v (.tuple #[.agg #[.int .i64 0, .int .u64 0], .int .i64 12]))] := fun W C ρ aR aS => by unfold runE; kernel_rfl
theorem ag_S10_4e {aR aS : Addr} (b n : Int) (_ : HN 4 b n)  (hc : Chk aR aS 4 b 0) (hi : IntV aR aS 4 b n) : AgS aR aS 10 4 b := ⟨0, 0, 12, fun w hG => pair_of (W := wF (FloatKind.nearest .f32 n)) (C := cF (FloatKind.nearest .f32 n)) (ρ := ri b n 4 10) (fun _ h => by cases h) (fun _ h => by cases h) (UI_ok (nearest_num n) hc hi) (run_S10_4e _ _ _ aR aS) rfl rfl rfl (vs := [.int .i64 10, agV 4 b]) rfl rfl rfl w hG⟩
def L_S1_5b : List CF := [⟨.neq, .var 2, .lit 0, true⟩,
  ⟨.lss, (.cv .i64 (.var 2)), .lit 0, true⟩,
  ⟨.lss, .var 4, .lit 0, true⟩]
theorem ok_S1_5b (b n : Int) (h : HN 5 b n) (h0 : n < 0) : ∀ f ∈ L_S1_5b, f.ok (ri b n 5 1) := by
  obtain ⟨hb0, hb1, hn, l0, l1⟩ := h
  intro f hf
  simp only [L_S1_5b, List.mem_cons, List.not_mem_nil, or_false] at hf
  rcases hf with rfl | rfl | rfl
  · exact ⟨rfl, cmp_neq_t (by simp (disch := omega) only [IE.ev, ri, rc_2, hiI_neg] <;> omega)⟩
  · exact ⟨rfl, cmp_lss_t (by simp (disch := omega) only [IE.ev, ri, rc_2, hiI_neg, wrap_i64] <;> omega)⟩
  · exact ⟨rfl, cmp_lss_t (by simp (disch := omega) only [IE.ev, ri, rc_4, wrap_i64] <;> omega)⟩
theorem run_S1_5b : RunE L_S1_5b [] (UI 5) [(7, [.v (.int .i64 1), ag0 5], .v (.tuple #[.agg #[.int .i64 1, .int .u64 0], .int .i64 0])), (8, [.v (.int .i64 1), ag0 5], .v (.tuple #[.agg #[.int .i64 1, .int .u64 0], .int .i64 0]))] := fun W C ρ aR aS => by unfold runE; kernel_rfl
theorem ag_S1_5b {aR aS : Addr} (b n : Int) (h : HN 5 b n) (h0 : n < 0) (hc : Chk aR aS 5 b 0) (hi : IntV aR aS 5 b n) : AgS aR aS 1 5 b := ⟨1, 0, 0, fun w hG => pair_of (W := wF (FloatKind.nearest .f32 n)) (C := cF (FloatKind.nearest .f32 n)) (ρ := ri b n 5 1) (ok_S1_5b b n h h0) (fun _ h => by cases h) (UI_ok (nearest_num n) hc hi) (run_S1_5b _ _ _ aR aS) rfl rfl rfl (vs := [.int .i64 1, agV 5 b]) rfl rfl rfl w hG⟩
def L_S3_5b : List CF := [⟨.neq, .var 2, .lit 0, true⟩,
  ⟨.lss, (.cv .i64 (.var 2)), .lit 0, true⟩,
  ⟨.lss, .var 4, .lit 0, true⟩]
theorem ok_S3_5b (b n : Int) (h : HN 5 b n) (h0 : n < 0) : ∀ f ∈ L_S3_5b, f.ok (ri b n 5 3) := by
  obtain ⟨hb0, hb1, hn, l0, l1⟩ := h
  intro f hf
  simp only [L_S3_5b, List.mem_cons, List.not_mem_nil, or_false] at hf
  rcases hf with rfl | rfl | rfl
  · exact ⟨rfl, cmp_neq_t (by simp (disch := omega) only [IE.ev, ri, rc_2, hiI_neg] <;> omega)⟩
  · exact ⟨rfl, cmp_lss_t (by simp (disch := omega) only [IE.ev, ri, rc_2, hiI_neg, wrap_i64] <;> omega)⟩
  · exact ⟨rfl, cmp_lss_t (by simp (disch := omega) only [IE.ev, ri, rc_4, wrap_i64] <;> omega)⟩
theorem run_S3_5b : RunE L_S3_5b [] (UI 5) [(7, [.v (.int .i64 3), ag0 5], .v (.tuple #[.agg #[.int .i64 3, .int .u64 0], .int .i64 0])), (8, [.v (.int .i64 3), ag0 5], .v (.tuple #[.agg #[.int .i64 3, .int .u64 0], .int .i64 0]))] := fun W C ρ aR aS => by unfold runE; kernel_rfl
theorem ag_S3_5b {aR aS : Addr} (b n : Int) (h : HN 5 b n) (h0 : n < 0) (hc : Chk aR aS 5 b 0) (hi : IntV aR aS 5 b n) : AgS aR aS 3 5 b := ⟨3, 0, 0, fun w hG => pair_of (W := wF (FloatKind.nearest .f32 n)) (C := cF (FloatKind.nearest .f32 n)) (ρ := ri b n 5 3) (ok_S3_5b b n h h0) (fun _ h => by cases h) (UI_ok (nearest_num n) hc hi) (run_S3_5b _ _ _ aR aS) rfl rfl rfl (vs := [.int .i64 3, agV 5 b]) rfl rfl rfl w hG⟩
def L_S5_5m : List CF := [⟨.neq, .var 2, .lit 18446744073709551615, false⟩,
  ⟨.lss, .var 3, .lit 18446744073709551488, false⟩,
  ⟨.neq, .lit 0, .var 2, true⟩,
  ⟨.lss, .lit 0, (.cv .i64 (.var 2)), false⟩,
  ⟨.lss, .var 4, .lit 0, true⟩,
  ⟨.lss, .var 4, .lit (-128), false⟩]
theorem ok_S5_5m (b n : Int) (h : HN 5 b n) (h0 : -128 ≤ n) (h1 : n < 0) : ∀ f ∈ L_S5_5m, f.ok (ri b n 5 5) := by
  obtain ⟨hb0, hb1, hn, l0, l1⟩ := h
  intro f hf
  simp only [L_S5_5m, List.mem_cons, List.not_mem_nil, or_false] at hf
  rcases hf with rfl | rfl | rfl | rfl | rfl | rfl
  · exact ⟨rfl, cmp_neq_f (by simp (disch := omega) only [IE.ev, ri, rc_2, hiI_neg] <;> omega)⟩
  · exact ⟨rfl, cmp_lss_f (by simp (disch := omega) only [IE.ev, ri, rc_3, loI] <;> omega)⟩
  · exact ⟨rfl, cmp_neq_t (by simp (disch := omega) only [IE.ev, ri, rc_2, hiI_neg] <;> omega)⟩
  · exact ⟨rfl, cmp_lss_f (by simp (disch := omega) only [IE.ev, ri, rc_2, hiI_neg, wrap_i64] <;> omega)⟩
  · exact ⟨rfl, cmp_lss_t (by simp (disch := omega) only [IE.ev, ri, rc_4, wrap_i64] <;> omega)⟩
  · exact ⟨rfl, cmp_lss_f (by simp (disch := omega) only [IE.ev, ri, rc_4, wrap_i64] <;> omega)⟩
theorem run_S5_5m : RunE L_S5_5m [] (UI 5) [(7, [.v (.int .i64 5), ag0 5], .tuple [.agg [.v (.int .i64 5), .sym (.int .u64 (.sh .shr .u64 (.sh .shl .u64 (.var 3) (.lit 56)) (.lit 56)))], .v (.int .i64 0)]), (8, [.v (.int .i64 5), ag0 5], .tuple [.agg [.v (.int .i64 5), .sym (.int .u64 (.bin .and .u64 (.bin .or .u64 (.var 0) (.lit 18446744073709551360)) (.lit 255)))], .v (.int .i64 0)])] := fun W C ρ aR aS => by unfold runE; kernel_rfl
theorem ag_S5_5m {aR aS : Addr} (b n : Int) (h : HN 5 b n) (h0 : -128 ≤ n) (h1 : n < 0) (hc : Chk aR aS 5 b 0) (hi : IntV aR aS 5 b n) : AgS aR aS 5 5 b := by
  have e : (IE.ev (ri b n 5 5) (.bin .and .u64 (.bin .or .u64 (.var 0) (.lit 18446744073709551360)) (.lit 255)) : Int) = IE.ev (ri b n 5 5) (.sh .shr .u64 (.sh .shl .u64 (.var 3) (.lit 56)) (.lit 56)) := by
    obtain ⟨hb0, hb1, hn, l0, l1⟩ := h
    simp (disch := omega) only [IE.ev, ri, rc_0, rc_3, loI, and_u64_8, or_u64_8, shl_u64_56, shr_u64_56, wrap_u64] <;> omega
  exact ⟨5, IE.ev (ri b n 5 5) (.sh .shr .u64 (.sh .shl .u64 (.var 3) (.lit 56)) (.lit 56)), 0, fun w hG => pair_of (W := wF (FloatKind.nearest .f32 n)) (C := cF (FloatKind.nearest .f32 n)) (ρ := ri b n 5 5) (ok_S5_5m b n h h0 h1) (fun _ h => by cases h) (UI_ok (nearest_num n) hc hi) (run_S5_5m _ _ _ aR aS) rfl rfl rfl (vs := [.int .i64 5, agV 5 b]) rfl rfl (tupE 5 0 e) w hG⟩
def L_S7_5m : List CF := [⟨.neq, .var 2, .lit 18446744073709551615, false⟩,
  ⟨.lss, .var 3, .lit 18446744071562067968, false⟩,
  ⟨.neq, .lit 0, .var 2, true⟩,
  ⟨.lss, .lit 0, (.cv .i64 (.var 2)), false⟩,
  ⟨.lss, .var 4, .lit 0, true⟩,
  ⟨.lss, .var 4, .lit (-2147483648), false⟩]
theorem ok_S7_5m (b n : Int) (h : HN 5 b n) (h0 : -2147483648 ≤ n) (h1 : n < 0) : ∀ f ∈ L_S7_5m, f.ok (ri b n 5 7) := by
  obtain ⟨hb0, hb1, hn, l0, l1⟩ := h
  intro f hf
  simp only [L_S7_5m, List.mem_cons, List.not_mem_nil, or_false] at hf
  rcases hf with rfl | rfl | rfl | rfl | rfl | rfl
  · exact ⟨rfl, cmp_neq_f (by simp (disch := omega) only [IE.ev, ri, rc_2, hiI_neg] <;> omega)⟩
  · exact ⟨rfl, cmp_lss_f (by simp (disch := omega) only [IE.ev, ri, rc_3, loI] <;> omega)⟩
  · exact ⟨rfl, cmp_neq_t (by simp (disch := omega) only [IE.ev, ri, rc_2, hiI_neg] <;> omega)⟩
  · exact ⟨rfl, cmp_lss_f (by simp (disch := omega) only [IE.ev, ri, rc_2, hiI_neg, wrap_i64] <;> omega)⟩
  · exact ⟨rfl, cmp_lss_t (by simp (disch := omega) only [IE.ev, ri, rc_4, wrap_i64] <;> omega)⟩
  · exact ⟨rfl, cmp_lss_f (by simp (disch := omega) only [IE.ev, ri, rc_4, wrap_i64] <;> omega)⟩
theorem run_S7_5m : RunE L_S7_5m [] (UI 5) [(7, [.v (.int .i64 7), ag0 5], .tuple [.agg [.v (.int .i64 7), .sym (.int .u64 (.sh .shr .u64 (.sh .shl .u64 (.var 3) (.lit 32)) (.lit 32)))], .v (.int .i64 0)]), (8, [.v (.int .i64 7), ag0 5], .tuple [.agg [.v (.int .i64 7), .sym (.int .u64 (.bin .and .u64 (.bin .or .u64 (.var 0) (.lit 18446744073709551360)) (.lit 4294967295)))], .v (.int .i64 0)])] := fun W C ρ aR aS => by unfold runE; kernel_rfl
theorem ag_S7_5m {aR aS : Addr} (b n : Int) (h : HN 5 b n) (h0 : -2147483648 ≤ n) (h1 : n < 0) (hc : Chk aR aS 5 b 0) (hi : IntV aR aS 5 b n) : AgS aR aS 7 5 b := by
  have e : (IE.ev (ri b n 5 7) (.bin .and .u64 (.bin .or .u64 (.var 0) (.lit 18446744073709551360)) (.lit 4294967295)) : Int) = IE.ev (ri b n 5 7) (.sh .shr .u64 (.sh .shl .u64 (.var 3) (.lit 32)) (.lit 32)) := by
    obtain ⟨hb0, hb1, hn, l0, l1⟩ := h
    simp (disch := omega) only [IE.ev, ri, rc_0, rc_3, loI, and_u64_32, or_u64_8, shl_u64_32, shr_u64_32, wrap_u64] <;> omega
  exact ⟨7, IE.ev (ri b n 5 7) (.sh .shr .u64 (.sh .shl .u64 (.var 3) (.lit 32)) (.lit 32)), 0, fun w hG => pair_of (W := wF (FloatKind.nearest .f32 n)) (C := cF (FloatKind.nearest .f32 n)) (ρ := ri b n 5 7) (ok_S7_5m b n h h0 h1) (fun _ h => by cases h) (UI_ok (nearest_num n) hc hi) (run_S7_5m _ _ _ aR aS) rfl rfl rfl (vs := [.int .i64 7, agV 5 b]) rfl rfl (tupE 7 0 e) w hG⟩
def L_S9_5e : List CF := []
theorem run_S9_5e : RunE L_S9_5e [] (UI 5) [(7, [.v (.int .i64 9), ag0 5], .v (.tuple #[.agg #[.int .i64 0, .int .u64 0], .int .i64 12])), (8, [.v (.int .i64 9), ag0 5], .v (.tuple #[.agg #[.int .i64 0, .int .u64 0], .int .i64 12]))] := fun W C ρ aR aS => by unfold runE; kernel_rfl
theorem ag_S9_5e {aR aS : Addr} (b n : Int) (_ : HN 5 b n)  (hc : Chk aR aS 5 b 0) (hi : IntV aR aS 5 b n) : AgS aR aS 9 5 b := ⟨0, 0, 12, fun w hG => pair_of (W := wF (FloatKind.nearest .f32 n)) (C := cF (FloatKind.nearest .f32 n)) (ρ := ri b n 5 9) (fun _ h => by cases h) (fun _ h => by cases h) (UI_ok (nearest_num n) hc hi) (run_S9_5e _ _ _ aR aS) rfl rfl rfl (vs := [.int .i64 9, agV 5 b]) rfl rfl rfl w hG⟩
def L_S0_6e : List CF := []
theorem run_S0_6e : RunE L_S0_6e [] (UI 6) [(7, [.v (.int .i64 0), ag0 6], .v (.tuple #[.agg #[.int .i64 0, .int .u64 0], .int .i64 12])), (8, [.v (.int .i64 0), ag0 6], .v (.tuple #[.agg #[.int .i64 0, .int .u64 0], .int .i64 12]))] := fun W C ρ aR aS => by unfold runE; kernel_rfl
theorem ag_S0_6e {aR aS : Addr} (b n : Int) (_ : HN 6 b n)  (hc : Chk aR aS 6 b 0) (hi : IntV aR aS 6 b n) : AgS aR aS 0 6 b := ⟨0, 0, 12, fun w hG => pair_of (W := wF (FloatKind.nearest .f32 n)) (C := cF (FloatKind.nearest .f32 n)) (ρ := ri b n 6 0) (fun _ h => by cases h) (fun _ h => by cases h) (UI_ok (nearest_num n) hc hi) (run_S0_6e _ _ _ aR aS) rfl rfl rfl (vs := [.int .i64 0, agV 6 b]) rfl rfl rfl w hG⟩
def L_S2_6b : List CF := [⟨.neq, .var 2, .lit 0, true⟩,
  ⟨.lss, (.cv .i64 (.var 2)), .lit 0, true⟩,
  ⟨.lss, .var 4, .lit 0, true⟩]
theorem ok_S2_6b (b n : Int) (h : HN 6 b n) (h0 : n < 0) : ∀ f ∈ L_S2_6b, f.ok (ri b n 6 2) := by
  obtain ⟨hb0, hb1, hn, l0, l1⟩ := h
  intro f hf
  simp only [L_S2_6b, List.mem_cons, List.not_mem_nil, or_false] at hf
  rcases hf with rfl | rfl | rfl
  · exact ⟨rfl, cmp_neq_t (by simp (disch := omega) only [IE.ev, ri, rc_2, hiI_neg] <;> omega)⟩
  · exact ⟨rfl, cmp_lss_t (by simp (disch := omega) only [IE.ev, ri, rc_2, hiI_neg, wrap_i64] <;> omega)⟩
  · exact ⟨rfl, cmp_lss_t (by simp (disch := omega) only [IE.ev, ri, rc_4, wrap_i64] <;> omega)⟩
theorem run_S2_6b : RunE L_S2_6b [] (UI 6) [(7, [.v (.int .i64 2), ag0 6], .v (.tuple #[.agg #[.int .i64 2, .int .u64 0], .int .i64 0])), (8, [.v (.int .i64 2), ag0 6], .v (.tuple #[.agg #[.int .i64 2, .int .u64 0], .int .i64 0]))] := fun W C ρ aR aS => by unfold runE; kernel_rfl
theorem ag_S2_6b {aR aS : Addr} (b n : Int) (h : HN 6 b n) (h0 : n < 0) (hc : Chk aR aS 6 b 0) (hi : IntV aR aS 6 b n) : AgS aR aS 2 6 b := ⟨2, 0, 0, fun w hG => pair_of (W := wF (FloatKind.nearest .f32 n)) (C := cF (FloatKind.nearest .f32 n)) (ρ := ri b n 6 2) (ok_S2_6b b n h h0) (fun _ h => by cases h) (UI_ok (nearest_num n) hc hi) (run_S2_6b _ _ _ aR aS) rfl rfl rfl (vs := [.int .i64 2, agV 6 b]) rfl rfl rfl w hG⟩
def L_S4_6b : List CF := [⟨.neq, .var 2, .lit 0, true⟩,
  ⟨.lss, (.cv .i64 (.var 2)), .lit 0, true⟩,
  ⟨.lss, .var 4, .lit 0, true⟩]
theorem ok_S4_6b (b n : Int) (h : HN 6 b n) (h0 : n < 0) : ∀ f ∈ L_S4_6b, f.ok (ri b n 6 4) := by
  obtain ⟨hb0, hb1, hn, l0, l1⟩ := h
  intro f hf
  simp only [L_S4_6b, List.mem_cons, List.not_mem_nil, or_false] at hf
  rcases hf with rfl | rfl | rfl
  · exact ⟨rfl, cmp_neq_t (by simp (disch := omega) only [IE.ev, ri, rc_2, hiI_neg] <;> omega)⟩
  · exact ⟨rfl, cmp_lss_t (by simp (disch := omega) only [IE.ev, ri, rc_2, hiI_neg, wrap_i64] <;> omega)⟩
  · exact ⟨rfl, cmp_lss_t (by simp (disch := omega) only [IE.ev, ri, rc_4, wrap_i64] <;> omega)⟩
theorem run_S4_6b : RunE L_S4_6b [] (UI 6) [(7, [.v (.int .i64 4), ag0 6], .v (.tuple #[.agg #[.int .i64 4, .int .u64 0], .int .i64 0])), (8, [.v (.int .i64 4), ag0 6], .v (.tuple #[.agg #[.int .i64 4, .int .u64 0], .int .i64 0]))] := fun W C ρ aR aS => by unfold runE; kernel_rfl
theorem ag_S4_6b {aR aS : Addr} (b n : Int) (h : HN 6 b n) (h0 : n < 0) (hc : Chk aR aS 6 b 0) (hi : IntV aR aS 6 b n) : AgS aR aS 4 6 b := ⟨4, 0, 0, fun w hG => pair_of (W := wF (FloatKind.nearest .f32 n)) (C := cF (FloatKind.nearest .f32 n)) (ρ := ri b n 6 4) (ok_S4_6b b n h h0) (fun _ h => by cases h) (UI_ok (nearest_num n) hc hi) (run_S4_6b _ _ _ aR aS) rfl rfl rfl (vs := [.int .i64 4, agV 6 b]) rfl rfl rfl w hG⟩
def L_S5_6p : List CF := [⟨.neq, .var 2, .lit 18446744073709551615, true⟩,
  ⟨.lss, (.cv .i64 (.var 2)), .lit (-1), false⟩,
  ⟨.neq, .lit 0, .var 2, false⟩,
  ⟨.lss, .lit 127, .var 3, false⟩,
  ⟨.lss, .var 4, .lit 0, false⟩,
  ⟨.gtr, .var 0, .lit 127, false⟩]
theorem ok_S5_6p (b n : Int) (h : HN 6 b n) (h0 : 0 ≤ n) (h1 : n ≤ 127) : ∀ f ∈ L_S5_6p, f.ok (ri b n 6 5) := by
  obtain ⟨hb0, hb1, hn, l0, l1⟩ := h
  intro f hf
  simp only [L_S5_6p, List.mem_cons, List.not_mem_nil, or_false] at hf
  rcases hf with rfl | rfl | rfl | rfl | rfl | rfl
  · exact ⟨rfl, cmp_neq_t (by simp (disch := omega) only [IE.ev, ri, rc_2, hiI_pos] <;> omega)⟩
  · exact ⟨rfl, cmp_lss_f (by simp (disch := omega) only [IE.ev, ri, rc_2, hiI_pos, wrap_i64] <;> omega)⟩
  · exact ⟨rfl, cmp_neq_f (by simp (disch := omega) only [IE.ev, ri, rc_2, hiI_pos] <;> omega)⟩
  · exact ⟨rfl, cmp_lss_f (by simp (disch := omega) only [IE.ev, ri, rc_3, loI] <;> omega)⟩
  · exact ⟨rfl, cmp_lss_f (by simp (disch := omega) only [IE.ev, ri, rc_4, wrap_i64] <;> omega)⟩
  · exact ⟨rfl, cmp_gtr_f (by simp (disch := omega) only [IE.ev, ri, rc_0] <;> omega)⟩
theorem run_S5_6p : RunE L_S5_6p [] (UI 6) [(7, [.v (.int .i64 5), ag0 6], .tuple [.agg [.v (.int .i64 5), .sym (.int .u64 (.sh .shr .u64 (.sh .shl .u64 (.var 3) (.lit 56)) (.lit 56)))], .v (.int .i64 0)]), (8, [.v (.int .i64 5), ag0 6], .tuple [.agg [.v (.int .i64 5), .sym (.int .u64 (.bin .and .u64 (.var 0) (.lit 255)))], .v (.int .i64 0)])] := fun W C ρ aR aS => by unfold runE; kernel_rfl
theorem ag_S5_6p {aR aS : Addr} (b n : Int) (h : HN 6 b n) (h0 : 0 ≤ n) (h1 : n ≤ 127) (hc : Chk aR aS 6 b 0) (hi : IntV aR aS 6 b n) : AgS aR aS 5 6 b := by
  have e : (IE.ev (ri b n 6 5) (.bin .and .u64 (.var 0) (.lit 255)) : Int) = IE.ev (ri b n 6 5) (.sh .shr .u64 (.sh .shl .u64 (.var 3) (.lit 56)) (.lit 56)) := by
    obtain ⟨hb0, hb1, hn, l0, l1⟩ := h
    simp (disch := omega) only [IE.ev, ri, rc_0, rc_3, loI, and_u64_8, shl_u64_56, shr_u64_56, wrap_u64] <;> omega
  exact ⟨5, IE.ev (ri b n 6 5) (.sh .shr .u64 (.sh .shl .u64 (.var 3) (.lit 56)) (.lit 56)), 0, fun w hG => pair_of (W := wF (FloatKind.nearest .f32 n)) (C := cF (FloatKind.nearest .f32 n)) (ρ := ri b n 6 5) (ok_S5_6p b n h h0 h1) (fun _ h => by cases h) (UI_ok (nearest_num n) hc hi) (run_S5_6p _ _ _ aR aS) rfl rfl rfl (vs := [.int .i64 5, agV 6 b]) rfl rfl (tupE 5 0 e) w hG⟩
def L_S7_6m : List CF := [⟨.neq, .var 2, .lit 18446744073709551615, false⟩,
  ⟨.lss, .var 3, .lit 18446744071562067968, false⟩,
  ⟨.neq, .lit 0, .var 2, true⟩,
  ⟨.lss, .lit 0, (.cv .i64 (.var 2)), false⟩,
  ⟨.lss, .var 4, .lit 0, true⟩,
  ⟨.lss, .var 4, .lit (-2147483648), false⟩]
theorem ok_S7_6m (b n : Int) (h : HN 6 b n) (h0 : -2147483648 ≤ n) (h1 : n < 0) : ∀ f ∈ L_S7_6m, f.ok (ri b n 6 7) := by
  obtain ⟨hb0, hb1, hn, l0, l1⟩ := h
  intro f hf
  simp only [L_S7_6m, List.mem_cons, List.not_mem_nil, or_false] at hf
  rcases hf with rfl | rfl | rfl | rfl | rfl | rfl
  · exact ⟨rfl, cmp_neq_f (by simp (disch := omega) only [IE.ev, ri, rc_2, hiI_neg] <;> omega)⟩
  · exact ⟨rfl, cmp_lss_f (by simp (disch := omega) only [IE.ev, ri, rc_3, loI] <;> omega)⟩
  · exact ⟨rfl, cmp_neq_t (by simp (disch := omega) only [IE.ev, ri, rc_2, hiI_neg] <;> omega)⟩
  · exact ⟨rfl, cmp_lss_f (by simp (disch := omega) only [IE.ev, ri, rc_2, hiI_neg, wrap_i64] <;> omega)⟩
  · exact ⟨rfl, cmp_lss_t (by simp (disch := omega) only [IE.ev, ri, rc_4, wrap_i64] <;> omega)⟩
  · exact ⟨rfl, cmp_lss_f (by simp (disch := omega) only [IE.ev, ri, rc_4, wrap_i64] <;> omega)⟩
theorem run_S7_6m : RunE L_S7_6m [] (UI 6) [(7, [.v (.int .i64 7), ag0 6], .tuple [.agg [.v (.int .i64 7), .sym (.int .u64 (.sh .shr .u64 (.sh .shl .u64 (.var 3) (.lit 32)) (.lit 32)))], .v (.int .i64 0)]), (8, [.v (.int .i64 7), ag0 6], .tuple [.agg [.v (.int .i64 7), .sym (.int .u64 (.bin .and .u64 (.bin .or .u64 (.var 0) (.lit 18446744073709486080)) (.lit 4294967295)))], .v (.int .i64 0)])] := fun W C ρ aR aS => by unfold runE; kernel_rfl
theorem ag_S7_6m {aR aS : Addr} (b n : Int) (h : HN 6 b n) (h0 : -2147483648 ≤ n) (h1 : n < 0) (hc : Chk aR aS 6 b 0) (hi : IntV aR aS 6 b n) : AgS aR aS 7 6 b := by
  have e : (IE.ev (ri b n 6 7) (.bin .and .u64 (.bin .or .u64 (.var 0) (.lit 18446744073709486080)) (.lit 4294967295)) : Int) = IE.ev (ri b n 6 7) (.sh .shr .u64 (.sh .shl .u64 (.var 3) (.lit 32)) (.lit 32)) := by
    obtain ⟨hb0, hb1, hn, l0, l1⟩ := h
    simp (disch := omega) only [IE.ev, ri, rc_0, rc_3, loI, and_u64_32, or_u64_16, shl_u64_32, shr_u64_32, wrap_u64] <;> omega
  exact ⟨7, IE.ev (ri b n 6 7) (.sh .shr .u64 (.sh .shl .u64 (.var 3) (.lit 32)) (.lit 32)), 0, fun w hG => pair_of (W := wF (FloatKind.nearest .f32 n)) (C := cF (FloatKind.nearest .f32 n)) (ρ := ri b n 6 7) (ok_S7_6m b n h h0 h1) (fun _ h => by cases h) (UI_ok (nearest_num n) hc hi) (run_S7_6m _ _ _ aR aS) rfl rfl rfl (vs := [.int .i64 7, agV 6 b]) rfl rfl (tupE 7 0 e) w hG⟩
def L_S9_6e : List CF := []
theorem run_S9_6e : RunE L_S9_6e [] (UI 6) [(7, [.v (.int .i64 9), ag0 6], .v (.tuple #[.agg #[.int .i64 0, .int .u64 0], .int .i64 12])), (8, [.v (.int .i64 9), ag0 6], .v (.tuple #[.agg #[.int .i64 0, .int .u64 0], .int .i64 12]))] := fun W C ρ aR aS => by unfold runE; kernel_rfl
theorem ag_S9_6e {aR aS : Addr} (b n : Int) (_ : HN 6 b n)  (hc : Chk aR aS 6 b 0) (hi : IntV aR aS 6 b n) : AgS aR aS 9 6 b := ⟨0, 0, 12, fun w hG => pair_of (W := wF (FloatKind.nearest .f32 n)) (C := cF (FloatKind.nearest .f32 n)) (ρ := ri b n 6 9) (fun _ h => by cases h) (fun _ h => by cases h) (UI_ok (nearest_num n) hc hi) (run_S9_6e _ _ _ aR aS) rfl rfl rfl (vs := [.int .i64 9, agV 6 b]) rfl rfl rfl w hG⟩
def L_S0_7e : List CF := []
theorem run_S0_7e : RunE L_S0_7e [] (UI 7) [(7, [.v (.int .i64 0), ag0 7], .v (.tuple #[.agg #[.int .i64 0, .int .u64 0], .int .i64 12])), (8, [.v (.int .i64 0), ag0 7], .v (.tuple #[.agg #[.int .i64 0, .int .u64 0], .int .i64 12]))] := fun W C ρ aR aS => by unfold runE; kernel_rfl
theorem ag_S0_7e {aR aS : Addr} (b n : Int) (_ : HN 7 b n)  (hc : Chk aR aS 7 b 0) (hi : IntV aR aS 7 b n) : AgS aR aS 0 7 b := ⟨0, 0, 12, fun w hG => pair_of (W := wF (FloatKind.nearest .f32 n)) (C := cF (FloatKind.nearest .f32 n)) (ρ := ri b n 7 0) (fun _ h => by cases h) (fun _ h => by cases h) (UI_ok (nearest_num n) hc hi) (run_S0_7e _ _ _ aR aS) rfl rfl rfl (vs := [.int .i64 0, agV 7 b]) rfl rfl rfl w hG⟩
def L_S2_7b : List CF := [⟨.neq, .var 2, .lit 0, true⟩,
  ⟨.lss, (.cv .i64 (.var 2)), .lit 0, true⟩,
  ⟨.lss, .var 4, .lit 0, true⟩]
theorem ok_S2_7b (b n : Int) (h : HN 7 b n) (h0 : n < 0) : ∀ f ∈ L_S2_7b, f.ok (ri b n 7 2) := by
  obtain ⟨hb0, hb1, hn, l0, l1⟩ := h
  intro f hf
  simp only [L_S2_7b, List.mem_cons, List.not_mem_nil, or_false] at hf
  rcases hf with rfl | rfl | rfl
  · exact ⟨rfl, cmp_neq_t (by simp (disch := omega) only [IE.ev, ri, rc_2, hiI_neg] <;> omega)⟩
  · exact ⟨rfl, cmp_lss_t (by simp (disch := omega) only [IE.ev, ri, rc_2, hiI_neg, wrap_i64] <;> omega)⟩
  · exact ⟨rfl, cmp_lss_t (by simp (disch := omega) only [IE.ev, ri, rc_4, wrap_i64] <;> omega)⟩
theorem run_S2_7b : RunE L_S2_7b [] (UI 7) [(7, [.v (.int .i64 2), ag0 7], .v (.tuple #[.agg #[.int .i64 2, .int .u64 0], .int .i64 0])), (8, [.v (.int .i64 2), ag0 7], .v (.tuple #[.agg #[.int .i64 2, .int .u64 0], .int .i64 0]))] := fun W C ρ aR aS => by unfold runE; kernel_rfl
theorem ag_S2_7b {aR aS : Addr} (b n : Int) (h : HN 7 b n) (h0 : n < 0) (hc : Chk aR aS 7 b 0) (hi : IntV aR aS 7 b n) : AgS aR aS 2 7 b := ⟨2, 0, 0, fun w hG => pair_of (W := wF (FloatKind.nearest .f32 n)) (C := cF (FloatKind.nearest .f32 n)) (ρ := ri b n 7 2) (ok_S2_7b b n h h0) (fun _ h => by cases h) (UI_ok (nearest_num n) hc hi) (run_S2_7b _ _ _ aR aS) rfl rfl rfl (vs := [.int .i64 2, agV 7 b]) rfl rfl rfl w hG⟩
def L_S3_7p : List CF := [⟨.neq, .var 2, .lit 0, false⟩,
  ⟨.lss, .var 3, .lit 0, false⟩,
  ⟨.neq, .lit 0, .var 2, false⟩,
  ⟨.lss, .lit 4294967295, .var 3, false⟩,
  ⟨.lss, .var 4, .lit 0, false⟩,
  ⟨.gtr, .var 0, .lit 4294967295, false⟩]
theorem ok_S3_7p (b n : Int) (h : HN 7 b n) (h0 : 0 ≤ n) (h1 : n ≤ 4294967295) : ∀ f ∈ L_S3_7p, f.ok (ri b n 7 3) := by
  obtain ⟨hb0, hb1, hn, l0, l1⟩ := h
  intro f hf
  simp only [L_S3_7p, List.mem_cons, List.not_mem_nil, or_false] at hf
  rcases hf with rfl | rfl | rfl | rfl | rfl | rfl
  · exact ⟨rfl, cmp_neq_f (by simp (disch := omega) only [IE.ev, ri, rc_2, hiI_pos] <;> omega)⟩
  · exact ⟨rfl, cmp_lss_f (by simp (disch := omega) only [IE.ev, ri, rc_3, loI] <;> omega)⟩
  · exact ⟨rfl, cmp_neq_f (by simp (disch := omega) only [IE.ev, ri, rc_2, hiI_pos] <;> omega)⟩
  · exact ⟨rfl, cmp_lss_f (by simp (disch := omega) only [IE.ev, ri, rc_3, loI] <;> omega)⟩
  · exact ⟨rfl, cmp_lss_f (by simp (disch := omega) only [IE.ev, ri, rc_4, wrap_i64] <;> omega)⟩
  · exact ⟨rfl, cmp_gtr_f (by simp (disch := omega) only [IE.ev, ri, rc_0] <;> omega)⟩
theorem run_S3_7p : RunE L_S3_7p [] (UI 7) [(7, [.v (.int .i64 3), ag0 7], .tuple [.agg [.v (.int .i64 3), .sym (.int .u64 (.sh .shr .u64 (.sh .shl .u64 (.var 3) (.lit 32)) (.lit 32)))], .v (.int .i64 0)]), (8, [.v (.int .i64 3), ag0 7], .tuple [.agg [.v (.int .i64 3), .sym (.int .u64 (.bin .and .u64 (.var 0) (.lit 4294967295)))], .v (.int .i64 0)])] := fun W C ρ aR aS => by unfold runE; kernel_rfl
theorem ag_S3_7p {aR aS : Addr} (b n : Int) (h : HN 7 b n) (h0 : 0 ≤ n) (h1 : n ≤ 4294967295) (hc : Chk aR aS 7 b 0) (hi : IntV aR aS 7 b n) : AgS aR aS 3 7 b := by
  have e : (IE.ev (ri b n 7 3) (.bin .and .u64 (.var 0) (.lit 4294967295)) : Int) = IE.ev (ri b n 7 3) (.sh .shr .u64 (.sh .shl .u64 (.var 3) (.lit 32)) (.lit 32)) := by
    obtain ⟨hb0, hb1, hn, l0, l1⟩ := h
    simp (disch := omega) only [IE.ev, ri, rc_0, rc_3, loI, and_u64_32, shl_u64_32, shr_u64_32, wrap_u64] <;> omega
  exact ⟨3, IE.ev (ri b n 7 3) (.sh .shr .u64 (.sh .shl .u64 (.var 3) (.lit 32)) (.lit 32)), 0, fun w hG => pair_of (W := wF (FloatKind.nearest .f32 n)) (C := cF (FloatKind.nearest .f32 n)) (ρ := ri b n 7 3) (ok_S3_7p b n h h0 h1) (fun _ h => by cases h) (UI_ok (nearest_num n) hc hi) (run_S3_7p _ _ _ aR aS) rfl rfl rfl (vs := [.int .i64 3, agV 7 b]) rfl rfl (tupE 3 0 e) w hG⟩
def L_S5_7m : List CF := [⟨.neq, .var 2, .lit 18446744073709551615, false⟩,
  ⟨.lss, .var 3, .lit 18446744073709551488, false⟩,
  ⟨.neq, .lit 0, .var 2, true⟩,
  ⟨.lss, .lit 0, (.cv .i64 (.var 2)), false⟩,
  ⟨.lss, .var 4, .lit 0, true⟩,
  ⟨.lss, .var 4, .lit (-128), false⟩]
theorem ok_S5_7m (b n : Int) (h : HN 7 b n) (h0 : -128 ≤ n) (h1 : n < 0) : ∀ f ∈ L_S5_7m, f.ok (ri b n 7 5) := by
  obtain ⟨hb0, hb1, hn, l0, l1⟩ := h
  intro f hf
  simp only [L_S5_7m, List.mem_cons, List.not_mem_nil, or_false] at hf
  rcases hf with rfl | rfl | rfl | rfl | rfl | rfl
  · exact ⟨rfl, cmp_neq_f (by simp (disch := omega) only [IE.ev, ri, rc_2, hiI_neg] <;> omega)⟩
  · exact ⟨rfl, cmp_lss_f (by simp (disch := omega) only [IE.ev, ri, rc_3, loI] <;> omega)⟩
  · exact ⟨rfl, cmp_neq_t (by simp (disch := omega) only [IE.ev, ri, rc_2, hiI_neg] <;> omega)⟩
  · exact ⟨rfl, cmp_lss_f (by simp (disch := omega) only [IE.ev, ri, rc_2, hiI_neg, wrap_i64] <;> omega)⟩
  · exact ⟨rfl, cmp_lss_t (by simp (disch := omega) only [IE.ev, ri, rc_4, wrap_i64] <;> omega)⟩
  · exact ⟨rfl, cmp_lss_f (by simp (disch := omega) only [IE.ev, ri, rc_4, wrap_i64] <;> omega)⟩
theorem run_S5_7m : RunE L_S5_7m [] (UI 7) [(7, [.v (.int .i64 5), ag0 7], .tuple [.agg [.v (.int .i64 5), .sym (.int .u64 (.sh .shr .u64 (.sh .shl .u64 (.var 3) (.lit 56)) (.lit 56)))], .v (.int .i64 0)]), (8, [.v (.int .i64 5), ag0 7], .tuple [.agg [.v (.int .i64 5), .sym (.int .u64 (.bin .and .u64 (.bin .or .u64 (.var 0) (.lit 18446744069414584320)) (.lit 255)))], .v (.int .i64 0)])] := fun W C ρ aR aS => by unfold runE; kernel_rfl
theorem ag_S5_7m {aR aS : Addr} (b n : Int) (h : HN 7 b n) (h0 : -128 ≤ n) (h1 : n < 0) (hc : Chk aR aS 7 b 0) (hi : IntV aR aS 7 b n) : AgS aR aS 5 7 b := by
  have e : (IE.ev (ri b n 7 5) (.bin .and .u64 (.bin .or .u64 (.var 0) (.lit 18446744069414584320)) (.lit 255)) : Int) = IE.ev (ri b n 7 5) (.sh .shr .u64 (.sh .shl .u64 (.var 3) (.lit 56)) (.lit 56)) := by
    obtain ⟨hb0, hb1, hn, l0, l1⟩ := h
    simp (disch := omega) only [IE.ev, ri, rc_0, rc_3, loI, and_u64_8, or_u64_32, shl_u64_56, shr_u64_56, wrap_u64] <;> omega
  exact ⟨5, IE.ev (ri b n 7 5) (.sh .shr .u64 (.sh .shl .u64 (.var 3) (.lit 56)) (.lit 56)), 0, fun w hG => pair_of (W := wF (FloatKind.nearest .f32 n)) (C := cF (FloatKind.nearest .f32 n)) (ρ := ri b n 7 5) (ok_S5_7m b n h h0 h1) (fun _ h => by cases h) (UI_ok (nearest_num n) hc hi) (run_S5_7m _ _ _ aR aS) rfl rfl rfl (vs := [.int .i64 5, agV 7 b]) rfl rfl (tupE 5 0 e) w hG⟩
def L_S6_7m : List CF := [⟨.neq, .var 2, .lit 18446744073709551615, false⟩,
  ⟨.lss, .var 3, .lit 18446744073709518848, false⟩,
  ⟨.neq, .lit 0, .var 2, true⟩,
  ⟨.lss, .lit 0, (.cv .i64 (.var 2)), false⟩,
  ⟨.lss, .var 4, .lit 0, true⟩,
  ⟨.lss, .var 4, .lit (-32768), false⟩]
theorem ok_S6_7m (b n : Int) (h : HN 7 b n) (h0 : -32768 ≤ n) (h1 : n < 0) : ∀ f ∈ L_S6_7m, f.ok (ri b n 7 6) := by
  obtain ⟨hb0, hb1, hn, l0, l1⟩ := h
  intro f hf
  simp only [L_S6_7m, List.mem_cons, List.not_mem_nil, or_false] at hf
  rcases hf with rfl | rfl | rfl | rfl | rfl | rfl
  · exact ⟨rfl, cmp_neq_f (by simp (disch := omega) only [IE.ev, ri, rc_2, hiI_neg] <;> omega)⟩
  · exact ⟨rfl, cmp_lss_f (by simp (disch := omega) only [IE.ev, ri, rc_3, loI] <;> omega)⟩
  · exact ⟨rfl, cmp_neq_t (by simp (disch := omega) only [IE.ev, ri, rc_2, hiI_neg] <;> omega)⟩
  · exact ⟨rfl, cmp_lss_f (by simp (disch := omega) only [IE.ev, ri, rc_2, hiI_neg, wrap_i64] <;> omega)⟩
  · exact ⟨rfl, cmp_lss_t (by simp (disch := omega) only [IE.ev, ri, rc_4, wrap_i64] <;> omega)⟩
  · exact ⟨rfl, cmp_lss_f (by simp (disch := omega) only [IE.ev, ri, rc_4, wrap_i64] <;> omega)⟩
theorem run_S6_7m : RunE L_S6_7m [] (UI 7) [(7, [.v (.int .i64 6), ag0 7], .tuple [.agg [.v (.int .i64 6), .sym (.int .u64 (.sh .shr .u64 (.sh .shl .u64 (.var 3) (.lit 48)) (.lit 48)))], .v (.int .i64 0)]), (8, [.v (.int .i64 6), ag0 7], .tuple [.agg [.v (.int .i64 6), .sym (.int .u64 (.bin .and .u64 (.bin .or .u64 (.var 0) (.lit 18446744069414584320)) (.lit 65535)))], .v (.int .i64 0)])] := fun W C ρ aR aS => by unfold runE; kernel_rfl
theorem ag_S6_7m {aR aS : Addr} (b n : Int) (h : HN 7 b n) (h0 : -32768 ≤ n) (h1 : n < 0) (hc : Chk aR aS 7 b 0) (hi : IntV aR aS 7 b n) : AgS aR aS 6 7 b := by
  have e : (IE.ev (ri b n 7 6) (.bin .and .u64 (.bin .or .u64 (.var 0) (.lit 18446744069414584320)) (.lit 65535)) : Int) = IE.ev (ri b n 7 6) (.sh .shr .u64 (.sh .shl .u64 (.var 3) (.lit 48)) (.lit 48)) := by
    obtain ⟨hb0, hb1, hn, l0, l1⟩ := h
    simp (disch := omega) only [IE.ev, ri, rc_0, rc_3, loI, and_u64_16, or_u64_32, shl_u64_48, shr_u64_48, wrap_u64] <;> omega
  exact ⟨6, IE.ev (ri b n 7 6) (.sh .shr .u64 (.sh .shl .u64 (.var 3) (.lit 48)) (.lit 48)), 0, fun w hG => pair_of (W := wF (FloatKind.nearest .f32 n)) (C := cF (FloatKind.nearest .f32 n)) (ρ := ri b n 7 6) (ok_S6_7m b n h h0 h1) (fun _ h => by cases h) (UI_ok (nearest_num n) hc hi) (run_S6_7m _ _ _ aR aS) rfl rfl rfl (vs := [.int .i64 6, agV 7 b]) rfl rfl (tupE 6 0 e) w hG⟩
def L_S7_7p : List CF := [⟨.neq, .var 2, .lit 18446744073709551615, true⟩,
  ⟨.lss, (.cv .i64 (.var 2)), .lit (-1), false⟩,
  ⟨.neq, .lit 0, .var 2, false⟩,
  ⟨.lss, .lit 2147483647, .var 3, false⟩,
  ⟨.lss, .var 4, .lit 0, false⟩,
  ⟨.gtr, .var 0, .lit 2147483647, false⟩]
theorem ok_S7_7p (b n : Int) (h : HN 7 b n) (h0 : 0 ≤ n) (h1 : n ≤ 2147483647) : ∀ f ∈ L_S7_7p, f.ok (ri b n 7 7) := by
  obtain ⟨hb0, hb1, hn, l0, l1⟩ := h
  intro f hf
  simp only [L_S7_7p, List.mem_cons, List.not_mem_nil, or_false] at hf
  rcases hf with rfl | rfl | rfl | rfl | rfl | rfl
  · exact ⟨rfl, cmp_neq_t (by simp (disch := omega) only [IE.ev, ri, rc_2, hiI_pos] <;> omega)⟩
  · exact ⟨rfl, cmp_lss_f (by simp (disch := omega) only [IE.ev, ri, rc_2, hiI_pos, wrap_i64] <;> omega)⟩
  · exact ⟨rfl, cmp_neq_f (by simp (disch := omega) only [IE.ev, ri, rc_2, hiI_pos] <;> omega)⟩
  · exact ⟨rfl, cmp_lss_f (by simp (disch := omega) only [IE.ev, ri, rc_3, loI] <;> omega)⟩
  · exact ⟨rfl, cmp_lss_f (by simp (disch := omega) only [IE.ev, ri, rc_4, wrap_i64] <;> omega)⟩
  · exact ⟨rfl, cmp_gtr_f (by simp (disch := omega) only [IE.ev, ri, rc_0] <;> omega)⟩
theorem run_S7_7p : RunE L_S7_7p [] (UI 7) [(7, [.v (.int .i64 7), ag0 7], .tuple [.agg [.v (.int .i64 7), .sym (.int .u64 (.sh .shr .u64 (.sh .shl .u64 (.var 3) (.lit 32)) (.lit 32)))], .v (.int .i64 0)]), (8, [.v (.int .i64 7), ag0 7], .tuple [.agg [.v (.int .i64 7), .sym (.int .u64 (.bin .and .u64 (.var 0) (.lit 4294967295)))], .v (.int .i64 0)])] := fun W C ρ aR aS => by unfold runE; kernel_rfl
theorem ag_S7_7p {aR aS : Addr} (b n : Int) (h : HN 7 b n) (h0 : 0 ≤ n) (h1 : n ≤ 2147483647) (hc : Chk aR aS 7 b 0) (hi : IntV aR aS 7 b n) : AgS aR aS 7 7 b := by
  have e : (IE.ev (ri b n 7 7) (.bin .and .u64 (.var 0) (.lit 4294967295)) : Int) = IE.ev (ri b n 7 7) (.sh .shr .u64 (.sh .shl .u64 (.var 3) (.lit 32)) (.lit 32)) := by
    obtain ⟨hb0, hb1, hn, l0, l1⟩ := h
    simp (disch := omega) only [IE.ev, ri, rc_0, rc_3, loI, and_u64_32, shl_u64_32, shr_u64_32, wrap_u64] <;> omega
  exact ⟨7, IE.ev (ri b n 7 7) (.sh .shr .u64 (.sh .shl .u64 (.var 3) (.lit 32)) (.lit 32)), 0, fun w hG => pair_of (W := wF (FloatKind.nearest .f32 n)) (C := cF (FloatKind.nearest .f32 n)) (ρ := ri b n 7 7) (ok_S7_7p b n h h0 h1) (fun _ h => by cases h) (UI_ok (nearest_num n) hc hi) (run_S7_7p _ _ _ aR aS) rfl rfl rfl (vs := [.int .i64 7, agV 7 b]) rfl rfl (tupE 7 0 e) w hG⟩
def L_S10_7e : List CF := []
theorem run_S10_7e : RunE L_S10_7e [] (UI 7) [(7, [.v (.int .i64 10), ag0 7], .v (.tuple #[.agg #[.int .i64 0, .int .u64 0], .int .i64 12])), (8, [.v (.int .i64 10), ag0 7], .v (.tuple #[.agg #[.int .i64 0, .int .u64 0], .int .i64 12]))] := fun W C ρ aR aS => by unfold runE; kernel_rfl
theorem ag_S10_7e {aR aS : Addr} (b n : Int) (_ : HN 7 b n)  (hc : Chk aR aS 7 b 0) (hi : IntV aR aS 7 b n) : AgS aR aS 10 7 b := ⟨0, 0, 12, fun w hG => pair_of (W := wF (FloatKind.nearest .f32 n)) (C := cF (FloatKind.nearest .f32 n)) (ρ := ri b n 7 10) (fun _ h => by cases h) (fun _ h => by cases h) (UI_ok (nearest_num n) hc hi) (run_S10_7e _ _ _ aR aS) rfl rfl rfl (vs := [.int .i64 10, agV 7 b]) rfl rfl rfl w hG⟩
def L_S1_8b : List CF := [⟨.neq, .var 2, .lit 0, true⟩,
  ⟨.lss, (.cv .i64 (.var 2)), .lit 0, true⟩,
  ⟨.lss, .var 4, .lit 0, true⟩]
theorem ok_S1_8b (b n : Int) (h : HN 8 b n) (h0 : n < 0) : ∀ f ∈ L_S1_8b, f.ok (ri b n 8 1) := by
  obtain ⟨hb0, hb1, hn, l0, l1⟩ := h
  intro f hf
  simp only [L_S1_8b, List.mem_cons, List.not_mem_nil, or_false] at hf
  rcases hf with rfl | rfl | rfl
  · exact ⟨rfl, cmp_neq_t (by simp (disch := omega) only [IE.ev, ri, rc_2, hiI_neg] <;> omega)⟩
  · exact ⟨rfl, cmp_lss_t (by simp (disch := omega) only [IE.ev, ri, rc_2, hiI_neg, wrap_i64] <;> omega)⟩
  · exact ⟨rfl, cmp_lss_t (by simp (disch := omega) only [IE.ev, ri, rc_4, wrap_i64] <;> omega)⟩
theorem run_S1_8b : RunE L_S1_8b [] (UI 8) [(7, [.v (.int .i64 1), ag0 8], .v (.tuple #[.agg #[.int .i64 1, .int .u64 0], .int .i64 0])), (8, [.v (.int .i64 1), ag0 8], .v (.tuple #[.agg #[.int .i64 1, .int .u64 0], .int .i64 0]))] := fun W C ρ aR aS => by unfold runE; kernel_rfl
theorem ag_S1_8b {aR aS : Addr} (b n : Int) (h : HN 8 b n) (h0 : n < 0) (hc : Chk aR aS 8 b 0) (hi : IntV aR aS 8 b n) : AgS aR aS 1 8 b := ⟨1, 0, 0, fun w hG => pair_of (W := wF (FloatKind.nearest .f32 n)) (C := cF (FloatKind.nearest .f32 n)) (ρ := ri b n 8 1) (ok_S1_8b b n h h0) (fun _ h => by cases h) (UI_ok (nearest_num n) hc hi) (run_S1_8b _ _ _ aR aS) rfl rfl rfl (vs := [.int .i64 1, agV 8 b]) rfl rfl rfl w hG⟩
def L_S2_8p : List CF := [⟨.neq, .var 2, .lit 0, false⟩,
  ⟨.lss, .var 3, .lit 0, false⟩,
  ⟨.neq, .lit 0, .var 2, false⟩,
  ⟨.lss, .lit 65535, .var 3, false⟩,
  ⟨.lss, .var 4, .lit 0, false⟩,
  ⟨.gtr, .var 0, .lit 65535, false⟩]
theorem ok_S2_8p (b n : Int) (h : HN 8 b n) (h0 : 0 ≤ n) (h1 : n ≤ 65535) : ∀ f ∈ L_S2_8p, f.ok (ri b n 8 2) := by
  obtain ⟨hb0, hb1, hn, l0, l1⟩ := h
  intro f hf
  simp only [L_S2_8p, List.mem_cons, List.not_mem_nil, or_false] at hf
  rcases hf with rfl | rfl | rfl | rfl | rfl | rfl
  · exact ⟨rfl, cmp_neq_f (by simp (disch := omega) only [IE.ev, ri, rc_2, hiI_pos] <;> omega)⟩
  · exact ⟨rfl, cmp_lss_f (by simp (disch := omega) only [IE.ev, ri, rc_3, loI] <;> omega)⟩
  · exact ⟨rfl, cmp_neq_f (by simp (disch := omega) only [IE.ev, ri, rc_2, hiI_pos] <;> omega)⟩
  · exact ⟨rfl, cmp_lss_f (by simp (disch := omega) only [IE.ev, ri, rc_3, loI] <;> omega)⟩
  · exact ⟨rfl, cmp_lss_f (by simp (disch := omega) only [IE.ev, ri, rc_4, wrap_i64] <;> omega)⟩
  · exact ⟨rfl, cmp_gtr_f (by simp (disch := omega) only [IE.ev, ri, rc_0] <;> omega)⟩
theorem run_S2_8p : RunE L_S2_8p [] (UI 8) [(7, [.v (.int .i64 2), ag0 8], .tuple [.agg [.v (.int .i64 2), .sym (.int .u64 (.sh .shr .u64 (.sh .shl .u64 (.var 3) (.lit 48)) (.lit 48)))], .v (.int .i64 0)]), (8, [.v (.int .i64 2), ag0 8], .tuple [.agg [.v (.int .i64 2), .sym (.int .u64 (.bin .and .u64 (.var 0) (.lit 65535)))], .v (.int .i64 0)])] := fun W C ρ aR aS => by unfold runE; kernel_rfl
theorem ag_S2_8p {aR aS : Addr} (b n : Int) (h : HN 8 b n) (h0 : 0 ≤ n) (h1 : n ≤ 65535) (hc : Chk aR aS 8 b 0) (hi : IntV aR aS 8 b n) : AgS aR aS 2 8 b := by
  have e : (IE.ev (ri b n 8 2) (.bin .and .u64 (.var 0) (.lit 65535)) : Int) = IE.ev (ri b n 8 2) (.sh .shr .u64 (.sh .shl .u64 (.var 3) (.lit 48)) (.lit 48)) := by
    obtain ⟨hb0, hb1, hn, l0, l1⟩ := h
    simp (disch := omega) only [IE.ev, ri, rc_0, rc_3, loI, and_u64_16, shl_u64_48, shr_u64_48, wrap_u64] <;> omega
  exact ⟨2, IE.ev (ri b n 8 2) (.sh .shr .u64 (.sh .shl .u64 (.var 3) (.lit 48)) (.lit 48)), 0, fun w hG => pair_of (W := wF (FloatKind.nearest .f32 n)) (C := cF (FloatKind.nearest .f32 n)) (ρ := ri b n 8 2) (ok_S2_8p b n h h0 h1) (fun _ h => by cases h) (UI_ok (nearest_num n) hc hi) (run_S2_8p _ _ _ aR aS) rfl rfl rfl (vs := [.int .i64 2, agV 8 b]) rfl rfl (tupE 2 0 e) w hG⟩
def L_S3_8a : List CF := [⟨.neq, .var 2, .lit 0, false⟩,
  ⟨.lss, .var 3, .lit 0, false⟩,
  ⟨.neq, .lit 0, .var 2, false⟩,
  ⟨.lss, .lit 4294967295, .var 3, true⟩,
  ⟨.lss, .var 4, .lit 0, false⟩,
  ⟨.gtr, .var 0, .lit 4294967295, true⟩]
theorem ok_S3_8a (b n : Int) (h : HN 8 b n) (h0 : 4294967295 < n) : ∀ f ∈ L_S3_8a, f.ok (ri b n 8 3) := by
  obtain ⟨hb0, hb1, hn, l0, l1⟩ := h
  intro f hf
  simp only [L_S3_8a, List.mem_cons, List.not_mem_nil, or_false] at hf
  rcases hf with rfl | rfl | rfl | rfl | rfl | rfl
  · exact ⟨rfl, cmp_neq_f (by simp (disch := omega) only [IE.ev, ri, rc_2, hiI_pos] <;> omega)⟩
  · exact ⟨rfl, cmp_lss_f (by simp (disch := omega) only [IE.ev, ri, rc_3, loI] <;> omega)⟩
  · exact ⟨rfl, cmp_neq_f (by simp (disch := omega) only [IE.ev, ri, rc_2, hiI_pos] <;> omega)⟩
  · exact ⟨rfl, cmp_lss_t (by simp (disch := omega) only [IE.ev, ri, rc_3, loI] <;> omega)⟩
  · exact ⟨rfl, cmp_lss_f (by simp (disch := omega) only [IE.ev, ri, rc_4, wrap_i64] <;> omega)⟩
  · exact ⟨rfl, cmp_gtr_t (by simp (disch := omega) only [IE.ev, ri, rc_0] <;> omega)⟩
theorem run_S3_8a : RunE L_S3_8a [] (UI 8) [(7, [.v (.int .i64 3), ag0 8], .v (.tuple #[.agg #[.int .i64 3, .int .u64 4294967295], .int .i64 0])), (8, [.v (.int .i64 3), ag0 8], .v (.tuple #[.agg #[.int .i64 3, .int .u64 4294967295], .int .i64 0]))] := fun W C ρ aR aS => by unfold runE; kernel_rfl
theorem ag_S3_8a {aR aS : Addr} (b n : Int) (h : HN 8 b n) (h0 : 4294967295 < n) (hc : Chk aR aS 8 b 0) (hi : IntV aR aS 8 b n) : AgS aR aS 3 8 b := ⟨3, 4294967295, 0, fun w hG => pair_of (W := wF (FloatKind.nearest .f32 n)) (C := cF (FloatKind.nearest .f32 n)) (ρ := ri b n 8 3) (ok_S3_8a b n h h0) (fun _ h => by cases h) (UI_ok (nearest_num n) hc hi) (run_S3_8a _ _ _ aR aS) rfl rfl rfl (vs := [.int .i64 3, agV 8 b]) rfl rfl rfl w hG⟩
def L_S5_8m : List CF := [⟨.neq, .var 2, .lit 18446744073709551615, false⟩,
  ⟨.lss, .var 3, .lit 18446744073709551488, false⟩,
  ⟨.neq, .lit 0, .var 2, true⟩,
  ⟨.lss, .lit 0, (.cv .i64 (.var 2)), false⟩,
  ⟨.lss, .var 4, .lit 0, true⟩,
  ⟨.lss, .var 4, .lit (-128), false⟩]
theorem ok_S5_8m (b n : Int) (h : HN 8 b n) (h0 : -128 ≤ n) (h1 : n < 0) : ∀ f ∈ L_S5_8m, f.ok (ri b n 8 5) := by
  obtain ⟨hb0, hb1, hn, l0, l1⟩ := h
  intro f hf
  simp only [L_S5_8m, List.mem_cons, List.not_mem_nil, or_false] at hf
  rcases hf with rfl | rfl | rfl | rfl | rfl | rfl
  · exact ⟨rfl, cmp_neq_f (by simp (disch := omega) only [IE.ev, ri, rc_2, hiI_neg] <;> omega)⟩
  · exact ⟨rfl, cmp_lss_f (by simp (disch := omega) only [IE.ev, ri, rc_3, loI] <;> omega)⟩
  · exact ⟨rfl, cmp_neq_t (by simp (disch := omega) only [IE.ev, ri, rc_2, hiI_neg] <;> omega)⟩
  · exact ⟨rfl, cmp_lss_f (by simp (disch := omega) only [IE.ev, ri, rc_2, hiI_neg, wrap_i64] <;> omega)⟩
  · exact ⟨rfl, cmp_lss_t (by simp (disch := omega) only [IE.ev, ri, rc_4, wrap_i64] <;> omega)⟩
  · exact ⟨rfl, cmp_lss_f (by simp (disch := omega) only [IE.ev, ri, rc_4, wrap_i64] <;> omega)⟩
theorem run_S5_8m : RunE L_S5_8m [] (UI 8) [(7, [.v (.int .i64 5), ag0 8], .tuple [.agg [.v (.int .i64 5), .sym (.int .u64 (.sh .shr .u64 (.sh .shl .u64 (.var 3) (.lit 56)) (.lit 56)))], .v (.int .i64 0)]), (8, [.v (.int .i64 5), ag0 8], .tuple [.agg [.v (.int .i64 5), .sym (.int .u64 (.bin .and .u64 (.bin .or .u64 (.var 0) (.lit 0)) (.lit 255)))], .v (.int .i64 0)])] := fun W C ρ aR aS => by unfold runE; kernel_rfl
theorem ag_S5_8m {aR aS : Addr} (b n : Int) (h : HN 8 b n) (h0 : -128 ≤ n) (h1 : n < 0) (hc : Chk aR aS 8 b 0) (hi : IntV aR aS 8 b n) : AgS aR aS 5 8 b := by
  have e : (IE.ev (ri b n 8 5) (.bin .and .u64 (.bin .or .u64 (.var 0) (.lit 0)) (.lit 255)) : Int) = IE.ev (ri b n 8 5) (.sh .shr .u64 (.sh .shl .u64 (.var 3) (.lit 56)) (.lit 56)) := by
    obtain ⟨hb0, hb1, hn, l0, l1⟩ := h
    simp (disch := omega) only [IE.ev, ri, rc_0, rc_3, loI, and_u64_8, or_u64_64, shl_u64_56, shr_u64_56, wrap_u64] <;> omega
  exact ⟨5, IE.ev (ri b n 8 5) (.sh .shr .u64 (.sh .shl .u64 (.var 3) (.lit 56)) (.lit 56)), 0, fun w hG => pair_of (W := wF (FloatKind.nearest .f32 n)) (C := cF (FloatKind.nearest .f32 n)) (ρ := ri b n 8 5) (ok_S5_8m b n h h0 h1) (fun _ h => by cases h) (UI_ok (nearest_num n) hc hi) (run_S5_8m _ _ _ aR aS) rfl rfl rfl (vs := [.int .i64 5, agV 8 b]) rfl rfl (tupE 5 0 e) w hG⟩
def L_S6_8m : List CF := [⟨.neq, .var 2, .lit 18446744073709551615, false⟩,
  ⟨.lss, .var 3, .lit 18446744073709518848, false⟩,
  ⟨.neq, .lit 0, .var 2, true⟩,
  ⟨.lss, .lit 0, (.cv .i64 (.var 2)), false⟩,
  ⟨.lss, .var 4, .lit 0, true⟩,
  ⟨.lss, .var 4, .lit (-32768), false⟩]
theorem ok_S6_8m (b n : Int) (h : HN 8 b n) (h0 : -32768 ≤ n) (h1 : n < 0) : ∀ f ∈ L_S6_8m, f.ok (ri b n 8 6) := by
  obtain ⟨hb0, hb1, hn, l0, l1⟩ := h
  intro f hf
  simp only [L_S6_8m, List.mem_cons, List.not_mem_nil, or_false] at hf
  rcases hf with rfl | rfl | rfl | rfl | rfl | rfl
  · exact ⟨rfl, cmp_neq_f (by simp (disch := omega) only [IE.ev, ri, rc_2, hiI_neg] <;> omega)⟩
  · exact ⟨rfl, cmp_lss_f (by simp (disch := omega) only [IE.ev, ri, rc_3, loI] <;> omega)⟩
  · exact ⟨rfl, cmp_neq_t (by simp (disch := omega) only [IE.ev, ri, rc_2, hiI_neg] <;> omega)⟩
  · exact ⟨rfl, cmp_lss_f (by simp (disch := omega) only [IE.ev, ri, rc_2, hiI_neg, wrap_i64] <;> omega)⟩
  · exact ⟨rfl, cmp_lss_t (by simp (disch := omega) only [IE.ev, ri, rc_4, wrap_i64] <;> omega)⟩
  · exact ⟨rfl, cmp_lss_f (by simp (disch := omega) only [IE.ev, ri, rc_4, wrap_i64] <;> omega)⟩
theorem run_S6_8m : RunE L_S6_8m [] (UI 8) [(7, [.v (.int .i64 6), ag0 8], .tuple [.agg [.v (.int .i64 6), .sym (.int .u64 (.sh .shr .u64 (.sh .shl .u64 (.var 3) (.lit 48)) (.lit 48)))], .v (.int .i64 0)]), (8, [.v (.int .i64 6), ag0 8], .tuple [.agg [.v (.int .i64 6), .sym (.int .u64 (.bin .and .u64 (.bin .or .u64 (.var 0) (.lit 0)) (.lit 65535)))], .v (.int .i64 0)])] := fun W C ρ aR aS => by unfold runE; kernel_rfl
theorem ag_S6_8m {aR aS : Addr} (b n : Int) (h : HN 8 b n) (h0 : -32768 ≤ n) (h1 : n < 0) (hc : Chk aR aS 8 b 0) (hi : IntV aR aS 8 b n) : AgS aR aS 6 8 b := by
  have e : (IE.ev (ri b n 8 6) (.bin .and .u64 (.bin .or .u64 (.var 0) (.lit 0)) (.lit 65535)) : Int) = IE.ev (ri b n 8 6) (.sh .shr .u64 (.sh .shl .u64 (.var 3) (.lit 48)) (.lit 48)) := by
    obtain ⟨hb0, hb1, hn, l0, l1⟩ := h
    simp (disch := omega) only [IE.ev, ri, rc_0, rc_3, loI, and_u64_16, or_u64_64, shl_u64_48, shr_u64_48, wrap_u64] <;> omega
  exact ⟨6, IE.ev (ri b n 8 6) (.sh .shr .u64 (.sh .shl .u64 (.var 3) (.lit 48)) (.lit 48)), 0, fun w hG => pair_of (W := wF (FloatKind.nearest .f32 n)) (C := cF (FloatKind.nearest .f32 n)) (ρ := ri b n 8 6) (ok_S6_8m b n h h0 h1) (fun _ h => by cases h) (UI_ok (nearest_num n) hc hi) (run_S6_8m _ _ _ aR aS) rfl rfl rfl (vs := [.int .i64 6, agV 8 b]) rfl rfl (tupE 6 0 e) w hG⟩
def L_S7_8m : List CF := [⟨.neq, .var 2, .lit 18446744073709551615, false⟩,
  ⟨.lss, .var 3, .lit 18446744071562067968, false⟩,
  ⟨.neq, .lit 0, .var 2, true⟩,
  ⟨.lss, .lit 0, (.cv .i64 (.var 2)), false⟩,
  ⟨.lss, .var 4, .lit 0, true⟩,
  ⟨.lss, .var 4, .lit (-2147483648), false⟩]
theorem ok_S7_8m (b n : Int) (h : HN 8 b n) (h0 : -2147483648 ≤ n) (h1 : n < 0) : ∀ f ∈ L_S7_8m, f.ok (ri b n 8 7) := by
  obtain ⟨hb0, hb1, hn, l0, l1⟩ := h
  intro f hf
  simp only [L_S7_8m, List.mem_cons, List.not_mem_nil, or_false] at hf
  rcases hf with rfl | rfl | rfl | rfl | rfl | rfl
  · exact ⟨rfl, cmp_neq_f (by simp (disch := omega) only [IE.ev, ri, rc_2, hiI_neg] <;> omega)⟩
  · exact ⟨rfl, cmp_lss_f (by simp (disch := omega) only [IE.ev, ri, rc_3, loI] <;> omega)⟩
  · exact ⟨rfl, cmp_neq_t (by simp (disch := omega) only [IE.ev, ri, rc_2, hiI_neg] <;> omega)⟩
  · exact ⟨rfl, cmp_lss_f (by simp (disch := omega) only [IE.ev, ri, rc_2, hiI_neg, wrap_i64] <;> omega)⟩
  · exact ⟨rfl, cmp_lss_t (by simp (disch := omega) only [IE.ev, ri, rc_4, wrap_i64] <;> omega)⟩
  · exact ⟨rfl, cmp_lss_f (by simp (disch := omega) only [IE.ev, ri, rc_4, wrap_i64] <;> omega)⟩
theorem run_S7_8m : RunE L_S7_8m [] (UI 8) [(7, [.v (.int .i64 7), ag0 8], .tuple [.agg [.v (.int .i64 7), .sym (.int .u64 (.sh .shr .u64 (.sh .shl .u64 (.var 3) (.lit 32)) (.lit 32)))], .v (.int .i64 0)]), (8, [.v (.int .i64 7), ag0 8], .tuple [.agg [.v (.int .i64 7), .sym (.int .u64 (.bin .and .u64 (.bin .or .u64 (.var 0) (.lit 0)) (.lit 4294967295)))], .v (.int .i64 0)])] := fun W C ρ aR aS => by unfold runE; kernel_rfl
theorem ag_S7_8m {aR aS : Addr} (b n : Int) (h : HN 8 b n) (h0 : -2147483648 ≤ n) (h1 : n < 0) (hc : Chk aR aS 8 b 0) (hi : IntV aR aS 8 b n) : AgS aR aS 7 8 b := by
  have e : (IE.ev (ri b n 8 7) (.bin .and .u64 (.bin .or .u64 (.var 0) (.lit 0)) (.lit 4294967295)) : Int) = IE.ev (ri b n 8 7) (.sh .shr .u64 (.sh .shl .u64 (.var 3) (.lit 32)) (.lit 32)) := by
    obtain ⟨hb0, hb1, hn, l0, l1⟩ := h
    simp (disch := omega) only [IE.ev, ri, rc_0, rc_3, loI, and_u64_32, or_u64_64, shl_u64_32, shr_u64_32, wrap_u64] <;> omega
  exact ⟨7, IE.ev (ri b n 8 7) (.sh .shr .u64 (.sh .shl .u64 (.var 3) (.lit 32)) (.lit 32)), 0, fun w hG => pair_of (W := wF (FloatKind.nearest .f32 n)) (C := cF (FloatKind.nearest .f32 n)) (ρ := ri b n 8 7) (ok_S7_8m b n h h0 h1) (fun _ h => by cases h) (UI_ok (nearest_num n) hc hi) (run_S7_8m _ _ _ aR aS) rfl rfl rfl (vs := [.int .i64 7, agV 8 b]) rfl rfl (tupE 7 0 e) w hG⟩
def L_S8_8p : List CF := [⟨.neq, .var 2, .lit 18446744073709551615, true⟩,
  ⟨.lss, (.cv .i64 (.var 2)), .lit (-1), false⟩,
  ⟨.neq, .lit 0, .var 2, false⟩,
  ⟨.lss, .lit 9223372036854775807, .var 3, false⟩,
  ⟨.lss, .var 4, .lit 0, false⟩,
  ⟨.gtr, .var 0, .lit 9223372036854775807, false⟩]
theorem ok_S8_8p (b n : Int) (h : HN 8 b n) (h0 : 0 ≤ n) (h1 : n ≤ 9223372036854775807) : ∀ f ∈ L_S8_8p, f.ok (ri b n 8 8) := by
  obtain ⟨hb0, hb1, hn, l0, l1⟩ := h
  intro f hf
  simp only [L_S8_8p, List.mem_cons, List.not_mem_nil, or_false] at hf
  rcases hf with rfl | rfl | rfl | rfl | rfl | rfl
  · exact ⟨rfl, cmp_neq_t (by simp (disch := omega) only [IE.ev, ri, rc_2, hiI_pos] <;> omega)⟩
  · exact ⟨rfl, cmp_lss_f (by simp (disch := omega) only [IE.ev, ri, rc_2, hiI_pos, wrap_i64] <;> omega)⟩
  · exact ⟨rfl, cmp_neq_f (by simp (disch := omega) only [IE.ev, ri, rc_2, hiI_pos] <;> omega)⟩
  · exact ⟨rfl, cmp_lss_f (by simp (disch := omega) only [IE.ev, ri, rc_3, loI] <;> omega)⟩
  · exact ⟨rfl, cmp_lss_f (by simp (disch := omega) only [IE.ev, ri, rc_4, wrap_i64] <;> omega)⟩
  · exact ⟨rfl, cmp_gtr_f (by simp (disch := omega) only [IE.ev, ri, rc_0] <;> omega)⟩
theorem run_S8_8p : RunE L_S8_8p [] (UI 8) [(7, [.v (.int .i64 8), ag0 8], .tuple [.agg [.v (.int .i64 8), .sym (.int .u64 (.sh .shr .u64 (.sh .shl .u64 (.var 3) (.lit 0)) (.lit 0)))], .v (.int .i64 0)]), (8, [.v (.int .i64 8), ag0 8], .tuple [.agg [.v (.int .i64 8), .sym (.int .u64 (.bin .and .u64 (.var 0) (.lit 18446744073709551615)))], .v (.int .i64 0)])] := fun W C ρ aR aS => by unfold runE; kernel_rfl
theorem ag_S8_8p {aR aS : Addr} (b n : Int) (h : HN 8 b n) (h0 : 0 ≤ n) (h1 : n ≤ 9223372036854775807) (hc : Chk aR aS 8 b 0) (hi : IntV aR aS 8 b n) : AgS aR aS 8 8 b := by
  have e : (IE.ev (ri b n 8 8) (.bin .and .u64 (.var 0) (.lit 18446744073709551615)) : Int) = IE.ev (ri b n 8 8) (.sh .shr .u64 (.sh .shl .u64 (.var 3) (.lit 0)) (.lit 0)) := by
    obtain ⟨hb0, hb1, hn, l0, l1⟩ := h
    simp (disch := omega) only [IE.ev, ri, rc_0, rc_3, loI, and_u64_64, shl_u64_0, shr_u64_0, wrap_u64] <;> omega
  exact ⟨8, IE.ev (ri b n 8 8) (.sh .shr .u64 (.sh .shl .u64 (.var 3) (.lit 0)) (.lit 0)), 0, fun w hG => pair_of (W := wF (FloatKind.nearest .f32 n)) (C := cF (FloatKind.nearest .f32 n)) (ρ := ri b n 8 8) (ok_S8_8p b n h h0 h1) (fun _ h => by cases h) (UI_ok (nearest_num n) hc hi) (run_S8_8p _ _ _ aR aS) rfl rfl rfl (vs := [.int .i64 8, agV 8 b]) rfl rfl (tupE 8 0 e) w hG⟩
def L_S1_9ib : List CF := []
theorem run_S1_9ib : RunE L_S1_9ib T_C1_9ib UF [(7, [.v (.int .i64 1), ag0 9], .tuple [.agg [.v (.int .i64 1), .sym (.int .u64 (.sh .shr .u64 (.sh .shl .u64 (.var 8) (.lit 56)) (.lit 56)))], .v (.int .i64 0)]), (8, [.v (.int .i64 1), ag0 9], .v (.tuple #[.agg #[.int .i64 1, .int .u64 0], .int .i64 0]))] := fun W C ρ aR aS => by unfold runE; kernel_rfl
theorem ag_S1_9ib {aR aS : Addr} (F : Nat) (h : HF F) (h0 : tB F = 0) (h1 : keyB F ≤ 0) (hc : Chk aR aS 9 F 0) : AgS aR aS 1 9 (F : Int) := by
  have e : (0 : Int) = IE.ev (rf F 1) (.sh .shr .u64 (.sh .shl .u64 (.var 8) (.lit 56)) (.lit 56)) := by
    obtain ⟨hF, hr, hz⟩ := h
    simp (disch := omega) only [IE.ev, rf, rc_8, shl_u64_56, shr_u64_56, wrap_u64] <;> omega
  exact ⟨1, IE.ev (rf F 1) (.sh .shr .u64 (.sh .shl .u64 (.var 8) (.lit 56)) (.lit 56)), 0, fun w hG => pair_of (W := wF F) (C := cF F) (ρ := rf F 1) (fun _ h => by cases h) (tk_C1_9ib F h h0 h1) (UF_ok h.1 h.2.1 h.2.2 hc) (run_S1_9ib _ _ _ aR aS) rfl rfl rfl (vs := [.int .i64 1, agV 9 (F : Int)]) rfl rfl (tupE 1 0 e) w hG⟩
def L_S2_9bb : List CF := []
theorem run_S2_9bb : RunE L_S2_9bb T_C1_9bb UF [(7, [.v (.int .i64 2), ag0 9], .v (.tuple #[.agg #[.int .i64 2, .int .u64 0], .int .i64 0])), (8, [.v (.int .i64 2), ag0 9], .v (.tuple #[.agg #[.int .i64 2, .int .u64 0], .int .i64 0]))] := fun W C ρ aR aS => by unfold runE; kernel_rfl
theorem ag_S2_9bb {aR aS : Addr} (F : Nat) (h : HF F) (h0 : tB F < 0) (h1 : keyB F ≤ 0) (hc : Chk aR aS 9 F 0) : AgS aR aS 2 9 (F : Int) := ⟨2, 0, 0, fun w hG => pair_of (W := wF F) (C := cF F) (ρ := rf F 2) (fun _ h => by cases h) (tk_C1_9bb F h h0 h1) (UF_ok h.1 h.2.1 h.2.2 hc) (run_S2_9bb _ _ _ aR aS) rfl rfl rfl (vs := [.int .i64 2, agV 9 (F : Int)]) rfl rfl rfl w hG⟩
def L_S2_9aa : List CF := []
theorem run_S2_9aa : RunE L_S2_9aa T_C2_9aa UF [(7, [.v (.int .i64 2), ag0 9], .v (.tuple #[.agg #[.int .i64 2, .int .u64 65535], .int .i64 0])), (8, [.v (.int .i64 2), ag0 9], .v (.tuple #[.agg #[.int .i64 2, .int .u64 65535], .int .i64 0]))] := fun W C ρ aR aS => by unfold runE; kernel_rfl
theorem ag_S2_9aa {aR aS : Addr} (F : Nat) (h : HF F) (h0 : 65536 ≤ tB F) (h1 : 1199570688 ≤ keyB F) (hc : Chk aR aS 9 F 0) : AgS aR aS 2 9 (F : Int) := ⟨2, 65535, 0, fun w hG => pair_of (W := wF F) (C := cF F) (ρ := rf F 2) (fun _ h => by cases h) (tk_C2_9aa F h h0 h1) (UF_ok h.1 h.2.1 h.2.2 hc) (run_S2_9aa _ _ _ aR aS) rfl rfl rfl (vs := [.int .i64 2, agV 9 (F : Int)]) rfl rfl rfl w hG⟩
def L_S3_9aa : List CF := []
theorem run_S3_9aa : RunE L_S3_9aa T_C3_9aa UF [(7, [.v (.int .i64 3), ag0 9], .v (.tuple #[.agg #[.int .i64 3, .int .u64 4294967295], .int .i64 0])), (8, [.v (.int .i64 3), ag0 9], .v (.tuple #[.agg #[.int .i64 3, .int .u64 4294967295], .int .i64 0]))] := fun W C ρ aR aS => by unfold runE; kernel_rfl
theorem ag_S3_9aa {aR aS : Addr} (F : Nat) (h : HF F) (h0 : 4294967296 ≤ tB F) (h1 : 1333788672 ≤ keyB F) (hc : Chk aR aS 9 F 0) : AgS aR aS 3 9 (F : Int) := ⟨3, 4294967295, 0, fun w hG => pair_of (W := wF F) (C := cF F) (ρ := rf F 3) (fun _ h => by cases h) (tk_C3_9aa F h h0 h1) (UF_ok h.1 h.2.1 h.2.2 hc) (run_S3_9aa _ _ _ aR aS) rfl rfl rfl (vs := [.int .i64 3, agV 9 (F : Int)]) rfl rfl rfl w hG⟩
def L_S4_9aa : List CF := []
theorem run_S4_9aa : RunE L_S4_9aa T_C4_9aa UF [(7, [.v (.int .i64 4), ag0 9], .v (.tuple #[.agg #[.int .i64 4, .int .u64 18446744073709551615], .int .i64 0])), (8, [.v (.int .i64 4), ag0 9], .v (.tuple #[.agg #[.int .i64 4, .int .u64 18446744073709551615], .int .i64 0]))] := fun W C ρ aR aS => by unfold runE; kernel_rfl
theorem ag_S4_9aa {aR aS : Addr} (F : Nat) (h : HF F) (h0 : 18446744073709551616 ≤ tB F) (h1 : 1602224128 ≤ keyB F) (hc : Chk aR aS 9 F 0) : AgS aR aS 4 9 (F : Int) := ⟨4, 18446744073709551615, 0, fun w hG => pair_of (W := wF F) (C := cF F) (ρ := rf F 4) (fun _ h => by cases h) (tk_C4_9aa F h h0 h1) (UF_ok h.1 h.2.1 h.2.2 hc) (run_S4_9aa _ _ _ aR aS) rfl rfl rfl (vs := [.int .i64 4, agV 9 (F : Int)]) rfl rfl rfl w hG⟩
def L_S5_9ia : List CF := []
theorem run_S5_9ia : RunE L_S5_9ia T_C5_9ia UF [(7, [.v (.int .i64 5), ag0 9], .tuple [.agg [.v (.int .i64 5), .sym (.int .u64 (.sh .shr .u64 (.sh .shl .u64 (.cv .u64 (.var 8)) (.lit 56)) (.lit 56)))], .v (.int .i64 0)]), (8, [.v (.int .i64 5), ag0 9], .v (.tuple #[.agg #[.int .i64 5, .int .u64 127], .int .i64 0]))] := fun W C ρ aR aS => by unfold runE; kernel_rfl
theorem ag_S5_9ia {aR aS : Addr} (F : Nat) (h : HF F) (h0 : tB F = 127) (h1 : -1124073472 < keyB F) (h2 : 1123942400 ≤ keyB F) (hc : Chk aR aS 9 F 0) : AgS aR aS 5 9 (F : Int) := by
  have e : (127 : Int) = IE.ev (rf F 5) (.sh .shr .u64 (.sh .shl .u64 (.cv .u64 (.var 8)) (.lit 56)) (.lit 56)) := by
    obtain ⟨hF, hr, hz⟩ := h
    simp (disch := omega) only [IE.ev, rf, rc_8, shl_u64_56, shr_u64_56, wrap_u64] <;> omega
  exact ⟨5, IE.ev (rf F 5) (.sh .shr .u64 (.sh .shl .u64 (.cv .u64 (.var 8)) (.lit 56)) (.lit 56)), 0, fun w hG => pair_of (W := wF F) (C := cF F) (ρ := rf F 5) (fun _ h => by cases h) (tk_C5_9ia F h h0 h1 h2) (UF_ok h.1 h.2.1 h.2.2 hc) (run_S5_9ia _ _ _ aR aS) rfl rfl rfl (vs := [.int .i64 5, agV 9 (F : Int)]) rfl rfl (tupE 5 0 e) w hG⟩
def L_S6_9ii : List CF := []
theorem run_S6_9ii : RunE L_S6_9ii T_C6_9ii UF [(7, [.v (.int .i64 6), ag0 9], .tuple [.agg [.v (.int .i64 6), .sym (.int .u64 (.sh .shr .u64 (.sh .shl .u64 (.cv .u64 (.var 8)) (.lit 48)) (.lit 48)))], .v (.int .i64 0)]), (8, [.v (.int .i64 6), ag0 9], .tuple [.agg [.v (.int .i64 6), .sym (.int .u64 (.bin .and .u64 (.cv .u64 (.var 8)) (.lit 65535)))], .v (.int .i64 0)])] := fun W C ρ aR aS => by unfold runE; kernel_rfl
theorem ag_S6_9ii {aR aS : Addr} (F : Nat) (h : HF F) (h0 : -32768 ≤ tB F) (h1 : tB F < 32768) (h2 : -1191182336 < keyB F) (h3 : keyB F < 1191181824) (hc : Chk aR aS 9 F 0) : AgS aR aS 6 9 (F : Int) := by
  have e : (IE.ev (rf F 6) (.bin .and .u64 (.cv .u64 (.var 8)) (.lit 65535)) : Int) = IE.ev (rf F 6) (.sh .shr .u64 (.sh .shl .u64 (.cv .u64 (.var 8)) (.lit 48)) (.lit 48)) := by
    obtain ⟨hF, hr, hz⟩ := h
    simp (disch := omega) only [IE.ev, rf, rc_8, and_u64_16, shl_u64_48, shr_u64_48, wrap_u64] <;> omega
  exact ⟨6, IE.ev (rf F 6) (.sh .shr .u64 (.sh .shl .u64 (.cv .u64 (.var 8)) (.lit 48)) (.lit 48)), 0, fun w hG => pair_of (W := wF F) (C := cF F) (ρ := rf F 6) (fun _ h => by cases h) (tk_C6_9ii F h h0 h1 h2 h3) (UF_ok h.1 h.2.1 h.2.2 hc) (run_S6_9ii _ _ _ aR aS) rfl rfl rfl (vs := [.int .i64 6, agV 9 (F : Int)]) rfl rfl (tupE 6 0 e) w hG⟩
def L_S7_9ib : List CF := []
theorem run_S7_9ib : RunE L_S7_9ib T_C7_9ib UF [(7, [.v (.int .i64 7), ag0 9], .tuple [.agg [.v (.int .i64 7), .sym (.int .u64 (.sh .shr .u64 (.sh .shl .u64 (.cv .u64 (.var 8)) (.lit 32)) (.lit 32)))], .v (.int .i64 0)]), (8, [.v (.int .i64 7), ag0 9], .v (.tuple #[.agg #[.int .i64 7, .int .u64 2147483648], .int .i64 0]))] := fun W C ρ aR aS => by unfold runE; kernel_rfl
theorem ag_S7_9ib {aR aS : Addr} (F : Nat) (h : HF F) (h0 : tB F = (-2147483648)) (h1 : keyB F ≤ -1325400064) (hc : Chk aR aS 9 F 0) : AgS aR aS 7 9 (F : Int) := by
  have e : (2147483648 : Int) = IE.ev (rf F 7) (.sh .shr .u64 (.sh .shl .u64 (.cv .u64 (.var 8)) (.lit 32)) (.lit 32)) := by
    obtain ⟨hF, hr, hz⟩ := h
    simp (disch := omega) only [IE.ev, rf, rc_8, shl_u64_32, shr_u64_32, wrap_u64] <;> omega
  exact ⟨7, IE.ev (rf F 7) (.sh .shr .u64 (.sh .shl .u64 (.cv .u64 (.var 8)) (.lit 32)) (.lit 32)), 0, fun w hG => pair_of (W := wF F) (C := cF F) (ρ := rf F 7) (fun _ h => by cases h) (tk_C7_9ib F h h0 h1) (UF_ok h.1 h.2.1 h.2.2 hc) (run_S7_9ib _ _ _ aR aS) rfl rfl rfl (vs := [.int .i64 7, agV 9 (F : Int)]) rfl rfl (tupE 7 0 e) w hG⟩
def L_S8_9ib : List CF := []
theorem run_S8_9ib : RunE L_S8_9ib T_C8_9ib UF [(7, [.v (.int .i64 8), ag0 9], .tuple [.agg [.v (.int .i64 8), .sym (.int .u64 (.sh .shr .u64 (.sh .shl .u64 (.cv .u64 (.var 8)) (.lit 0)) (.lit 0)))], .v (.int .i64 0)]), (8, [.v (.int .i64 8), ag0 9], .v (.tuple #[.agg #[.int .i64 8, .int .u64 9223372036854775808], .int .i64 0]))] := fun W C ρ aR aS => by unfold runE; kernel_rfl
theorem ag_S8_9ib {aR aS : Addr} (F : Nat) (h : HF F) (h0 : tB F = (-9223372036854775808)) (h1 : keyB F ≤ -1593835520) (hc : Chk aR aS 9 F 0) : AgS aR aS 8 9 (F : Int) := by
  have e : (9223372036854775808 : Int) = IE.ev (rf F 8) (.sh .shr .u64 (.sh .shl .u64 (.cv .u64 (.var 8)) (.lit 0)) (.lit 0)) := by
    obtain ⟨hF, hr, hz⟩ := h
    simp (disch := omega) only [IE.ev, rf, rc_8, shl_u64_0, shr_u64_0, wrap_u64] <;> omega
  exact ⟨8, IE.ev (rf F 8) (.sh .shr .u64 (.sh .shl .u64 (.cv .u64 (.var 8)) (.lit 0)) (.lit 0)), 0, fun w hG => pair_of (W := wF F) (C := cF F) (ρ := rf F 8) (fun _ h => by cases h) (tk_C8_9ib F h h0 h1) (UF_ok h.1 h.2.1 h.2.2 hc) (run_S8_9ib _ _ _ aR aS) rfl rfl rfl (vs := [.int .i64 8, agV 9 (F : Int)]) rfl rfl (tupE 8 0 e) w hG⟩
def L_S9_9e : List CF := []
theorem run_S9_9e : RunE L_S9_9e [] UF [(7, [.v (.int .i64 9), ag0 9], .v (.tuple #[.agg #[.int .i64 0, .int .u64 0], .int .i64 12])), (8, [.v (.int .i64 9), ag0 9], .v (.tuple #[.agg #[.int .i64 0, .int .u64 0], .int .i64 12]))] := fun W C ρ aR aS => by unfold runE; kernel_rfl
theorem ag_S9_9e {aR aS : Addr} (F : Nat) (h : HF F)  (hc : Chk aR aS 9 F 0) : AgS aR aS 9 9 (F : Int) := ⟨0, 0, 12, fun w hG => pair_of (W := wF F) (C := cF F) (ρ := rf F 9) (fun _ h => by cases h) (fun _ h => by cases h) (UF_ok h.1 h.2.1 h.2.2 hc) (run_S9_9e _ _ _ aR aS) rfl rfl rfl (vs := [.int .i64 9, agV 9 (F : Int)]) rfl rfl rfl w hG⟩
end
end Go.Proofs.YtbhhdjlmbmeiaaaGreatDoor
