import Derived.Test.YtbhhdjlmbmeiaaaGreatDoorHT
namespace Go.Proofs.YtbhhdjlmbmeiaaaGreatDoor
noncomputable section
open Go Go.RX
open Go.RowKit (Below)
set_option maxRecDepth 1000000
set_option maxHeartbeats 4000000
def L_S1_0e : List CF := []
theorem run_S1_0e : RunE L_S1_0e [] (UI 0) [(7, [.v (.int .i64 1), ag0 0], .v (.tuple #[.agg #[.int .i64 0, .int .u64 0], .int .i64 12])), (8, [.v (.int .i64 1), ag0 0], .v (.tuple #[.agg #[.int .i64 0, .int .u64 0], .int .i64 12]))] := fun W C ρ aR aS => by unfold runE; kernel_rfl
theorem ag_S1_0e {aR aS : Addr} (b n : Int) (_ : HN 0 b n)  (hc : Chk aR aS 0 b 0) (hi : IntV aR aS 0 b n) : AgS aR aS 1 0 b := ⟨0, 0, 12, fun w hG => pair_of (W := wF (FloatKind.nearest .f32 n)) (C := cF (FloatKind.nearest .f32 n)) (ρ := ri b n 0 1) (fun _ h => by cases h) (fun _ h => by cases h) (UI_ok (nearest_num n) hc hi) (run_S1_0e _ _ _ aR aS) rfl rfl rfl (vs := [.int .i64 1, agV 0 b]) rfl rfl rfl w hG⟩
def L_S5_0e : List CF := []
theorem run_S5_0e : RunE L_S5_0e [] (UI 0) [(7, [.v (.int .i64 5), ag0 0], .v (.tuple #[.agg #[.int .i64 0, .int .u64 0], .int .i64 12])), (8, [.v (.int .i64 5), ag0 0], .v (.tuple #[.agg #[.int .i64 0, .int .u64 0], .int .i64 12]))] := fun W C ρ aR aS => by unfold runE; kernel_rfl
theorem ag_S5_0e {aR aS : Addr} (b n : Int) (_ : HN 0 b n)  (hc : Chk aR aS 0 b 0) (hi : IntV aR aS 0 b n) : AgS aR aS 5 0 b := ⟨0, 0, 12, fun w hG => pair_of (W := wF (FloatKind.nearest .f32 n)) (C := cF (FloatKind.nearest .f32 n)) (ρ := ri b n 0 5) (fun _ h => by cases h) (fun _ h => by cases h) (UI_ok (nearest_num n) hc hi) (run_S5_0e _ _ _ aR aS) rfl rfl rfl (vs := [.int .i64 5, agV 0 b]) rfl rfl rfl w hG⟩
def L_S9_0e : List CF := []
theorem run_S9_0e : RunE L_S9_0e [] (UI 0) [(7, [.v (.int .i64 9), ag0 0], .v (.tuple #[.agg #[.int .i64 0, .int .u64 0], .int .i64 12])), (8, [.v (.int .i64 9), ag0 0], .v (.tuple #[.agg #[.int .i64 0, .int .u64 0], .int .i64 12]))] := fun W C ρ aR aS => by unfold runE; kernel_rfl
theorem ag_S9_0e {aR aS : Addr} (b n : Int) (_ : HN 0 b n)  (hc : Chk aR aS 0 b 0) (hi : IntV aR aS 0 b n) : AgS aR aS 9 0 b := ⟨0, 0, 12, fun w hG => pair_of (W := wF (FloatKind.nearest .f32 n)) (C := cF (FloatKind.nearest .f32 n)) (ρ := ri b n 0 9) (fun _ h => by cases h) (fun _ h => by cases h) (UI_ok (nearest_num n) hc hi) (run_S9_0e _ _ _ aR aS) rfl rfl rfl (vs := [.int .i64 9, agV 0 b]) rfl rfl rfl w hG⟩
def L_S2_1p : List CF := [⟨.neq, .var 2, .lit 0, false⟩,
  ⟨.lss, .var 3, .lit 0, false⟩,
  ⟨.neq, .lit 0, .var 2, false⟩,
  ⟨.lss, .lit 65535, .var 3, false⟩,
  ⟨.gtr, .var 0, .lit 65535, false⟩]
theorem ok_S2_1p (b n : Int) (h : HN 1 b n) (h0 : 0 ≤ n) (h1 : n ≤ 65535) : ∀ f ∈ L_S2_1p, f.ok (ri b n 1 2) := by
  obtain ⟨hb0, hb1, hn, l0, l1⟩ := h
  intro f hf
  simp only [L_S2_1p, List.mem_cons, List.not_mem_nil, or_false] at hf
  rcases hf with rfl | rfl | rfl | rfl | rfl
  · exact ⟨rfl, cmp_neq_f (by simp (disch := omega) only [IE.ev, ri, rc_2, hiI_pos] <;> omega)⟩
  · exact ⟨rfl, cmp_lss_f (by simp (disch := omega) only [IE.ev, ri, rc_3, loI] <;> omega)⟩
  · exact ⟨rfl, cmp_neq_f (by simp (disch := omega) only [IE.ev, ri, rc_2, hiI_pos] <;> omega)⟩
  · exact ⟨rfl, cmp_lss_f (by simp (disch := omega) only [IE.ev, ri, rc_3, loI] <;> omega)⟩
  · exact ⟨rfl, cmp_gtr_f (by simp (disch := omega) only [IE.ev, ri, rc_0] <;> omega)⟩
theorem run_S2_1p : RunE L_S2_1p [] (UI 1) [(7, [.v (.int .i64 2), ag0 1], .tuple [.agg [.v (.int .i64 2), .sym (.int .u64 (.sh .shr .u64 (.sh .shl .u64 (.var 3) (.lit 48)) (.lit 48)))], .v (.int .i64 0)]), (8, [.v (.int .i64 2), ag0 1], .tuple [.agg [.v (.int .i64 2), .sym (.int .u64 (.bin .and .u64 (.var 0) (.lit 65535)))], .v (.int .i64 0)])] := fun W C ρ aR aS => by unfold runE; kernel_rfl
theorem ag_S2_1p {aR aS : Addr} (b n : Int) (h : HN 1 b n) (h0 : 0 ≤ n) (h1 : n ≤ 65535) (hc : Chk aR aS 1 b 0) (hi : IntV aR aS 1 b n) : AgS aR aS 2 1 b := by
  have e : (IE.ev (ri b n 1 2) (.bin .and .u64 (.var 0) (.lit 65535)) : Int) = IE.ev (ri b n 1 2) (.sh .shr .u64 (.sh .shl .u64 (.var 3) (.lit 48)) (.lit 48)) := by
    obtain ⟨hb0, hb1, hn, l0, l1⟩ := h
    simp (disch := omega) only [IE.ev, ri, rc_0, rc_3, loI, and_u64_16, shl_u64_48, shr_u64_48, wrap_u64] <;> omega
  exact ⟨2, IE.ev (ri b n 1 2) (.sh .shr .u64 (.sh .shl .u64 (.var 3) (.lit 48)) (.lit 48)), 0, fun w hG => pair_of (W := wF (FloatKind.nearest .f32 n)) (C := cF (FloatKind.nearest .f32 n)) (ρ := ri b n 1 2) (ok_S2_1p b n h h0 h1) (fun _ h => by cases h) (UI_ok (nearest_num n) hc hi) (run_S2_1p _ _ _ aR aS) rfl rfl rfl (vs := [.int .i64 2, agV 1 b]) rfl rfl (tupE 2 0 e) w hG⟩
def L_S5_1a : List CF := [⟨.neq, .var 2, .lit 18446744073709551615, true⟩,
  ⟨.lss, (.cv .i64 (.var 2)), .lit (-1), false⟩,
  ⟨.neq, .lit 0, .var 2, false⟩,
  ⟨.lss, .lit 127, .var 3, true⟩,
  ⟨.gtr, .var 0, .lit 127, true⟩]
theorem ok_S5_1a (b n : Int) (h : HN 1 b n) (h0 : 127 < n) : ∀ f ∈ L_S5_1a, f.ok (ri b n 1 5) := by
  obtain ⟨hb0, hb1, hn, l0, l1⟩ := h
  intro f hf
  simp only [L_S5_1a, List.mem_cons, List.not_mem_nil, or_false] at hf
  rcases hf with rfl | rfl | rfl | rfl | rfl
  · exact ⟨rfl, cmp_neq_t (by simp (disch := omega) only [IE.ev, ri, rc_2, hiI_pos] <;> omega)⟩
  · exact ⟨rfl, cmp_lss_f (by simp (disch := omega) only [IE.ev, ri, rc_2, hiI_pos, wrap_i64] <;> omega)⟩
  · exact ⟨rfl, cmp_neq_f (by simp (disch := omega) only [IE.ev, ri, rc_2, hiI_pos] <;> omega)⟩
  · exact ⟨rfl, cmp_lss_t (by simp (disch := omega) only [IE.ev, ri, rc_3, loI] <;> omega)⟩
  · exact ⟨rfl, cmp_gtr_t (by simp (disch := omega) only [IE.ev, ri, rc_0] <;> omega)⟩
theorem run_S5_1a : RunE L_S5_1a [] (UI 1) [(7, [.v (.int .i64 5), ag0 1], .v (.tuple #[.agg #[.int .i64 5, .int .u64 127], .int .i64 0])), (8, [.v (.int .i64 5), ag0 1], .v (.tuple #[.agg #[.int .i64 5, .int .u64 127], .int .i64 0]))] := fun W C ρ aR aS => by unfold runE; kernel_rfl
theorem ag_S5_1a {aR aS : Addr} (b n : Int) (h : HN 1 b n) (h0 : 127 < n) (hc : Chk aR aS 1 b 0) (hi : IntV aR aS 1 b n) : AgS aR aS 5 1 b := ⟨5, 127, 0, fun w hG => pair_of (W := wF (FloatKind.nearest .f32 n)) (C := cF (FloatKind.nearest .f32 n)) (ρ := ri b n 1 5) (ok_S5_1a b n h h0) (fun _ h => by cases h) (UI_ok (nearest_num n) hc hi) (run_S5_1a _ _ _ aR aS) rfl rfl rfl (vs := [.int .i64 5, agV 1 b]) rfl rfl rfl w hG⟩
def L_S9_1e : List CF := []
theorem run_S9_1e : RunE L_S9_1e [] (UI 1) [(7, [.v (.int .i64 9), ag0 1], .v (.tuple #[.agg #[.int .i64 0, .int .u64 0], .int .i64 12])), (8, [.v (.int .i64 9), ag0 1], .v (.tuple #[.agg #[.int .i64 0, .int .u64 0], .int .i64 12]))] := fun W C ρ aR aS => by unfold runE; kernel_rfl
theorem ag_S9_1e {aR aS : Addr} (b n : Int) (_ : HN 1 b n)  (hc : Chk aR aS 1 b 0) (hi : IntV aR aS 1 b n) : AgS aR aS 9 1 b := ⟨0, 0, 12, fun w hG => pair_of (W := wF (FloatKind.nearest .f32 n)) (C := cF (FloatKind.nearest .f32 n)) (ρ := ri b n 1 9) (fun _ h => by cases h) (fun _ h => by cases h) (UI_ok (nearest_num n) hc hi) (run_S9_1e _ _ _ aR aS) rfl rfl rfl (vs := [.int .i64 9, agV 1 b]) rfl rfl rfl w hG⟩
def L_S1_2a : List CF := [⟨.neq, .var 2, .lit 0, false⟩,
  ⟨.lss, .var 3, .lit 0, false⟩,
  ⟨.neq, .lit 0, .var 2, false⟩,
  ⟨.lss, .lit 255, .var 3, true⟩,
  ⟨.gtr, .var 0, .lit 255, true⟩]
theorem ok_S1_2a (b n : Int) (h : HN 2 b n) (h0 : 255 < n) : ∀ f ∈ L_S1_2a, f.ok (ri b n 2 1) := by
  obtain ⟨hb0, hb1, hn, l0, l1⟩ := h
  intro f hf
  simp only [L_S1_2a, List.mem_cons, List.not_mem_nil, or_false] at hf
  rcases hf with rfl | rfl | rfl | rfl | rfl
  · exact ⟨rfl, cmp_neq_f (by simp (disch := omega) only [IE.ev, ri, rc_2, hiI_pos] <;> omega)⟩
  · exact ⟨rfl, cmp_lss_f (by simp (disch := omega) only [IE.ev, ri, rc_3, loI] <;> omega)⟩
  · exact ⟨rfl, cmp_neq_f (by simp (disch := omega) only [IE.ev, ri, rc_2, hiI_pos] <;> omega)⟩
  · exact ⟨rfl, cmp_lss_t (by simp (disch := omega) only [IE.ev, ri, rc_3, loI] <;> omega)⟩
  · exact ⟨rfl, cmp_gtr_t (by simp (disch := omega) only [IE.ev, ri, rc_0] <;> omega)⟩
theorem run_S1_2a : RunE L_S1_2a [] (UI 2) [(7, [.v (.int .i64 1), ag0 2], .v (.tuple #[.agg #[.int .i64 1, .int .u64 255], .int .i64 0])), (8, [.v (.int .i64 1), ag0 2], .v (.tuple #[.agg #[.int .i64 1, .int .u64 255], .int .i64 0]))] := fun W C ρ aR aS => by unfold runE; kernel_rfl
theorem ag_S1_2a {aR aS : Addr} (b n : Int) (h : HN 2 b n) (h0 : 255 < n) (hc : Chk aR aS 2 b 0) (hi : IntV aR aS 2 b n) : AgS aR aS 1 2 b := ⟨1, 255, 0, fun w hG => pair_of (W := wF (FloatKind.nearest .f32 n)) (C := cF (FloatKind.nearest .f32 n)) (ρ := ri b n 2 1) (ok_S1_2a b n h h0) (fun _ h => by cases h) (UI_ok (nearest_num n) hc hi) (run_S1_2a _ _ _ aR aS) rfl rfl rfl (vs := [.int .i64 1, agV 2 b]) rfl rfl rfl w hG⟩
def L_S5_2p : List CF := [⟨.neq, .var 2, .lit 18446744073709551615, true⟩,
  ⟨.lss, (.cv .i64 (.var 2)), .lit (-1), false⟩,
  ⟨.neq, .lit 0, .var 2, false⟩,
  ⟨.lss, .lit 127, .var 3, false⟩,
  ⟨.gtr, .var 0, .lit 127, false⟩]
theorem ok_S5_2p (b n : Int) (h : HN 2 b n) (h0 : 0 ≤ n) (h1 : n ≤ 127) : ∀ f ∈ L_S5_2p, f.ok (ri b n 2 5) := by
  obtain ⟨hb0, hb1, hn, l0, l1⟩ := h
  intro f hf
  simp only [L_S5_2p, List.mem_cons, List.not_mem_nil, or_false] at hf
  rcases hf with rfl | rfl | rfl | rfl | rfl
  · exact ⟨rfl, cmp_neq_t (by simp (disch := omega) only [IE.ev, ri, rc_2, hiI_pos] <;> omega)⟩
  · exact ⟨rfl, cmp_lss_f (by simp (disch := omega) only [IE.ev, ri, rc_2, hiI_pos, wrap_i64] <;> omega)⟩
  · exact ⟨rfl, cmp_neq_f (by simp (disch := omega) only [IE.ev, ri, rc_2, hiI_pos] <;> omega)⟩
  · exact ⟨rfl, cmp_lss_f (by simp (disch := omega) only [IE.ev, ri, rc_3, loI] <;> omega)⟩
  · exact ⟨rfl, cmp_gtr_f (by simp (disch := omega) only [IE.ev, ri, rc_0] <;> omega)⟩
theorem run_S5_2p : RunE L_S5_2p [] (UI 2) [(7, [.v (.int .i64 5), ag0 2], .tuple [.agg [.v (.int .i64 5), .sym (.int .u64 (.sh .shr .u64 (.sh .shl .u64 (.var 3) (.lit 56)) (.lit 56)))], .v (.int .i64 0)]), (8, [.v (.int .i64 5), ag0 2], .tuple [.agg [.v (.int .i64 5), .sym (.int .u64 (.bin .and .u64 (.var 0) (.lit 255)))], .v (.int .i64 0)])] := fun W C ρ aR aS => by unfold runE; kernel_rfl
theorem ag_S5_2p {aR aS : Addr} (b n : Int) (h : HN 2 b n) (h0 : 0 ≤ n) (h1 : n ≤ 127) (hc : Chk aR aS 2 b 0) (hi : IntV aR aS 2 b n) : AgS aR aS 5 2 b := by
  have e : (IE.ev (ri b n 2 5) (.bin .and .u64 (.var 0) (.lit 255)) : Int) = IE.ev (ri b n 2 5) (.sh .shr .u64 (.sh .shl .u64 (.var 3) (.lit 56)) (.lit 56)) := by
    obtain ⟨hb0, hb1, hn, l0, l1⟩ := h
    simp (disch := omega) only [IE.ev, ri, rc_0, rc_3, loI, and_u64_8, shl_u64_56, shr_u64_56, wrap_u64] <;> omega
  exact ⟨5, IE.ev (ri b n 2 5) (.sh .shr .u64 (.sh .shl .u64 (.var 3) (.lit 56)) (.lit 56)), 0, fun w hG => pair_of (W := wF (FloatKind.nearest .f32 n)) (C := cF (FloatKind.nearest .f32 n)) (ρ := ri b n 2 5) (ok_S5_2p b n h h0 h1) (fun _ h => by cases h) (UI_ok (nearest_num n) hc hi) (run_S5_2p _ _ _ aR aS) rfl rfl rfl (vs := [.int .i64 5, agV 2 b]) rfl rfl (tupE 5 0 e) w hG⟩
def L_S7_2p : List CF := [⟨.neq, .var 2, .lit 18446744073709551615, true⟩,
  ⟨.lss, (.cv .i64 (.var 2)), .lit (-1), false⟩,
  ⟨.neq, .lit 0, .var 2, false⟩,
  ⟨.lss, .lit 2147483647, .var 3, false⟩,
  ⟨.gtr, .var 0, .lit 2147483647, false⟩]
theorem ok_S7_2p (b n : Int) (h : HN 2 b n) (h0 : 0 ≤ n) (h1 : n ≤ 2147483647) : ∀ f ∈ L_S7_2p, f.ok (ri b n 2 7) := by
  obtain ⟨hb0, hb1, hn, l0, l1⟩ := h
  intro f hf
  simp only [L_S7_2p, List.mem_cons, List.not_mem_nil, or_false] at hf
  rcases hf with rfl | rfl | rfl | rfl | rfl
  · exact ⟨rfl, cmp_neq_t (by simp (disch := omega) only [IE.ev, ri, rc_2, hiI_pos] <;> omega)⟩
  · exact ⟨rfl, cmp_lss_f (by simp (disch := omega) only [IE.ev, ri, rc_2, hiI_pos, wrap_i64] <;> omega)⟩
  · exact ⟨rfl, cmp_neq_f (by simp (disch := omega) only [IE.ev, ri, rc_2, hiI_pos] <;> omega)⟩
  · exact ⟨rfl, cmp_lss_f (by simp (disch := omega) only [IE.ev, ri, rc_3, loI] <;> omega)⟩
  · exact ⟨rfl, cmp_gtr_f (by simp (disch := omega) only [IE.ev, ri, rc_0] <;> omega)⟩
theorem run_S7_2p : RunE L_S7_2p [] (UI 2) [(7, [.v (.int .i64 7), ag0 2], .tuple [.agg [.v (.int .i64 7), .sym (.int .u64 (.sh .shr .u64 (.sh .shl .u64 (.var 3) (.lit 32)) (.lit 32)))], .v (.int .i64 0)]), (8, [.v (.int .i64 7), ag0 2], .tuple [.agg [.v (.int .i64 7), .sym (.int .u64 (.bin .and .u64 (.var 0) (.lit 4294967295)))], .v (.int .i64 0)])] := fun W C ρ aR aS => by unfold runE; kernel_rfl
theorem ag_S7_2p {aR aS : Addr} (b n : Int) (h : HN 2 b n) (h0 : 0 ≤ n) (h1 : n ≤ 2147483647) (hc : Chk aR aS 2 b 0) (hi : IntV aR aS 2 b n) : AgS aR aS 7 2 b := by
  have e : (IE.ev (ri b n 2 7) (.bin .and .u64 (.var 0) (.lit 4294967295)) : Int) = IE.ev (ri b n 2 7) (.sh .shr .u64 (.sh .shl .u64 (.var 3) (.lit 32)) (.lit 32)) := by
    obtain ⟨hb0, hb1, hn, l0, l1⟩ := h
    simp (disch := omega) only [IE.ev, ri, rc_0, rc_3, loI, and_u64_32, shl_u64_32, shr_u64_32, wrap_u64] <;> omega
  exact ⟨7, IE.ev (ri b n 2 7) (.sh .shr .u64 (.sh .shl .u64 (.var 3) (.lit 32)) (.lit 32)), 0, fun w hG => pair_of (W := wF (FloatKind.nearest .f32 n)) (C := cF (FloatKind.nearest .f32 n)) (ρ := ri b n 2 7) (ok_S7_2p b n h h0 h1) (fun _ h => by cases h) (UI_ok (nearest_num n) hc hi) (run_S7_2p _ _ _ aR aS) rfl rfl rfl (vs := [.int .i64 7, agV 2 b]) rfl rfl (tupE 7 0 e) w hG⟩
def L_S0_3e : List CF := []
theorem run_S0_3e : RunE L_S0_3e [] (UI 3) [(7, [.v (.int .i64 0), ag0 3], .v (.tuple #[.agg #[.int .i64 0, .int .u64 0], .int .i64 12])), (8, [.v (.int .i64 0), ag0 3], .v (.tuple #[.agg #[.int .i64 0, .int .u64 0], .int .i64 12]))] := fun W C ρ aR aS => by unfold runE; kernel_rfl
theorem ag_S0_3e {aR aS : Addr} (b n : Int) (_ : HN 3 b n)  (hc : Chk aR aS 3 b 0) (hi : IntV aR aS 3 b n) : AgS aR aS 0 3 b := ⟨0, 0, 12, fun w hG => pair_of (W := wF (FloatKind.nearest .f32 n)) (C := cF (FloatKind.nearest .f32 n)) (ρ := ri b n 3 0) (fun _ h => by cases h) (fun _ h => by cases h) (UI_ok (nearest_num n) hc hi) (run_S0_3e _ _ _ aR aS) rfl rfl rfl (vs := [.int .i64 0, agV 3 b]) rfl rfl rfl w hG⟩
def L_S2_3a : List CF := [⟨.neq, .var 2, .lit 0, false⟩,
  ⟨.lss, .var 3, .lit 0, false⟩,
  ⟨.neq, .lit 0, .var 2, false⟩,
  ⟨.lss, .lit 65535, .var 3, true⟩,
  ⟨.gtr, .var 0, .lit 65535, true⟩]
theorem ok_S2_3a (b n : Int) (h : HN 3 b n) (h0 : 65535 < n) : ∀ f ∈ L_S2_3a, f.ok (ri b n 3 2) := by
  obtain ⟨hb0, hb1, hn, l0, l1⟩ := h
  intro f hf
  simp only [L_S2_3a, List.mem_cons, List.not_mem_nil, or_false] at hf
  rcases hf with rfl | rfl | rfl | rfl | rfl
  · exact ⟨rfl, cmp_neq_f (by simp (disch := omega) only [IE.ev, ri, rc_2, hiI_pos] <;> omega)⟩
  · exact ⟨rfl, cmp_lss_f (by simp (disch := omega) only [IE.ev, ri, rc_3, loI] <;> omega)⟩
  · exact ⟨rfl, cmp_neq_f (by simp (disch := omega) only [IE.ev, ri, rc_2, hiI_pos] <;> omega)⟩
  · exact ⟨rfl, cmp_lss_t (by simp (disch := omega) only [IE.ev, ri, rc_3, loI] <;> omega)⟩
  · exact ⟨rfl, cmp_gtr_t (by simp (disch := omega) only [IE.ev, ri, rc_0] <;> omega)⟩
theorem run_S2_3a : RunE L_S2_3a [] (UI 3) [(7, [.v (.int .i64 2), ag0 3], .v (.tuple #[.agg #[.int .i64 2, .int .u64 65535], .int .i64 0])), (8, [.v (.int .i64 2), ag0 3], .v (.tuple #[.agg #[.int .i64 2, .int .u64 65535], .int .i64 0]))] := fun W C ρ aR aS => by unfold runE; kernel_rfl
theorem ag_S2_3a {aR aS : Addr} (b n : Int) (h : HN 3 b n) (h0 : 65535 < n) (hc : Chk aR aS 3 b 0) (hi : IntV aR aS 3 b n) : AgS aR aS 2 3 b := ⟨2, 65535, 0, fun w hG => pair_of (W := wF (FloatKind.nearest .f32 n)) (C := cF (FloatKind.nearest .f32 n)) (ρ := ri b n 3 2) (ok_S2_3a b n h h0) (fun _ h => by cases h) (UI_ok (nearest_num n) hc hi) (run_S2_3a _ _ _ aR aS) rfl rfl rfl (vs := [.int .i64 2, agV 3 b]) rfl rfl rfl w hG⟩
def L_S5_3a : List CF := [⟨.neq, .var 2, .lit 18446744073709551615, true⟩,
  ⟨.lss, (.cv .i64 (.var 2)), .lit (-1), false⟩,
  ⟨.neq, .lit 0, .var 2, false⟩,
  ⟨.lss, .lit 127, .var 3, true⟩,
  ⟨.gtr, .var 0, .lit 127, true⟩]
theorem ok_S5_3a (b n : Int) (h : HN 3 b n) (h0 : 127 < n) : ∀ f ∈ L_S5_3a, f.ok (ri b n 3 5) := by
  obtain ⟨hb0, hb1, hn, l0, l1⟩ := h
  intro f hf
  simp only [L_S5_3a, List.mem_cons, List.not_mem_nil, or_false] at hf
  rcases hf with rfl | rfl | rfl | rfl | rfl
  · exact ⟨rfl, cmp_neq_t (by simp (disch := omega) only [IE.ev, ri, rc_2, hiI_pos] <;> omega)⟩
  · exact ⟨rfl, cmp_lss_f (by simp (disch := omega) only [IE.ev, ri, rc_2, hiI_pos, wrap_i64] <;> omega)⟩
  · exact ⟨rfl, cmp_neq_f (by simp (disch := omega) only [IE.ev, ri, rc_2, hiI_pos] <;> omega)⟩
  · exact ⟨rfl, cmp_lss_t (by simp (disch := omega) only [IE.ev, ri, rc_3, loI] <;> omega)⟩
  · exact ⟨rfl, cmp_gtr_t (by simp (disch := omega) only [IE.ev, ri, rc_0] <;> omega)⟩
theorem run_S5_3a : RunE L_S5_3a [] (UI 3) [(7, [.v (.int .i64 5), ag0 3], .v (.tuple #[.agg #[.int .i64 5, .int .u64 127], .int .i64 0])), (8, [.v (.int .i64 5), ag0 3], .v (.tuple #[.agg #[.int .i64 5, .int .u64 127], .int .i64 0]))] := fun W C ρ aR aS => by unfold runE; kernel_rfl
theorem ag_S5_3a {aR aS : Addr} (b n : Int) (h : HN 3 b n) (h0 : 127 < n) (hc : Chk aR aS 3 b 0) (hi : IntV aR aS 3 b n) : AgS aR aS 5 3 b := ⟨5, 127, 0, fun w hG => pair_of (W := wF (FloatKind.nearest .f32 n)) (C := cF (FloatKind.nearest .f32 n)) (ρ := ri b n 3 5) (ok_S5_3a b n h h0) (fun _ h => by cases h) (UI_ok (nearest_num n) hc hi) (run_S5_3a _ _ _ aR aS) rfl rfl rfl (vs := [.int .i64 5, agV 3 b]) rfl rfl rfl w hG⟩
def L_S7_3a : List CF := [⟨.neq, .var 2, .lit 18446744073709551615, true⟩,
  ⟨.lss, (.cv .i64 (.var 2)), .lit (-1), false⟩,
  ⟨.neq, .lit 0, .var 2, false⟩,
  ⟨.lss, .lit 2147483647, .var 3, true⟩,
  ⟨.gtr, .var 0, .lit 2147483647, true⟩]
theorem ok_S7_3a (b n : Int) (h : HN 3 b n) (h0 : 2147483647 < n) : ∀ f ∈ L_S7_3a, f.ok (ri b n 3 7) := by
  obtain ⟨hb0, hb1, hn, l0, l1⟩ := h
  intro f hf
  simp only [L_S7_3a, List.mem_cons, List.not_mem_nil, or_false] at hf
  rcases hf with rfl | rfl | rfl | rfl | rfl
  · exact ⟨rfl, cmp_neq_t (by simp (disch := omega) only [IE.ev, ri, rc_2, hiI_pos] <;> omega)⟩
  · exact ⟨rfl, cmp_lss_f (by simp (disch := omega) only [IE.ev, ri, rc_2, hiI_pos, wrap_i64] <;> omega)⟩
  · exact ⟨rfl, cmp_neq_f (by simp (disch := omega) only [IE.ev, ri, rc_2, hiI_pos] <;> omega)⟩
  · exact ⟨rfl, cmp_lss_t (by simp (disch := omega) only [IE.ev, ri, rc_3, loI] <;> omega)⟩
  · exact ⟨rfl, cmp_gtr_t (by simp (disch := omega) only [IE.ev, ri, rc_0] <;> omega)⟩
theorem run_S7_3a : RunE L_S7_3a [] (UI 3) [(7, [.v (.int .i64 7), ag0 3], .v (.tuple #[.agg #[.int .i64 7, .int .u64 2147483647], .int .i64 0])), (8, [.v (.int .i64 7), ag0 3], .v (.tuple #[.agg #[.int .i64 7, .int .u64 2147483647], .int .i64 0]))] := fun W C ρ aR aS => by unfold runE; kernel_rfl
theorem ag_S7_3a {aR aS : Addr} (b n : Int) (h : HN 3 b n) (h0 : 2147483647 < n) (hc : Chk aR aS 3 b 0) (hi : IntV aR aS 3 b n) : AgS aR aS 7 3 b := ⟨7, 2147483647, 0, fun w hG => pair_of (W := wF (FloatKind.nearest .f32 n)) (C := cF (FloatKind.nearest .f32 n)) (ρ := ri b n 3 7) (ok_S7_3a b n h h0) (fun _ h => by cases h) (UI_ok (nearest_num n) hc hi) (run_S7_3a _ _ _ aR aS) rfl rfl rfl (vs := [.int .i64 7, agV 3 b]) rfl rfl rfl w hG⟩
def L_S0_4e : List CF := []
theorem run_S0_4e : RunE L_S0_4e [] (UI 4) [(7, [.v (.int .i64 0), ag0 4], .v (.tuple #[.agg #[.int .i64 0, .int .u64 0], .int .i64 12])), (8, [.v (.int .i64 0), ag0 4], .v (.tuple #[.agg #[.int .i64 0, .int .u64 0], .int .i64 12]))] := fun W C ρ aR aS => by unfold runE; kernel_rfl
theorem ag_S0_4e {aR aS : Addr} (b n : Int) (_ : HN 4 b n)  (hc : Chk aR aS 4 b 0) (hi : IntV aR aS 4 b n) : AgS aR aS 0 4 b := ⟨0, 0, 12, fun w hG => pair_of (W := wF (FloatKind.nearest .f32 n)) (C := cF (FloatKind.nearest .f32 n)) (ρ := ri b n 4 0) (fun _ h => by cases h) (fun _ h => by cases h) (UI_ok (nearest_num n) hc hi) (run_S0_4e _ _ _ aR aS) rfl rfl rfl (vs := [.int .i64 0, agV 4 b]) rfl rfl rfl w hG⟩
def L_S2_4a : List CF := [⟨.neq, .var 2, .lit 0, false⟩,
  ⟨.lss, .var 3, .lit 0, false⟩,
  ⟨.neq, .lit 0, .var 2, false⟩,
  ⟨.lss, .lit 65535, .var 3, true⟩,
  ⟨.gtr, .var 0, .lit 65535, true⟩]
theorem ok_S2_4a (b n : Int) (h : HN 4 b n) (h0 : 65535 < n) : ∀ f ∈ L_S2_4a, f.ok (ri b n 4 2) := by
  obtain ⟨hb0, hb1, hn, l0, l1⟩ := h
  intro f hf
  simp only [L_S2_4a, List.mem_cons, List.not_mem_nil, or_false] at hf
  rcases hf with rfl | rfl | rfl | rfl | rfl
  · exact ⟨rfl, cmp_neq_f (by simp (disch := omega) only [IE.ev, ri, rc_2, hiI_pos] <;> omega)⟩
  · exact ⟨rfl, cmp_lss_f (by simp (disch := omega) only [IE.ev, ri, rc_3, loI] <;> omega)⟩
  · exact ⟨rfl, cmp_neq_f (by simp (disch := omega) only [IE.ev, ri, rc_2, hiI_pos] <;> omega)⟩
  · exact ⟨rfl, cmp_lss_t (by simp (disch := omega) only [IE.ev, ri, rc_3, loI] <;> omega)⟩
  · exact ⟨rfl, cmp_gtr_t (by simp (disch := omega) only [IE.ev, ri, rc_0] <;> omega)⟩
theorem run_S2_4a : RunE L_S2_4a [] (UI 4) [(7, [.v (.int .i64 2), ag0 4], .v (.tuple #[.agg #[.int .i64 2, .int .u64 65535], .int .i64 0])), (8, [.v (.int .i64 2), ag0 4], .v (.tuple #[.agg #[.int .i64 2, .int .u64 65535], .int .i64 0]))] := fun W C ρ aR aS => by unfold runE; kernel_rfl
theorem ag_S2_4a {aR aS : Addr} (b n : Int) (h : HN 4 b n) (h0 : 65535 < n) (hc : Chk aR aS 4 b 0) (hi : IntV aR aS 4 b n) : AgS aR aS 2 4 b := ⟨2, 65535, 0, fun w hG => pair_of (W := wF (FloatKind.nearest .f32 n)) (C := cF (FloatKind.nearest .f32 n)) (ρ := ri b n 4 2) (ok_S2_4a b n h h0) (fun _ h => by cases h) (UI_ok (nearest_num n) hc hi) (run_S2_4a _ _ _ aR aS) rfl rfl rfl (vs := [.int .i64 2, agV 4 b]) rfl rfl rfl w hG⟩
def L_S5_4p : List CF := [⟨.neq, .var 2, .lit 18446744073709551615, true⟩,
  ⟨.lss, (.cv .i64 (.var 2)), .lit (-1), false⟩,
  ⟨.neq, .lit 0, .var 2, false⟩,
  ⟨.lss, .lit 127, .var 3, false⟩,
  ⟨.gtr, .var 0, .lit 127, false⟩]
theorem ok_S5_4p (b n : Int) (h : HN 4 b n) (h0 : 0 ≤ n) (h1 : n ≤ 127) : ∀ f ∈ L_S5_4p, f.ok (ri b n 4 5) := by
  obtain ⟨hb0, hb1, hn, l0, l1⟩ := h
  intro f hf
  simp only [L_S5_4p, List.mem_cons, List.not_mem_nil, or_false] at hf
  rcases hf with rfl | rfl | rfl | rfl | rfl
  · exact ⟨rfl, cmp_neq_t (by simp (disch := omega) only [IE.ev, ri, rc_2, hiI_pos] <;> omega)⟩
  · exact ⟨rfl, cmp_lss_f (by simp (disch := omega) only [IE.ev, ri, rc_2, hiI_pos, wrap_i64] <;> omega)⟩
  · exact ⟨rfl, cmp_neq_f (by simp (disch := omega) only [IE.ev, ri, rc_2, hiI_pos] <;> omega)⟩
  · exact ⟨rfl, cmp_lss_f (by simp (disch := omega) only [IE.ev, ri, rc_3, loI] <;> omega)⟩
  · exact ⟨rfl, cmp_gtr_f (by simp (disch := omega) only [IE.ev, ri, rc_0] <;> omega)⟩
theorem run_S5_4p : RunE L_S5_4p [] (UI 4) [(7, [.v (.int .i64 5), ag0 4], .tuple [.agg [.v (.int .i64 5), .sym (.int .u64 (.sh .shr .u64 (.sh .shl .u64 (.var 3) (.lit 56)) (.lit 56)))], .v (.int .i64 0)]), (8, [.v (.int .i64 5), ag0 4], .tuple [.agg [.v (.int .i64 5), .sym (.int .u64 (.bin .and .u64 (.var 0) (.lit 255)))], .v (.int .i64 0)])] := fun W C ρ aR aS => by unfold runE; kernel_rfl
theorem ag_S5_4p {aR aS : Addr} (b n : Int) (h : HN 4 b n) (h0 : 0 ≤ n) (h1 : n ≤ 127) (hc : Chk aR aS 4 b 0) (hi : IntV aR aS 4 b n) : AgS aR aS 5 4 b := by
  have e : (IE.ev (ri b n 4 5) (.bin .and .u64 (.var 0) (.lit 255)) : Int) = IE.ev (ri b n 4 5) (.sh .shr .u64 (.sh .shl .u64 (.var 3) (.lit 56)) (.lit 56)) := by
    obtain ⟨hb0, hb1, hn, l0, l1⟩ := h
    simp (disch := omega) only [IE.ev, ri, rc_0, rc_3, loI, and_u64_8, shl_u64_56, shr_u64_56, wrap_u64] <;> omega
  exact ⟨5, IE.ev (ri b n 4 5) (.sh .shr .u64 (.sh .shl .u64 (.var 3) (.lit 56)) (.lit 56)), 0, fun w hG => pair_of (W := wF (FloatKind.nearest .f32 n)) (C := cF (FloatKind.nearest .f32 n)) (ρ := ri b n 4 5) (ok_S5_4p b n h h0 h1) (fun _ h => by cases h) (UI_ok (nearest_num n) hc hi) (run_S5_4p _ _ _ aR aS) rfl rfl rfl (vs := [.int .i64 5, agV 4 b]) rfl rfl (tupE 5 0 e) w hG⟩
def L_S7_4p : List CF := [⟨.neq, .var 2, .lit 18446744073709551615, true⟩,
  ⟨.lss, (.cv .i64 (.var 2)), .lit (-1), false⟩,
  ⟨.neq, .lit 0, .var 2, false⟩,
  ⟨.lss, .lit 2147483647, .var 3, false⟩,
  ⟨.gtr, .var 0, .lit 2147483647, false⟩]
theorem ok_S7_4p (b n : Int) (h : HN 4 b n) (h0 : 0 ≤ n) (h1 : n ≤ 2147483647) : ∀ f ∈ L_S7_4p, f.ok (ri b n 4 7) := by
  obtain ⟨hb0, hb1, hn, l0, l1⟩ := h
  intro f hf
  simp only [L_S7_4p, List.mem_cons, List.not_mem_nil, or_false] at hf
  rcases hf with rfl | rfl | rfl | rfl | rfl
  · exact ⟨rfl, cmp_neq_t (by simp (disch := omega) only [IE.ev, ri, rc_2, hiI_pos] <;> omega)⟩
  · exact ⟨rfl, cmp_lss_f (by simp (disch := omega) only [IE.ev, ri, rc_2, hiI_pos, wrap_i64] <;> omega)⟩
  · exact ⟨rfl, cmp_neq_f (by simp (disch := omega) only [IE.ev, ri, rc_2, hiI_pos] <;> omega)⟩
  · exact ⟨rfl, cmp_lss_f (by simp (disch := omega) only [IE.ev, ri, rc_3, loI] <;> omega)⟩
  · exact ⟨rfl, cmp_gtr_f (by simp (disch := omega) only [IE.ev, ri, rc_0] <;> omega)⟩
theorem run_S7_4p : RunE L_S7_4p [] (UI 4) [(7, [.v (.int .i64 7), ag0 4], .tuple [.agg [.v (.int .i64 7), .sym (.int .u64 (.sh .shr .u64 (.sh .shl .u64 (.var 3) (.lit 32)) (.lit 32)))], .v (.int .i64 0)]), (8, [.v (.int .i64 7), ag0 4], .tuple [.agg [.v (.int .i64 7), .sym (.int .u64 (.bin .and .u64 (.var 0) (.lit 4294967295)))], .v (.int .i64 0)])] := fun W C ρ aR aS => by unfold runE; kernel_rfl
theorem ag_S7_4p {aR aS : Addr} (b n : Int) (h : HN 4 b n) (h0 : 0 ≤ n) (h1 : n ≤ 2147483647) (hc : Chk aR aS 4 b 0) (hi : IntV aR aS 4 b n) : AgS aR aS 7 4 b := by
  have e : (IE.ev (ri b n 4 7) (.bin .and .u64 (.var 0) (.lit 4294967295)) : Int) = IE.ev (ri b n 4 7) (.sh .shr .u64 (.sh .shl .u64 (.var 3) (.lit 32)) (.lit 32)) := by
    obtain ⟨hb0, hb1, hn, l0, l1⟩ := h
    simp (disch := omega) only [IE.ev, ri, rc_0, rc_3, loI, and_u64_32, shl_u64_32, shr_u64_32, wrap_u64] <;> omega
  exact ⟨7, IE.ev (ri b n 4 7) (.sh .shr .u64 (.sh .shl .u64 (.var 3) (.lit 32)) (.lit 32)), 0, fun w hG => pair_of (W := wF (FloatKind.nearest .f32 n)) (C := cF (FloatKind.nearest .f32 n)) (ρ := ri b n 4 7) (ok_S7_4p b n h h0 h1) (fun _ h => by cases h) (UI_ok (nearest_num n) hc hi) (run_S7_4p _ _ _ aR aS) rfl rfl rfl (vs := [.int .i64 7, agV 4 b]) rfl rfl (tupE 7 0 e) w hG⟩
def L_S9_4e : List CF := []
theorem run_S9_4e : RunE L_S9_4e [] (UI 4) [(7, [.v (.int .i64 9), ag0 4], .v (.tuple #[.agg #[.int .i64 0, .int .u64 0], .int .i64 12])), (8, [.v (.int .i64 9), ag0 4], .v (.tuple #[.agg #[.int .i64 0, .int .u64 0], .int .i64 12]))] := fun W C ρ aR aS => by unfold runE; kernel_rfl
theorem ag_S9_4e {aR aS : Addr} (b n : Int) (_ : HN 4 b n)  (hc : Chk aR aS 4 b 0) (hi : IntV aR aS 4 b n) : AgS aR aS 9 4 b := ⟨0, 0, 12, fun w hG => pair_of (W := wF (FloatKind.nearest .f32 n)) (C := cF (FloatKind.nearest .f32 n)) (ρ := ri b n 4 9) (fun _ h => by cases h) (fun _ h => by cases h) (UI_ok (nearest_num n) hc hi) (run_S9_4e _ _ _ aR aS) rfl rfl rfl (vs := [.int .i64 9, agV 4 b]) rfl rfl rfl w hG⟩
def L_S0_5e : List CF := []
theorem run_S0_5e : RunE L_S0_5e [] (UI 5) [(7, [.v (.int .i64 0), ag0 5], .v (.tuple #[.agg #[.int .i64 0, .int .u64 0], .int .i64 12])), (8, [.v (.int .i64 0), ag0 5], .v (.tuple #[.agg #[.int .i64 0, .int .u64 0], .int .i64 12]))] := fun W C ρ aR aS => by unfold runE; kernel_rfl
theorem ag_S0_5e {aR aS : Addr} (b n : Int) (_ : HN 5 b n)  (hc : Chk aR aS 5 b 0) (hi : IntV aR aS 5 b n) : AgS aR aS 0 5 b := ⟨0, 0, 12, fun w hG => pair_of (W := wF (FloatKind.nearest .f32 n)) (C := cF (FloatKind.nearest .f32 n)) (ρ := ri b n 5 0) (fun _ h => by cases h) (fun _ h => by cases h) (UI_ok (nearest_num n) hc hi) (run_S0_5e _ _ _ aR aS) rfl rfl rfl (vs := [.int .i64 0, agV 5 b]) rfl rfl rfl w hG⟩
def L_S2_5p : List CF := [⟨.neq, .var 2, .lit 0, false⟩,
  ⟨.lss, .var 3, .lit 0, false⟩,
  ⟨.neq, .lit 0, .var 2, false⟩,
  ⟨.lss, .lit 65535, .var 3, false⟩,
  ⟨.lss, .var 4, .lit 0, false⟩,
  ⟨.gtr, .var 0, .lit 65535, false⟩]
theorem ok_S2_5p (b n : Int) (h : HN 5 b n) (h0 : 0 ≤ n) (h1 : n ≤ 65535) : ∀ f ∈ L_S2_5p, f.ok (ri b n 5 2) := by
  obtain ⟨hb0, hb1, hn, l0, l1⟩ := h
  intro f hf
  simp only [L_S2_5p, List.mem_cons, List.not_mem_nil, or_false] at hf
  rcases hf with rfl | rfl | rfl | rfl | rfl | rfl
  · exact ⟨rfl, cmp_neq_f (by simp (disch := omega) only [IE.ev, ri, rc_2, hiI_pos] <;> omega)⟩
  · exact ⟨rfl, cmp_lss_f (by simp (disch := omega) only [IE.ev, ri, rc_3, loI] <;> omega)⟩
  · exact ⟨rfl, cmp_neq_f (by simp (disch := omega) only [IE.ev, ri, rc_2, hiI_pos] <;> omega)⟩
  · exact ⟨rfl, cmp_lss_f (by simp (disch := omega) only [IE.ev, ri, rc_3, loI] <;> omega)⟩
  · exact ⟨rfl, cmp_lss_f (by simp (disch := omega) only [IE.ev, ri, rc_4, wrap_i64] <;> omega)⟩
  · exact ⟨rfl, cmp_gtr_f (by simp (disch := omega) only [IE.ev, ri, rc_0] <;> omega)⟩
theorem run_S2_5p : RunE L_S2_5p [] (UI 5) [(7, [.v (.int .i64 2), ag0 5], .tuple [.agg [.v (.int .i64 2), .sym (.int .u64 (.sh .shr .u64 (.sh .shl .u64 (.var 3) (.lit 48)) (.lit 48)))], .v (.int .i64 0)]), (8, [.v (.int .i64 2), ag0 5], .tuple [.agg [.v (.int .i64 2), .sym (.int .u64 (.bin .and .u64 (.var 0) (.lit 65535)))], .v (.int .i64 0)])] := fun W C ρ aR aS => by unfold runE; kernel_rfl
theorem ag_S2_5p {aR aS : Addr} (b n : Int) (h : HN 5 b n) (h0 : 0 ≤ n) (h1 : n ≤ 65535) (hc : Chk aR aS 5 b 0) (hi : IntV aR aS 5 b n) : AgS aR aS 2 5 b := by
  have e : (IE.ev (ri b n 5 2) (.bin .and .u64 (.var 0) (.lit 65535)) : Int) = IE.ev (ri b n 5 2) (.sh .shr .u64 (.sh .shl .u64 (.var 3) (.lit 48)) (.lit 48)) := by
    obtain ⟨hb0, hb1, hn, l0, l1⟩ := h
    simp (disch := omega) only [IE.ev, ri, rc_0, rc_3, loI, and_u64_16, shl_u64_48, shr_u64_48, wrap_u64] <;> omega
  exact ⟨2, IE.ev (ri b n 5 2) (.sh .shr .u64 (.sh .shl .u64 (.var 3) (.lit 48)) (.lit 48)), 0, fun w hG => pair_of (W := wF (FloatKind.nearest .f32 n)) (C := cF (FloatKind.nearest .f32 n)) (ρ := ri b n 5 2) (ok_S2_5p b n h h0 h1) (fun _ h => by cases h) (UI_ok (nearest_num n) hc hi) (run_S2_5p _ _ _ aR aS) rfl rfl rfl (vs := [.int .i64 2, agV 5 b]) rfl rfl (tupE 2 0 e) w hG⟩
def L_S4_5p : List CF := [⟨.neq, .var 2, .lit 0, false⟩,
  ⟨.lss, .var 3, .lit 0, false⟩,
  ⟨.neq, .lit 0, .var 2, false⟩,
  ⟨.lss, .lit 18446744073709551615, .var 3, false⟩,
  ⟨.lss, .var 4, .lit 0, false⟩,
  ⟨.gtr, .var 0, .lit 18446744073709551615, false⟩]
theorem ok_S4_5p (b n : Int) (h : HN 5 b n) (h0 : 0 ≤ n) (h1 : n ≤ 18446744073709551615) : ∀ f ∈ L_S4_5p, f.ok (ri b n 5 4) := by
  obtain ⟨hb0, hb1, hn, l0, l1⟩ := h
  intro f hf
  simp only [L_S4_5p, List.mem_cons, List.not_mem_nil, or_false] at hf
  rcases hf with rfl | rfl | rfl | rfl | rfl | rfl
  · exact ⟨rfl, cmp_neq_f (by simp (disch := omega) only [IE.ev, ri, rc_2, hiI_pos] <;> omega)⟩
  · exact ⟨rfl, cmp_lss_f (by simp (disch := omega) only [IE.ev, ri, rc_3, loI] <;> omega)⟩
  · exact ⟨rfl, cmp_neq_f (by simp (disch := omega) only [IE.ev, ri, rc_2, hiI_pos] <;> omega)⟩
  · exact ⟨rfl, cmp_lss_f (by simp (disch := omega) only [IE.ev, ri, rc_3, loI] <;> omega)⟩
  · exact ⟨rfl, cmp_lss_f (by simp (disch := omega) only [IE.ev, ri, rc_4, wrap_i64] <;> omega)⟩
  · exact ⟨rfl, cmp_gtr_f (by simp (disch := omega) only [IE.ev, ri, rc_0] <;> omega)⟩
theorem run_S4_5p : RunE L_S4_5p [] (UI 5) [(7, [.v (.int .i64 4), ag0 5], .tuple [.agg [.v (.int .i64 4), .sym (.int .u64 (.sh .shr .u64 (.sh .shl .u64 (.var 3) (.lit 0)) (.lit 0)))], .v (.int .i64 0)]), (8, [.v (.int .i64 4), ag0 5], .tuple [.agg [.v (.int .i64 4), .sym (.int .u64 (.bin .and .u64 (.var 0) (.lit 18446744073709551615)))], .v (.int .i64 0)])] := fun W C ρ aR aS => by unfold runE; kernel_rfl
theorem ag_S4_5p {aR aS : Addr} (b n : Int) (h : HN 5 b n) (h0 : 0 ≤ n) (h1 : n ≤ 18446744073709551615) (hc : Chk aR aS 5 b 0) (hi : IntV aR aS 5 b n) : AgS aR aS 4 5 b := by
  have e : (IE.ev (ri b n 5 4) (.bin .and .u64 (.var 0) (.lit 18446744073709551615)) : Int) = IE.ev (ri b n 5 4) (.sh .shr .u64 (.sh .shl .u64 (.var 3) (.lit 0)) (.lit 0)) := by
    obtain ⟨hb0, hb1, hn, l0, l1⟩ := h
    simp (disch := omega) only [IE.ev, ri, rc_0, rc_3, loI, and_u64_64, shl_u64_0, shr_u64_0, wrap_u64] <;> omega
  exact ⟨4, IE.ev (ri b n 5 4) (.sh .shr .u64 (.sh .shl .u64 (.var 3) (.lit 0)) (.lit 0)), 0, fun w hG => pair_of (W := wF (FloatKind.nearest .f32 n)) (C := cF (FloatKind.nearest .f32 n)) (ρ := ri b n 5 4) (ok_S4_5p b n h h0 h1) (fun _ h => by cases h) (UI_ok (nearest_num n) hc hi) (run_S4_5p _ _ _ aR aS) rfl rfl rfl (vs := [.int .i64 4, agV 5 b]) rfl rfl (tupE 4 0 e) w hG⟩
def L_S6_5p : List CF := [⟨.neq, .var 2, .lit 18446744073709551615, true⟩,
  ⟨.lss, (.cv .i64 (.var 2)), .lit (-1), false⟩,
  ⟨.neq, .lit 0, .var 2, false⟩,
  ⟨.lss, .lit 32767, .var 3, false⟩,
  ⟨.lss, .var 4, .lit 0, false⟩,
  ⟨.gtr, .var 0, .lit 32767, false⟩]
theorem ok_S6_5p (b n : Int) (h : HN 5 b n) (h0 : 0 ≤ n) (h1 : n ≤ 32767) : ∀ f ∈ L_S6_5p, f.ok (ri b n 5 6) := by
  obtain ⟨hb0, hb1, hn, l0, l1⟩ := h
  intro f hf
  simp only [L_S6_5p, List.mem_cons, List.not_mem_nil, or_false] at hf
  rcases hf with rfl | rfl | rfl | rfl | rfl | rfl
  · exact ⟨rfl, cmp_neq_t (by simp (disch := omega) only [IE.ev, ri, rc_2, hiI_pos] <;> omega)⟩
  · exact ⟨rfl, cmp_lss_f (by simp (disch := omega) only [IE.ev, ri, rc_2, hiI_pos, wrap_i64] <;> omega)⟩
  · exact ⟨rfl, cmp_neq_f (by simp (disch := omega) only [IE.ev, ri, rc_2, hiI_pos] <;> omega)⟩
  · exact ⟨rfl, cmp_lss_f (by simp (disch := omega) only [IE.ev, ri, rc_3, loI] <;> omega)⟩
  · exact ⟨rfl, cmp_lss_f (by simp (disch := omega) only [IE.ev, ri, rc_4, wrap_i64] <;> omega)⟩
  · exact ⟨rfl, cmp_gtr_f (by simp (disch := omega) only [IE.ev, ri, rc_0] <;> omega)⟩
theorem run_S6_5p : RunE L_S6_5p [] (UI 5) [(7, [.v (.int .i64 6), ag0 5], .tuple [.agg [.v (.int .i64 6), .sym (.int .u64 (.sh .shr .u64 (.sh .shl .u64 (.var 3) (.lit 48)) (.lit 48)))], .v (.int .i64 0)]), (8, [.v (.int .i64 6), ag0 5], .tuple [.agg [.v (.int .i64 6), .sym (.int .u64 (.bin .and .u64 (.var 0) (.lit 65535)))], .v (.int .i64 0)])] := fun W C ρ aR aS => by unfold runE; kernel_rfl
theorem ag_S6_5p {aR aS : Addr} (b n : Int) (h : HN 5 b n) (h0 : 0 ≤ n) (h1 : n ≤ 32767) (hc : Chk aR aS 5 b 0) (hi : IntV aR aS 5 b n) : AgS aR aS 6 5 b := by
  have e : (IE.ev (ri b n 5 6) (.bin .and .u64 (.var 0) (.lit 65535)) : Int) = IE.ev (ri b n 5 6) (.sh .shr .u64 (.sh .shl .u64 (.var 3) (.lit 48)) (.lit 48)) := by
    obtain ⟨hb0, hb1, hn, l0, l1⟩ := h
    simp (disch := omega) only [IE.ev, ri, rc_0, rc_3, loI, and_u64_16, shl_u64_48, shr_u64_48, wrap_u64] <;> omega
  exact ⟨6, IE.ev (ri b n 5 6) (.sh .shr .u64 (.sh .shl .u64 (.var 3) (.lit 48)) (.lit 48)), 0, fun w hG => pair_of (W := wF (FloatKind.nearest .f32 n)) (C := cF (FloatKind.nearest .f32 n)) (ρ := ri b n 5 6) (ok_S6_5p b n h h0 h1) (fun _ h => by cases h) (UI_ok (nearest_num n) hc hi) (run_S6_5p _ _ _ aR aS) rfl rfl rfl (vs := [.int .i64 6, agV 5 b]) rfl rfl (tupE 6 0 e) w hG⟩
def L_S8_5p : List CF := [⟨.neq, .var 2, .lit 18446744073709551615, true⟩,
  ⟨.lss, (.cv .i64 (.var 2)), .lit (-1), false⟩,
  ⟨.neq, .lit 0, .var 2, false⟩,
  ⟨.lss, .lit 9223372036854775807, .var 3, false⟩,
  ⟨.lss, .var 4, .lit 0, false⟩,
  ⟨.gtr, .var 0, .lit 9223372036854775807, false⟩]
theorem ok_S8_5p (b n : Int) (h : HN 5 b n) (h0 : 0 ≤ n) (h1 : n ≤ 9223372036854775807) : ∀ f ∈ L_S8_5p, f.ok (ri b n 5 8) := by
  obtain ⟨hb0, hb1, hn, l0, l1⟩ := h
  intro f hf
  simp only [L_S8_5p, List.mem_cons, List.not_mem_nil, or_false] at hf
  rcases hf with rfl | rfl | rfl | rfl | rfl | rfl
  · exact ⟨rfl, cmp_neq_t (by simp (disch := omega) only [IE.ev, ri, rc_2, hiI_pos] <;> omega)⟩
  · exact ⟨rfl, cmp_lss_f (by simp (disch := omega) only [IE.ev, ri, rc_2, hiI_pos, wrap_i64] <;> omega)⟩
  · exact ⟨rfl, cmp_neq_f (by simp (disch := omega) only [IE.ev, ri, rc_2, hiI_pos] <;> omega)⟩
  · exact ⟨rfl, cmp_lss_f (by simp (disch := omega) only [IE.ev, ri, rc_3, loI] <;> omega)⟩
  · exact ⟨rfl, cmp_lss_f (by simp (disch := omega) only [IE.ev, ri, rc_4, wrap_i64] <;> omega)⟩
  · exact ⟨rfl, cmp_gtr_f (by simp (disch := omega) only [IE.ev, ri, rc_0] <;> omega)⟩
theorem run_S8_5p : RunE L_S8_5p [] (UI 5) [(7, [.v (.int .i64 8), ag0 5], .tuple [.agg [.v (.int .i64 8), .sym (.int .u64 (.sh .shr .u64 (.sh .shl .u64 (.var 3) (.lit 0)) (.lit 0)))], .v (.int .i64 0)]), (8, [.v (.int .i64 8), ag0 5], .tuple [.agg [.v (.int .i64 8), .sym (.int .u64 (.bin .and .u64 (.var 0) (.lit 18446744073709551615)))], .v (.int .i64 0)])] := fun W C ρ aR aS => by unfold runE; kernel_rfl
theorem ag_S8_5p {aR aS : Addr} (b n : Int) (h : HN 5 b n) (h0 : 0 ≤ n) (h1 : n ≤ 9223372036854775807) (hc : Chk aR aS 5 b 0) (hi : IntV aR aS 5 b n) : AgS aR aS 8 5 b := by
  have e : (IE.ev (ri b n 5 8) (.bin .and .u64 (.var 0) (.lit 18446744073709551615)) : Int) = IE.ev (ri b n 5 8) (.sh .shr .u64 (.sh .shl .u64 (.var 3) (.lit 0)) (.lit 0)) := by
    obtain ⟨hb0, hb1, hn, l0, l1⟩ := h
    simp (disch := omega) only [IE.ev, ri, rc_0, rc_3, loI, and_u64_64, shl_u64_0, shr_u64_0, wrap_u64] <;> omega
  exact ⟨8, IE.ev (ri b n 5 8) (.sh .shr .u64 (.sh .shl .u64 (.var 3) (.lit 0)) (.lit 0)), 0, fun w hG => pair_of (W := wF (FloatKind.nearest .f32 n)) (C := cF (FloatKind.nearest .f32 n)) (ρ := ri b n 5 8) (ok_S8_5p b n h h0 h1) (fun _ h => by cases h) (UI_ok (nearest_num n) hc hi) (run_S8_5p _ _ _ aR aS) rfl rfl rfl (vs := [.int .i64 8, agV 5 b]) rfl rfl (tupE 8 0 e) w hG⟩
def L_S1_6a : List CF := [⟨.neq, .var 2, .lit 0, false⟩,
  ⟨.lss, .var 3, .lit 0, false⟩,
  ⟨.neq, .lit 0, .var 2, false⟩,
  ⟨.lss, .lit 255, .var 3, true⟩,
  ⟨.lss, .var 4, .lit 0, false⟩,
  ⟨.gtr, .var 0, .lit 255, true⟩]
theorem ok_S1_6a (b n : Int) (h : HN 6 b n) (h0 : 255 < n) : ∀ f ∈ L_S1_6a, f.ok (ri b n 6 1) := by
  obtain ⟨hb0, hb1, hn, l0, l1⟩ := h
  intro f hf
  simp only [L_S1_6a, List.mem_cons, List.not_mem_nil, or_false] at hf
  rcases hf with rfl | rfl | rfl | rfl | rfl | rfl
  · exact ⟨rfl, cmp_neq_f (by simp (disch := omega) only [IE.ev, ri, rc_2, hiI_pos] <;> omega)⟩
  · exact ⟨rfl, cmp_lss_f (by simp (disch := omega) only [IE.ev, ri, rc_3, loI] <;> omega)⟩
  · exact ⟨rfl, cmp_neq_f (by simp (disch := omega) only [IE.ev, ri, rc_2, hiI_pos] <;> omega)⟩
  · exact ⟨rfl, cmp_lss_t (by simp (disch := omega) only [IE.ev, ri, rc_3, loI] <;> omega)⟩
  · exact ⟨rfl, cmp_lss_f (by simp (disch := omega) only [IE.ev, ri, rc_4, wrap_i64] <;> omega)⟩
  · exact ⟨rfl, cmp_gtr_t (by simp (disch := omega) only [IE.ev, ri, rc_0] <;> omega)⟩
theorem run_S1_6a : RunE L_S1_6a [] (UI 6) [(7, [.v (.int .i64 1), ag0 6], .v (.tuple #[.agg #[.int .i64 1, .int .u64 255], .int .i64 0])), (8, [.v (.int .i64 1), ag0 6], .v (.tuple #[.agg #[.int .i64 1, .int .u64 255], .int .i64 0]))] := fun W C ρ aR aS => by unfold runE; kernel_rfl
theorem ag_S1_6a {aR aS : Addr} (b n : Int) (h : HN 6 b n) (h0 : 255 < n) (hc : Chk aR aS 6 b 0) (hi : IntV aR aS 6 b n) : AgS aR aS 1 6 b := ⟨1, 255, 0, fun w hG => pair_of (W := wF (FloatKind.nearest .f32 n)) (C := cF (FloatKind.nearest .f32 n)) (ρ := ri b n 6 1) (ok_S1_6a b n h h0) (fun _ h => by cases h) (UI_ok (nearest_num n) hc hi) (run_S1_6a _ _ _ aR aS) rfl rfl rfl (vs := [.int .i64 1, agV 6 b]) rfl rfl rfl w hG⟩
def L_S3_6p : List CF := [⟨.neq, .var 2, .lit 0, false⟩,
  ⟨.lss, .var 3, .lit 0, false⟩,
  ⟨.neq, .lit 0, .var 2, false⟩,
  ⟨.lss, .lit 4294967295, .var 3, false⟩,
  ⟨.lss, .var 4, .lit 0, false⟩,
  ⟨.gtr, .var 0, .lit 4294967295, false⟩]
theorem ok_S3_6p (b n : Int) (h : HN 6 b n) (h0 : 0 ≤ n) (h1 : n ≤ 4294967295) : ∀ f ∈ L_S3_6p, f.ok (ri b n 6 3) := by
  obtain ⟨hb0, hb1, hn, l0, l1⟩ := h
  intro f hf
  simp only [L_S3_6p, List.mem_cons, List.not_mem_nil, or_false] at hf
  rcases hf with rfl | rfl | rfl | rfl | rfl | rfl
  · exact ⟨rfl, cmp_neq_f (by simp (disch := omega) only [IE.ev, ri, rc_2, hiI_pos] <;> omega)⟩
  · exact ⟨rfl, cmp_lss_f (by simp (disch := omega) only [IE.ev, ri, rc_3, loI] <;> omega)⟩
  · exact ⟨rfl, cmp_neq_f (by simp (disch := omega) only [IE.ev, ri, rc_2, hiI_pos] <;> omega)⟩
  · exact ⟨rfl, cmp_lss_f (by simp (disch := omega) only [IE.ev, ri, rc_3, loI] <;> omega)⟩
  · exact ⟨rfl, cmp_lss_f (by simp (disch := omega) only [IE.ev, ri, rc_4, wrap_i64] <;> omega)⟩
  · exact ⟨rfl, cmp_gtr_f (by simp (disch := omega) only [IE.ev, ri, rc_0] <;> omega)⟩
theorem run_S3_6p : RunE L_S3_6p [] (UI 6) [(7, [.v (.int .i64 3), ag0 6], .tuple [.agg [.v (.int .i64 3), .sym (.int .u64 (.sh .shr .u64 (.sh .shl .u64 (.var 3) (.lit 32)) (.lit 32)))], .v (.int .i64 0)]), (8, [.v (.int .i64 3), ag0 6], .tuple [.agg [.v (.int .i64 3), .sym (.int .u64 (.bin .and .u64 (.var 0) (.lit 4294967295)))], .v (.int .i64 0)])] := fun W C ρ aR aS => by unfold runE; kernel_rfl
theorem ag_S3_6p {aR aS : Addr} (b n : Int) (h : HN 6 b n) (h0 : 0 ≤ n) (h1 : n ≤ 4294967295) (hc : Chk aR aS 6 b 0) (hi : IntV aR aS 6 b n) : AgS aR aS 3 6 b := by
  have e : (IE.ev (ri b n 6 3) (.bin .and .u64 (.var 0) (.lit 4294967295)) : Int) = IE.ev (ri b n 6 3) (.sh .shr .u64 (.sh .shl .u64 (.var 3) (.lit 32)) (.lit 32)) := by
    obtain ⟨hb0, hb1, hn, l0, l1⟩ := h
    simp (disch := omega) only [IE.ev, ri, rc_0, rc_3, loI, and_u64_32, shl_u64_32, shr_u64_32, wrap_u64] <;> omega
  exact ⟨3, IE.ev (ri b n 6 3) (.sh .shr .u64 (.sh .shl .u64 (.var 3) (.lit 32)) (.lit 32)), 0, fun w hG => pair_of (W := wF (FloatKind.nearest .f32 n)) (C := cF (FloatKind.nearest .f32 n)) (ρ := ri b n 6 3) (ok_S3_6p b n h h0 h1) (fun _ h => by cases h) (UI_ok (nearest_num n) hc hi) (run_S3_6p _ _ _ aR aS) rfl rfl rfl (vs := [.int .i64 3, agV 6 b]) rfl rfl (tupE 3 0 e) w hG⟩
def L_S5_6m : List CF := [⟨.neq, .var 2, .lit 18446744073709551615, false⟩,
  ⟨.lss, .var 3, .lit 18446744073709551488, false⟩,
  ⟨.neq, .lit 0, .var 2, true⟩,
  ⟨.lss, .lit 0, (.cv .i64 (.var 2)), false⟩,
  ⟨.lss, .var 4, .lit 0, true⟩,
  ⟨.lss, .var 4, .lit (-128), false⟩]
theorem ok_S5_6m (b n : Int) (h : HN 6 b n) (h0 : -128 ≤ n) (h1 : n < 0) : ∀ f ∈ L_S5_6m, f.ok (ri b n 6 5) := by
  obtain ⟨hb0, hb1, hn, l0, l1⟩ := h
  intro f hf
  simp only [L_S5_6m, List.mem_cons, List.not_mem_nil, or_false] at hf
  rcases hf with rfl | rfl | rfl | rfl | rfl | rfl
  · exact ⟨rfl, cmp_neq_f (by simp (disch := omega) only [IE.ev, ri, rc_2, hiI_neg] <;> omega)⟩
  · exact ⟨rfl, cmp_lss_f (by simp (disch := omega) only [IE.ev, ri, rc_3, loI] <;> omega)⟩
  · exact ⟨rfl, cmp_neq_t (by simp (disch := omega) only [IE.ev, ri, rc_2, hiI_neg] <;> omega)⟩
  · exact ⟨rfl, cmp_lss_f (by simp (disch := omega) only [IE.ev, ri, rc_2, hiI_neg, wrap_i64] <;> omega)⟩
  · exact ⟨rfl, cmp_lss_t (by simp (disch := omega) only [IE.ev, ri, rc_4, wrap_i64] <;> omega)⟩
  · exact ⟨rfl, cmp_lss_f (by simp (disch := omega) only [IE.ev, ri, rc_4, wrap_i64] <;> omega)⟩
theorem run_S5_6m : RunE L_S5_6m [] (UI 6) [(7, [.v (.int .i64 5), ag0 6], .tuple [.agg [.v (.int .i64 5), .sym (.int .u64 (.sh .shr .u64 (.sh .shl .u64 (.var 3) (.lit 56)) (.lit 56)))], .v (.int .i64 0)]), (8, [.v (.int .i64 5), ag0 6], .tuple [.agg [.v (.int .i64 5), .sym (.int .u64 (.bin .and .u64 (.bin .or .u64 (.var 0) (.lit 18446744073709486080)) (.lit 255)))], .v (.int .i64 0)])] := fun W C ρ aR aS => by unfold runE; kernel_rfl
theorem ag_S5_6m {aR aS : Addr} (b n : Int) (h : HN 6 b n) (h0 : -128 ≤ n) (h1 : n < 0) (hc : Chk aR aS 6 b 0) (hi : IntV aR aS 6 b n) : AgS aR aS 5 6 b := by
  have e : (IE.ev (ri b n 6 5) (.bin .and .u64 (.bin .or .u64 (.var 0) (.lit 18446744073709486080)) (.lit 255)) : Int) = IE.ev (ri b n 6 5) (.sh .shr .u64 (.sh .shl .u64 (.var 3) (.lit 56)) (.lit 56)) := by
    obtain ⟨hb0, hb1, hn, l0, l1⟩ := h
    simp (disch := omega) only [IE.ev, ri, rc_0, rc_3, loI, and_u64_8, or_u64_16, shl_u64_56, shr_u64_56, wrap_u64] <;> omega
  exact ⟨5, IE.ev (ri b n 6 5) (.sh .shr .u64 (.sh .shl .u64 (.var 3) (.lit 56)) (.lit 56)), 0, fun w hG => pair_of (W := wF (FloatKind.nearest .f32 n)) (C := cF (FloatKind.nearest .f32 n)) (ρ := ri b n 6 5) (ok_S5_6m b n h h0 h1) (fun _ h => by cases h) (UI_ok (nearest_num n) hc hi) (run_S5_6m _ _ _ aR aS) rfl rfl rfl (vs := [.int .i64 5, agV 6 b]) rfl rfl (tupE 5 0 e) w hG⟩
def L_S6_6p : List CF := [⟨.neq, .var 2, .lit 18446744073709551615, true⟩,
  ⟨.lss, (.cv .i64 (.var 2)), .lit (-1), false⟩,
  ⟨.neq, .lit 0, .var 2, false⟩,
  ⟨.lss, .lit 32767, .var 3, false⟩,
  ⟨.lss, .var 4, .lit 0, false⟩,
  ⟨.gtr, .var 0, .lit 32767, false⟩]
theorem ok_S6_6p (b n : Int) (h : HN 6 b n) (h0 : 0 ≤ n) (h1 : n ≤ 32767) : ∀ f ∈ L_S6_6p, f.ok (ri b n 6 6) := by
  obtain ⟨hb0, hb1, hn, l0, l1⟩ := h
  intro f hf
  simp only [L_S6_6p, List.mem_cons, List.not_mem_nil, or_false] at hf
  rcases hf with rfl | rfl | rfl | rfl | rfl | rfl
  · exact ⟨rfl, cmp_neq_t (by simp (disch := omega) only [IE.ev, ri, rc_2, hiI_pos] <;> omega)⟩
  · exact ⟨rfl, cmp_lss_f (by simp (disch := omega) only [IE.ev, ri, rc_2, hiI_pos, wrap_i64] <;> omega)⟩
  · exact ⟨rfl, cmp_neq_f (by simp (disch := omega) only [IE.ev, ri, rc_2, hiI_pos] <;> omega)⟩
  · exact ⟨rfl, cmp_lss_f (by simp (disch := omega) only [IE.ev, ri, rc_3, loI] <;> omega)⟩
  · exact ⟨rfl, cmp_lss_f (by simp (disch := omega) only [IE.ev, ri, rc_4, wrap_i64] <;> omega)⟩
  · exact ⟨rfl, cmp_gtr_f (by simp (disch := omega) only [IE.ev, ri, rc_0] <;> omega)⟩
theorem run_S6_6p : RunE L_S6_6p [] (UI 6) [(7, [.v (.int .i64 6), ag0 6], .tuple [.agg [.v (.int .i64 6), .sym (.int .u64 (.sh .shr .u64 (.sh .shl .u64 (.var 3) (.lit 48)) (.lit 48)))], .v (.int .i64 0)]), (8, [.v (.int .i64 6), ag0 6], .tuple [.agg [.v (.int .i64 6), .sym (.int .u64 (.bin .and .u64 (.var 0) (.lit 65535)))], .v (.int .i64 0)])] := fun W C ρ aR aS => by unfold runE; kernel_rfl
theorem ag_S6_6p {aR aS : Addr} (b n : Int) (h : HN 6 b n) (h0 : 0 ≤ n) (h1 : n ≤ 32767) (hc : Chk aR aS 6 b 0) (hi : IntV aR aS 6 b n) : AgS aR aS 6 6 b := by
  have e : (IE.ev (ri b n 6 6) (.bin .and .u64 (.var 0) (.lit 65535)) : Int) = IE.ev (ri b n 6 6) (.sh .shr .u64 (.sh .shl .u64 (.var 3) (.lit 48)) (.lit 48)) := by
    obtain ⟨hb0, hb1, hn, l0, l1⟩ := h
    simp (disch := omega) only [IE.ev, ri, rc_0, rc_3, loI, and_u64_16, shl_u64_48, shr_u64_48, wrap_u64] <;> omega
  exact ⟨6, IE.ev (ri b n 6 6) (.sh .shr .u64 (.sh .shl .u64 (.var 3) (.lit 48)) (.lit 48)), 0, fun w hG => pair_of (W := wF (FloatKind.nearest .f32 n)) (C := cF (FloatKind.nearest .f32 n)) (ρ := ri b n 6 6) (ok_S6_6p b n h h0 h1) (fun _ h => by cases h) (UI_ok (nearest_num n) hc hi) (run_S6_6p _ _ _ aR aS) rfl rfl rfl (vs := [.int .i64 6, agV 6 b]) rfl rfl (tupE 6 0 e) w hG⟩
def L_S8_6p : List CF := [⟨.neq, .var 2, .lit 18446744073709551615, true⟩,
  ⟨.lss, (.cv .i64 (.var 2)), .lit (-1), false⟩,
  ⟨.neq, .lit 0, .var 2, false⟩,
  ⟨.lss, .lit 9223372036854775807, .var 3, false⟩,
  ⟨.lss, .var 4, .lit 0, false⟩,
  ⟨.gtr, .var 0, .lit 9223372036854775807, false⟩]
theorem ok_S8_6p (b n : Int) (h : HN 6 b n) (h0 : 0 ≤ n) (h1 : n ≤ 9223372036854775807) : ∀ f ∈ L_S8_6p, f.ok (ri b n 6 8) := by
  obtain ⟨hb0, hb1, hn, l0, l1⟩ := h
  intro f hf
  simp only [L_S8_6p, List.mem_cons, List.not_mem_nil, or_false] at hf
  rcases hf with rfl | rfl | rfl | rfl | rfl | rfl
  · exact ⟨rfl, cmp_neq_t (by simp (disch := omega) only [IE.ev, ri, rc_2, hiI_pos] <;> omega)⟩
  · exact ⟨rfl, cmp_lss_f (by simp (disch := omega) only [IE.ev, ri, rc_2, hiI_pos, wrap_i64] <;> omega)⟩
  · exact ⟨rfl, cmp_neq_f (by simp (disch := omega) only [IE.ev, ri, rc_2, hiI_pos] <;> omega)⟩
  · exact ⟨rfl, cmp_lss_f (by simp (disch := omega) only [IE.ev, ri, rc_3, loI] <;> omega)⟩
  · exact ⟨rfl, cmp_lss_f (by simp (disch := omega) only [IE.ev, ri, rc_4, wrap_i64] <;> omega)⟩
  · exact ⟨rfl, cmp_gtr_f (by simp (disch := omega) only [IE.ev, ri, rc_0] <;> omega)⟩
theorem run_S8_6p : RunE L_S8_6p [] (UI 6) [(7, [.v (.int .i64 8), ag0 6], .tuple [.agg [.v (.int .i64 8), .sym (.int .u64 (.sh .shr .u64 (.sh .shl .u64 (.var 3) (.lit 0)) (.lit 0)))], .v (.int .i64 0)]), (8, [.v (.int .i64 8), ag0 6], .tuple [.agg [.v (.int .i64 8), .sym (.int .u64 (.bin .and .u64 (.var 0) (.lit 18446744073709551615)))], .v (.int .i64 0)])] := fun W C ρ aR aS => by unfold runE; kernel_rfl
theorem ag_S8_6p {aR aS : Addr} (b n : Int) (h : HN 6 b n) (h0 : 0 ≤ n) (h1 : n ≤ 9223372036854775807) (hc : Chk aR aS 6 b 0) (hi : IntV aR aS 6 b n) : AgS aR aS 8 6 b := by
  have e : (IE.ev (ri b n 6 8) (.bin .and .u64 (.var 0) (.lit 18446744073709551615)) : Int) = IE.ev (ri b n 6 8) (.sh .shr .u64 (.sh .shl .u64 (.var 3) (.lit 0)) (.lit 0)) := by
    obtain ⟨hb0, hb1, hn, l0, l1⟩ := h
    simp (disch := omega) only [IE.ev, ri, rc_0, rc_3, loI, and_u64_64, shl_u64_0, shr_u64_0, wrap_u64] <;> omega
  exact ⟨8, IE.ev (ri b n 6 8) (.sh .shr .u64 (.sh .shl .u64 (.var 3) (.lit 0)) (.lit 0)), 0, fun w hG => pair_of (W := wF (FloatKind.nearest .f32 n)) (C := cF (FloatKind.nearest .f32 n)) (ρ := ri b n 6 8) (ok_S8_6p b n h h0 h1) (fun _ h => by cases h) (UI_ok (nearest_num n) hc hi) (run_S8_6p _ _ _ aR aS) rfl rfl rfl (vs := [.int .i64 8, agV 6 b]) rfl rfl (tupE 8 0 e) w hG⟩
def L_S1_7a : List CF := [⟨.neq, .var 2, .lit 0, false⟩,
  ⟨.lss, .var 3, .lit 0, false⟩,
  ⟨.neq, .lit 0, .var 2, false⟩,
  ⟨.lss, .lit 255, .var 3, true⟩,
  ⟨.lss, .var 4, .lit 0, false⟩,
  ⟨.gtr, .var 0, .lit 255, true⟩]
theorem ok_S1_7a (b n : Int) (h : HN 7 b n) (h0 : 255 < n) : ∀ f ∈ L_S1_7a, f.ok (ri b n 7 1) := by
  obtain ⟨hb0, hb1, hn, l0, l1⟩ := h
  intro f hf
  simp only [L_S1_7a, List.mem_cons, List.not_mem_nil, or_false] at hf
  rcases hf with rfl | rfl | rfl | rfl | rfl | rfl
  · exact ⟨rfl, cmp_neq_f (by simp (disch := omega) only [IE.ev, ri, rc_2, hiI_pos] <;> omega)⟩
  · exact ⟨rfl, cmp_lss_f (by simp (disch := omega) only [IE.ev, ri, rc_3, loI] <;> omega)⟩
  · exact ⟨rfl, cmp_neq_f (by simp (disch := omega) only [IE.ev, ri, rc_2, hiI_pos] <;> omega)⟩
  · exact ⟨rfl, cmp_lss_t (by simp (disch := omega) only [IE.ev, ri, rc_3, loI] <;> omega)⟩
  · exact ⟨rfl, cmp_lss_f (by simp (disch := omega) only [IE.ev, ri, rc_4, wrap_i64] <;> omega)⟩
  · exact ⟨rfl, cmp_gtr_t (by simp (disch := omega) only [IE.ev, ri, rc_0] <;> omega)⟩
theorem run_S1_7a : RunE L_S1_7a [] (UI 7) [(7, [.v (.int .i64 1), ag0 7], .v (.tuple #[.agg #[.int .i64 1, .int .u64 255], .int .i64 0])), (8, [.v (.int .i64 1), ag0 7], .v (.tuple #[.agg #[.int .i64 1, .int .u64 255], .int .i64 0]))] := fun W C ρ aR aS => by unfold runE; kernel_rfl
theorem ag_S1_7a {aR aS : Addr} (b n : Int) (h : HN 7 b n) (h0 : 255 < n) (hc : Chk aR aS 7 b 0) (hi : IntV aR aS 7 b n) : AgS aR aS 1 7 b := ⟨1, 255, 0, fun w hG => pair_of (W := wF (FloatKind.nearest .f32 n)) (C := cF (FloatKind.nearest .f32 n)) (ρ := ri b n 7 1) (ok_S1_7a b n h h0) (fun _ h => by cases h) (UI_ok (nearest_num n) hc hi) (run_S1_7a _ _ _ aR aS) rfl rfl rfl (vs := [.int .i64 1, agV 7 b]) rfl rfl rfl w hG⟩
def L_S3_7b : List CF := [⟨.neq, .var 2, .lit 0, true⟩,
  ⟨.lss, (.cv .i64 (.var 2)), .lit 0, true⟩,
  ⟨.lss, .var 4, .lit 0, true⟩]
theorem ok_S3_7b (b n : Int) (h : HN 7 b n) (h0 : n < 0) : ∀ f ∈ L_S3_7b, f.ok (ri b n 7 3) := by
  obtain ⟨hb0, hb1, hn, l0, l1⟩ := h
  intro f hf
  simp only [L_S3_7b, List.mem_cons, List.not_mem_nil, or_false] at hf
  rcases hf with rfl | rfl | rfl
  · exact ⟨rfl, cmp_neq_t (by simp (disch := omega) only [IE.ev, ri, rc_2, hiI_neg] <;> omega)⟩
  · exact ⟨rfl, cmp_lss_t (by simp (disch := omega) only [IE.ev, ri, rc_2, hiI_neg, wrap_i64] <;> omega)⟩
  · exact ⟨rfl, cmp_lss_t (by simp (disch := omega) only [IE.ev, ri, rc_4, wrap_i64] <;> omega)⟩
theorem run_S3_7b : RunE L_S3_7b [] (UI 7) [(7, [.v (.int .i64 3), ag0 7], .v (.tuple #[.agg #[.int .i64 3, .int .u64 0], .int .i64 0])), (8, [.v (.int .i64 3), ag0 7], .v (.tuple #[.agg #[.int .i64 3, .int .u64 0], .int .i64 0]))] := fun W C ρ aR aS => by unfold runE; kernel_rfl
theorem ag_S3_7b {aR aS : Addr} (b n : Int) (h : HN 7 b n) (h0 : n < 0) (hc : Chk aR aS 7 b 0) (hi : IntV aR aS 7 b n) : AgS aR aS 3 7 b := ⟨3, 0, 0, fun w hG => pair_of (W := wF (FloatKind.nearest .f32 n)) (C := cF (FloatKind.nearest .f32 n)) (ρ := ri b n 7 3) (ok_S3_7b b n h h0) (fun _ h => by cases h) (UI_ok (nearest_num n) hc hi) (run_S3_7b _ _ _ aR aS) rfl rfl rfl (vs := [.int .i64 3, agV 7 b]) rfl rfl rfl w hG⟩
def L_S5_7b : List CF := [⟨.neq, .var 2, .lit 18446744073709551615, false⟩,
  ⟨.lss, .var 3, .lit 18446744073709551488, true⟩,
  ⟨.lss, .var 4, .lit 0, true⟩,
  ⟨.lss, .var 4, .lit (-128), true⟩]
theorem ok_S5_7b (b n : Int) (h : HN 7 b n) (h0 : n < -128) : ∀ f ∈ L_S5_7b, f.ok (ri b n 7 5) := by
  obtain ⟨hb0, hb1, hn, l0, l1⟩ := h
  intro f hf
  simp only [L_S5_7b, List.mem_cons, List.not_mem_nil, or_false] at hf
  rcases hf with rfl | rfl | rfl | rfl
  · exact ⟨rfl, cmp_neq_f (by simp (disch := omega) only [IE.ev, ri, rc_2, hiI_neg] <;> omega)⟩
  · exact ⟨rfl, cmp_lss_t (by simp (disch := omega) only [IE.ev, ri, rc_3, loI] <;> omega)⟩
  · exact ⟨rfl, cmp_lss_t (by simp (disch := omega) only [IE.ev, ri, rc_4, wrap_i64] <;> omega)⟩
  · exact ⟨rfl, cmp_lss_t (by simp (disch := omega) only [IE.ev, ri, rc_4, wrap_i64] <;> omega)⟩
theorem run_S5_7b : RunE L_S5_7b [] (UI 7) [(7, [.v (.int .i64 5), ag0 7], .v (.tuple #[.agg #[.int .i64 5, .int .u64 128], .int .i64 0])), (8, [.v (.int .i64 5), ag0 7], .v (.tuple #[.agg #[.int .i64 5, .int .u64 128], .int .i64 0]))] := fun W C ρ aR aS => by unfold runE; kernel_rfl
theorem ag_S5_7b {aR aS : Addr} (b n : Int) (h : HN 7 b n) (h0 : n < -128) (hc : Chk aR aS 7 b 0) (hi : IntV aR aS 7 b n) : AgS aR aS 5 7 b := ⟨5, 128, 0, fun w hG => pair_of (W := wF (FloatKind.nearest .f32 n)) (C := cF (FloatKind.nearest .f32 n)) (ρ := ri b n 7 5) (ok_S5_7b b n h h0) (fun _ h => by cases h) (UI_ok (nearest_num n) hc hi) (run_S5_7b _ _ _ aR aS) rfl rfl rfl (vs := [.int .i64 5, agV 7 b]) rfl rfl rfl w hG⟩
def L_S6_7b : List CF := [⟨.neq, .var 2, .lit 18446744073709551615, false⟩,
  ⟨.lss, .var 3, .lit 18446744073709518848, true⟩,
  ⟨.lss, .var 4, .lit 0, true⟩,
  ⟨.lss, .var 4, .lit (-32768), true⟩]
theorem ok_S6_7b (b n : Int) (h : HN 7 b n) (h0 : n < -32768) : ∀ f ∈ L_S6_7b, f.ok (ri b n 7 6) := by
  obtain ⟨hb0, hb1, hn, l0, l1⟩ := h
  intro f hf
  simp only [L_S6_7b, List.mem_cons, List.not_mem_nil, or_false] at hf
  rcases hf with rfl | rfl | rfl | rfl
  · exact ⟨rfl, cmp_neq_f (by simp (disch := omega) only [IE.ev, ri, rc_2, hiI_neg] <;> omega)⟩
  · exact ⟨rfl, cmp_lss_t (by simp (disch := omega) only [IE.ev, ri, rc_3, loI] <;> omega)⟩
  · exact ⟨rfl, cmp_lss_t (by simp (disch := omega) only [IE.ev, ri, rc_4, wrap_i64] <;> omega)⟩
  · exact ⟨rfl, cmp_lss_t (by simp (disch := omega) only [IE.ev, ri, rc_4, wrap_i64] <;> omega)⟩
theorem run_S6_7b : RunE L_S6_7b [] (UI 7) [(7, [.v (.int .i64 6), ag0 7], .v (.tuple #[.agg #[.int .i64 6, .int .u64 32768], .int .i64 0])), (8, [.v (.int .i64 6), ag0 7], .v (.tuple #[.agg #[.int .i64 6, .int .u64 32768], .int .i64 0]))] := fun W C ρ aR aS => by unfold runE; kernel_rfl
theorem ag_S6_7b {aR aS : Addr} (b n : Int) (h : HN 7 b n) (h0 : n < -32768) (hc : Chk aR aS 7 b 0) (hi : IntV aR aS 7 b n) : AgS aR aS 6 7 b := ⟨6, 32768, 0, fun w hG => pair_of (W := wF (FloatKind.nearest .f32 n)) (C := cF (FloatKind.nearest .f32 n)) (ρ := ri b n 7 6) (ok_S6_7b b n h h0) (fun _ h => by cases h) (UI_ok (nearest_num n) hc hi) (run_S6_7b _ _ _ aR aS) rfl rfl rfl (vs := [.int .i64 6, agV 7 b]) rfl rfl rfl w hG⟩
def L_S7_7m : List CF := [⟨.neq, .var 2, .lit 18446744073709551615, false⟩,
  ⟨.lss, .var 3, .lit 18446744071562067968, false⟩,
  ⟨.neq, .lit 0, .var 2, true⟩,
  ⟨.lss, .lit 0, (.cv .i64 (.var 2)), false⟩,
  ⟨.lss, .var 4, .lit 0, true⟩,
  ⟨.lss, .var 4, .lit (-2147483648), false⟩]
theorem ok_S7_7m (b n : Int) (h : HN 7 b n) (h0 : -2147483648 ≤ n) (h1 : n < 0) : ∀ f ∈ L_S7_7m, f.ok (ri b n 7 7) := by
  obtain ⟨hb0, hb1, hn, l0, l1⟩ := h
  intro f hf
  simp only [L_S7_7m, List.mem_cons, List.not_mem_nil, or_false] at hf
  rcases hf with rfl | rfl | rfl | rfl | rfl | rfl
  · exact ⟨rfl, cmp_neq_f (by simp (disch := omega) only [IE.ev, ri, rc_2, hiI_neg] <;> omega)⟩
  · exact ⟨rfl, cmp_lss_f (by simp (disch := omega) only [IE.ev, ri, rc_3, loI] <;> omega)⟩
  · exact ⟨rfl, cmp_neq_t (by simp (disch := omega) only [IE.ev, ri, rc_2, hiI_neg] <;> omega)⟩
  · exact ⟨rfl, cmp_lss_f (by simp (disch := omega) only [IE.ev, ri, rc_2, hiI_neg, wrap_i64] <;> omega)⟩
  · exact ⟨rfl, cmp_lss_t (by simp (disch := omega) only [IE.ev, ri, rc_4, wrap_i64] <;> omega)⟩
  · exact ⟨rfl, cmp_lss_f (by simp (disch := omega) only [IE.ev, ri, rc_4, wrap_i64] <;> omega)⟩
theorem run_S7_7m : RunE L_S7_7m [] (UI 7) [(7, [.v (.int .i64 7), ag0 7], .tuple [.agg [.v (.int .i64 7), .sym (.int .u64 (.sh .shr .u64 (.sh .shl .u64 (.var 3) (.lit 32)) (.lit 32)))], .v (.int .i64 0)]), (8, [.v (.int .i64 7), ag0 7], .tuple [.agg [.v (.int .i64 7), .sym (.int .u64 (.bin .and .u64 (.bin .or .u64 (.var 0) (.lit 18446744069414584320)) (.lit 4294967295)))], .v (.int .i64 0)])] := fun W C ρ aR aS => by unfold runE; kernel_rfl
theorem ag_S7_7m {aR aS : Addr} (b n : Int) (h : HN 7 b n) (h0 : -2147483648 ≤ n) (h1 : n < 0) (hc : Chk aR aS 7 b 0) (hi : IntV aR aS 7 b n) : AgS aR aS 7 7 b := by
  have e : (IE.ev (ri b n 7 7) (.bin .and .u64 (.bin .or .u64 (.var 0) (.lit 18446744069414584320)) (.lit 4294967295)) : Int) = IE.ev (ri b n 7 7) (.sh .shr .u64 (.sh .shl .u64 (.var 3) (.lit 32)) (.lit 32)) := by
    obtain ⟨hb0, hb1, hn, l0, l1⟩ := h
    simp (disch := omega) only [IE.ev, ri, rc_0, rc_3, loI, and_u64_32, or_u64_32, shl_u64_32, shr_u64_32, wrap_u64] <;> omega
  exact ⟨7, IE.ev (ri b n 7 7) (.sh .shr .u64 (.sh .shl .u64 (.var 3) (.lit 32)) (.lit 32)), 0, fun w hG => pair_of (W := wF (FloatKind.nearest .f32 n)) (C := cF (FloatKind.nearest .f32 n)) (ρ := ri b n 7 7) (ok_S7_7m b n h h0 h1) (fun _ h => by cases h) (UI_ok (nearest_num n) hc hi) (run_S7_7m _ _ _ aR aS) rfl rfl rfl (vs := [.int .i64 7, agV 7 b]) rfl rfl (tupE 7 0 e) w hG⟩
def L_S9_7e : List CF := []
theorem run_S9_7e : RunE L_S9_7e [] (UI 7) [(7, [.v (.int .i64 9), ag0 7], .v (.tuple #[.agg #[.int .i64 0, .int .u64 0], .int .i64 12])), (8, [.v (.int .i64 9), ag0 7], .v (.tuple #[.agg #[.int .i64 0, .int .u64 0], .int .i64 12]))] := fun W C ρ aR aS => by unfold runE; kernel_rfl
theorem ag_S9_7e {aR aS : Addr} (b n : Int) (_ : HN 7 b n)  (hc : Chk aR aS 7 b 0) (hi : IntV aR aS 7 b n) : AgS aR aS 9 7 b := ⟨0, 0, 12, fun w hG => pair_of (W := wF (FloatKind.nearest .f32 n)) (C := cF (FloatKind.nearest .f32 n)) (ρ := ri b n 7 9) (fun _ h => by cases h) (fun _ h => by cases h) (UI_ok (nearest_num n) hc hi) (run_S9_7e _ _ _ aR aS) rfl rfl rfl (vs := [.int .i64 9, agV 7 b]) rfl rfl rfl w hG⟩
def L_S0_8e : List CF := []
theorem run_S0_8e : RunE L_S0_8e [] (UI 8) [(7, [.v (.int .i64 0), ag0 8], .v (.tuple #[.agg #[.int .i64 0, .int .u64 0], .int .i64 12])), (8, [.v (.int .i64 0), ag0 8], .v (.tuple #[.agg #[.int .i64 0, .int .u64 0], .int .i64 12]))] := fun W C ρ aR aS => by unfold runE; kernel_rfl
theorem ag_S0_8e {aR aS : Addr} (b n : Int) (_ : HN 8 b n)  (hc : Chk aR aS 8 b 0) (hi : IntV aR aS 8 b n) : AgS aR aS 0 8 b := ⟨0, 0, 12, fun w hG => pair_of (W := wF (FloatKind.nearest .f32 n)) (C := cF (FloatKind.nearest .f32 n)) (ρ := ri b n 8 0) (fun _ h => by cases h) (fun _ h => by cases h) (UI_ok (nearest_num n) hc hi) (run_S0_8e _ _ _ aR aS) rfl rfl rfl (vs := [.int .i64 0, agV 8 b]) rfl rfl rfl w hG⟩
def L_S2_8b : List CF := [⟨.neq, .var 2, .lit 0, true⟩,
  ⟨.lss, (.cv .i64 (.var 2)), .lit 0, true⟩,
  ⟨.lss, .var 4, .lit 0, true⟩]
theorem ok_S2_8b (b n : Int) (h : HN 8 b n) (h0 : n < 0) : ∀ f ∈ L_S2_8b, f.ok (ri b n 8 2) := by
  obtain ⟨hb0, hb1, hn, l0, l1⟩ := h
  intro f hf
  simp only [L_S2_8b, List.mem_cons, List.not_mem_nil, or_false] at hf
  rcases hf with rfl | rfl | rfl
  · exact ⟨rfl, cmp_neq_t (by simp (disch := omega) only [IE.ev, ri, rc_2, hiI_neg] <;> omega)⟩
  · exact ⟨rfl, cmp_lss_t (by simp (disch := omega) only [IE.ev, ri, rc_2, hiI_neg, wrap_i64] <;> omega)⟩
  · exact ⟨rfl, cmp_lss_t (by simp (disch := omega) only [IE.ev, ri, rc_4, wrap_i64] <;> omega)⟩
theorem run_S2_8b : RunE L_S2_8b [] (UI 8) [(7, [.v (.int .i64 2), ag0 8], .v (.tuple #[.agg #[.int .i64 2, .int .u64 0], .int .i64 0])), (8, [.v (.int .i64 2), ag0 8], .v (.tuple #[.agg #[.int .i64 2, .int .u64 0], .int .i64 0]))] := fun W C ρ aR aS => by unfold runE; kernel_rfl
theorem ag_S2_8b {aR aS : Addr} (b n : Int) (h : HN 8 b n) (h0 : n < 0) (hc : Chk aR aS 8 b 0) (hi : IntV aR aS 8 b n) : AgS aR aS 2 8 b := ⟨2, 0, 0, fun w hG => pair_of (W := wF (FloatKind.nearest .f32 n)) (C := cF (FloatKind.nearest .f32 n)) (ρ := ri b n 8 2) (ok_S2_8b b n h h0) (fun _ h => by cases h) (UI_ok (nearest_num n) hc hi) (run_S2_8b _ _ _ aR aS) rfl rfl rfl (vs := [.int .i64 2, agV 8 b]) rfl rfl rfl w hG⟩
def L_S3_8p : List CF := [⟨.neq, .var 2, .lit 0, false⟩,
  ⟨.lss, .var 3, .lit 0, false⟩,
  ⟨.neq, .lit 0, .var 2, false⟩,
  ⟨.lss, .lit 4294967295, .var 3, false⟩,
  ⟨.lss, .var 4, .lit 0, false⟩,
  ⟨.gtr, .var 0, .lit 4294967295, false⟩]
theorem ok_S3_8p (b n : Int) (h : HN 8 b n) (h0 : 0 ≤ n) (h1 : n ≤ 4294967295) : ∀ f ∈ L_S3_8p, f.ok (ri b n 8 3) := by
  obtain ⟨hb0, hb1, hn, l0, l1⟩ := h
  intro f hf
  simp only [L_S3_8p, List.mem_cons, List.not_mem_nil, or_false] at hf
  rcases hf with rfl | rfl | rfl | rfl | rfl | rfl
  · exact ⟨rfl, cmp_neq_f (by simp (disch := omega) only [IE.ev, ri, rc_2, hiI_pos] <;> omega)⟩
  · exact ⟨rfl, cmp_lss_f (by simp (disch := omega) only [IE.ev, ri, rc_3, loI] <;> omega)⟩
  · exact ⟨rfl, cmp_neq_f (by simp (disch := omega) only [IE.ev, ri, rc_2, hiI_pos] <;> omega)⟩
  · exact ⟨rfl, cmp_lss_f (by simp (disch := omega) only [IE.ev, ri, rc_3, loI] <;> omega)⟩
  · exact ⟨rfl, cmp_lss_f (by simp (disch := omega) only [IE.ev, ri, rc_4, wrap_i64] <;> omega)⟩
  · exact ⟨rfl, cmp_gtr_f (by simp (disch := omega) only [IE.ev, ri, rc_0] <;> omega)⟩
theorem run_S3_8p : RunE L_S3_8p [] (UI 8) [(7, [.v (.int .i64 3), ag0 8], .tuple [.agg [.v (.int .i64 3), .sym (.int .u64 (.sh .shr .u64 (.sh .shl .u64 (.var 3) (.lit 32)) (.lit 32)))], .v (.int .i64 0)]), (8, [.v (.int .i64 3), ag0 8], .tuple [.agg [.v (.int .i64 3), .sym (.int .u64 (.bin .and .u64 (.var 0) (.lit 4294967295)))], .v (.int .i64 0)])] := fun W C ρ aR aS => by unfold runE; kernel_rfl
theorem ag_S3_8p {aR aS : Addr} (b n : Int) (h : HN 8 b n) (h0 : 0 ≤ n) (h1 : n ≤ 4294967295) (hc : Chk aR aS 8 b 0) (hi : IntV aR aS 8 b n) : AgS aR aS 3 8 b := by
  have e : (IE.ev (ri b n 8 3) (.bin .and .u64 (.var 0) (.lit 4294967295)) : Int) = IE.ev (ri b n 8 3) (.sh .shr .u64 (.sh .shl .u64 (.var 3) (.lit 32)) (.lit 32)) := by
    obtain ⟨hb0, hb1, hn, l0, l1⟩ := h
    simp (disch := omega) only [IE.ev, ri, rc_0, rc_3, loI, and_u64_32, shl_u64_32, shr_u64_32, wrap_u64] <;> omega
  exact ⟨3, IE.ev (ri b n 8 3) (.sh .shr .u64 (.sh .shl .u64 (.var 3) (.lit 32)) (.lit 32)), 0, fun w hG => pair_of (W := wF (FloatKind.nearest .f32 n)) (C := cF (FloatKind.nearest .f32 n)) (ρ := ri b n 8 3) (ok_S3_8p b n h h0 h1) (fun _ h => by cases h) (UI_ok (nearest_num n) hc hi) (run_S3_8p _ _ _ aR aS) rfl rfl rfl (vs := [.int .i64 3, agV 8 b]) rfl rfl (tupE 3 0 e) w hG⟩
def L_S5_8b : List CF := [⟨.neq, .var 2, .lit 18446744073709551615, false⟩,
  ⟨.lss, .var 3, .lit 18446744073709551488, true⟩,
  ⟨.lss, .var 4, .lit 0, true⟩,
  ⟨.lss, .var 4, .lit (-128), true⟩]
theorem ok_S5_8b (b n : Int) (h : HN 8 b n) (h0 : n < -128) : ∀ f ∈ L_S5_8b, f.ok (ri b n 8 5) := by
  obtain ⟨hb0, hb1, hn, l0, l1⟩ := h
  intro f hf
  simp only [L_S5_8b, List.mem_cons, List.not_mem_nil, or_false] at hf
  rcases hf with rfl | rfl | rfl | rfl
  · exact ⟨rfl, cmp_neq_f (by simp (disch := omega) only [IE.ev, ri, rc_2, hiI_neg] <;> omega)⟩
  · exact ⟨rfl, cmp_lss_t (by simp (disch := omega) only [IE.ev, ri, rc_3, loI] <;> omega)⟩
  · exact ⟨rfl, cmp_lss_t (by simp (disch := omega) only [IE.ev, ri, rc_4, wrap_i64] <;> omega)⟩
  · exact ⟨rfl, cmp_lss_t (by simp (disch := omega) only [IE.ev, ri, rc_4, wrap_i64] <;> omega)⟩
theorem run_S5_8b : RunE L_S5_8b [] (UI 8) [(7, [.v (.int .i64 5), ag0 8], .v (.tuple #[.agg #[.int .i64 5, .int .u64 128], .int .i64 0])), (8, [.v (.int .i64 5), ag0 8], .v (.tuple #[.agg #[.int .i64 5, .int .u64 128], .int .i64 0]))] := fun W C ρ aR aS => by unfold runE; kernel_rfl
theorem ag_S5_8b {aR aS : Addr} (b n : Int) (h : HN 8 b n) (h0 : n < -128) (hc : Chk aR aS 8 b 0) (hi : IntV aR aS 8 b n) : AgS aR aS 5 8 b := ⟨5, 128, 0, fun w hG => pair_of (W := wF (FloatKind.nearest .f32 n)) (C := cF (FloatKind.nearest .f32 n)) (ρ := ri b n 8 5) (ok_S5_8b b n h h0) (fun _ h => by cases h) (UI_ok (nearest_num n) hc hi) (run_S5_8b _ _ _ aR aS) rfl rfl rfl (vs := [.int .i64 5, agV 8 b]) rfl rfl rfl w hG⟩
def L_S6_8b : List CF := [⟨.neq, .var 2, .lit 18446744073709551615, false⟩,
  ⟨.lss, .var 3, .lit 18446744073709518848, true⟩,
  ⟨.lss, .var 4, .lit 0, true⟩,
  ⟨.lss, .var 4, .lit (-32768), true⟩]
theorem ok_S6_8b (b n : Int) (h : HN 8 b n) (h0 : n < -32768) : ∀ f ∈ L_S6_8b, f.ok (ri b n 8 6) := by
  obtain ⟨hb0, hb1, hn, l0, l1⟩ := h
  intro f hf
  simp only [L_S6_8b, List.mem_cons, List.not_mem_nil, or_false] at hf
  rcases hf with rfl | rfl | rfl | rfl
  · exact ⟨rfl, cmp_neq_f (by simp (disch := omega) only [IE.ev, ri, rc_2, hiI_neg] <;> omega)⟩
  · exact ⟨rfl, cmp_lss_t (by simp (disch := omega) only [IE.ev, ri, rc_3, loI] <;> omega)⟩
  · exact ⟨rfl, cmp_lss_t (by simp (disch := omega) only [IE.ev, ri, rc_4, wrap_i64] <;> omega)⟩
  · exact ⟨rfl, cmp_lss_t (by simp (disch := omega) only [IE.ev, ri, rc_4, wrap_i64] <;> omega)⟩
theorem run_S6_8b : RunE L_S6_8b [] (UI 8) [(7, [.v (.int .i64 6), ag0 8], .v (.tuple #[.agg #[.int .i64 6, .int .u64 32768], .int .i64 0])), (8, [.v (.int .i64 6), ag0 8], .v (.tuple #[.agg #[.int .i64 6, .int .u64 32768], .int .i64 0]))] := fun W C ρ aR aS => by unfold runE; kernel_rfl
theorem ag_S6_8b {aR aS : Addr} (b n : Int) (h : HN 8 b n) (h0 : n < -32768) (hc : Chk aR aS 8 b 0) (hi : IntV aR aS 8 b n) : AgS aR aS 6 8 b := ⟨6, 32768, 0, fun w hG => pair_of (W := wF (FloatKind.nearest .f32 n)) (C := cF (FloatKind.nearest .f32 n)) (ρ := ri b n 8 6) (ok_S6_8b b n h h0) (fun _ h => by cases h) (UI_ok (nearest_num n) hc hi) (run_S6_8b _ _ _ aR aS) rfl rfl rfl (vs := [.int .i64 6, agV 8 b]) rfl rfl rfl w hG⟩
def L_S7_8b : List CF := [⟨.neq, .var 2, .lit 18446744073709551615, false⟩,
  ⟨.lss, .var 3, .lit 18446744071562067968, true⟩,
  ⟨.lss, .var 4, .lit 0, true⟩,
  ⟨.lss, .var 4, .lit (-2147483648), true⟩]
theorem ok_S7_8b (b n : Int) (h : HN 8 b n) (h0 : n < -2147483648) : ∀ f ∈ L_S7_8b, f.ok (ri b n 8 7) := by
  obtain ⟨hb0, hb1, hn, l0, l1⟩ := h
  intro f hf
  simp only [L_S7_8b, List.mem_cons, List.not_mem_nil, or_false] at hf
  rcases hf with rfl | rfl | rfl | rfl
  · exact ⟨rfl, cmp_neq_f (by simp (disch := omega) only [IE.ev, ri, rc_2, hiI_neg] <;> omega)⟩
  · exact ⟨rfl, cmp_lss_t (by simp (disch := omega) only [IE.ev, ri, rc_3, loI] <;> omega)⟩
  · exact ⟨rfl, cmp_lss_t (by simp (disch := omega) only [IE.ev, ri, rc_4, wrap_i64] <;> omega)⟩
  · exact ⟨rfl, cmp_lss_t (by simp (disch := omega) only [IE.ev, ri, rc_4, wrap_i64] <;> omega)⟩
theorem run_S7_8b : RunE L_S7_8b [] (UI 8) [(7, [.v (.int .i64 7), ag0 8], .v (.tuple #[.agg #[.int .i64 7, .int .u64 2147483648], .int .i64 0])), (8, [.v (.int .i64 7), ag0 8], .v (.tuple #[.agg #[.int .i64 7, .int .u64 2147483648], .int .i64 0]))] := fun W C ρ aR aS => by unfold runE; kernel_rfl
theorem ag_S7_8b {aR aS : Addr} (b n : Int) (h : HN 8 b n) (h0 : n < -2147483648) (hc : Chk aR aS 8 b 0) (hi : IntV aR aS 8 b n) : AgS aR aS 7 8 b := ⟨7, 2147483648, 0, fun w hG => pair_of (W := wF (FloatKind.nearest .f32 n)) (C := cF (FloatKind.nearest .f32 n)) (ρ := ri b n 8 7) (ok_S7_8b b n h h0) (fun _ h => by cases h) (UI_ok (nearest_num n) hc hi) (run_S7_8b _ _ _ aR aS) rfl rfl rfl (vs := [.int .i64 7, agV 8 b]) rfl rfl rfl w hG⟩
def L_S8_8m : List CF := [⟨.neq, .var 2, .lit 18446744073709551615, false⟩,
  ⟨.lss, .var 3, .lit 9223372036854775808, false⟩,
  ⟨.neq, .lit 0, .var 2, true⟩,
  ⟨.lss, .lit 0, (.cv .i64 (.var 2)), false⟩,
  ⟨.lss, .var 4, .lit 0, true⟩,
  ⟨.lss, .var 4, .lit (-9223372036854775808), false⟩]
theorem ok_S8_8m (b n : Int) (h : HN 8 b n) (h0 : -9223372036854775808 ≤ n) (h1 : n < 0) : ∀ f ∈ L_S8_8m, f.ok (ri b n 8 8) := by
  obtain ⟨hb0, hb1, hn, l0, l1⟩ := h
  intro f hf
  simp only [L_S8_8m, List.mem_cons, List.not_mem_nil, or_false] at hf
  rcases hf with rfl | rfl | rfl | rfl | rfl | rfl
  · exact ⟨rfl, cmp_neq_f (by simp (disch := omega) only [IE.ev, ri, rc_2, hiI_neg] <;> omega)⟩
  · exact ⟨rfl, cmp_lss_f (by simp (disch := omega) only [IE.ev, ri, rc_3, loI] <;> omega)⟩
  · exact ⟨rfl, cmp_neq_t (by simp (disch := omega) only [IE.ev, ri, rc_2, hiI_neg] <;> omega)⟩
  · exact ⟨rfl, cmp_lss_f (by simp (disch := omega) only [IE.ev, ri, rc_2, hiI_neg, wrap_i64] <;> omega)⟩
  · exact ⟨rfl, cmp_lss_t (by simp (disch := omega) only [IE.ev, ri, rc_4, wrap_i64] <;> omega)⟩
  · exact ⟨rfl, cmp_lss_f (by simp (disch := omega) only [IE.ev, ri, rc_4, wrap_i64] <;> omega)⟩
theorem run_S8_8m : RunE L_S8_8m [] (UI 8) [(7, [.v (.int .i64 8), ag0 8], .tuple [.agg [.v (.int .i64 8), .sym (.int .u64 (.sh .shr .u64 (.sh .shl .u64 (.var 3) (.lit 0)) (.lit 0)))], .v (.int .i64 0)]), (8, [.v (.int .i64 8), ag0 8], .tuple [.agg [.v (.int .i64 8), .sym (.int .u64 (.bin .and .u64 (.bin .or .u64 (.var 0) (.lit 0)) (.lit 18446744073709551615)))], .v (.int .i64 0)])] := fun W C ρ aR aS => by unfold runE; kernel_rfl
theorem ag_S8_8m {aR aS : Addr} (b n : Int) (h : HN 8 b n) (h0 : -9223372036854775808 ≤ n) (h1 : n < 0) (hc : Chk aR aS 8 b 0) (hi : IntV aR aS 8 b n) : AgS aR aS 8 8 b := by
  have e : (IE.ev (ri b n 8 8) (.bin .and .u64 (.bin .or .u64 (.var 0) (.lit 0)) (.lit 18446744073709551615)) : Int) = IE.ev (ri b n 8 8) (.sh .shr .u64 (.sh .shl .u64 (.var 3) (.lit 0)) (.lit 0)) := by
    obtain ⟨hb0, hb1, hn, l0, l1⟩ := h
    simp (disch := omega) only [IE.ev, ri, rc_0, rc_3, loI, and_u64_64, or_u64_64, shl_u64_0, shr_u64_0, wrap_u64] <;> omega
  exact ⟨8, IE.ev (ri b n 8 8) (.sh .shr .u64 (.sh .shl .u64 (.var 3) (.lit 0)) (.lit 0)), 0, fun w hG => pair_of (W := wF (FloatKind.nearest .f32 n)) (C := cF (FloatKind.nearest .f32 n)) (ρ := ri b n 8 8) (ok_S8_8m b n h h0 h1) (fun _ h => by cases h) (UI_ok (nearest_num n) hc hi) (run_S8_8m _ _ _ aR aS) rfl rfl rfl (vs := [.int .i64 8, agV 8 b]) rfl rfl (tupE 8 0 e) w hG⟩
def L_S1_9bb : List CF := []
theorem run_S1_9bb : RunE L_S1_9bb T_C1_9bb UF [(7, [.v (.int .i64 1), ag0 9], .v (.tuple #[.agg #[.int .i64 1, .int .u64 0], .int .i64 0])), (8, [.v (.int .i64 1), ag0 9], .v (.tuple #[.agg #[.int .i64 1, .int .u64 0], .int .i64 0]))] := fun W C ρ aR aS => by unfold runE; kernel_rfl
theorem ag_S1_9bb {aR aS : Addr} (F : Nat) (h : HF F) (h0 : tB F < 0) (h1 : keyB F ≤ 0) (hc : Chk aR aS 9 F 0) : AgS aR aS 1 9 (F : Int) := ⟨1, 0, 0, fun w hG => pair_of (W := wF F) (C := cF F) (ρ := rf F 1) (fun _ h => by cases h) (tk_C1_9bb F h h0 h1) (UF_ok h.1 h.2.1 h.2.2 hc) (run_S1_9bb _ _ _ aR aS) rfl rfl rfl (vs := [.int .i64 1, agV 9 (F : Int)]) rfl rfl rfl w hG⟩
def L_S1_9aa : List CF := []
theorem run_S1_9aa : RunE L_S1_9aa T_C1_9aa UF [(7, [.v (.int .i64 1), ag0 9], .v (.tuple #[.agg #[.int .i64 1, .int .u64 255], .int .i64 0])), (8, [.v (.int .i64 1), ag0 9], .v (.tuple #[.agg #[.int .i64 1, .int .u64 255], .int .i64 0]))] := fun W C ρ aR aS => by unfold runE; kernel_rfl
theorem ag_S1_9aa {aR aS : Addr} (F : Nat) (h : HF F) (h0 : 256 ≤ tB F) (h1 : 1132396544 ≤ keyB F) (hc : Chk aR aS 9 F 0) : AgS aR aS 1 9 (F : Int) := ⟨1, 255, 0, fun w hG => pair_of (W := wF F) (C := cF F) (ρ := rf F 1) (fun _ h => by cases h) (tk_C1_9aa F h h0 h1) (UF_ok h.1 h.2.1 h.2.2 hc) (run_S1_9aa _ _ _ aR aS) rfl rfl rfl (vs := [.int .i64 1, agV 9 (F : Int)]) rfl rfl rfl w hG⟩
def L_S2_9ia : List CF := []
theorem run_S2_9ia : RunE L_S2_9ia T_C2_9ia UF [(7, [.v (.int .i64 2), ag0 9], .tuple [.agg [.v (.int .i64 2), .sym (.int .u64 (.sh .shr .u64 (.sh .shl .u64 (.var 8) (.lit 48)) (.lit 48)))], .v (.int .i64 0)]), (8, [.v (.int .i64 2), ag0 9], .v (.tuple #[.agg #[.int .i64 2, .int .u64 65535], .int .i64 0]))] := fun W C ρ aR aS => by unfold runE; kernel_rfl
theorem ag_S2_9ia {aR aS : Addr} (F : Nat) (h : HF F) (h0 : tB F = 65535) (h1 : 0 < keyB F) (h2 : 1199570688 ≤ keyB F) (hc : Chk aR aS 9 F 0) : AgS aR aS 2 9 (F : Int) := by
  have e : (65535 : Int) = IE.ev (rf F 2) (.sh .shr .u64 (.sh .shl .u64 (.var 8) (.lit 48)) (.lit 48)) := by
    obtain ⟨hF, hr, hz⟩ := h
    simp (disch := omega) only [IE.ev, rf, rc_8, shl_u64_48, shr_u64_48, wrap_u64] <;> omega
  exact ⟨2, IE.ev (rf F 2) (.sh .shr .u64 (.sh .shl .u64 (.var 8) (.lit 48)) (.lit 48)), 0, fun w hG => pair_of (W := wF F) (C := cF F) (ρ := rf F 2) (fun _ h => by cases h) (tk_C2_9ia F h h0 h1 h2) (UF_ok h.1 h.2.1 h.2.2 hc) (run_S2_9ia _ _ _ aR aS) rfl rfl rfl (vs := [.int .i64 2, agV 9 (F : Int)]) rfl rfl (tupE 2 0 e) w hG⟩
def L_S3_9ii : List CF := []
theorem run_S3_9ii : RunE L_S3_9ii T_C3_9ii UF [(7, [.v (.int .i64 3), ag0 9], .tuple [.agg [.v (.int .i64 3), .sym (.int .u64 (.sh .shr .u64 (.sh .shl .u64 (.var 8) (.lit 32)) (.lit 32)))], .v (.int .i64 0)]), (8, [.v (.int .i64 3), ag0 9], .tuple [.agg [.v (.int .i64 3), .sym (.int .u64 (.bin .and .u64 (.var 8) (.lit 4294967295)))], .v (.int .i64 0)])] := fun W C ρ aR aS => by unfold runE; kernel_rfl
theorem ag_S3_9ii {aR aS : Addr} (F : Nat) (h : HF F) (h0 : 0 ≤ tB F) (h1 : tB F < 4294967296) (h2 : 0 < keyB F) (h3 : keyB F < 1333788672) (hc : Chk aR aS 9 F 0) : AgS aR aS 3 9 (F : Int) := by
  have e : (IE.ev (rf F 3) (.bin .and .u64 (.var 8) (.lit 4294967295)) : Int) = IE.ev (rf F 3) (.sh .shr .u64 (.sh .shl .u64 (.var 8) (.lit 32)) (.lit 32)) := by
    obtain ⟨hF, hr, hz⟩ := h
    simp (disch := omega) only [IE.ev, rf, rc_8, and_u64_32, shl_u64_32, shr_u64_32, wrap_u64] <;> omega
  exact ⟨3, IE.ev (rf F 3) (.sh .shr .u64 (.sh .shl .u64 (.var 8) (.lit 32)) (.lit 32)), 0, fun w hG => pair_of (W := wF F) (C := cF F) (ρ := rf F 3) (fun _ h => by cases h) (tk_C3_9ii F h h0 h1 h2 h3) (UF_ok h.1 h.2.1 h.2.2 hc) (run_S3_9ii _ _ _ aR aS) rfl rfl rfl (vs := [.int .i64 3, agV 9 (F : Int)]) rfl rfl (tupE 3 0 e) w hG⟩
def L_S4_9ii : List CF := []
theorem run_S4_9ii : RunE L_S4_9ii T_C4_9ii UF [(7, [.v (.int .i64 4), ag0 9], .tuple [.agg [.v (.int .i64 4), .sym (.int .u64 (.sh .shr .u64 (.sh .shl .u64 (.var 8) (.lit 0)) (.lit 0)))], .v (.int .i64 0)]), (8, [.v (.int .i64 4), ag0 9], .tuple [.agg [.v (.int .i64 4), .sym (.int .u64 (.bin .and .u64 (.var 8) (.lit 18446744073709551615)))], .v (.int .i64 0)])] := fun W C ρ aR aS => by unfold runE; kernel_rfl
theorem ag_S4_9ii {aR aS : Addr} (F : Nat) (h : HF F) (h0 : 0 ≤ tB F) (h1 : tB F < 18446744073709551616) (h2 : 0 < keyB F) (h3 : keyB F < 1602224128) (hc : Chk aR aS 9 F 0) : AgS aR aS 4 9 (F : Int) := by
  have e : (IE.ev (rf F 4) (.bin .and .u64 (.var 8) (.lit 18446744073709551615)) : Int) = IE.ev (rf F 4) (.sh .shr .u64 (.sh .shl .u64 (.var 8) (.lit 0)) (.lit 0)) := by
    obtain ⟨hF, hr, hz⟩ := h
    simp (disch := omega) only [IE.ev, rf, rc_8, and_u64_64, shl_u64_0, shr_u64_0, wrap_u64] <;> omega
  exact ⟨4, IE.ev (rf F 4) (.sh .shr .u64 (.sh .shl .u64 (.var 8) (.lit 0)) (.lit 0)), 0, fun w hG => pair_of (W := wF F) (C := cF F) (ρ := rf F 4) (fun _ h => by cases h) (tk_C4_9ii F h h0 h1 h2 h3) (UF_ok h.1 h.2.1 h.2.2 hc) (run_S4_9ii _ _ _ aR aS) rfl rfl rfl (vs := [.int .i64 4, agV 9 (F : Int)]) rfl rfl (tupE 4 0 e) w hG⟩
def L_S5_9ii : List CF := []
theorem run_S5_9ii : RunE L_S5_9ii T_C5_9ii UF [(7, [.v (.int .i64 5), ag0 9], .tuple [.agg [.v (.int .i64 5), .sym (.int .u64 (.sh .shr .u64 (.sh .shl .u64 (.cv .u64 (.var 8)) (.lit 56)) (.lit 56)))], .v (.int .i64 0)]), (8, [.v (.int .i64 5), ag0 9], .tuple [.agg [.v (.int .i64 5), .sym (.int .u64 (.bin .and .u64 (.cv .u64 (.var 8)) (.lit 255)))], .v (.int .i64 0)])] := fun W C ρ aR aS => by unfold runE; kernel_rfl
theorem ag_S5_9ii {aR aS : Addr} (F : Nat) (h : HF F) (h0 : -128 ≤ tB F) (h1 : tB F < 128) (h2 : -1124073472 < keyB F) (h3 : keyB F < 1123942400) (hc : Chk aR aS 9 F 0) : AgS aR aS 5 9 (F : Int) := by
  have e : (IE.ev (rf F 5) (.bin .and .u64 (.cv .u64 (.var 8)) (.lit 255)) : Int) = IE.ev (rf F 5) (.sh .shr .u64 (.sh .shl .u64 (.cv .u64 (.var 8)) (.lit 56)) (.lit 56)) := by
    obtain ⟨hF, hr, hz⟩ := h
    simp (disch := omega) only [IE.ev, rf, rc_8, and_u64_8, shl_u64_56, shr_u64_56, wrap_u64] <;> omega
  exact ⟨5, IE.ev (rf F 5) (.sh .shr .u64 (.sh .shl .u64 (.cv .u64 (.var 8)) (.lit 56)) (.lit 56)), 0, fun w hG => pair_of (W := wF F) (C := cF F) (ρ := rf F 5) (fun _ h => by cases h) (tk_C5_9ii F h h0 h1 h2 h3) (UF_ok h.1 h.2.1 h.2.2 hc) (run_S5_9ii _ _ _ aR aS) rfl rfl rfl (vs := [.int .i64 5, agV 9 (F : Int)]) rfl rfl (tupE 5 0 e) w hG⟩
def L_S6_9ib : List CF := []
theorem run_S6_9ib : RunE L_S6_9ib T_C6_9ib UF [(7, [.v (.int .i64 6), ag0 9], .tuple [.agg [.v (.int .i64 6), .sym (.int .u64 (.sh .shr .u64 (.sh .shl .u64 (.cv .u64 (.var 8)) (.lit 48)) (.lit 48)))], .v (.int .i64 0)]), (8, [.v (.int .i64 6), ag0 9], .v (.tuple #[.agg #[.int .i64 6, .int .u64 32768], .int .i64 0]))] := fun W C ρ aR aS => by unfold runE; kernel_rfl
theorem ag_S6_9ib {aR aS : Addr} (F : Nat) (h : HF F) (h0 : tB F = (-32768)) (h1 : keyB F ≤ -1191182336) (hc : Chk aR aS 9 F 0) : AgS aR aS 6 9 (F : Int) := by
  have e : (32768 : Int) = IE.ev (rf F 6) (.sh .shr .u64 (.sh .shl .u64 (.cv .u64 (.var 8)) (.lit 48)) (.lit 48)) := by
    obtain ⟨hF, hr, hz⟩ := h
    simp (disch := omega) only [IE.ev, rf, rc_8, shl_u64_48, shr_u64_48, wrap_u64] <;> omega
  exact ⟨6, IE.ev (rf F 6) (.sh .shr .u64 (.sh .shl .u64 (.cv .u64 (.var 8)) (.lit 48)) (.lit 48)), 0, fun w hG => pair_of (W := wF F) (C := cF F) (ρ := rf F 6) (fun _ h => by cases h) (tk_C6_9ib F h h0 h1) (UF_ok h.1 h.2.1 h.2.2 hc) (run_S6_9ib _ _ _ aR aS) rfl rfl rfl (vs := [.int .i64 6, agV 9 (F : Int)]) rfl rfl (tupE 6 0 e) w hG⟩
def L_S7_9bb : List CF := []
theorem run_S7_9bb : RunE L_S7_9bb T_C7_9bb UF [(7, [.v (.int .i64 7), ag0 9], .v (.tuple #[.agg #[.int .i64 7, .int .u64 2147483648], .int .i64 0])), (8, [.v (.int .i64 7), ag0 9], .v (.tuple #[.agg #[.int .i64 7, .int .u64 2147483648], .int .i64 0]))] := fun W C ρ aR aS => by unfold runE; kernel_rfl
theorem ag_S7_9bb {aR aS : Addr} (F : Nat) (h : HF F) (h0 : tB F < -2147483648) (h1 : keyB F ≤ -1325400064) (hc : Chk aR aS 9 F 0) : AgS aR aS 7 9 (F : Int) := ⟨7, 2147483648, 0, fun w hG => pair_of (W := wF F) (C := cF F) (ρ := rf F 7) (fun _ h => by cases h) (tk_C7_9bb F h h0 h1) (UF_ok h.1 h.2.1 h.2.2 hc) (run_S7_9bb _ _ _ aR aS) rfl rfl rfl (vs := [.int .i64 7, agV 9 (F : Int)]) rfl rfl rfl w hG⟩
def L_S8_9bb : List CF := []
theorem run_S8_9bb : RunE L_S8_9bb T_C8_9bb UF [(7, [.v (.int .i64 8), ag0 9], .v (.tuple #[.agg #[.int .i64 8, .int .u64 9223372036854775808], .int .i64 0])), (8, [.v (.int .i64 8), ag0 9], .v (.tuple #[.agg #[.int .i64 8, .int .u64 9223372036854775808], .int .i64 0]))] := fun W C ρ aR aS => by unfold runE; kernel_rfl
theorem ag_S8_9bb {aR aS : Addr} (F : Nat) (h : HF F) (h0 : tB F < -9223372036854775808) (h1 : keyB F ≤ -1593835520) (hc : Chk aR aS 9 F 0) : AgS aR aS 8 9 (F : Int) := ⟨8, 9223372036854775808, 0, fun w hG => pair_of (W := wF F) (C := cF F) (ρ := rf F 8) (fun _ h => by cases h) (tk_C8_9bb F h h0 h1) (UF_ok h.1 h.2.1 h.2.2 hc) (run_S8_9bb _ _ _ aR aS) rfl rfl rfl (vs := [.int .i64 8, agV 9 (F : Int)]) rfl rfl rfl w hG⟩
def L_S0_9e : List CF := []
theorem run_S0_9e : RunE L_S0_9e [] UF [(7, [.v (.int .i64 0), ag0 9], .v (.tuple #[.agg #[.int .i64 0, .int .u64 0], .int .i64 12])), (8, [.v (.int .i64 0), ag0 9], .v (.tuple #[.agg #[.int .i64 0, .int .u64 0], .int .i64 12]))] := fun W C ρ aR aS => by unfold runE; kernel_rfl
theorem ag_S0_9e {aR aS : Addr} (F : Nat) (h : HF F)  (hc : Chk aR aS 9 F 0) : AgS aR aS 0 9 (F : Int) := ⟨0, 0, 12, fun w hG => pair_of (W := wF F) (C := cF F) (ρ := rf F 0) (fun _ h => by cases h) (fun _ h => by cases h) (UF_ok h.1 h.2.1 h.2.2 hc) (run_S0_9e _ _ _ aR aS) rfl rfl rfl (vs := [.int .i64 0, agV 9 (F : Int)]) rfl rfl rfl w hG⟩
def L_S0_10 : List CF := []
theorem run_S0_10 : RunE L_S0_10 [] (UC 10) [(7, [.v (.int .i64 0), ag0 10], .v (.tuple #[.agg #[.int .i64 0, .int .u64 0], .int .i64 12])), (8, [.v (.int .i64 0), ag0 10], .v (.tuple #[.agg #[.int .i64 0, .int .u64 0], .int .i64 12]))] := fun W C ρ aR aS => by unfold runE; kernel_rfl
theorem ag_S0_10 {aR aS : Addr} (b : Int) (hc : Chk aR aS 10 b 0) : AgS aR aS 0 10 b := ⟨0, 0, 12, fun w hG => pair_of (W := wF 0) (C := cF 0) (ρ := rc b 0 0 0 10 0 0) (fun _ h => by cases h) (fun _ h => by cases h) (UC_ok hc) (run_S0_10 _ _ _ aR aS) rfl rfl rfl (vs := [.int .i64 0, agV 10 b]) rfl rfl rfl w hG⟩
def L_S2_10 : List CF := []
theorem run_S2_10 : RunE L_S2_10 [] (UC 10) [(7, [.v (.int .i64 2), ag0 10], .v (.tuple #[.agg #[.int .i64 0, .int .u64 0], .int .i64 12])), (8, [.v (.int .i64 2), ag0 10], .v (.tuple #[.agg #[.int .i64 0, .int .u64 0], .int .i64 12]))] := fun W C ρ aR aS => by unfold runE; kernel_rfl
theorem ag_S2_10 {aR aS : Addr} (b : Int) (hc : Chk aR aS 10 b 0) : AgS aR aS 2 10 b := ⟨0, 0, 12, fun w hG => pair_of (W := wF 0) (C := cF 0) (ρ := rc b 0 0 0 10 2 0) (fun _ h => by cases h) (fun _ h => by cases h) (UC_ok hc) (run_S2_10 _ _ _ aR aS) rfl rfl rfl (vs := [.int .i64 2, agV 10 b]) rfl rfl rfl w hG⟩
def L_S4_10 : List CF := []
theorem run_S4_10 : RunE L_S4_10 [] (UC 10) [(7, [.v (.int .i64 4), ag0 10], .v (.tuple #[.agg #[.int .i64 0, .int .u64 0], .int .i64 12])), (8, [.v (.int .i64 4), ag0 10], .v (.tuple #[.agg #[.int .i64 0, .int .u64 0], .int .i64 12]))] := fun W C ρ aR aS => by unfold runE; kernel_rfl
theorem ag_S4_10 {aR aS : Addr} (b : Int) (hc : Chk aR aS 10 b 0) : AgS aR aS 4 10 b := ⟨0, 0, 12, fun w hG => pair_of (W := wF 0) (C := cF 0) (ρ := rc b 0 0 0 10 4 0) (fun _ h => by cases h) (fun _ h => by cases h) (UC_ok hc) (run_S4_10 _ _ _ aR aS) rfl rfl rfl (vs := [.int .i64 4, agV 10 b]) rfl rfl rfl w hG⟩
def L_S6_10 : List CF := []
theorem run_S6_10 : RunE L_S6_10 [] (UC 10) [(7, [.v (.int .i64 6), ag0 10], .v (.tuple #[.agg #[.int .i64 0, .int .u64 0], .int .i64 12])), (8, [.v (.int .i64 6), ag0 10], .v (.tuple #[.agg #[.int .i64 0, .int .u64 0], .int .i64 12]))] := fun W C ρ aR aS => by unfold runE; kernel_rfl
theorem ag_S6_10 {aR aS : Addr} (b : Int) (hc : Chk aR aS 10 b 0) : AgS aR aS 6 10 b := ⟨0, 0, 12, fun w hG => pair_of (W := wF 0) (C := cF 0) (ρ := rc b 0 0 0 10 6 0) (fun _ h => by cases h) (fun _ h => by cases h) (UC_ok hc) (run_S6_10 _ _ _ aR aS) rfl rfl rfl (vs := [.int .i64 6, agV 10 b]) rfl rfl rfl w hG⟩
def L_S8_10 : List CF := []
theorem run_S8_10 : RunE L_S8_10 [] (UC 10) [(7, [.v (.int .i64 8), ag0 10], .v (.tuple #[.agg #[.int .i64 0, .int .u64 0], .int .i64 12])), (8, [.v (.int .i64 8), ag0 10], .v (.tuple #[.agg #[.int .i64 0, .int .u64 0], .int .i64 12]))] := fun W C ρ aR aS => by unfold runE; kernel_rfl
theorem ag_S8_10 {aR aS : Addr} (b : Int) (hc : Chk aR aS 10 b 0) : AgS aR aS 8 10 b := ⟨0, 0, 12, fun w hG => pair_of (W := wF 0) (C := cF 0) (ρ := rc b 0 0 0 10 8 0) (fun _ h => by cases h) (fun _ h => by cases h) (UC_ok hc) (run_S8_10 _ _ _ aR aS) rfl rfl rfl (vs := [.int .i64 8, agV 10 b]) rfl rfl rfl w hG⟩
def L_S10_10 : List CF := []
theorem run_S10_10 : RunE L_S10_10 [] (UC 10) [(7, [.v (.int .i64 10), ag0 10], .v (.tuple #[.agg #[.int .i64 0, .int .u64 0], .int .i64 12])), (8, [.v (.int .i64 10), ag0 10], .v (.tuple #[.agg #[.int .i64 0, .int .u64 0], .int .i64 12]))] := fun W C ρ aR aS => by unfold runE; kernel_rfl
theorem ag_S10_10 {aR aS : Addr} (b : Int) (hc : Chk aR aS 10 b 0) : AgS aR aS 10 10 b := ⟨0, 0, 12, fun w hG => pair_of (W := wF 0) (C := cF 0) (ρ := rc b 0 0 0 10 10 0) (fun _ h => by cases h) (fun _ h => by cases h) (UC_ok hc) (run_S10_10 _ _ _ aR aS) rfl rfl rfl (vs := [.int .i64 10, agV 10 b]) rfl rfl rfl w hG⟩
end
end Go.Proofs.YtbhhdjlmbmeiaaaGreatDoor
