import Derived.Test.YtbhhdjlmbmeiaaaGreatDoorHT
namespace Go.Proofs.YtbhhdjlmbmeiaaaGreatDoor
noncomputable section
open Go Go.RX
open Go.RowKit (Below)
set_option maxRecDepth 1000000
set_option maxHeartbeats 4000000
def L_C1_0 : List CF := []
theorem run_C1_0 : RunE L_C1_0 T_C1_0 (UI 0) [(5, [.v (.int .i64 1), ag0 0], .tuple [.agg [.v (.int .i64 1), .sym (.int .u64 (.sh .shr .u64 (.sh .shl .u64 (.var 3) (.lit 56)) (.lit 56)))], .v (.int .i64 0)]), (6, [.v (.int .i64 1), ag0 0], .tuple [.agg [.v (.int .i64 1), .sym (.int .u64 (.bin .and .u64 (.cv .u64 (.var 4)) (.lit 255)))], .v (.int .i64 0)])] := fun W C ρ aR aS => by unfold runE; kernel_rfl
theorem ag_C1_0 {aR aS : Addr} (b n : Int) (h : HN 0 b n)  (hc : Chk aR aS 0 b 0) (hi : IntV aR aS 0 b n) : AgC aR aS 1 0 b := by
  have e : (IE.ev (ri b n 0 1) (.bin .and .u64 (.cv .u64 (.var 4)) (.lit 255)) : Int) = IE.ev (ri b n 0 1) (.sh .shr .u64 (.sh .shl .u64 (.var 3) (.lit 56)) (.lit 56)) := by
    obtain ⟨hb0, hb1, hn, l0, l1⟩ := h
    simp (disch := omega) only [IE.ev, ri, rc_3, rc_4, loI, and_u64_8, shl_u64_56, shr_u64_56, wrap_i64, wrap_u64] <;> omega
  exact ⟨1, IE.ev (ri b n 0 1) (.sh .shr .u64 (.sh .shl .u64 (.var 3) (.lit 56)) (.lit 56)), 0, fun w hG => pair_of (W := wF (FloatKind.nearest .f32 n)) (C := cF (FloatKind.nearest .f32 n)) (ρ := ri b n 0 1) (fun _ h => by cases h) (tk_C1_0 b n h ) (UI_ok (nearest_num n) hc hi) (run_C1_0 _ _ _ aR aS) rfl rfl rfl (vs := [.int .i64 1, agV 0 b]) rfl rfl (tupE 1 0 e) w hG⟩
def L_C5_0 : List CF := []
theorem run_C5_0 : RunE L_C5_0 T_C1_0 (UI 0) [(5, [.v (.int .i64 5), ag0 0], .tuple [.agg [.v (.int .i64 5), .sym (.int .u64 (.sh .shr .u64 (.sh .shl .u64 (.var 3) (.lit 56)) (.lit 56)))], .v (.int .i64 0)]), (6, [.v (.int .i64 5), ag0 0], .tuple [.agg [.v (.int .i64 5), .sym (.int .u64 (.bin .and .u64 (.cv .u64 (.var 4)) (.lit 255)))], .v (.int .i64 0)])] := fun W C ρ aR aS => by unfold runE; kernel_rfl
theorem ag_C5_0 {aR aS : Addr} (b n : Int) (h : HN 0 b n)  (hc : Chk aR aS 0 b 0) (hi : IntV aR aS 0 b n) : AgC aR aS 5 0 b := by
  have e : (IE.ev (ri b n 0 5) (.bin .and .u64 (.cv .u64 (.var 4)) (.lit 255)) : Int) = IE.ev (ri b n 0 5) (.sh .shr .u64 (.sh .shl .u64 (.var 3) (.lit 56)) (.lit 56)) := by
    obtain ⟨hb0, hb1, hn, l0, l1⟩ := h
    simp (disch := omega) only [IE.ev, ri, rc_3, rc_4, loI, and_u64_8, shl_u64_56, shr_u64_56, wrap_i64, wrap_u64] <;> omega
  exact ⟨5, IE.ev (ri b n 0 5) (.sh .shr .u64 (.sh .shl .u64 (.var 3) (.lit 56)) (.lit 56)), 0, fun w hG => pair_of (W := wF (FloatKind.nearest .f32 n)) (C := cF (FloatKind.nearest .f32 n)) (ρ := ri b n 0 5) (fun _ h => by cases h) (tk_C1_0 b n h ) (UI_ok (nearest_num n) hc hi) (run_C5_0 _ _ _ aR aS) rfl rfl rfl (vs := [.int .i64 5, agV 0 b]) rfl rfl (tupE 5 0 e) w hG⟩
def L_C0_0z : List CF := [⟨.neq, .var 0, .lit 0, false⟩]
theorem ok_C0_0z (b n : Int) (h : HN 0 b n) (h0 : b = 0) : ∀ f ∈ L_C0_0z, f.ok (ri b n 0 0) := by
  obtain ⟨hb0, hb1, hn, l0, l1⟩ := h
  intro f hf
  simp only [L_C0_0z, List.mem_cons, List.not_mem_nil, or_false] at hf
  subst hf
  · exact ⟨rfl, cmp_neq_f (by simp (disch := omega) only [IE.ev, ri, rc_0] <;> omega)⟩
theorem run_C0_0z : RunE L_C0_0z [] (UI 0) [(5, [.v (.int .i64 0), ag0 0], .tuple [.agg [.v (.int .i64 0), .sym (.int .u64 (.var 0))], .v (.int .i64 0)]), (6, [.v (.int .i64 0), ag0 0], .v (.tuple #[.agg #[.int .i64 0, .int .u64 0], .int .i64 0]))] := fun W C ρ aR aS => by unfold runE; kernel_rfl
theorem ag_C0_0z {aR aS : Addr} (b n : Int) (h : HN 0 b n) (h0 : b = 0) (hc : Chk aR aS 0 b 0) (hi : IntV aR aS 0 b n) : AgC aR aS 0 0 b := by
  have e : (0 : Int) = IE.ev (ri b n 0 0) (.var 0) := by
    obtain ⟨hb0, hb1, hn, l0, l1⟩ := h
    simp (disch := omega) only [IE.ev, ri, rc_0] <;> omega
  exact ⟨0, IE.ev (ri b n 0 0) (.var 0), 0, fun w hG => pair_of (W := wF (FloatKind.nearest .f32 n)) (C := cF (FloatKind.nearest .f32 n)) (ρ := ri b n 0 0) (ok_C0_0z b n h h0) (fun _ h => by cases h) (UI_ok (nearest_num n) hc hi) (run_C0_0z _ _ _ aR aS) rfl rfl rfl (vs := [.int .i64 0, agV 0 b]) rfl rfl (tupE 0 0 e) w hG⟩
def L_C2_1 : List CF := []
theorem run_C2_1 : RunE L_C2_1 T_C1_1 (UI 1) [(5, [.v (.int .i64 2), ag0 1], .tuple [.agg [.v (.int .i64 2), .sym (.int .u64 (.sh .shr .u64 (.sh .shl .u64 (.var 3) (.lit 48)) (.lit 48)))], .v (.int .i64 0)]), (6, [.v (.int .i64 2), ag0 1], .tuple [.agg [.v (.int .i64 2), .sym (.int .u64 (.bin .and .u64 (.cv .u64 (.var 4)) (.lit 65535)))], .v (.int .i64 0)])] := fun W C ρ aR aS => by unfold runE; kernel_rfl
theorem ag_C2_1 {aR aS : Addr} (b n : Int) (h : HN 1 b n)  (hc : Chk aR aS 1 b 0) (hi : IntV aR aS 1 b n) : AgC aR aS 2 1 b := by
  have e : (IE.ev (ri b n 1 2) (.bin .and .u64 (.cv .u64 (.var 4)) (.lit 65535)) : Int) = IE.ev (ri b n 1 2) (.sh .shr .u64 (.sh .shl .u64 (.var 3) (.lit 48)) (.lit 48)) := by
    obtain ⟨hb0, hb1, hn, l0, l1⟩ := h
    simp (disch := omega) only [IE.ev, ri, rc_3, rc_4, loI, and_u64_16, shl_u64_48, shr_u64_48, wrap_i64, wrap_u64] <;> omega
  exact ⟨2, IE.ev (ri b n 1 2) (.sh .shr .u64 (.sh .shl .u64 (.var 3) (.lit 48)) (.lit 48)), 0, fun w hG => pair_of (W := wF (FloatKind.nearest .f32 n)) (C := cF (FloatKind.nearest .f32 n)) (ρ := ri b n 1 2) (fun _ h => by cases h) (tk_C1_1 b n h ) (UI_ok (nearest_num n) hc hi) (run_C2_1 _ _ _ aR aS) rfl rfl rfl (vs := [.int .i64 2, agV 1 b]) rfl rfl (tupE 2 0 e) w hG⟩
def L_C6_1 : List CF := []
theorem run_C6_1 : RunE L_C6_1 T_C1_1 (UI 1) [(5, [.v (.int .i64 6), ag0 1], .tuple [.agg [.v (.int .i64 6), .sym (.int .u64 (.sh .shr .u64 (.sh .shl .u64 (.var 3) (.lit 48)) (.lit 48)))], .v (.int .i64 0)]), (6, [.v (.int .i64 6), ag0 1], .tuple [.agg [.v (.int .i64 6), .sym (.int .u64 (.bin .and .u64 (.cv .u64 (.var 4)) (.lit 65535)))], .v (.int .i64 0)])] := fun W C ρ aR aS => by unfold runE; kernel_rfl
theorem ag_C6_1 {aR aS : Addr} (b n : Int) (h : HN 1 b n)  (hc : Chk aR aS 1 b 0) (hi : IntV aR aS 1 b n) : AgC aR aS 6 1 b := by
  have e : (IE.ev (ri b n 1 6) (.bin .and .u64 (.cv .u64 (.var 4)) (.lit 65535)) : Int) = IE.ev (ri b n 1 6) (.sh .shr .u64 (.sh .shl .u64 (.var 3) (.lit 48)) (.lit 48)) := by
    obtain ⟨hb0, hb1, hn, l0, l1⟩ := h
    simp (disch := omega) only [IE.ev, ri, rc_3, rc_4, loI, and_u64_16, shl_u64_48, shr_u64_48, wrap_i64, wrap_u64] <;> omega
  exact ⟨6, IE.ev (ri b n 1 6) (.sh .shr .u64 (.sh .shl .u64 (.var 3) (.lit 48)) (.lit 48)), 0, fun w hG => pair_of (W := wF (FloatKind.nearest .f32 n)) (C := cF (FloatKind.nearest .f32 n)) (ρ := ri b n 1 6) (fun _ h => by cases h) (tk_C1_1 b n h ) (UI_ok (nearest_num n) hc hi) (run_C6_1 _ _ _ aR aS) rfl rfl rfl (vs := [.int .i64 6, agV 1 b]) rfl rfl (tupE 6 0 e) w hG⟩
def L_C0_1n : List CF := [⟨.neq, .var 0, .lit 0, true⟩]
theorem ok_C0_1n (b n : Int) (h : HN 1 b n) (h0 : b ≠ 0) : ∀ f ∈ L_C0_1n, f.ok (ri b n 1 0) := by
  obtain ⟨hb0, hb1, hn, l0, l1⟩ := h
  intro f hf
  simp only [L_C0_1n, List.mem_cons, List.not_mem_nil, or_false] at hf
  subst hf
  · exact ⟨rfl, cmp_neq_t (by simp (disch := omega) only [IE.ev, ri, rc_0] <;> omega)⟩
theorem run_C0_1n : RunE L_C0_1n [] (UI 1) [(5, [.v (.int .i64 0), ag0 1], .v (.tuple #[.agg #[.int .i64 0, .int .u64 1], .int .i64 0])), (6, [.v (.int .i64 0), ag0 1], .v (.tuple #[.agg #[.int .i64 0, .int .u64 1], .int .i64 0]))] := fun W C ρ aR aS => by unfold runE; kernel_rfl
theorem ag_C0_1n {aR aS : Addr} (b n : Int) (h : HN 1 b n) (h0 : b ≠ 0) (hc : Chk aR aS 1 b 0) (hi : IntV aR aS 1 b n) : AgC aR aS 0 1 b := ⟨0, 1, 0, fun w hG => pair_of (W := wF (FloatKind.nearest .f32 n)) (C := cF (FloatKind.nearest .f32 n)) (ρ := ri b n 1 0) (ok_C0_1n b n h h0) (fun _ h => by cases h) (UI_ok (nearest_num n) hc hi) (run_C0_1n _ _ _ aR aS) rfl rfl rfl (vs := [.int .i64 0, agV 1 b]) rfl rfl rfl w hG⟩
def L_C2_2 : List CF := []
theorem run_C2_2 : RunE L_C2_2 T_C1_2 (UI 2) [(5, [.v (.int .i64 2), ag0 2], .tuple [.agg [.v (.int .i64 2), .sym (.int .u64 (.var 0))], .v (.int .i64 0)]), (6, [.v (.int .i64 2), ag0 2], .tuple [.agg [.v (.int .i64 2), .sym (.int .u64 (.bin .and .u64 (.cv .u64 (.var 4)) (.lit 65535)))], .v (.int .i64 0)])] := fun W C ρ aR aS => by unfold runE; kernel_rfl
theorem ag_C2_2 {aR aS : Addr} (b n : Int) (h : HN 2 b n)  (hc : Chk aR aS 2 b 0) (hi : IntV aR aS 2 b n) : AgC aR aS 2 2 b := by
  have e : (IE.ev (ri b n 2 2) (.bin .and .u64 (.cv .u64 (.var 4)) (.lit 65535)) : Int) = IE.ev (ri b n 2 2) (.var 0) := by
    obtain ⟨hb0, hb1, hn, l0, l1⟩ := h
    simp (disch := omega) only [IE.ev, ri, rc_0, rc_4, and_u64_16, wrap_i64, wrap_u64] <;> omega
  exact ⟨2, IE.ev (ri b n 2 2) (.var 0), 0, fun w hG => pair_of (W := wF (FloatKind.nearest .f32 n)) (C := cF (FloatKind.nearest .f32 n)) (ρ := ri b n 2 2) (fun _ h => by cases h) (tk_C1_2 b n h ) (UI_ok (nearest_num n) hc hi) (run_C2_2 _ _ _ aR aS) rfl rfl rfl (vs := [.int .i64 2, agV 2 b]) rfl rfl (tupE 2 0 e) w hG⟩
def L_C6_2 : List CF := []
theorem run_C6_2 : RunE L_C6_2 T_C1_2 (UI 2) [(5, [.v (.int .i64 6), ag0 2], .tuple [.agg [.v (.int .i64 6), .sym (.int .u64 (.sh .shr .u64 (.sh .shl .u64 (.var 3) (.lit 48)) (.lit 48)))], .v (.int .i64 0)]), (6, [.v (.int .i64 6), ag0 2], .tuple [.agg [.v (.int .i64 6), .sym (.int .u64 (.bin .and .u64 (.cv .u64 (.var 4)) (.lit 65535)))], .v (.int .i64 0)])] := fun W C ρ aR aS => by unfold runE; kernel_rfl
theorem ag_C6_2 {aR aS : Addr} (b n : Int) (h : HN 2 b n)  (hc : Chk aR aS 2 b 0) (hi : IntV aR aS 2 b n) : AgC aR aS 6 2 b := by
  have e : (IE.ev (ri b n 2 6) (.bin .and .u64 (.cv .u64 (.var 4)) (.lit 65535)) : Int) = IE.ev (ri b n 2 6) (.sh .shr .u64 (.sh .shl .u64 (.var 3) (.lit 48)) (.lit 48)) := by
    obtain ⟨hb0, hb1, hn, l0, l1⟩ := h
    simp (disch := omega) only [IE.ev, ri, rc_3, rc_4, loI, and_u64_16, shl_u64_48, shr_u64_48, wrap_i64, wrap_u64] <;> omega
  exact ⟨6, IE.ev (ri b n 2 6) (.sh .shr .u64 (.sh .shl .u64 (.var 3) (.lit 48)) (.lit 48)), 0, fun w hG => pair_of (W := wF (FloatKind.nearest .f32 n)) (C := cF (FloatKind.nearest .f32 n)) (ρ := ri b n 2 6) (fun _ h => by cases h) (tk_C1_2 b n h ) (UI_ok (nearest_num n) hc hi) (run_C6_2 _ _ _ aR aS) rfl rfl rfl (vs := [.int .i64 6, agV 2 b]) rfl rfl (tupE 6 0 e) w hG⟩
def L_C0_2n : List CF := [⟨.neq, .var 0, .lit 0, true⟩]
theorem ok_C0_2n (b n : Int) (h : HN 2 b n) (h0 : b ≠ 0) : ∀ f ∈ L_C0_2n, f.ok (ri b n 2 0) := by
  obtain ⟨hb0, hb1, hn, l0, l1⟩ := h
  intro f hf
  simp only [L_C0_2n, List.mem_cons, List.not_mem_nil, or_false] at hf
  subst hf
  · exact ⟨rfl, cmp_neq_t (by simp (disch := omega) only [IE.ev, ri, rc_0] <;> omega)⟩
theorem run_C0_2n : RunE L_C0_2n [] (UI 2) [(5, [.v (.int .i64 0), ag0 2], .v (.tuple #[.agg #[.int .i64 0, .int .u64 1], .int .i64 0])), (6, [.v (.int .i64 0), ag0 2], .v (.tuple #[.agg #[.int .i64 0, .int .u64 1], .int .i64 0]))] := fun W C ρ aR aS => by unfold runE; kernel_rfl
theorem ag_C0_2n {aR aS : Addr} (b n : Int) (h : HN 2 b n) (h0 : b ≠ 0) (hc : Chk aR aS 2 b 0) (hi : IntV aR aS 2 b n) : AgC aR aS 0 2 b := ⟨0, 1, 0, fun w hG => pair_of (W := wF (FloatKind.nearest .f32 n)) (C := cF (FloatKind.nearest .f32 n)) (ρ := ri b n 2 0) (ok_C0_2n b n h h0) (fun _ h => by cases h) (UI_ok (nearest_num n) hc hi) (run_C0_2n _ _ _ aR aS) rfl rfl rfl (vs := [.int .i64 0, agV 2 b]) rfl rfl rfl w hG⟩
def L_C4_3 : List CF := []
theorem run_C4_3 : RunE L_C4_3 T_C1_3 (UI 3) [(5, [.v (.int .i64 4), ag0 3], .tuple [.agg [.v (.int .i64 4), .sym (.int .u64 (.sh .shr .u64 (.sh .shl .u64 (.var 3) (.lit 0)) (.lit 0)))], .v (.int .i64 0)]), (6, [.v (.int .i64 4), ag0 3], .tuple [.agg [.v (.int .i64 4), .sym (.int .u64 (.bin .and .u64 (.cv .u64 (.var 4)) (.lit 18446744073709551615)))], .v (.int .i64 0)])] := fun W C ρ aR aS => by unfold runE; kernel_rfl
theorem ag_C4_3 {aR aS : Addr} (b n : Int) (h : HN 3 b n)  (hc : Chk aR aS 3 b 0) (hi : IntV aR aS 3 b n) : AgC aR aS 4 3 b := by
  have e : (IE.ev (ri b n 3 4) (.bin .and .u64 (.cv .u64 (.var 4)) (.lit 18446744073709551615)) : Int) = IE.ev (ri b n 3 4) (.sh .shr .u64 (.sh .shl .u64 (.var 3) (.lit 0)) (.lit 0)) := by
    obtain ⟨hb0, hb1, hn, l0, l1⟩ := h
    simp (disch := omega) only [IE.ev, ri, rc_3, rc_4, loI, and_u64_64, shl_u64_0, shr_u64_0, wrap_i64, wrap_u64] <;> omega
  exact ⟨4, IE.ev (ri b n 3 4) (.sh .shr .u64 (.sh .shl .u64 (.var 3) (.lit 0)) (.lit 0)), 0, fun w hG => pair_of (W := wF (FloatKind.nearest .f32 n)) (C := cF (FloatKind.nearest .f32 n)) (ρ := ri b n 3 4) (fun _ h => by cases h) (tk_C1_3 b n h ) (UI_ok (nearest_num n) hc hi) (run_C4_3 _ _ _ aR aS) rfl rfl rfl (vs := [.int .i64 4, agV 3 b]) rfl rfl (tupE 4 0 e) w hG⟩
def L_C8_3 : List CF := []
theorem run_C8_3 : RunE L_C8_3 T_C1_3 (UI 3) [(5, [.v (.int .i64 8), ag0 3], .tuple [.agg [.v (.int .i64 8), .sym (.int .u64 (.sh .shr .u64 (.sh .shl .u64 (.var 3) (.lit 0)) (.lit 0)))], .v (.int .i64 0)]), (6, [.v (.int .i64 8), ag0 3], .tuple [.agg [.v (.int .i64 8), .sym (.int .u64 (.bin .and .u64 (.cv .u64 (.var 4)) (.lit 18446744073709551615)))], .v (.int .i64 0)])] := fun W C ρ aR aS => by unfold runE; kernel_rfl
theorem ag_C8_3 {aR aS : Addr} (b n : Int) (h : HN 3 b n)  (hc : Chk aR aS 3 b 0) (hi : IntV aR aS 3 b n) : AgC aR aS 8 3 b := by
  have e : (IE.ev (ri b n 3 8) (.bin .and .u64 (.cv .u64 (.var 4)) (.lit 18446744073709551615)) : Int) = IE.ev (ri b n 3 8) (.sh .shr .u64 (.sh .shl .u64 (.var 3) (.lit 0)) (.lit 0)) := by
    obtain ⟨hb0, hb1, hn, l0, l1⟩ := h
    simp (disch := omega) only [IE.ev, ri, rc_3, rc_4, loI, and_u64_64, shl_u64_0, shr_u64_0, wrap_i64, wrap_u64] <;> omega
  exact ⟨8, IE.ev (ri b n 3 8) (.sh .shr .u64 (.sh .shl .u64 (.var 3) (.lit 0)) (.lit 0)), 0, fun w hG => pair_of (W := wF (FloatKind.nearest .f32 n)) (C := cF (FloatKind.nearest .f32 n)) (ρ := ri b n 3 8) (fun _ h => by cases h) (tk_C1_3 b n h ) (UI_ok (nearest_num n) hc hi) (run_C8_3 _ _ _ aR aS) rfl rfl rfl (vs := [.int .i64 8, agV 3 b]) rfl rfl (tupE 8 0 e) w hG⟩
def L_C10_3p : List CF := [⟨.lss, (.cv .i64 (.var 2)), .lit 0, false⟩]
theorem ok_C10_3p (b n : Int) (h : HN 3 b n) (_ : 0 ≤ n) : ∀ f ∈ L_C10_3p, f.ok (ri b n 3 10) := by
  obtain ⟨hb0, hb1, hn, l0, l1⟩ := h
  intro f hf
  simp only [L_C10_3p, List.mem_cons, List.not_mem_nil, or_false] at hf
  subst hf
  · exact ⟨rfl, cmp_lss_f (by simp (disch := omega) only [IE.ev, ri, rc_2, hiI_pos, wrap_i64] <;> omega)⟩
theorem run_C10_3p : RunE L_C10_3p T_C10_3p (UI 3) [(5, [.v (.int .i64 10), ag0 3], .tuple [.agg [.v (.int .i64 10), .sym (.int .u64 (.bin .or .u64 (.var 5) (.lit 0)))], .v (.int .i64 0)]), (6, [.v (.int .i64 10), ag0 3], .tuple [.agg [.v (.int .i64 10), .sym (.int .u64 (.var 5))], .v (.int .i64 0)])] := fun W C ρ aR aS => by unfold runE; kernel_rfl
theorem ag_C10_3p {aR aS : Addr} (b n : Int) (h : HN 3 b n) (h0 : 0 ≤ n) (hc : Chk aR aS 3 b 0) (hi : IntV aR aS 3 b n) : AgC aR aS 10 3 b := by
  have e : (IE.ev (ri b n 3 10) (.var 5) : Int) = IE.ev (ri b n 3 10) (.bin .or .u64 (.var 5) (.lit 0)) := by
    obtain ⟨hb0, hb1, hn, l0, l1⟩ := h
    have hw := normW_lt (nearest_num n).1
    have hz0 : ∀ x : Int, 0 ≤ x → x < 18446744073709551616 → binI .or .u64 x 0 = x := or_u64_64
    simp (disch := omega) only [IE.ev, ri, rc_5, hz0] <;> omega
  exact ⟨10, IE.ev (ri b n 3 10) (.bin .or .u64 (.var 5) (.lit 0)), 0, fun w hG => pair_of (W := wF (FloatKind.nearest .f32 n)) (C := cF (FloatKind.nearest .f32 n)) (ρ := ri b n 3 10) (ok_C10_3p b n h h0) (tk_C10_3p b n h h0) (UI_ok (nearest_num n) hc hi) (run_C10_3p _ _ _ aR aS) rfl rfl rfl (vs := [.int .i64 10, agV 3 b]) rfl rfl (tupE 10 0 e) w hG⟩
def L_C4_4 : List CF := []
theorem run_C4_4 : RunE L_C4_4 T_C1_4 (UI 4) [(5, [.v (.int .i64 4), ag0 4], .tuple [.agg [.v (.int .i64 4), .sym (.int .u64 (.var 0))], .v (.int .i64 0)]), (6, [.v (.int .i64 4), ag0 4], .tuple [.agg [.v (.int .i64 4), .sym (.int .u64 (.bin .and .u64 (.cv .u64 (.var 4)) (.lit 18446744073709551615)))], .v (.int .i64 0)])] := fun W C ρ aR aS => by unfold runE; kernel_rfl
theorem ag_C4_4 {aR aS : Addr} (b n : Int) (h : HN 4 b n)  (hc : Chk aR aS 4 b 0) (hi : IntV aR aS 4 b n) : AgC aR aS 4 4 b := by
  have e : (IE.ev (ri b n 4 4) (.bin .and .u64 (.cv .u64 (.var 4)) (.lit 18446744073709551615)) : Int) = IE.ev (ri b n 4 4) (.var 0) := by
    obtain ⟨hb0, hb1, hn, l0, l1⟩ := h
    simp (disch := omega) only [IE.ev, ri, rc_0, rc_4, and_u64_64, wrap_i64, wrap_u64] <;> omega
  exact ⟨4, IE.ev (ri b n 4 4) (.var 0), 0, fun w hG => pair_of (W := wF (FloatKind.nearest .f32 n)) (C := cF (FloatKind.nearest .f32 n)) (ρ := ri b n 4 4) (fun _ h => by cases h) (tk_C1_4 b n h ) (UI_ok (nearest_num n) hc hi) (run_C4_4 _ _ _ aR aS) rfl rfl rfl (vs := [.int .i64 4, agV 4 b]) rfl rfl (tupE 4 0 e) w hG⟩
def L_C8_4 : List CF := []
theorem run_C8_4 : RunE L_C8_4 T_C1_4 (UI 4) [(5, [.v (.int .i64 8), ag0 4], .tuple [.agg [.v (.int .i64 8), .sym (.int .u64 (.sh .shr .u64 (.sh .shl .u64 (.var 3) (.lit 0)) (.lit 0)))], .v (.int .i64 0)]), (6, [.v (.int .i64 8), ag0 4], .tuple [.agg [.v (.int .i64 8), .sym (.int .u64 (.bin .and .u64 (.cv .u64 (.var 4)) (.lit 18446744073709551615)))], .v (.int .i64 0)])] := fun W C ρ aR aS => by unfold runE; kernel_rfl
theorem ag_C8_4 {aR aS : Addr} (b n : Int) (h : HN 4 b n)  (hc : Chk aR aS 4 b 0) (hi : IntV aR aS 4 b n) : AgC aR aS 8 4 b := by
  have e : (IE.ev (ri b n 4 8) (.bin .and .u64 (.cv .u64 (.var 4)) (.lit 18446744073709551615)) : Int) = IE.ev (ri b n 4 8) (.sh .shr .u64 (.sh .shl .u64 (.var 3) (.lit 0)) (.lit 0)) := by
    obtain ⟨hb0, hb1, hn, l0, l1⟩ := h
    simp (disch := omega) only [IE.ev, ri, rc_3, rc_4, loI, and_u64_64, shl_u64_0, shr_u64_0, wrap_i64, wrap_u64] <;> omega
  exact ⟨8, IE.ev (ri b n 4 8) (.sh .shr .u64 (.sh .shl .u64 (.var 3) (.lit 0)) (.lit 0)), 0, fun w hG => pair_of (W := wF (FloatKind.nearest .f32 n)) (C := cF (FloatKind.nearest .f32 n)) (ρ := ri b n 4 8) (fun _ h => by cases h) (tk_C1_4 b n h ) (UI_ok (nearest_num n) hc hi) (run_C8_4 _ _ _ aR aS) rfl rfl rfl (vs := [.int .i64 8, agV 4 b]) rfl rfl (tupE 8 0 e) w hG⟩
def L_C10_4p : List CF := [⟨.lss, (.cv .i64 (.var 2)), .lit 0, false⟩]
theorem ok_C10_4p (b n : Int) (h : HN 4 b n) (_ : 0 ≤ n) : ∀ f ∈ L_C10_4p, f.ok (ri b n 4 10) := by
  obtain ⟨hb0, hb1, hn, l0, l1⟩ := h
  intro f hf
  simp only [L_C10_4p, List.mem_cons, List.not_mem_nil, or_false] at hf
  subst hf
  · exact ⟨rfl, cmp_lss_f (by simp (disch := omega) only [IE.ev, ri, rc_2, hiI_pos, wrap_i64] <;> omega)⟩
theorem run_C10_4p : RunE L_C10_4p T_C10_4p (UI 4) [(5, [.v (.int .i64 10), ag0 4], .tuple [.agg [.v (.int .i64 10), .sym (.int .u64 (.bin .or .u64 (.var 5) (.lit 0)))], .v (.int .i64 0)]), (6, [.v (.int .i64 10), ag0 4], .tuple [.agg [.v (.int .i64 10), .sym (.int .u64 (.var 5))], .v (.int .i64 0)])] := fun W C ρ aR aS => by unfold runE; kernel_rfl
theorem ag_C10_4p {aR aS : Addr} (b n : Int) (h : HN 4 b n) (h0 : 0 ≤ n) (hc : Chk aR aS 4 b 0) (hi : IntV aR aS 4 b n) : AgC aR aS 10 4 b := by
  have e : (IE.ev (ri b n 4 10) (.var 5) : Int) = IE.ev (ri b n 4 10) (.bin .or .u64 (.var 5) (.lit 0)) := by
    obtain ⟨hb0, hb1, hn, l0, l1⟩ := h
    have hw := normW_lt (nearest_num n).1
    have hz0 : ∀ x : Int, 0 ≤ x → x < 18446744073709551616 → binI .or .u64 x 0 = x := or_u64_64
    simp (disch := omega) only [IE.ev, ri, rc_5, hz0] <;> omega
  exact ⟨10, IE.ev (ri b n 4 10) (.bin .or .u64 (.var 5) (.lit 0)), 0, fun w hG => pair_of (W := wF (FloatKind.nearest .f32 n)) (C := cF (FloatKind.nearest .f32 n)) (ρ := ri b n 4 10) (ok_C10_4p b n h h0) (tk_C10_4p b n h h0) (UI_ok (nearest_num n) hc hi) (run_C10_4p _ _ _ aR aS) rfl rfl rfl (vs := [.int .i64 10, agV 4 b]) rfl rfl (tupE 10 0 e) w hG⟩
def L_C2_5 : List CF := []
theorem run_C2_5 : RunE L_C2_5 T_C1_5 (UI 5) [(5, [.v (.int .i64 2), ag0 5], .tuple [.agg [.v (.int .i64 2), .sym (.int .u64 (.sh .shr .u64 (.sh .shl .u64 (.var 3) (.lit 48)) (.lit 48)))], .v (.int .i64 0)]), (6, [.v (.int .i64 2), ag0 5], .tuple [.agg [.v (.int .i64 2), .sym (.int .u64 (.bin .and .u64 (.cv .u64 (.var 4)) (.lit 65535)))], .v (.int .i64 0)])] := fun W C ρ aR aS => by unfold runE; kernel_rfl
theorem ag_C2_5 {aR aS : Addr} (b n : Int) (h : HN 5 b n)  (hc : Chk aR aS 5 b 0) (hi : IntV aR aS 5 b n) : AgC aR aS 2 5 b := by
  have e : (IE.ev (ri b n 5 2) (.bin .and .u64 (.cv .u64 (.var 4)) (.lit 65535)) : Int) = IE.ev (ri b n 5 2) (.sh .shr .u64 (.sh .shl .u64 (.var 3) (.lit 48)) (.lit 48)) := by
    obtain ⟨hb0, hb1, hn, l0, l1⟩ := h
    simp (disch := omega) only [IE.ev, ri, rc_3, rc_4, loI, and_u64_16, shl_u64_48, shr_u64_48, wrap_i64, wrap_u64] <;> omega
  exact ⟨2, IE.ev (ri b n 5 2) (.sh .shr .u64 (.sh .shl .u64 (.var 3) (.lit 48)) (.lit 48)), 0, fun w hG => pair_of (W := wF (FloatKind.nearest .f32 n)) (C := cF (FloatKind.nearest .f32 n)) (ρ := ri b n 5 2) (fun _ h => by cases h) (tk_C1_5 b n h ) (UI_ok (nearest_num n) hc hi) (run_C2_5 _ _ _ aR aS) rfl rfl rfl (vs := [.int .i64 2, agV 5 b]) rfl rfl (tupE 2 0 e) w hG⟩
def L_C6_5 : List CF := []
theorem run_C6_5 : RunE L_C6_5 T_C1_5 (UI 5) [(5, [.v (.int .i64 6), ag0 5], .tuple [.agg [.v (.int .i64 6), .sym (.int .u64 (.sh .shr .u64 (.sh .shl .u64 (.var 3) (.lit 48)) (.lit 48)))], .v (.int .i64 0)]), (6, [.v (.int .i64 6), ag0 5], .tuple [.agg [.v (.int .i64 6), .sym (.int .u64 (.bin .and .u64 (.cv .u64 (.var 4)) (.lit 65535)))], .v (.int .i64 0)])] := fun W C ρ aR aS => by unfold runE; kernel_rfl
theorem ag_C6_5 {aR aS : Addr} (b n : Int) (h : HN 5 b n)  (hc : Chk aR aS 5 b 0) (hi : IntV aR aS 5 b n) : AgC aR aS 6 5 b := by
  have e : (IE.ev (ri b n 5 6) (.bin .and .u64 (.cv .u64 (.var 4)) (.lit 65535)) : Int) = IE.ev (ri b n 5 6) (.sh .shr .u64 (.sh .shl .u64 (.var 3) (.lit 48)) (.lit 48)) := by
    obtain ⟨hb0, hb1, hn, l0, l1⟩ := h
    simp (disch := omega) only [IE.ev, ri, rc_3, rc_4, loI, and_u64_16, shl_u64_48, shr_u64_48, wrap_i64, wrap_u64] <;> omega
  exact ⟨6, IE.ev (ri b n 5 6) (.sh .shr .u64 (.sh .shl .u64 (.var 3) (.lit 48)) (.lit 48)), 0, fun w hG => pair_of (W := wF (FloatKind.nearest .f32 n)) (C := cF (FloatKind.nearest .f32 n)) (ρ := ri b n 5 6) (fun _ h => by cases h) (tk_C1_5 b n h ) (UI_ok (nearest_num n) hc hi) (run_C6_5 _ _ _ aR aS) rfl rfl rfl (vs := [.int .i64 6, agV 5 b]) rfl rfl (tupE 6 0 e) w hG⟩
def L_C0_5n : List CF := [⟨.neq, .var 0, .lit 0, true⟩]
theorem ok_C0_5n (b n : Int) (h : HN 5 b n) (h0 : b ≠ 0) : ∀ f ∈ L_C0_5n, f.ok (ri b n 5 0) := by
  obtain ⟨hb0, hb1, hn, l0, l1⟩ := h
  intro f hf
  simp only [L_C0_5n, List.mem_cons, List.not_mem_nil, or_false] at hf
  subst hf
  · exact ⟨rfl, cmp_neq_t (by simp (disch := omega) only [IE.ev, ri, rc_0] <;> omega)⟩
theorem run_C0_5n : RunE L_C0_5n [] (UI 5) [(5, [.v (.int .i64 0), ag0 5], .v (.tuple #[.agg #[.int .i64 0, .int .u64 1], .int .i64 0])), (6, [.v (.int .i64 0), ag0 5], .v (.tuple #[.agg #[.int .i64 0, .int .u64 1], .int .i64 0]))] := fun W C ρ aR aS => by unfold runE; kernel_rfl
theorem ag_C0_5n {aR aS : Addr} (b n : Int) (h : HN 5 b n) (h0 : b ≠ 0) (hc : Chk aR aS 5 b 0) (hi : IntV aR aS 5 b n) : AgC aR aS 0 5 b := ⟨0, 1, 0, fun w hG => pair_of (W := wF (FloatKind.nearest .f32 n)) (C := cF (FloatKind.nearest .f32 n)) (ρ := ri b n 5 0) (ok_C0_5n b n h h0) (fun _ h => by cases h) (UI_ok (nearest_num n) hc hi) (run_C0_5n _ _ _ aR aS) rfl rfl rfl (vs := [.int .i64 0, agV 5 b]) rfl rfl rfl w hG⟩
def L_C10_5m : List CF := [⟨.lss, (.cv .i64 (.var 2)), .lit 0, true⟩]
theorem ok_C10_5m (b n : Int) (h : HN 5 b n) (h0 : n < 0) : ∀ f ∈ L_C10_5m, f.ok (ri b n 5 10) := by
  obtain ⟨hb0, hb1, hn, l0, l1⟩ := h
  intro f hf
  simp only [L_C10_5m, List.mem_cons, List.not_mem_nil, or_false] at hf
  subst hf
  · exact ⟨rfl, cmp_lss_t (by simp (disch := omega) only [IE.ev, ri, rc_2, hiI_neg, wrap_i64] <;> omega)⟩
theorem run_C10_5m : RunE L_C10_5m T_C10_5m (UI 5) [(5, [.v (.int .i64 10), ag0 5], .tuple [.agg [.v (.int .i64 10), .sym (.int .u64 (.bin .or .u64 (.var 5) (.lit 0)))], .v (.int .i64 0)]), (6, [.v (.int .i64 10), ag0 5], .tuple [.agg [.v (.int .i64 10), .sym (.int .u64 (.var 5))], .v (.int .i64 0)])] := fun W C ρ aR aS => by unfold runE; kernel_rfl
theorem ag_C10_5m {aR aS : Addr} (b n : Int) (h : HN 5 b n) (h0 : n < 0) (hc : Chk aR aS 5 b 0) (hi : IntV aR aS 5 b n) : AgC aR aS 10 5 b := by
  have e : (IE.ev (ri b n 5 10) (.var 5) : Int) = IE.ev (ri b n 5 10) (.bin .or .u64 (.var 5) (.lit 0)) := by
    obtain ⟨hb0, hb1, hn, l0, l1⟩ := h
    have hw := normW_lt (nearest_num n).1
    have hz0 : ∀ x : Int, 0 ≤ x → x < 18446744073709551616 → binI .or .u64 x 0 = x := or_u64_64
    simp (disch := omega) only [IE.ev, ri, rc_5, hz0] <;> omega
  exact ⟨10, IE.ev (ri b n 5 10) (.bin .or .u64 (.var 5) (.lit 0)), 0, fun w hG => pair_of (W := wF (FloatKind.nearest .f32 n)) (C := cF (FloatKind.nearest .f32 n)) (ρ := ri b n 5 10) (ok_C10_5m b n h h0) (tk_C10_5m b n h h0) (UI_ok (nearest_num n) hc hi) (run_C10_5m _ _ _ aR aS) rfl rfl rfl (vs := [.int .i64 10, agV 5 b]) rfl rfl (tupE 10 0 e) w hG⟩
def L_C1_6 : List CF := []
theorem run_C1_6 : RunE L_C1_6 T_C1_6 (UI 6) [(5, [.v (.int .i64 1), ag0 6], .tuple [.agg [.v (.int .i64 1), .sym (.int .u64 (.sh .shr .u64 (.sh .shl .u64 (.var 3) (.lit 56)) (.lit 56)))], .v (.int .i64 0)]), (6, [.v (.int .i64 1), ag0 6], .tuple [.agg [.v (.int .i64 1), .sym (.int .u64 (.bin .and .u64 (.cv .u64 (.var 4)) (.lit 255)))], .v (.int .i64 0)])] := fun W C ρ aR aS => by unfold runE; kernel_rfl
theorem ag_C1_6 {aR aS : Addr} (b n : Int) (h : HN 6 b n)  (hc : Chk aR aS 6 b 0) (hi : IntV aR aS 6 b n) : AgC aR aS 1 6 b := by
  have e : (IE.ev (ri b n 6 1) (.bin .and .u64 (.cv .u64 (.var 4)) (.lit 255)) : Int) = IE.ev (ri b n 6 1) (.sh .shr .u64 (.sh .shl .u64 (.var 3) (.lit 56)) (.lit 56)) := by
    obtain ⟨hb0, hb1, hn, l0, l1⟩ := h
    simp (disch := omega) only [IE.ev, ri, rc_3, rc_4, loI, and_u64_8, shl_u64_56, shr_u64_56, wrap_i64, wrap_u64] <;> omega
  exact ⟨1, IE.ev (ri b n 6 1) (.sh .shr .u64 (.sh .shl .u64 (.var 3) (.lit 56)) (.lit 56)), 0, fun w hG => pair_of (W := wF (FloatKind.nearest .f32 n)) (C := cF (FloatKind.nearest .f32 n)) (ρ := ri b n 6 1) (fun _ h => by cases h) (tk_C1_6 b n h ) (UI_ok (nearest_num n) hc hi) (run_C1_6 _ _ _ aR aS) rfl rfl rfl (vs := [.int .i64 1, agV 6 b]) rfl rfl (tupE 1 0 e) w hG⟩
def L_C5_6 : List CF := []
theorem run_C5_6 : RunE L_C5_6 T_C1_6 (UI 6) [(5, [.v (.int .i64 5), ag0 6], .tuple [.agg [.v (.int .i64 5), .sym (.int .u64 (.sh .shr .u64 (.sh .shl .u64 (.var 3) (.lit 56)) (.lit 56)))], .v (.int .i64 0)]), (6, [.v (.int .i64 5), ag0 6], .tuple [.agg [.v (.int .i64 5), .sym (.int .u64 (.bin .and .u64 (.cv .u64 (.var 4)) (.lit 255)))], .v (.int .i64 0)])] := fun W C ρ aR aS => by unfold runE; kernel_rfl
theorem ag_C5_6 {aR aS : Addr} (b n : Int) (h : HN 6 b n)  (hc : Chk aR aS 6 b 0) (hi : IntV aR aS 6 b n) : AgC aR aS 5 6 b := by
  have e : (IE.ev (ri b n 6 5) (.bin .and .u64 (.cv .u64 (.var 4)) (.lit 255)) : Int) = IE.ev (ri b n 6 5) (.sh .shr .u64 (.sh .shl .u64 (.var 3) (.lit 56)) (.lit 56)) := by
    obtain ⟨hb0, hb1, hn, l0, l1⟩ := h
    simp (disch := omega) only [IE.ev, ri, rc_3, rc_4, loI, and_u64_8, shl_u64_56, shr_u64_56, wrap_i64, wrap_u64] <;> omega
  exact ⟨5, IE.ev (ri b n 6 5) (.sh .shr .u64 (.sh .shl .u64 (.var 3) (.lit 56)) (.lit 56)), 0, fun w hG => pair_of (W := wF (FloatKind.nearest .f32 n)) (C := cF (FloatKind.nearest .f32 n)) (ρ := ri b n 6 5) (fun _ h => by cases h) (tk_C1_6 b n h ) (UI_ok (nearest_num n) hc hi) (run_C5_6 _ _ _ aR aS) rfl rfl rfl (vs := [.int .i64 5, agV 6 b]) rfl rfl (tupE 5 0 e) w hG⟩
def L_C0_6z : List CF := [⟨.neq, .var 0, .lit 0, false⟩]
theorem ok_C0_6z (b n : Int) (h : HN 6 b n) (h0 : b = 0) : ∀ f ∈ L_C0_6z, f.ok (ri b n 6 0) := by
  obtain ⟨hb0, hb1, hn, l0, l1⟩ := h
  intro f hf
  simp only [L_C0_6z, List.mem_cons, List.not_mem_nil, or_false] at hf
  subst hf
  · exact ⟨rfl, cmp_neq_f (by simp (disch := omega) only [IE.ev, ri, rc_0] <;> omega)⟩
theorem run_C0_6z : RunE L_C0_6z [] (UI 6) [(5, [.v (.int .i64 0), ag0 6], .v (.tuple #[.agg #[.int .i64 0, .int .u64 0], .int .i64 0])), (6, [.v (.int .i64 0), ag0 6], .v (.tuple #[.agg #[.int .i64 0, .int .u64 0], .int .i64 0]))] := fun W C ρ aR aS => by unfold runE; kernel_rfl
theorem ag_C0_6z {aR aS : Addr} (b n : Int) (h : HN 6 b n) (h0 : b = 0) (hc : Chk aR aS 6 b 0) (hi : IntV aR aS 6 b n) : AgC aR aS 0 6 b := ⟨0, 0, 0, fun w hG => pair_of (W := wF (FloatKind.nearest .f32 n)) (C := cF (FloatKind.nearest .f32 n)) (ρ := ri b n 6 0) (ok_C0_6z b n h h0) (fun _ h => by cases h) (UI_ok (nearest_num n) hc hi) (run_C0_6z _ _ _ aR aS) rfl rfl rfl (vs := [.int .i64 0, agV 6 b]) rfl rfl rfl w hG⟩
def L_C10_6p : List CF := [⟨.lss, (.cv .i64 (.var 2)), .lit 0, false⟩]
theorem ok_C10_6p (b n : Int) (h : HN 6 b n) (h0 : 0 ≤ n) : ∀ f ∈ L_C10_6p, f.ok (ri b n 6 10) := by
  obtain ⟨hb0, hb1, hn, l0, l1⟩ := h
  intro f hf
  simp only [L_C10_6p, List.mem_cons, List.not_mem_nil, or_false] at hf
  subst hf
  · exact ⟨rfl, cmp_lss_f (by simp (disch := omega) only [IE.ev, ri, rc_2, hiI_pos, wrap_i64] <;> omega)⟩
theorem run_C10_6p : RunE L_C10_6p T_C10_6p (UI 6) [(5, [.v (.int .i64 10), ag0 6], .tuple [.agg [.v (.int .i64 10), .sym (.int .u64 (.bin .or .u64 (.var 5) (.lit 0)))], .v (.int .i64 0)]), (6, [.v (.int .i64 10), ag0 6], .tuple [.agg [.v (.int .i64 10), .sym (.int .u64 (.var 5))], .v (.int .i64 0)])] := fun W C ρ aR aS => by unfold runE; kernel_rfl
theorem ag_C10_6p {aR aS : Addr} (b n : Int) (h : HN 6 b n) (h0 : 0 ≤ n) (hc : Chk aR aS 6 b 0) (hi : IntV aR aS 6 b n) : AgC aR aS 10 6 b := by
  have e : (IE.ev (ri b n 6 10) (.var 5) : Int) = IE.ev (ri b n 6 10) (.bin .or .u64 (.var 5) (.lit 0)) := by
    obtain ⟨hb0, hb1, hn, l0, l1⟩ := h
    have hw := normW_lt (nearest_num n).1
    have hz0 : ∀ x : Int, 0 ≤ x → x < 18446744073709551616 → binI .or .u64 x 0 = x := or_u64_64
    simp (disch := omega) only [IE.ev, ri, rc_5, hz0] <;> omega
  exact ⟨10, IE.ev (ri b n 6 10) (.bin .or .u64 (.var 5) (.lit 0)), 0, fun w hG => pair_of (W := wF (FloatKind.nearest .f32 n)) (C := cF (FloatKind.nearest .f32 n)) (ρ := ri b n 6 10) (ok_C10_6p b n h h0) (tk_C10_6p b n h h0) (UI_ok (nearest_num n) hc hi) (run_C10_6p _ _ _ aR aS) rfl rfl rfl (vs := [.int .i64 10, agV 6 b]) rfl rfl (tupE 10 0 e) w hG⟩
def L_C1_7 : List CF := []
theorem run_C1_7 : RunE L_C1_7 T_C1_7 (UI 7) [(5, [.v (.int .i64 1), ag0 7], .tuple [.agg [.v (.int .i64 1), .sym (.int .u64 (.sh .shr .u64 (.sh .shl .u64 (.var 3) (.lit 56)) (.lit 56)))], .v (.int .i64 0)]), (6, [.v (.int .i64 1), ag0 7], .tuple [.agg [.v (.int .i64 1), .sym (.int .u64 (.bin .and .u64 (.cv .u64 (.var 4)) (.lit 255)))], .v (.int .i64 0)])] := fun W C ρ aR aS => by unfold runE; kernel_rfl
theorem ag_C1_7 {aR aS : Addr} (b n : Int) (h : HN 7 b n)  (hc : Chk aR aS 7 b 0) (hi : IntV aR aS 7 b n) : AgC aR aS 1 7 b := by
  have e : (IE.ev (ri b n 7 1) (.bin .and .u64 (.cv .u64 (.var 4)) (.lit 255)) : Int) = IE.ev (ri b n 7 1) (.sh .shr .u64 (.sh .shl .u64 (.var 3) (.lit 56)) (.lit 56)) := by
    obtain ⟨hb0, hb1, hn, l0, l1⟩ := h
    simp (disch := omega) only [IE.ev, ri, rc_3, rc_4, loI, and_u64_8, shl_u64_56, shr_u64_56, wrap_i64, wrap_u64] <;> omega
  exact ⟨1, IE.ev (ri b n 7 1) (.sh .shr .u64 (.sh .shl .u64 (.var 3) (.lit 56)) (.lit 56)), 0, fun w hG => pair_of (W := wF (FloatKind.nearest .f32 n)) (C := cF (FloatKind.nearest .f32 n)) (ρ := ri b n 7 1) (fun _ h => by cases h) (tk_C1_7 b n h ) (UI_ok (nearest_num n) hc hi) (run_C1_7 _ _ _ aR aS) rfl rfl rfl (vs := [.int .i64 1, agV 7 b]) rfl rfl (tupE 1 0 e) w hG⟩
def L_C5_7 : List CF := []
theorem run_C5_7 : RunE L_C5_7 T_C1_7 (UI 7) [(5, [.v (.int .i64 5), ag0 7], .tuple [.agg [.v (.int .i64 5), .sym (.int .u64 (.sh .shr .u64 (.sh .shl .u64 (.var 3) (.lit 56)) (.lit 56)))], .v (.int .i64 0)]), (6, [.v (.int .i64 5), ag0 7], .tuple [.agg [.v (.int .i64 5), .sym (.int .u64 (.bin .and .u64 (.cv .u64 (.var 4)) (.lit 255)))], .v (.int .i64 0)])] := fun W C ρ aR aS => by unfold runE; kernel_rfl
theorem ag_C5_7 {aR aS : Addr} (b n : Int) (h : HN 7 b n)  (hc : Chk aR aS 7 b 0) (hi : IntV aR aS 7 b n) : AgC aR aS 5 7 b := by
  have e : (IE.ev (ri b n 7 5) (.bin .and .u64 (.cv .u64 (.var 4)) (.lit 255)) : Int) = IE.ev (ri b n 7 5) (.sh .shr .u64 (.sh .shl .u64 (.var 3) (.lit 56)) (.lit 56)) := by
    obtain ⟨hb0, hb1, hn, l0, l1⟩ := h
    simp (disch := omega) only [IE.ev, ri, rc_3, rc_4, loI, and_u64_8, shl_u64_56, shr_u64_56, wrap_i64, wrap_u64] <;> omega
  exact ⟨5, IE.ev (ri b n 7 5) (.sh .shr .u64 (.sh .shl .u64 (.var 3) (.lit 56)) (.lit 56)), 0, fun w hG => pair_of (W := wF (FloatKind.nearest .f32 n)) (C := cF (FloatKind.nearest .f32 n)) (ρ := ri b n 7 5) (fun _ h => by cases h) (tk_C1_7 b n h ) (UI_ok (nearest_num n) hc hi) (run_C5_7 _ _ _ aR aS) rfl rfl rfl (vs := [.int .i64 5, agV 7 b]) rfl rfl (tupE 5 0 e) w hG⟩
def L_C0_7z : List CF := [⟨.neq, .var 0, .lit 0, false⟩]
theorem ok_C0_7z (b n : Int) (h : HN 7 b n) (h0 : b = 0) : ∀ f ∈ L_C0_7z, f.ok (ri b n 7 0) := by
  obtain ⟨hb0, hb1, hn, l0, l1⟩ := h
  intro f hf
  simp only [L_C0_7z, List.mem_cons, List.not_mem_nil, or_false] at hf
  subst hf
  · exact ⟨rfl, cmp_neq_f (by simp (disch := omega) only [IE.ev, ri, rc_0] <;> omega)⟩
theorem run_C0_7z : RunE L_C0_7z [] (UI 7) [(5, [.v (.int .i64 0), ag0 7], .v (.tuple #[.agg #[.int .i64 0, .int .u64 0], .int .i64 0])), (6, [.v (.int .i64 0), ag0 7], .v (.tuple #[.agg #[.int .i64 0, .int .u64 0], .int .i64 0]))] := fun W C ρ aR aS => by unfold runE; kernel_rfl
theorem ag_C0_7z {aR aS : Addr} (b n : Int) (h : HN 7 b n) (h0 : b = 0) (hc : Chk aR aS 7 b 0) (hi : IntV aR aS 7 b n) : AgC aR aS 0 7 b := ⟨0, 0, 0, fun w hG => pair_of (W := wF (FloatKind.nearest .f32 n)) (C := cF (FloatKind.nearest .f32 n)) (ρ := ri b n 7 0) (ok_C0_7z b n h h0) (fun _ h => by cases h) (UI_ok (nearest_num n) hc hi) (run_C0_7z _ _ _ aR aS) rfl rfl rfl (vs := [.int .i64 0, agV 7 b]) rfl rfl rfl w hG⟩
def L_C10_7p : List CF := [⟨.lss, (.cv .i64 (.var 2)), .lit 0, false⟩]
theorem ok_C10_7p (b n : Int) (h : HN 7 b n) (h0 : 0 ≤ n) : ∀ f ∈ L_C10_7p, f.ok (ri b n 7 10) := by
  obtain ⟨hb0, hb1, hn, l0, l1⟩ := h
  intro f hf
  simp only [L_C10_7p, List.mem_cons, List.not_mem_nil, or_false] at hf
  subst hf
  · exact ⟨rfl, cmp_lss_f (by simp (disch := omega) only [IE.ev, ri, rc_2, hiI_pos, wrap_i64] <;> omega)⟩
theorem run_C10_7p : RunE L_C10_7p T_C10_7p (UI 7) [(5, [.v (.int .i64 10), ag0 7], .tuple [.agg [.v (.int .i64 10), .sym (.int .u64 (.bin .or .u64 (.var 5) (.lit 0)))], .v (.int .i64 0)]), (6, [.v (.int .i64 10), ag0 7], .tuple [.agg [.v (.int .i64 10), .sym (.int .u64 (.var 5))], .v (.int .i64 0)])] := fun W C ρ aR aS => by unfold runE; kernel_rfl
theorem ag_C10_7p {aR aS : Addr} (b n : Int) (h : HN 7 b n) (h0 : 0 ≤ n) (hc : Chk aR aS 7 b 0) (hi : IntV aR aS 7 b n) : AgC aR aS 10 7 b := by
  have e : (IE.ev (ri b n 7 10) (.var 5) : Int) = IE.ev (ri b n 7 10) (.bin .or .u64 (.var 5) (.lit 0)) := by
    obtain ⟨hb0, hb1, hn, l0, l1⟩ := h
    have hw := normW_lt (nearest_num n).1
    have hz0 : ∀ x : Int, 0 ≤ x → x < 18446744073709551616 → binI .or .u64 x 0 = x := or_u64_64
    simp (disch := omega) only [IE.ev, ri, rc_5, hz0] <;> omega
  exact ⟨10, IE.ev (ri b n 7 10) (.bin .or .u64 (.var 5) (.lit 0)), 0, fun w hG => pair_of (W := wF (FloatKind.nearest .f32 n)) (C := cF (FloatKind.nearest .f32 n)) (ρ := ri b n 7 10) (ok_C10_7p b n h h0) (tk_C10_7p b n h h0) (UI_ok (nearest_num n) hc hi) (run_C10_7p _ _ _ aR aS) rfl rfl rfl (vs := [.int .i64 10, agV 7 b]) rfl rfl (tupE 10 0 e) w hG⟩
def L_C2_8 : List CF := []
theorem run_C2_8 : RunE L_C2_8 T_C1_8 (UI 8) [(5, [.v (.int .i64 2), ag0 8], .tuple [.agg [.v (.int .i64 2), .sym (.int .u64 (.sh .shr .u64 (.sh .shl .u64 (.var 3) (.lit 48)) (.lit 48)))], .v (.int .i64 0)]), (6, [.v (.int .i64 2), ag0 8], .tuple [.agg [.v (.int .i64 2), .sym (.int .u64 (.bin .and .u64 (.cv .u64 (.var 4)) (.lit 65535)))], .v (.int .i64 0)])] := fun W C ρ aR aS => by unfold runE; kernel_rfl
theorem ag_C2_8 {aR aS : Addr} (b n : Int) (h : HN 8 b n)  (hc : Chk aR aS 8 b 0) (hi : IntV aR aS 8 b n) : AgC aR aS 2 8 b := by
  have e : (IE.ev (ri b n 8 2) (.bin .and .u64 (.cv .u64 (.var 4)) (.lit 65535)) : Int) = IE.ev (ri b n 8 2) (.sh .shr .u64 (.sh .shl .u64 (.var 3) (.lit 48)) (.lit 48)) := by
    obtain ⟨hb0, hb1, hn, l0, l1⟩ := h
    simp (disch := omega) only [IE.ev, ri, rc_3, rc_4, loI, and_u64_16, shl_u64_48, shr_u64_48, wrap_i64, wrap_u64] <;> omega
  exact ⟨2, IE.ev (ri b n 8 2) (.sh .shr .u64 (.sh .shl .u64 (.var 3) (.lit 48)) (.lit 48)), 0, fun w hG => pair_of (W := wF (FloatKind.nearest .f32 n)) (C := cF (FloatKind.nearest .f32 n)) (ρ := ri b n 8 2) (fun _ h => by cases h) (tk_C1_8 b n h ) (UI_ok (nearest_num n) hc hi) (run_C2_8 _ _ _ aR aS) rfl rfl rfl (vs := [.int .i64 2, agV 8 b]) rfl rfl (tupE 2 0 e) w hG⟩
def L_C6_8 : List CF := []
theorem run_C6_8 : RunE L_C6_8 T_C1_8 (UI 8) [(5, [.v (.int .i64 6), ag0 8], .tuple [.agg [.v (.int .i64 6), .sym (.int .u64 (.sh .shr .u64 (.sh .shl .u64 (.var 3) (.lit 48)) (.lit 48)))], .v (.int .i64 0)]), (6, [.v (.int .i64 6), ag0 8], .tuple [.agg [.v (.int .i64 6), .sym (.int .u64 (.bin .and .u64 (.cv .u64 (.var 4)) (.lit 65535)))], .v (.int .i64 0)])] := fun W C ρ aR aS => by unfold runE; kernel_rfl
theorem ag_C6_8 {aR aS : Addr} (b n : Int) (h : HN 8 b n)  (hc : Chk aR aS 8 b 0) (hi : IntV aR aS 8 b n) : AgC aR aS 6 8 b := by
  have e : (IE.ev (ri b n 8 6) (.bin .and .u64 (.cv .u64 (.var 4)) (.lit 65535)) : Int) = IE.ev (ri b n 8 6) (.sh .shr .u64 (.sh .shl .u64 (.var 3) (.lit 48)) (.lit 48)) := by
    obtain ⟨hb0, hb1, hn, l0, l1⟩ := h
    simp (disch := omega) only [IE.ev, ri, rc_3, rc_4, loI, and_u64_16, shl_u64_48, shr_u64_48, wrap_i64, wrap_u64] <;> omega
  exact ⟨6, IE.ev (ri b n 8 6) (.sh .shr .u64 (.sh .shl .u64 (.var 3) (.lit 48)) (.lit 48)), 0, fun w hG => pair_of (W := wF (FloatKind.nearest .f32 n)) (C := cF (FloatKind.nearest .f32 n)) (ρ := ri b n 8 6) (fun _ h => by cases h) (tk_C1_8 b n h ) (UI_ok (nearest_num n) hc hi) (run_C6_8 _ _ _ aR aS) rfl rfl rfl (vs := [.int .i64 6, agV 8 b]) rfl rfl (tupE 6 0 e) w hG⟩
def L_C0_8n : List CF := [⟨.neq, .var 0, .lit 0, true⟩]
theorem ok_C0_8n (b n : Int) (h : HN 8 b n) (h0 : b ≠ 0) : ∀ f ∈ L_C0_8n, f.ok (ri b n 8 0) := by
  obtain ⟨hb0, hb1, hn, l0, l1⟩ := h
  intro f hf
  simp only [L_C0_8n, List.mem_cons, List.not_mem_nil, or_false] at hf
  subst hf
  · exact ⟨rfl, cmp_neq_t (by simp (disch := omega) only [IE.ev, ri, rc_0] <;> omega)⟩
theorem run_C0_8n : RunE L_C0_8n [] (UI 8) [(5, [.v (.int .i64 0), ag0 8], .v (.tuple #[.agg #[.int .i64 0, .int .u64 1], .int .i64 0])), (6, [.v (.int .i64 0), ag0 8], .v (.tuple #[.agg #[.int .i64 0, .int .u64 1], .int .i64 0]))] := fun W C ρ aR aS => by unfold runE; kernel_rfl
theorem ag_C0_8n {aR aS : Addr} (b n : Int) (h : HN 8 b n) (h0 : b ≠ 0) (hc : Chk aR aS 8 b 0) (hi : IntV aR aS 8 b n) : AgC aR aS 0 8 b := ⟨0, 1, 0, fun w hG => pair_of (W := wF (FloatKind.nearest .f32 n)) (C := cF (FloatKind.nearest .f32 n)) (ρ := ri b n 8 0) (ok_C0_8n b n h h0) (fun _ h => by cases h) (UI_ok (nearest_num n) hc hi) (run_C0_8n _ _ _ aR aS) rfl rfl rfl (vs := [.int .i64 0, agV 8 b]) rfl rfl rfl w hG⟩
def L_C10_8m : List CF := [⟨.lss, (.cv .i64 (.var 2)), .lit 0, true⟩]
theorem ok_C10_8m (b n : Int) (h : HN 8 b n) (h0 : n < 0) : ∀ f ∈ L_C10_8m, f.ok (ri b n 8 10) := by
  obtain ⟨hb0, hb1, hn, l0, l1⟩ := h
  intro f hf
  simp only [L_C10_8m, List.mem_cons, List.not_mem_nil, or_false] at hf
  subst hf
  · exact ⟨rfl, cmp_lss_t (by simp (disch := omega) only [IE.ev, ri, rc_2, hiI_neg, wrap_i64] <;> omega)⟩
theorem run_C10_8m : RunE L_C10_8m T_C10_8m (UI 8) [(5, [.v (.int .i64 10), ag0 8], .tuple [.agg [.v (.int .i64 10), .sym (.int .u64 (.bin .or .u64 (.var 5) (.lit 0)))], .v (.int .i64 0)]), (6, [.v (.int .i64 10), ag0 8], .tuple [.agg [.v (.int .i64 10), .sym (.int .u64 (.var 5))], .v (.int .i64 0)])] := fun W C ρ aR aS => by unfold runE; kernel_rfl
theorem ag_C10_8m {aR aS : Addr} (b n : Int) (h : HN 8 b n) (h0 : n < 0) (hc : Chk aR aS 8 b 0) (hi : IntV aR aS 8 b n) : AgC aR aS 10 8 b := by
  have e : (IE.ev (ri b n 8 10) (.var 5) : Int) = IE.ev (ri b n 8 10) (.bin .or .u64 (.var 5) (.lit 0)) := by
    obtain ⟨hb0, hb1, hn, l0, l1⟩ := h
    have hw := normW_lt (nearest_num n).1
    have hz0 : ∀ x : Int, 0 ≤ x → x < 18446744073709551616 → binI .or .u64 x 0 = x := or_u64_64
    simp (disch := omega) only [IE.ev, ri, rc_5, hz0] <;> omega
  exact ⟨10, IE.ev (ri b n 8 10) (.bin .or .u64 (.var 5) (.lit 0)), 0, fun w hG => pair_of (W := wF (FloatKind.nearest .f32 n)) (C := cF (FloatKind.nearest .f32 n)) (ρ := ri b n 8 10) (ok_C10_8m b n h h0) (tk_C10_8m b n h h0) (UI_ok (nearest_num n) hc hi) (run_C10_8m _ _ _ aR aS) rfl rfl rfl (vs := [.int .i64 10, agV 8 b]) rfl rfl (tupE 10 0 e) w hG⟩
def L_C1_9ia : List CF := []
theorem run_C1_9ia : RunE L_C1_9ia T_C1_9ia UF [(5, [.v (.int .i64 1), ag0 9], .tuple [.agg [.v (.int .i64 1), .sym (.int .u64 (.sh .shr .u64 (.sh .shl .u64 (.var 8) (.lit 56)) (.lit 56)))], .v (.int .i64 0)]), (6, [.v (.int .i64 1), ag0 9], .v (.tuple #[.agg #[.int .i64 1, .int .u64 255], .int .i64 0]))] := fun W C ρ aR aS => by unfold runE; kernel_rfl
theorem ag_C1_9ia {aR aS : Addr} (F : Nat) (h : HF F) (h0 : tB F = 255) (h1 : 0 < keyB F) (h2 : 1132396544 ≤ keyB F) (hc : Chk aR aS 9 F 0) : AgC aR aS 1 9 (F : Int) := by
  have e : (255 : Int) = IE.ev (rf F 1) (.sh .shr .u64 (.sh .shl .u64 (.var 8) (.lit 56)) (.lit 56)) := by
    obtain ⟨hF, hr, hz⟩ := h
    simp (disch := omega) only [IE.ev, rf, rc_8, shl_u64_56, shr_u64_56, wrap_u64] <;> omega
  exact ⟨1, IE.ev (rf F 1) (.sh .shr .u64 (.sh .shl .u64 (.var 8) (.lit 56)) (.lit 56)), 0, fun w hG => pair_of (W := wF F) (C := cF F) (ρ := rf F 1) (fun _ h => by cases h) (tk_C1_9ia F h h0 h1 h2) (UF_ok h.1 h.2.1 h.2.2 hc) (run_C1_9ia _ _ _ aR aS) rfl rfl rfl (vs := [.int .i64 1, agV 9 (F : Int)]) rfl rfl (tupE 1 0 e) w hG⟩
def L_C2_9ii : List CF := []
theorem run_C2_9ii : RunE L_C2_9ii T_C2_9ii UF [(5, [.v (.int .i64 2), ag0 9], .tuple [.agg [.v (.int .i64 2), .sym (.int .u64 (.sh .shr .u64 (.sh .shl .u64 (.var 8) (.lit 48)) (.lit 48)))], .v (.int .i64 0)]), (6, [.v (.int .i64 2), ag0 9], .tuple [.agg [.v (.int .i64 2), .sym (.int .u64 (.bin .and .u64 (.var 8) (.lit 65535)))], .v (.int .i64 0)])] := fun W C ρ aR aS => by unfold runE; kernel_rfl
theorem ag_C2_9ii {aR aS : Addr} (F : Nat) (h : HF F) (h0 : 0 ≤ tB F) (h1 : tB F < 65536) (h2 : 0 < keyB F) (h3 : keyB F < 1199570688) (hc : Chk aR aS 9 F 0) : AgC aR aS 2 9 (F : Int) := by
  have e : (IE.ev (rf F 2) (.bin .and .u64 (.var 8) (.lit 65535)) : Int) = IE.ev (rf F 2) (.sh .shr .u64 (.sh .shl .u64 (.var 8) (.lit 48)) (.lit 48)) := by
    obtain ⟨hF, hr, hz⟩ := h
    simp (disch := omega) only [IE.ev, rf, rc_8, and_u64_16, shl_u64_48, shr_u64_48, wrap_u64] <;> omega
  exact ⟨2, IE.ev (rf F 2) (.sh .shr .u64 (.sh .shl .u64 (.var 8) (.lit 48)) (.lit 48)), 0, fun w hG => pair_of (W := wF F) (C := cF F) (ρ := rf F 2) (fun _ h => by cases h) (tk_C2_9ii F h h0 h1 h2 h3) (UF_ok h.1 h.2.1 h.2.2 hc) (run_C2_9ii _ _ _ aR aS) rfl rfl rfl (vs := [.int .i64 2, agV 9 (F : Int)]) rfl rfl (tupE 2 0 e) w hG⟩
def L_C3_9ib : List CF := []
theorem run_C3_9ib : RunE L_C3_9ib T_C3_9ib UF [(5, [.v (.int .i64 3), ag0 9], .tuple [.agg [.v (.int .i64 3), .sym (.int .u64 (.sh .shr .u64 (.sh .shl .u64 (.var 8) (.lit 32)) (.lit 32)))], .v (.int .i64 0)]), (6, [.v (.int .i64 3), ag0 9], .v (.tuple #[.agg #[.int .i64 3, .int .u64 0], .int .i64 0]))] := fun W C ρ aR aS => by unfold runE; kernel_rfl
theorem ag_C3_9ib {aR aS : Addr} (F : Nat) (h : HF F) (h0 : tB F = 0) (h1 : keyB F ≤ 0) (hc : Chk aR aS 9 F 0) : AgC aR aS 3 9 (F : Int) := by
  have e : (0 : Int) = IE.ev (rf F 3) (.sh .shr .u64 (.sh .shl .u64 (.var 8) (.lit 32)) (.lit 32)) := by
    obtain ⟨hF, hr, hz⟩ := h
    simp (disch := omega) only [IE.ev, rf, rc_8, shl_u64_32, shr_u64_32, wrap_u64] <;> omega
  exact ⟨3, IE.ev (rf F 3) (.sh .shr .u64 (.sh .shl .u64 (.var 8) (.lit 32)) (.lit 32)), 0, fun w hG => pair_of (W := wF F) (C := cF F) (ρ := rf F 3) (fun _ h => by cases h) (tk_C3_9ib F h h0 h1) (UF_ok h.1 h.2.1 h.2.2 hc) (run_C3_9ib _ _ _ aR aS) rfl rfl rfl (vs := [.int .i64 3, agV 9 (F : Int)]) rfl rfl (tupE 3 0 e) w hG⟩
def L_C4_9ib : List CF := []
theorem run_C4_9ib : RunE L_C4_9ib T_C4_9ib UF [(5, [.v (.int .i64 4), ag0 9], .tuple [.agg [.v (.int .i64 4), .sym (.int .u64 (.sh .shr .u64 (.sh .shl .u64 (.var 8) (.lit 0)) (.lit 0)))], .v (.int .i64 0)]), (6, [.v (.int .i64 4), ag0 9], .v (.tuple #[.agg #[.int .i64 4, .int .u64 0], .int .i64 0]))] := fun W C ρ aR aS => by unfold runE; kernel_rfl
theorem ag_C4_9ib {aR aS : Addr} (F : Nat) (h : HF F) (h0 : tB F = 0) (h1 : keyB F ≤ 0) (hc : Chk aR aS 9 F 0) : AgC aR aS 4 9 (F : Int) := by
  have e : (0 : Int) = IE.ev (rf F 4) (.sh .shr .u64 (.sh .shl .u64 (.var 8) (.lit 0)) (.lit 0)) := by
    obtain ⟨hF, hr, hz⟩ := h
    simp (disch := omega) only [IE.ev, rf, rc_8, shl_u64_0, shr_u64_0, wrap_u64] <;> omega
  exact ⟨4, IE.ev (rf F 4) (.sh .shr .u64 (.sh .shl .u64 (.var 8) (.lit 0)) (.lit 0)), 0, fun w hG => pair_of (W := wF F) (C := cF F) (ρ := rf F 4) (fun _ h => by cases h) (tk_C4_9ib F h h0 h1) (UF_ok h.1 h.2.1 h.2.2 hc) (run_C4_9ib _ _ _ aR aS) rfl rfl rfl (vs := [.int .i64 4, agV 9 (F : Int)]) rfl rfl (tupE 4 0 e) w hG⟩
def L_C5_9ib : List CF := []
theorem run_C5_9ib : RunE L_C5_9ib T_C5_9ib UF [(5, [.v (.int .i64 5), ag0 9], .tuple [.agg [.v (.int .i64 5), .sym (.int .u64 (.sh .shr .u64 (.sh .shl .u64 (.cv .u64 (.var 8)) (.lit 56)) (.lit 56)))], .v (.int .i64 0)]), (6, [.v (.int .i64 5), ag0 9], .v (.tuple #[.agg #[.int .i64 5, .int .u64 128], .int .i64 0]))] := fun W C ρ aR aS => by unfold runE; kernel_rfl
theorem ag_C5_9ib {aR aS : Addr} (F : Nat) (h : HF F) (h0 : tB F = (-128)) (h1 : keyB F ≤ -1124073472) (hc : Chk aR aS 9 F 0) : AgC aR aS 5 9 (F : Int) := by
  have e : (128 : Int) = IE.ev (rf F 5) (.sh .shr .u64 (.sh .shl .u64 (.cv .u64 (.var 8)) (.lit 56)) (.lit 56)) := by
    obtain ⟨hF, hr, hz⟩ := h
    simp (disch := omega) only [IE.ev, rf, rc_8, shl_u64_56, shr_u64_56, wrap_u64] <;> omega
  exact ⟨5, IE.ev (rf F 5) (.sh .shr .u64 (.sh .shl .u64 (.cv .u64 (.var 8)) (.lit 56)) (.lit 56)), 0, fun w hG => pair_of (W := wF F) (C := cF F) (ρ := rf F 5) (fun _ h => by cases h) (tk_C5_9ib F h h0 h1) (UF_ok h.1 h.2.1 h.2.2 hc) (run_C5_9ib _ _ _ aR aS) rfl rfl rfl (vs := [.int .i64 5, agV 9 (F : Int)]) rfl rfl (tupE 5 0 e) w hG⟩
def L_C6_9bb : List CF := []
theorem run_C6_9bb : RunE L_C6_9bb T_C6_9bb UF [(5, [.v (.int .i64 6), ag0 9], .v (.tuple #[.agg #[.int .i64 6, .int .u64 32768], .int .i64 0])), (6, [.v (.int .i64 6), ag0 9], .v (.tuple #[.agg #[.int .i64 6, .int .u64 32768], .int .i64 0]))] := fun W C ρ aR aS => by unfold runE; kernel_rfl
theorem ag_C6_9bb {aR aS : Addr} (F : Nat) (h : HF F) (h0 : tB F < -32768) (h1 : keyB F ≤ -1191182336) (hc : Chk aR aS 9 F 0) : AgC aR aS 6 9 (F : Int) := ⟨6, 32768, 0, fun w hG => pair_of (W := wF F) (C := cF F) (ρ := rf F 6) (fun _ h => by cases h) (tk_C6_9bb F h h0 h1) (UF_ok h.1 h.2.1 h.2.2 hc) (run_C6_9bb _ _ _ aR aS) rfl rfl rfl (vs := [.int .i64 6, agV 9 (F : Int)]) rfl rfl rfl w hG⟩
def L_C6_9aa : List CF := []
theorem run_C6_9aa : RunE L_C6_9aa T_C6_9aa UF [(5, [.v (.int .i64 6), ag0 9], .v (.tuple #[.agg #[.int .i64 6, .int .u64 32767], .int .i64 0])), (6, [.v (.int .i64 6), ag0 9], .v (.tuple #[.agg #[.int .i64 6, .int .u64 32767], .int .i64 0]))] := fun W C ρ aR aS => by unfold runE; kernel_rfl
theorem ag_C6_9aa {aR aS : Addr} (F : Nat) (h : HF F) (h0 : 32768 ≤ tB F) (h1 : 1191181824 ≤ keyB F) (hc : Chk aR aS 9 F 0) : AgC aR aS 6 9 (F : Int) := ⟨6, 32767, 0, fun w hG => pair_of (W := wF F) (C := cF F) (ρ := rf F 6) (fun _ h => by cases h) (tk_C6_9aa F h h0 h1) (UF_ok h.1 h.2.1 h.2.2 hc) (run_C6_9aa _ _ _ aR aS) rfl rfl rfl (vs := [.int .i64 6, agV 9 (F : Int)]) rfl rfl rfl w hG⟩
def L_C7_9aa : List CF := []
theorem run_C7_9aa : RunE L_C7_9aa T_C7_9aa UF [(5, [.v (.int .i64 7), ag0 9], .v (.tuple #[.agg #[.int .i64 7, .int .u64 2147483647], .int .i64 0])), (6, [.v (.int .i64 7), ag0 9], .v (.tuple #[.agg #[.int .i64 7, .int .u64 2147483647], .int .i64 0]))] := fun W C ρ aR aS => by unfold runE; kernel_rfl
theorem ag_C7_9aa {aR aS : Addr} (F : Nat) (h : HF F) (h0 : 2147483648 ≤ tB F) (h1 : 1325400064 ≤ keyB F) (hc : Chk aR aS 9 F 0) : AgC aR aS 7 9 (F : Int) := ⟨7, 2147483647, 0, fun w hG => pair_of (W := wF F) (C := cF F) (ρ := rf F 7) (fun _ h => by cases h) (tk_C7_9aa F h h0 h1) (UF_ok h.1 h.2.1 h.2.2 hc) (run_C7_9aa _ _ _ aR aS) rfl rfl rfl (vs := [.int .i64 7, agV 9 (F : Int)]) rfl rfl rfl w hG⟩
def L_C8_9aa : List CF := []
theorem run_C8_9aa : RunE L_C8_9aa T_C8_9aa UF [(5, [.v (.int .i64 8), ag0 9], .v (.tuple #[.agg #[.int .i64 8, .int .u64 9223372036854775807], .int .i64 0])), (6, [.v (.int .i64 8), ag0 9], .v (.tuple #[.agg #[.int .i64 8, .int .u64 9223372036854775807], .int .i64 0]))] := fun W C ρ aR aS => by unfold runE; kernel_rfl
theorem ag_C8_9aa {aR aS : Addr} (F : Nat) (h : HF F) (h0 : 9223372036854775808 ≤ tB F) (h1 : 1593835520 ≤ keyB F) (hc : Chk aR aS 9 F 0) : AgC aR aS 8 9 (F : Int) := ⟨8, 9223372036854775807, 0, fun w hG => pair_of (W := wF F) (C := cF F) (ρ := rf F 8) (fun _ h => by cases h) (tk_C8_9aa F h h0 h1) (UF_ok h.1 h.2.1 h.2.2 hc) (run_C8_9aa _ _ _ aR aS) rfl rfl rfl (vs := [.int .i64 8, agV 9 (F : Int)]) rfl rfl rfl w hG⟩
def L_C10_9 : List CF := []
theorem run_C10_9 : RunE L_C10_9 T_C10_9 UF [(5, [.v (.int .i64 10), ag0 9], .tuple [.agg [.v (.int .i64 10), .sym (.int .u64 (.bin .or .u64 (.var 5) (.lit 0)))], .v (.int .i64 0)]), (6, [.v (.int .i64 10), ag0 9], .tuple [.agg [.v (.int .i64 10), .sym (.int .u64 (.var 0))], .v (.int .i64 0)])] := fun W C ρ aR aS => by unfold runE; kernel_rfl
theorem ag_C10_9 {aR aS : Addr} (F : Nat) (h : HF F)  (hc : Chk aR aS 9 F 0) : AgC aR aS 10 9 (F : Int) := by
  have e : (IE.ev (rf F 10) (.var 0) : Int) = IE.ev (rf F 10) (.bin .or .u64 (.var 5) (.lit 0)) := by
    obtain ⟨hF, hr, hz⟩ := h
    have hw := normW_right hr hz hF
    have hz0 : ∀ x : Int, 0 ≤ x → x < 18446744073709551616 → binI .or .u64 x 0 = x := or_u64_64
    simp (disch := omega) only [IE.ev, rf, rc_0, rc_5, hw, hz0] <;> omega
  exact ⟨10, IE.ev (rf F 10) (.bin .or .u64 (.var 5) (.lit 0)), 0, fun w hG => pair_of (W := wF F) (C := cF F) (ρ := rf F 10) (fun _ h => by cases h) (tk_C10_9 F h ) (UF_ok h.1 h.2.1 h.2.2 hc) (run_C10_9 _ _ _ aR aS) rfl rfl rfl (vs := [.int .i64 10, agV 9 (F : Int)]) rfl rfl (tupE 10 0 e) w hG⟩
def L_C0_10 : List CF := []
theorem run_C0_10 : RunE L_C0_10 [] (UC 10) [(5, [.v (.int .i64 0), ag0 10], .v (.tuple #[.agg #[.int .i64 0, .int .u64 0], .int .i64 12])), (6, [.v (.int .i64 0), ag0 10], .v (.tuple #[.agg #[.int .i64 0, .int .u64 0], .int .i64 12]))] := fun W C ρ aR aS => by unfold runE; kernel_rfl
theorem ag_C0_10 {aR aS : Addr} (b : Int) (hc : Chk aR aS 10 b 0) : AgC aR aS 0 10 b := ⟨0, 0, 12, fun w hG => pair_of (W := wF 0) (C := cF 0) (ρ := rc b 0 0 0 10 0 0) (fun _ h => by cases h) (fun _ h => by cases h) (UC_ok hc) (run_C0_10 _ _ _ aR aS) rfl rfl rfl (vs := [.int .i64 0, agV 10 b]) rfl rfl rfl w hG⟩
def L_C2_10 : List CF := []
theorem run_C2_10 : RunE L_C2_10 [] (UC 10) [(5, [.v (.int .i64 2), ag0 10], .v (.tuple #[.agg #[.int .i64 0, .int .u64 0], .int .i64 12])), (6, [.v (.int .i64 2), ag0 10], .v (.tuple #[.agg #[.int .i64 0, .int .u64 0], .int .i64 12]))] := fun W C ρ aR aS => by unfold runE; kernel_rfl
theorem ag_C2_10 {aR aS : Addr} (b : Int) (hc : Chk aR aS 10 b 0) : AgC aR aS 2 10 b := ⟨0, 0, 12, fun w hG => pair_of (W := wF 0) (C := cF 0) (ρ := rc b 0 0 0 10 2 0) (fun _ h => by cases h) (fun _ h => by cases h) (UC_ok hc) (run_C2_10 _ _ _ aR aS) rfl rfl rfl (vs := [.int .i64 2, agV 10 b]) rfl rfl rfl w hG⟩
def L_C4_10 : List CF := []
theorem run_C4_10 : RunE L_C4_10 [] (UC 10) [(5, [.v (.int .i64 4), ag0 10], .v (.tuple #[.agg #[.int .i64 0, .int .u64 0], .int .i64 12])), (6, [.v (.int .i64 4), ag0 10], .v (.tuple #[.agg #[.int .i64 0, .int .u64 0], .int .i64 12]))] := fun W C ρ aR aS => by unfold runE; kernel_rfl
theorem ag_C4_10 {aR aS : Addr} (b : Int) (hc : Chk aR aS 10 b 0) : AgC aR aS 4 10 b := ⟨0, 0, 12, fun w hG => pair_of (W := wF 0) (C := cF 0) (ρ := rc b 0 0 0 10 4 0) (fun _ h => by cases h) (fun _ h => by cases h) (UC_ok hc) (run_C4_10 _ _ _ aR aS) rfl rfl rfl (vs := [.int .i64 4, agV 10 b]) rfl rfl rfl w hG⟩
def L_C6_10 : List CF := []
theorem run_C6_10 : RunE L_C6_10 [] (UC 10) [(5, [.v (.int .i64 6), ag0 10], .v (.tuple #[.agg #[.int .i64 0, .int .u64 0], .int .i64 12])), (6, [.v (.int .i64 6), ag0 10], .v (.tuple #[.agg #[.int .i64 0, .int .u64 0], .int .i64 12]))] := fun W C ρ aR aS => by unfold runE; kernel_rfl
theorem ag_C6_10 {aR aS : Addr} (b : Int) (hc : Chk aR aS 10 b 0) : AgC aR aS 6 10 b := ⟨0, 0, 12, fun w hG => pair_of (W := wF 0) (C := cF 0) (ρ := rc b 0 0 0 10 6 0) (fun _ h => by cases h) (fun _ h => by cases h) (UC_ok hc) (run_C6_10 _ _ _ aR aS) rfl rfl rfl (vs := [.int .i64 6, agV 10 b]) rfl rfl rfl w hG⟩
def L_C8_10 : List CF := []
theorem run_C8_10 : RunE L_C8_10 [] (UC 10) [(5, [.v (.int .i64 8), ag0 10], .v (.tuple #[.agg #[.int .i64 0, .int .u64 0], .int .i64 12])), (6, [.v (.int .i64 8), ag0 10], .v (.tuple #[.agg #[.int .i64 0, .int .u64 0], .int .i64 12]))] := fun W C ρ aR aS => by unfold runE; kernel_rfl
theorem ag_C8_10 {aR aS : Addr} (b : Int) (hc : Chk aR aS 10 b 0) : AgC aR aS 8 10 b := ⟨0, 0, 12, fun w hG => pair_of (W := wF 0) (C := cF 0) (ρ := rc b 0 0 0 10 8 0) (fun _ h => by cases h) (fun _ h => by cases h) (UC_ok hc) (run_C8_10 _ _ _ aR aS) rfl rfl rfl (vs := [.int .i64 8, agV 10 b]) rfl rfl rfl w hG⟩
def L_C10_10 : List CF := []
theorem run_C10_10 : RunE L_C10_10 [] (UC 10) [(5, [.v (.int .i64 10), ag0 10], .tuple [.agg [.v (.int .i64 10), .sym (.int .u64 (.var 0))], .v (.int .i64 0)]), (6, [.v (.int .i64 10), ag0 10], .tuple [.agg [.v (.int .i64 10), .sym (.int .u64 (.var 0))], .v (.int .i64 0)])] := fun W C ρ aR aS => by unfold runE; kernel_rfl
theorem ag_C10_10 {aR aS : Addr} (b : Int) (hc : Chk aR aS 10 b 0) : AgC aR aS 10 10 b := ⟨10, IE.ev (rc b 0 0 0 10 10 0) (.var 0), 0, fun w hG => pair_of (W := wF 0) (C := cF 0) (ρ := rc b 0 0 0 10 10 0) (fun _ h => by cases h) (fun _ h => by cases h) (UC_ok hc) (run_C10_10 _ _ _ aR aS) rfl rfl rfl (vs := [.int .i64 10, agV 10 b]) rfl rfl rfl w hG⟩
end
end Go.Proofs.YtbhhdjlmbmeiaaaGreatDoor
