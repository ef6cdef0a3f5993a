import Derived.Test.YtonkcpmefnddaaaGreatDoorJI3
import Derived.Test.YtonkcpmefnddaaaGreatDoorJC
namespace Go.Proofs.YtonkcpmefnddaaaGreatDoor
noncomputable section
open Go Go.RX
open Go.RowKit (Below)
set_option maxRecDepth 1000000
set_option maxHeartbeats 4000000

/-! ### Bool -/
theorem run_dz0 (W : Nat → Nat) (C : Nat → Nat × Nat) (ρ : Nat → Int) (aR aS : Addr) : runE W C ρ aR aS D_z [] (UN 0) [(98, [ag0 0, ag1 0], .v (.tuple #[.int .u64 0, .int .u64 0]))] := by unfold runE; kernel_rfl
theorem run_du0 (W : Nat → Nat) (C : Nat → Nat × Nat) (ρ : Nat → Int) (aR aS : Addr) : runE W C ρ aR aS D_u [] (UN 0) [(98, [ag0 0, ag1 0], r_u)] := by unfold runE; kernel_rfl
theorem div_0 {aR aS : Addr} {b n b2 n2 : Int} (hA : HN 0 b n) (hB : HN 0 b2 n2) (i1 : IntV aR aS 0 b n) (i2 : IntV aR aS 0 b2 n2) : DivV aR aS 0 b n b2 n2 := by
  obtain ⟨a1, a2, a3, a4, a5⟩ := hA
  obtain ⟨c1, c2, c3, c4, c5⟩ := hB
  by_cases hz : n2 = 0
  · exact of_runs i1 i2 (ok_z (by omega)) (run_dz0 _ _ _ aR aS) rfl (tup2 (by unfold QI; rw [if_pos hz]) (by unfold RI; rw [if_pos hz]))
  · refine of_runs i1 i2 (ok_u (by omega)) (run_du0 _ _ _ aR aS) rfl (tup2 ?_ ?_)
    · unfold QI loI
      rw [if_neg hz]
      show IntKind.wrap .u64 (b.tdiv b2) = _
      rw [Int.tdiv_eq_ediv_of_nonneg a1, wrap_u64, show b = n by omega, show b2 = n2 by omega]
    · unfold RI
      rw [if_neg hz]
      show b.tmod b2 = _
      rw [Int.tmod_eq_emod_of_nonneg a1, show b = n by omega, show b2 = n2 by omega]
theorem bools {aR aS : Addr} {b n b2 n2 : Int} (hA : HN 0 b n) (hB : HN 0 b2 n2) (h1 : Chk aR aS 0 b 0) (h2 : Chk aR aS 0 b2 0) (i1 : IntV aR aS 0 b n) (i2 : IntV aR aS 0 b2 n2) : ApV aR aS 13 0 b 0 b2 ∧ ApV aR aS 14 0 b 0 b2 ∧ ApV aR aS 15 0 b 0 b2 := by
  obtain ⟨a1, a2, a3, a4, a5⟩ := id hA
  obtain ⟨c1, c2, c3, c4, c5⟩ := id hB
  have m1 : Am n := by unfold Am; omega
  have m2 : Am n2 := by unfold Am; omega
  have hd := div_0 hA hB i1 i2
  have hp := fun (o : Nat) (N B : Int) (h : ∀ ρ, runP (wF 0) (cF 0) ρ aR aS o 0 = some (jP o 0).2.2) (hE : WFun aR aS (fE o) n n2 (Wd N)) (hK : KFun aR aS (fK o) (kOf o 0) N B) => prog_of (k := 0) h m1 m2 h1 h2 i1 i2 hE hK
  refine ⟨?_, ?_, ?_⟩
  · refine ap_of (hp 7 (bitW .and n n2) _ (fun ρ => List.map_inj_left.1 (run_P7 _ _ _ aR aS) 0 (by decide)) (and_ok aR aS n n2) (wrap_0 aR aS _)) (ref_of (n := n) (n2 := n2) (k := 0) (r := false) (fun ρ => List.map_inj_left.1 (run_R7 _ _ _ aR aS) 0 (by decide)) h1 h2 (fun _ h => by cases h) hd ?_)
    show binI .and .u64 (binI .and .u64 b b2) 1 = _
    rw [and_u64_1 _ (binI_u64 .and (by simp) _ _).1 (binI_u64 .and (by simp) _ _).2]
    exact bits_num 1 rfl (by decide) (.inl rfl) a1 a2 c1 c2 (by omega) (by omega)
  · refine ap_of (hp 8 (bitW .or n n2) _ (fun ρ => List.map_inj_left.1 (run_P8 _ _ _ aR aS) 0 (by decide)) (or_ok aR aS n n2) (wrap_0 aR aS _)) (ref_of (n := n) (n2 := n2) (k := 0) (r := false) (fun ρ => List.map_inj_left.1 (run_R8 _ _ _ aR aS) 0 (by decide)) h1 h2 (fun _ h => by cases h) hd ?_)
    show binI .and .u64 (binI .or .u64 b b2) 1 = _
    rw [and_u64_1 _ (binI_u64 .or (by simp) _ _).1 (binI_u64 .or (by simp) _ _).2]
    exact bits_num 1 rfl (by decide) (.inr (.inl rfl)) a1 a2 c1 c2 (by omega) (by omega)
  · refine ap_of (hp 9 (bitW .xor n n2) _ (fun ρ => List.map_inj_left.1 (run_P9 _ _ _ aR aS) 0 (by decide)) (xor_ok aR aS n n2) (wrap_0 aR aS _)) (ref_of (n := n) (n2 := n2) (k := 0) (r := false) (fun ρ => List.map_inj_left.1 (run_R9 _ _ _ aR aS) 0 (by decide)) h1 h2 (fun _ h => by cases h) hd ?_)
    show binI .and .u64 (binI .xor .u64 b b2) 1 = _
    rw [and_u64_1 _ (binI_u64 .xor (by simp) _ _).1 (binI_u64 .xor (by simp) _ _).2]
    exact bits_num 1 rfl (by decide) (.inr (.inr rfl)) a1 a2 c1 c2 (by omega) (by omega)
theorem bool_all {aR aS : Addr} {b n b2 n2 : Int} (hA : HN 0 b n) (hB : HN 0 b2 n2) (h1 : Chk aR aS 0 b 0) (h2 : Chk aR aS 0 b2 0) (i1 : IntV aR aS 0 b n) (i2 : IntV aR aS 0 b2 n2) (o : Nat) (ho : o < 20) : ApV aR aS ((o + 6 : Nat) : Int) 0 b 0 b2 := by
  obtain ⟨b7, b8, b9⟩ := bools hA hB h1 h2 i1 i2
  rcases (show o = 0 ∨ o = 1 ∨ o = 2 ∨ o = 3 ∨ o = 4 ∨ o = 5 ∨ o = 6 ∨ o = 7 ∨ o = 8 ∨ o = 9 ∨ o = 10 ∨ o = 11 ∨ o = 12 ∨ o = 13 ∨ o = 14 ∨ o = 15 ∨ o = 16 ∨ o = 17 ∨ o = 18 ∨ o = 19 by omega) with rfl | rfl | rfl | rfl | rfl | rfl | rfl | rfl | rfl | rfl | rfl | rfl | rfl | rfl | rfl | rfl | rfl | rfl | rfl | rfl
  · exact bad_ap (o := 0) (k := 0) (l := [0]) (by decide) (by decide) h1 h2
  · exact bad_ap (o := 1) (k := 0) (l := [0]) (by decide) (by decide) h1 h2
  · exact bad_ap (o := 2) (k := 0) (l := [0]) (by decide) (by decide) h1 h2
  · exact bad_ap (o := 3) (k := 0) (l := [0, 10]) (by decide) (by decide) h1 h2
  · exact bad_ap (o := 4) (k := 0) (l := [0, 9, 10]) (by decide) (by decide) h1 h2
  · exact bad_ap (o := 5) (k := 0) (l := [0, 10]) (by decide) (by decide) h1 h2
  · exact bad_ap (o := 6) (k := 0) (l := [0, 10]) (by decide) (by decide) h1 h2
  · exact b7
  · exact b8
  · exact b9
  · exact bad_ap (o := 10) (k := 0) (l := [0, 9, 10]) (by decide) (by decide) h1 h2
  · exact bad_ap (o := 11) (k := 0) (l := [0, 9, 10]) (by decide) (by decide) h1 h2
  · exact bad_ap (o := 12) (k := 0) (l := [0, 9, 10]) (by decide) (by decide) h1 h2
  · exact bad_ap (o := 13) (k := 0) (l := [0, 9, 10]) (by decide) (by decide) h1 h2
  · exact bad_ap (o := 14) (k := 0) (l := [0, 9, 10]) (by decide) (by decide) h1 h2
  · exact bad_ap (o := 15) (k := 0) (l := [0, 9, 10]) (by decide) (by decide) h1 h2
  · exact (eq_of (k := 0) (by decide) h1 h2).1
  · exact (eq_of (k := 0) (by decide) h1 h2).2
  · exact bad_ap (o := 18) (k := 0) (l := [0, 10]) (by decide) (by decide) h1 h2
  · exact bad_ap (o := 19) (k := 0) (l := [0, 10]) (by decide) (by decide) h1 h2
theorem floats_all {aR aS : Addr} {F G : Nat} (hF : HF F) (hG : HF G) (h1 : Chk aR aS 9 F 0) (h2 : Chk aR aS 9 G 0) (o : Nat) (ho : o < 20) : ApV aR aS ((o + 6 : Nat) : Int) 9 F 9 G := by
  obtain ⟨f0, f1, f2, f3, f5, f6, f18, f19⟩ := float_all hF hG h1 h2
  rcases (show o = 0 ∨ o = 1 ∨ o = 2 ∨ o = 3 ∨ o = 4 ∨ o = 5 ∨ o = 6 ∨ o = 7 ∨ o = 8 ∨ o = 9 ∨ o = 10 ∨ o = 11 ∨ o = 12 ∨ o = 13 ∨ o = 14 ∨ o = 15 ∨ o = 16 ∨ o = 17 ∨ o = 18 ∨ o = 19 by omega) with rfl | rfl | rfl | rfl | rfl | rfl | rfl | rfl | rfl | rfl | rfl | rfl | rfl | rfl | rfl | rfl | rfl | rfl | rfl | rfl
  · exact f0
  · exact f1
  · exact f2
  · exact f3
  · exact bad_ap (o := 4) (k := 9) (l := [0, 9, 10]) (by decide) (by decide) h1 h2
  · exact f5
  · exact f6
  · exact bad_ap (o := 7) (k := 9) (l := [9, 10]) (by decide) (by decide) h1 h2
  · exact bad_ap (o := 8) (k := 9) (l := [9, 10]) (by decide) (by decide) h1 h2
  · exact bad_ap (o := 9) (k := 9) (l := [9, 10]) (by decide) (by decide) h1 h2
  · exact bad_ap (o := 10) (k := 9) (l := [0, 9, 10]) (by decide) (by decide) h1 h2
  · exact bad_ap (o := 11) (k := 9) (l := [0, 9, 10]) (by decide) (by decide) h1 h2
  · exact bad_ap (o := 12) (k := 9) (l := [0, 9, 10]) (by decide) (by decide) h1 h2
  · exact bad_ap (o := 13) (k := 9) (l := [0, 9, 10]) (by decide) (by decide) h1 h2
  · exact bad_ap (o := 14) (k := 9) (l := [0, 9, 10]) (by decide) (by decide) h1 h2
  · exact bad_ap (o := 15) (k := 9) (l := [0, 9, 10]) (by decide) (by decide) h1 h2
  · exact (eq_of (k := 9) (by decide) h1 h2).1
  · exact (eq_of (k := 9) (by decide) h1 h2).2
  · exact f18
  · exact f19
theorem complexes_all {aR aS : Addr} {b b2 : Int} {F0 F1 G0 G1 : Nat} (hA : HC b F0 F1) (hB : HC b2 G0 G1) (h1 : Chk aR aS 10 b 0) (h2 : Chk aR aS 10 b2 0) (o : Nat) (ho : o < 20) : ApV aR aS ((o + 6 : Nat) : Int) 10 b 10 b2 := by
  obtain ⟨f0, f1, f2⟩ := complex_all hA hB h1 h2
  rcases (show o = 0 ∨ o = 1 ∨ o = 2 ∨ o = 3 ∨ o = 4 ∨ o = 5 ∨ o = 6 ∨ o = 7 ∨ o = 8 ∨ o = 9 ∨ o = 10 ∨ o = 11 ∨ o = 12 ∨ o = 13 ∨ o = 14 ∨ o = 15 ∨ o = 16 ∨ o = 17 ∨ o = 18 ∨ o = 19 by omega) with rfl | rfl | rfl | rfl | rfl | rfl | rfl | rfl | rfl | rfl | rfl | rfl | rfl | rfl | rfl | rfl | rfl | rfl | rfl | rfl
  · exact f0
  · exact f1
  · exact f2
  · exact bad_ap (o := 3) (k := 10) (l := [0, 10]) (by decide) (by decide) h1 h2
  · exact bad_ap (o := 4) (k := 10) (l := [0, 9, 10]) (by decide) (by decide) h1 h2
  · exact bad_ap (o := 5) (k := 10) (l := [0, 10]) (by decide) (by decide) h1 h2
  · exact bad_ap (o := 6) (k := 10) (l := [0, 10]) (by decide) (by decide) h1 h2
  · exact bad_ap (o := 7) (k := 10) (l := [9, 10]) (by decide) (by decide) h1 h2
  · exact bad_ap (o := 8) (k := 10) (l := [9, 10]) (by decide) (by decide) h1 h2
  · exact bad_ap (o := 9) (k := 10) (l := [9, 10]) (by decide) (by decide) h1 h2
  · exact bad_ap (o := 10) (k := 10) (l := [0, 9, 10]) (by decide) (by decide) h1 h2
  · exact bad_ap (o := 11) (k := 10) (l := [0, 9, 10]) (by decide) (by decide) h1 h2
  · exact bad_ap (o := 12) (k := 10) (l := [0, 9, 10]) (by decide) (by decide) h1 h2
  · exact bad_ap (o := 13) (k := 10) (l := [0, 9, 10]) (by decide) (by decide) h1 h2
  · exact bad_ap (o := 14) (k := 10) (l := [0, 9, 10]) (by decide) (by decide) h1 h2
  · exact bad_ap (o := 15) (k := 10) (l := [0, 9, 10]) (by decide) (by decide) h1 h2
  · exact (eq_of (k := 10) (by decide) h1 h2).1
  · exact (eq_of (k := 10) (by decide) h1 h2).2
  · exact bad_ap (o := 18) (k := 10) (l := [0, 10]) (by decide) (by decide) h1 h2
  · exact bad_ap (o := 19) (k := 10) (l := [0, 10]) (by decide) (by decide) h1 h2

/-! ### All values -/
def OkV (aR aS : Addr) (vk b : Int) : Prop := (∃ n, Bnd vk b n ∧ IntV aR aS vk b n) ∨ (vk = 9 ∧ HF b.toNat) ∨ (vk = 10 ∧ HC b (b % 4294967296).toNat (b / 4294967296).toNat)
theorem vE (aR aS : Addr) (vk b : Int) (hb0 : 0 ≤ b) (hb1 : b < 18446744073709551616) : ∃ e, Chk aR aS vk b e ∧ (e = 0 → OkV aR aS vk b) := by
  rcases vclass aR aS vk b hb0 hb1 with hv | hv | ⟨n, hB, hv, hi⟩ | ⟨⟨h, c1, c2, c3⟩, hv⟩ | ⟨⟨h, c1, c2, c3, c4⟩, hv⟩
  · exact ⟨11, hv, fun h => absurd h (by decide)⟩
  · exact ⟨1, hv, fun h => absurd h (by decide)⟩
  · exact ⟨0, hv, fun _ => .inl ⟨n, hB, hi⟩⟩
  · refine ⟨0, hv, fun _ => .inr (.inl ⟨h, ?_⟩)⟩
    unfold HF
    omega
  · refine ⟨0, hv, fun _ => .inr (.inr ⟨h, ?_⟩)⟩
    unfold HC HF
    omega
theorem hn_of {vk : Nat} {b n : Int} (hk : vk < 9) (h : Bnd vk b n) : HN vk b n := by
  unfold Bnd at h
  have hv : vk = 0 ∨ vk = 1 ∨ vk = 2 ∨ vk = 3 ∨ vk = 4 ∨ vk = 5 ∨ vk = 6 ∨ vk = 7 ∨ vk = 8 := by omega
  rcases hv with rfl | rfl | rfl | rfl | rfl | rfl | rfl | rfl | rfl <;> refine ⟨?_, ?_, ?_, ?_, ?_⟩ <;> omega
theorem right_ap {aR aS : Addr} {k a b : Int} (a0 : 0 ≤ a) (b0 : 0 ≤ b) (h1 : Chk aR aS k a 0) (h2 : Chk aR aS k b 0) (v1 : OkV aR aS k a) (v2 : OkV aR aS k b) (o : Nat) (ho : o < 20) : ApV aR aS ((o + 6 : Nat) : Int) k a k b := by
  rcases v1 with ⟨n, B1, i1⟩ | ⟨rfl, c⟩ | ⟨rfl, c⟩
  · rcases v2 with ⟨m, B2, i2⟩ | ⟨rfl, _⟩ | ⟨rfl, _⟩
    · have hv : k = 0 ∨ k = 1 ∨ k = 2 ∨ k = 3 ∨ k = 4 ∨ k = 5 ∨ k = 6 ∨ k = 7 ∨ k = 8 := by
        unfold Bnd at B1
        omega
      rcases hv with rfl | rfl | rfl | rfl | rfl | rfl | rfl | rfl | rfl
      · exact bool_all (hn_of (vk := 0) (by decide) B1) (hn_of (vk := 0) (by decide) B2) h1 h2 i1 i2 o ho
      · exact ints_1 (hn_of (vk := 1) (by decide) B1) (hn_of (vk := 1) (by decide) B2) h1 h2 i1 i2 o ho
      · exact ints_2 (hn_of (vk := 2) (by decide) B1) (hn_of (vk := 2) (by decide) B2) h1 h2 i1 i2 o ho
      · exact ints_3 (hn_of (vk := 3) (by decide) B1) (hn_of (vk := 3) (by decide) B2) h1 h2 i1 i2 o ho
      · exact ints_4 (hn_of (vk := 4) (by decide) B1) (hn_of (vk := 4) (by decide) B2) h1 h2 i1 i2 o ho
      · exact ints_5 (hn_of (vk := 5) (by decide) B1) (hn_of (vk := 5) (by decide) B2) h1 h2 i1 i2 o ho
      · exact ints_6 (hn_of (vk := 6) (by decide) B1) (hn_of (vk := 6) (by decide) B2) h1 h2 i1 i2 o ho
      · exact ints_7 (hn_of (vk := 7) (by decide) B1) (hn_of (vk := 7) (by decide) B2) h1 h2 i1 i2 o ho
      · exact ints_8 (hn_of (vk := 8) (by decide) B1) (hn_of (vk := 8) (by decide) B2) h1 h2 i1 i2 o ho
    · unfold Bnd at B1
      omega
    · unfold Bnd at B1
      omega
  · rcases v2 with ⟨m, B2, _⟩ | ⟨_, d⟩ | ⟨h, _⟩
    · unfold Bnd at B2
      omega
    · obtain ⟨F, rfl⟩ := Int.eq_ofNat_of_zero_le a0
      obtain ⟨G, rfl⟩ := Int.eq_ofNat_of_zero_le b0
      exact floats_all c d h1 h2 o ho
    · exact absurd h (by decide)
  · rcases v2 with ⟨m, B2, _⟩ | ⟨h, _⟩ | ⟨_, d⟩
    · unfold Bnd at B2
      omega
    · exact absurd h (by decide)
    · exact complexes_all c d h1 h2 o ho
theorem ap_all (aR aS : Addr) (op ka a kb b : Int) (a0 : 0 ≤ a) (a1 : a < 18446744073709551616) (b0 : 0 ≤ b) (b1 : b < 18446744073709551616) : ApV aR aS op ka a kb b := by
  obtain ⟨ea, ha, va⟩ := vE aR aS ka a a0 a1
  obtain ⟨eb, hb, vb⟩ := vE aR aS kb b b0 b1
  by_cases h : op < 6 ∨ op > 25 ∨ ea ≠ 0 ∨ eb ≠ 0 ∨ kb ≠ ka
  · exact err_ap ha hb h
  · have hea : ea = 0 := by omega
    have heb : eb = 0 := by omega
    have hk : kb = ka := by omega
    subst hea heb hk
    have := right_ap a0 b0 ha hb (va rfl) (vb rfl) (op - 6).toNat (by omega)
    rw [show (((op - 6).toNat + 6 : Nat) : Int) = op by omega] at this
    exact this
theorem not_all (aR aS : Addr) (k b : Int) (b0 : 0 ≤ b) (b1 : b < 18446744073709551616) : NotV aR aS k b := by
  obtain ⟨e, hc, hv⟩ := vE aR aS k b b0 b1
  by_cases h : e = 0
  · subst h
    rcases hv rfl with ⟨n, B1, _⟩ | ⟨rfl, _⟩ | ⟨rfl, _⟩
    · have hv : k = 0 ∨ k = 1 ∨ k = 2 ∨ k = 3 ∨ k = 4 ∨ k = 5 ∨ k = 6 ∨ k = 7 ∨ k = 8 := by
        unfold Bnd at B1
        omega
      unfold Bnd at B1
      rcases hv with rfl | rfl | rfl | rfl | rfl | rfl | rfl | rfl | rfl
      · exact not_0 (by omega) (by omega) hc
      · exact not_1 (by omega) (by omega) hc
      · exact not_2 (by omega) (by omega) hc
      · exact not_3 (by omega) (by omega) hc
      · exact not_4 (by omega) (by omega) hc
      · exact not_5 (by omega) (by omega) hc
      · exact not_6 (by omega) (by omega) hc
      · exact not_7 (by omega) (by omega) hc
      · exact not_8 (by omega) (by omega) hc
    · exact not_9 hc
    · exact not_10 hc
  · exact not_err hc h
end
end Go.Proofs.YtonkcpmefnddaaaGreatDoor

namespace Go.Proofs.YtonkcpmefnddaaaGreatDoor
noncomputable section
open Go Go.RX
open Go.RowKit (Below)
set_option maxRecDepth 1000000
set_option maxHeartbeats 4000000

/-! ### The law -/
def rz (op a ka b kb k1 e1 k2 v2 e2 k3 v3 e3 : Int) : Nat → Int := fun i => match i with
  | 0 => a
  | 7 => ka
  | 10 => b
  | 17 => kb
  | 30 => k1
  | 31 => e1
  | 32 => k2
  | 33 => v2
  | 34 => e2
  | 35 => k3
  | 36 => v3
  | 37 => e3
  | 40 => op
  | _ => 0
def sy (i : Nat) : SVal := .sym (.int .i64 (.var i))
def su (i : Nat) : SVal := .sym (.int .u64 (.var i))
def rRes : SVal := .tuple [sy 30, sy 31]
def rApp : SVal := .tuple [.agg [sy 32, su 33], sy 34]
def rNot : SVal := .tuple [.agg [sy 35, su 36], sy 37]
def UZ : List SEntry := [(4, [], .v (.bool true)), (5, [sOp, sy 7], rRes), (6, [sOp, sy 7], rRes), (7, [sOp, vA, vB], rApp), (8, [sOp, vA, vB], rApp), (9, [vA], rNot), (10, [vA], rNot)]
def LZ : List CF := [30, 31, 32, 33, 34, 35, 36, 37].map fun i => ⟨.eql, .var i, .var i, true⟩
theorem run_law (W : Nat → Nat) (C : Nat → Nat × Nat) (ρ : Nat → Int) (aR aS : Addr) : runE W C ρ aR aS LZ [] UZ [(3, [sOp, vA, vB], .v (.bool true))] := by unfold runE; kernel_rfl
/-- **The law, at every input.** -/
theorem numApplies_ok (aR aS : Addr) (op ka a kb b : Int) (a0 : 0 ≤ a) (a1 : a < 18446744073709551616) (b0 : 0 ≤ b) (b1 : b < 18446744073709551616) (w : World) (hG : (glob aR aS).holds w) :
    Calls Tryz.prog 3 #[.int .i64 op, agV ka a, agV kb b] w (Ret (.bool true) w) := by
  obtain ⟨k1, e1, hR⟩ := res_all aR aS op ka
  obtain ⟨k2, v2, e2, hA⟩ := ap_all aR aS op ka a kb b a0 a1 b0 b1
  obtain ⟨k3, v3, e3, hN⟩ := not_all aR aS ka a a0 a1
  refine calls_symF (W := wF 0) (C := cF 0) (ρ := rz op a ka b kb k1 e1 k2 v2 e2 k3 v3 e3) (L := LZ) (T := []) (fun f hf => ?_) (fun _ h => by cases h) (fun x hx => ?_) (run_law _ _ _ aR aS) List.mem_cons_self rfl rfl (vs := [.int .i64 op, agV ka a, agV kb b]) rfl rfl hG
  · simp only [LZ, List.map_cons, List.map_nil, List.mem_cons, List.not_mem_nil, or_false] at hf
    rcases hf with rfl | rfl | rfl | rfl | rfl | rfl | rfl | rfl <;> exact ⟨rfl, beq_self_eq_true _⟩
  · simp only [UZ, List.mem_cons, List.not_mem_nil, or_false] at hx
    rcases hx with rfl | rfl | rfl | rfl | rfl | rfl | rfl
    · exact sokE (vs := []) (v := .bool true) rfl rfl rfl rfl fun w hG => awake_ok aR aS w hG
    · exact sokE (vs := [.int .i64 op, .int .i64 ka]) (v := .tuple #[.int .i64 k1, .int .i64 e1]) rfl rfl rfl rfl fun w hG => (hR w hG).1
    · exact sokE (vs := [.int .i64 op, .int .i64 ka]) (v := .tuple #[.int .i64 k1, .int .i64 e1]) rfl rfl rfl rfl fun w hG => (hR w hG).2
    · exact sokE (vs := [.int .i64 op, agV ka a, agV kb b]) (v := .tuple #[agV k2 v2, .int .i64 e2]) rfl rfl rfl rfl fun w hG => (hA w hG).1
    · exact sokE (vs := [.int .i64 op, agV ka a, agV kb b]) (v := .tuple #[agV k2 v2, .int .i64 e2]) rfl rfl rfl rfl fun w hG => (hA w hG).2
    · exact sokE (vs := [agV ka a]) (v := .tuple #[agV k3 v3, .int .i64 e3]) rfl rfl rfl rfl fun w hG => (hN w hG).1
    · exact sokE (vs := [agV ka a]) (v := .tuple #[agV k3 v3, .int .i64 e3]) rfl rfl rfl rfl fun w hG => (hN w hG).2
end
end Go.Proofs.YtonkcpmefnddaaaGreatDoor
