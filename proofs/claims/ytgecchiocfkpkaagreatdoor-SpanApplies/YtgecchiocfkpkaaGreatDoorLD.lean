import Derived.Test.YtgecchiocfkpkaaGreatDoorLC
namespace Go.Proofs.YtgecchiocfkpkaaGreatDoor
noncomputable section
open Go Go.RX
open Go.RowKit (Below)
set_option maxRecDepth 1000000
set_option maxHeartbeats 4000000
/-! ### Apply, once it is known of right spans -/
/-- Of right spans. -/
def ApD (aR aS : Addr) (op k al ah bl bh sl sh : Int) : Prop := ∀ w, (glob aR aS).holds w → Calls Tryz.prog 24 #[.int .i64 op, .int .i64 k, spV al ah, spV bl bh] w (Ret (spV sl sh) w) ∧ Calls Tryz.prog 8 #[.int .i64 op, .int .i64 k, spV al ah, spV bl bh] w (Ret (spV sl sh) w)
/-- Of all. -/
def ApV (aR aS : Addr) (op k al ah bl bh : Int) : Prop := ∃ sl sh e : Int, (∀ w, (glob aR aS).holds w → Calls Tryz.prog 5 #[.int .i64 op, .int .i64 k, spV al ah, spV bl bh] w (Ret (.tuple #[spV sl sh, .int .i64 e]) w) ∧ Calls Tryz.prog 7 #[.int .i64 op, .int .i64 k, spV al ah, spV bl bh] w (Ret (.int .i64 e) w)) ∧
  (e = 0 → ∀ w, (glob aR aS).holds w → Calls Tryz.prog 8 #[.int .i64 op, .int .i64 k, spV al ah, spV bl bh] w (Ret (spV sl sh) w)) ∧ (e ≠ 0 → sl = 0 ∧ sh = 0)
/-- 0 to 3 the ends, 4, 5 the whole span, 7 the kind, 11 the operation, 12 the kind's error, 13, 14 Result, 15, 16 Check, 17, 18 the result. -/
def rA (op k al ah bl bh lo hi eW K eR eA eB sl sh : Int) : Nat → Int := rho al ah bl bh lo hi 0 k 0 0 0 fun i => match i with
  | 0 => op
  | 1 => eW
  | 2 => K
  | 3 => eR
  | 4 => eA
  | 5 => eB
  | 6 => sl
  | 7 => sh
  | _ => 0
abbrev sy (i : Nat) : SVal := .sym (.int .i64 (.var i))
abbrev sA : SVal := .agg [sy 0, sy 1]
abbrev sB : SVal := .agg [sy 2, sy 3]
def xA : List SVal := [sy 11, sy 7, sA, sB]
def L_ap (w r x y : Bool) : List CF := [⟨.lss, .var 11, .lit 6, false⟩, ⟨.gtr, .var 11, .lit 25, false⟩, ⟨.geq, .var 11, .lit 6, true⟩, ⟨.leq, .var 11, .lit 25, true⟩, ⟨.neq, .var 12, .lit 0, w⟩, ⟨.neq, .var 14, .lit 0, r⟩, ⟨.neq, .var 15, .lit 0, x⟩, ⟨.neq, .var 16, .lit 0, y⟩]
def U_ap (b : Bool) : List SEntry := [(20, xK, .tuple [s45, sy 12]), (26, xK, sy 12), (21, [sy 11, sy 7], .tuple [sy 13, sy 14]), (27, [sy 11, sy 7], .tuple [sy 13, sy 14]),
  (23, [sy 7, sA], sy 15), (10, [sy 7, sA], sy 15), (23, [sy 7, sB], sy 16), (10, [sy 7, sB], sy 16)] ++ if b then [] else [(24, xA, .agg [sy 17, sy 18])]
def errS (w r x y : Bool) : SVal := if w then sy 12 else if r then sy 14 else if x then sy 15 else if y then sy 16 else .v (.int .i64 0)
def spS (b : Bool) : SVal := if b then .v (spV 0 0) else .agg [sy 17, sy 18]
theorem run_ap (ρ : Nat → Int) (aR aS : Addr) (w r x y : Bool) : runE ρ aR aS (L_ap w r x y) (U_ap (w || r || x || y)) [(5, xA, .tuple [spS (w || r || x || y), errS w r x y]), (7, xA, errS w r x y)] := by
  unfold runE
  cases w <;> cases r <;> cases x <;> cases y <;> kernel_rfl
def errI (eW eR eA eB : Int) : Int := if (eW != 0) = true then eW else if (eR != 0) = true then eR else if (eA != 0) = true then eA else if (eB != 0) = true then eB else 0

theorem ap_in {aR aS : Addr} {op k al ah bl bh lo hi eW K eR eA eB sl sh : Int} (o0 : 6 ≤ op) (o1 : op ≤ 25) (hW : WhV aR aS k lo hi eW) (hR : ResV aR aS op k K eR) (hA : ChkV aR aS k al ah eA) (hB : ChkV aR aS k bl bh eB)
    (hD : eW = 0 → eR = 0 → eA = 0 → eB = 0 → ApD aR aS op k al ah bl bh sl sh) : ApV aR aS op k al ah bl bh := by
  have hL : ∀ f ∈ L_ap (eW != 0) (eR != 0) (eA != 0) (eB != 0), f.ok (rA op k al ah bl bh lo hi eW K eR eA eB sl sh) := fun f hf => by
    simp only [L_ap, List.mem_cons, List.not_mem_nil, or_false] at hf
    rcases hf with rfl | rfl | rfl | rfl | rfl | rfl | rfl | rfl
    · exact ⟨rfl, decide_eq_false (show ¬ op < 6 by omega)⟩
    · exact ⟨rfl, decide_eq_false (show ¬ op > 25 by omega)⟩
    · exact ⟨rfl, decide_eq_true (show op ≥ 6 by omega)⟩
    · exact ⟨rfl, decide_eq_true (show op ≤ 25 by omega)⟩
    · exact ⟨rfl, rfl⟩
    · exact ⟨rfl, rfl⟩
    · exact ⟨rfl, rfl⟩
    · exact ⟨rfl, rfl⟩
  have hU : ∀ u ∈ U_ap ((eW != 0) || (eR != 0) || (eA != 0) || (eB != 0)), @SOk (E (rA op k al ah bl bh lo hi eW K eR eA eB sl sh) (L_ap (eW != 0) (eR != 0) (eA != 0) (eB != 0))) Tryz.prog (glob aR aS) u := fun u hu => by
    rcases List.mem_append.1 hu with hu | hu
    · simp only [List.mem_cons, List.not_mem_nil, or_false] at hu
      rcases hu with rfl | rfl | rfl | rfl | rfl | rfl | rfl | rfl
      · exact sokE rfl rfl (vs := [.int .i64 k]) (v := .tuple #[spV lo hi, .int .i64 eW]) rfl rfl fun w hG => (hW w hG).1
      · exact sokE rfl rfl (vs := [.int .i64 k]) (v := .int .i64 eW) rfl rfl fun w hG => (hW w hG).2
      · exact sokE rfl rfl (vs := [.int .i64 op, .int .i64 k]) (v := .tuple #[.int .i64 K, .int .i64 eR]) rfl rfl fun w hG => (hR w hG).1
      · exact sokE rfl rfl (vs := [.int .i64 op, .int .i64 k]) (v := .tuple #[.int .i64 K, .int .i64 eR]) rfl rfl fun w hG => (hR w hG).2
      · exact sokE rfl rfl (vs := [.int .i64 k, spV al ah]) (v := .int .i64 eA) rfl rfl fun w hG => (hA w hG).1
      · exact sokE rfl rfl (vs := [.int .i64 k, spV al ah]) (v := .int .i64 eA) rfl rfl fun w hG => (hA w hG).2
      · exact sokE rfl rfl (vs := [.int .i64 k, spV bl bh]) (v := .int .i64 eB) rfl rfl fun w hG => (hB w hG).1
      · exact sokE rfl rfl (vs := [.int .i64 k, spV bl bh]) (v := .int .i64 eB) rfl rfl fun w hG => (hB w hG).2
    · split at hu
      · cases hu
      · rename_i hb
        simp only [Bool.or_eq_true, bne_iff_ne, ne_eq, not_or, Decidable.not_not] at hb
        simp only [List.mem_cons, List.not_mem_nil, or_false] at hu
        subst hu
        exact sokE rfl rfl (vs := [.int .i64 op, .int .i64 k, spV al ah, spV bl bh]) (v := spV sl sh) rfl rfl fun w hG => (hD hb.1.1.1 hb.1.1.2 hb.1.2 hb.2 w hG).1
  have hrun := run_ap (rA op k al ah bl bh lo hi eW K eR eA eB sl sh) aR aS (eW != 0) (eR != 0) (eA != 0) (eB != 0)
  have nfE : ∀ w r x y, nf (errS w r x y) = true := by intro w r x y; cases w <;> cases r <;> cases x <;> cases y <;> rfl
  have nfP : ∀ b, nf (spS b) = true := by intro b; cases b <;> rfl
  have dE : @den (E (rA op k al ah bl bh lo hi eW K eR eA eB sl sh) (L_ap (eW != 0) (eR != 0) (eA != 0) (eB != 0))) (fun _ => none) (errS (eW != 0) (eR != 0) (eA != 0) (eB != 0)) = some (.int .i64 (errI eW eR eA eB)) := by
    unfold errS errI
    split
    · rfl
    split
    · rfl
    split
    · rfl
    split
    · rfl
    · rfl
  by_cases hz : eW = 0 ∧ eR = 0 ∧ eA = 0 ∧ eB = 0
  · obtain ⟨rfl, rfl, rfl, rfl⟩ := hz
    refine ⟨sl, sh, 0, fun w hG => ?_, fun _ w hG => (hD rfl rfl rfl rfl w hG).2, fun h => absurd rfl h⟩
    exact pair_of hL hU hrun rfl rfl rfl (vs := [.int .i64 op, .int .i64 k, spV al ah, spV bl bh]) (v := .tuple #[spV sl sh, .int .i64 0]) (v' := .int .i64 0) rfl rfl rfl w hG
  · have hb : ((eW != 0) || (eR != 0) || (eA != 0) || (eB != 0)) = true := by
      simp only [Bool.or_eq_true, bne_iff_ne, ne_eq]
      omega
    have hne : errI eW eR eA eB ≠ 0 := by
      unfold errI
      simp only [bne_iff_ne, ne_eq]
      split
      · assumption
      split
      · assumption
      split
      · assumption
      split
      · assumption
      · exact absurd ⟨by omega, by omega, by omega, by omega⟩ hz
    refine ⟨0, 0, errI eW eR eA eB, fun w hG => ?_, fun h => absurd h hne, fun _ => ⟨rfl, rfl⟩⟩
    refine pair_of hL hU hrun rfl ?_ (nfE _ _ _ _) (vs := [.int .i64 op, .int .i64 k, spV al ah, spV bl bh]) (v := .tuple #[spV 0 0, .int .i64 (errI eW eR eA eB)]) (v' := .int .i64 (errI eW eR eA eB)) rfl ?_ dE w hG
    · simp only [nf, nfL, nfE, nfP, Bool.and_self]
    · rw [hb]
      simp only [spS, if_true, den, denL, dE]
end
end Go.Proofs.YtgecchiocfkpkaaGreatDoor

namespace Go.Proofs.YtgecchiocfkpkaaGreatDoor
noncomputable section
open Go Go.RX
open Go.RowKit (Below)
set_option maxRecDepth 1000000
set_option maxHeartbeats 4000000
/-! ### Apply of no operation -/
def L_lo : List CF := [⟨.lss, .var 11, .lit 6, true⟩, ⟨.geq, .var 11, .lit 6, false⟩]
def L_hi : List CF := [⟨.lss, .var 11, .lit 6, false⟩, ⟨.gtr, .var 11, .lit 25, true⟩, ⟨.geq, .var 11, .lit 6, true⟩, ⟨.leq, .var 11, .lit 25, false⟩]
def jN : List SEntry := [(5, xA, .v (.tuple #[spV 0 0, .int .i64 8])), (7, xA, .v (.int .i64 8))]
theorem run_lo (ρ : Nat → Int) (aR aS : Addr) : runE ρ aR aS L_lo [] jN := by
  unfold runE
  kernel_rfl
theorem run_hi (ρ : Nat → Int) (aR aS : Addr) : runE ρ aR aS L_hi [] jN := by
  unfold runE
  kernel_rfl
theorem ap_out (aR aS : Addr) {op k al ah bl bh : Int} (h : op < 6 ∨ 25 < op) : ApV aR aS op k al ah bl bh := by
  refine ⟨0, 0, 8, fun w hG => ?_, fun h => absurd h (by decide), fun _ => ⟨rfl, rfl⟩⟩
  rcases h with h | h
  · have hL : ∀ f ∈ L_lo, f.ok (rA op k al ah bl bh 0 0 0 0 0 0 0 0 0) := fun f hf => by
      simp only [L_lo, List.mem_cons, List.not_mem_nil, or_false] at hf
      rcases hf with rfl | rfl
      · exact ⟨rfl, decide_eq_true h⟩
      · exact ⟨rfl, decide_eq_false (show ¬ op ≥ 6 by omega)⟩
    exact pair_of hL (fun _ h => by cases h) (run_lo _ aR aS) rfl rfl rfl (vs := [.int .i64 op, .int .i64 k, spV al ah, spV bl bh]) (v := .tuple #[spV 0 0, .int .i64 8]) (v' := .int .i64 8) rfl rfl rfl w hG
  · have hL : ∀ f ∈ L_hi, f.ok (rA op k al ah bl bh 0 0 0 0 0 0 0 0 0) := fun f hf => by
      simp only [L_hi, List.mem_cons, List.not_mem_nil, or_false] at hf
      rcases hf with rfl | rfl | rfl | rfl
      · exact ⟨rfl, decide_eq_false (show ¬ op < 6 by omega)⟩
      · exact ⟨rfl, decide_eq_true (show op > 25 by omega)⟩
      · exact ⟨rfl, decide_eq_true (show op ≥ 6 by omega)⟩
      · exact ⟨rfl, decide_eq_false (show ¬ op ≤ 25 by omega)⟩
    exact pair_of hL (fun _ h => by cases h) (run_hi _ aR aS) rfl rfl rfl (vs := [.int .i64 op, .int .i64 k, spV al ah, spV bl bh]) (v := .tuple #[spV 0 0, .int .i64 8]) (v' := .int .i64 8) rfl rfl rfl w hG

/-! ### Values of another kind -/
def CvD (aR aS : Addr) (op k l h sl sh : Int) : Prop := ∀ w, (glob aR aS).holds w → Calls Tryz.prog 43 #[.int .i64 op, .int .i64 k, spV l h] w (Ret (spV sl sh) w) ∧ Calls Tryz.prog 14 #[.int .i64 op, .int .i64 k, spV l h] w (Ret (spV sl sh) w)
/-- 0, 1 the span, 8 the kind, 9, 10 its whole span. -/
def rV (l h k lo hi : Int) : Nat → Int := rho l h 0 0 0 0 0 0 k lo hi fun _ => 0
def xV (op : Int) : List SVal := [.v (.int .i64 op), sy 8, sA]
abbrev s9 : SVal := .agg [sy 9, sy 10]
def U_cv : List SEntry := [(48, [sy 8], s9), (34, [sy 8], s9)]
def eSat (i : Nat) : IE := .tri 3 (.tri 2 (.var i) (.var 9) (.lit 0)) (.var 10) (.lit 0)
def rSat : SVal := .agg [.sym (.int .i64 (eSat 0)), .sym (.int .i64 (eSat 1))]
theorem run_sat (ρ : Nat → Int) (aR aS : Addr) : runE ρ aR aS [] U_cv [(43, xV 28, rSat), (14, xV 28, rSat)] := by
  unfold runE
  kernel_rfl
theorem kd_of {aR aS : Addr} {s : Int × Int × Int × Int} (hs : s ∈ small) {l h : Int} {L : List CF} : ∀ u ∈ U_cv, @SOk (E (rV l h s.1 s.2.1 s.2.2.1) L) Tryz.prog (glob aR aS) u := fun u hu => by
  simp only [U_cv, List.mem_cons, List.not_mem_nil, or_false] at hu
  rcases hu with rfl | rfl
  · exact sokE rfl rfl (vs := [.int .i64 s.1]) (v := spV s.2.1 s.2.2.1) rfl rfl fun w hG => (kd_small aR aS hs w hG).1
  · exact sokE rfl rfl (vs := [.int .i64 s.1]) (v := spV s.2.1 s.2.2.1) rfl rfl fun w hG => (kd_small aR aS hs w hG).2.1
theorem cv_sat (aR aS : Addr) {s : Int × Int × Int × Int} (hs : s ∈ small) (l h : Int) : ∃ sl sh, CvD aR aS 28 s.1 l h sl sh :=
  ⟨(eSat 0).ev (rV l h s.1 s.2.1 s.2.2.1), (eSat 1).ev (rV l h s.1 s.2.1 s.2.2.1), fun w hG => pair_of (L := []) (fun _ h => by cases h) (kd_of hs) (run_sat _ aR aS) rfl rfl rfl (vs := [.int .i64 28, .int .i64 s.1, spV l h]) rfl rfl rfl w hG⟩
/-- To Bool: 0, 1 the span. -/
def xB : List SVal := [.v (.int .i64 27), .v (.int .i64 0), sA]
def L_bo (p q r s t : Bool) : List CF := [⟨.lss, .var 1, .lit 0, p⟩, ⟨.lss, .lit 0, .var 0, q⟩, ⟨.gtr, .var 0, .lit 0, q⟩, ⟨.eql, .var 0, .lit 0, r⟩, ⟨.eql, .var 1, .lit 0, s⟩, ⟨.eql, .var 1, .var 0, t⟩]
def boL (p q _r _s : Bool) : Int := if p || q then 1 else 0
def boH (p q r s : Bool) : Int := if p || q then 1 else if r && s then 0 else 1
theorem run_bo (ρ : Nat → Int) (aR aS : Addr) (p q r s t : Bool) (h : (r && s) = true → t = true) : runE ρ aR aS (L_bo p q r s t) [] [(43, xB, .v (spV (boL p q r s) (boH p q r s))), (14, xB, .v (spV (boL p q r s) (boH p q r s)))] := by
  unfold runE
  cases p <;> cases q <;> cases r <;> cases s <;> cases t <;> first | (exact absurd (h rfl) (by decide)) | kernel_rfl
theorem cv_bool (aR aS : Addr) (l h : Int) : ∃ sl sh, CvD aR aS 27 0 l h sl sh := by
  refine ⟨boL (decide (h < 0)) (decide (0 < l)) (l == 0) (h == 0), boH (decide (h < 0)) (decide (0 < l)) (l == 0) (h == 0), fun w hG => ?_⟩
  have hL : ∀ f ∈ L_bo (decide (h < 0)) (decide (0 < l)) (l == 0) (h == 0) (h == l), f.ok (rV l h 0 0 0) := fun f hf => by
    simp only [L_bo, List.mem_cons, List.not_mem_nil, or_false] at hf
    rcases hf with rfl | rfl | rfl | rfl | rfl | rfl <;> exact ⟨rfl, rfl⟩
  exact pair_of hL (fun _ h => by cases h) (run_bo _ aR aS _ _ _ _ _ (fun hh => by simp only [Bool.and_eq_true, beq_iff_eq] at hh ⊢; omega)) rfl rfl rfl (vs := [.int .i64 27, .int .i64 0, spV l h]) rfl rfl rfl w hG
/-- By the whole span: how often it is moved. -/
def eN : IE := .bin .add .i64 (.bin .sub .i64 (.var 10) (.var 9)) (.lit 1)
def eD : IE := .bin .sub .i64 (.var 0) (.var 9)
def eQ (p : Bool) : IE := if p then .bin .quo .i64 eD eN else .bin .sub .i64 (.bin .quo .i64 eD eN) (.lit 1)
def eM (p : Bool) (i : Nat) : IE := .bin .sub .i64 (.var i) (.bin .mul .i64 (eQ p) eN)
def L_ca (p q r : Bool) : List CF := [⟨.eql, .var 8, .lit 0, false⟩, ⟨.neq, eN, .lit 0, true⟩, ⟨.geq, .bin .rem .i64 eD eN, .lit 0, p⟩, ⟨.lss, .bin .rem .i64 eD eN, .lit 0, !p⟩, ⟨.gtr, eN, .lit 0, true⟩,
  ⟨.leq, .var 9, eM p 0, q⟩, ⟨.geq, eM p 0, .var 9, q⟩, ⟨.leq, eM p 1, .var 10, r⟩]
def rCa (p q r : Bool) : SVal := if q && r then .agg [.sym (.int .i64 (eM p 0)), .sym (.int .i64 (eM p 1))] else s9
theorem run_ca (ρ : Nat → Int) (aR aS : Addr) (p q r : Bool) : runE ρ aR aS (L_ca p q r) U_cv [(43, xV 27, rCa p q r), (14, xV 27, rCa p q r)] := by
  unfold runE
  cases p <;> cases q <;> cases r <;> kernel_rfl
theorem eN_small {s : Int × Int × Int × Int} (hs : s ∈ small) (h0 : s.1 ≠ 0) (l h : Int) : 0 < eN.ev (rV l h s.1 s.2.1 s.2.2.1) := by
  simp only [small, List.mem_cons, List.not_mem_nil, or_false] at hs
  rcases hs with rfl | rfl | rfl | rfl | rfl | rfl | rfl
  · exact absurd rfl h0
  · exact Int.lt_of_lt_of_le (show (0 : Int) < 256 by decide) (Int.le_of_eq rfl)
  · exact Int.lt_of_lt_of_le (show (0 : Int) < 65536 by decide) (Int.le_of_eq rfl)
  · exact Int.lt_of_lt_of_le (show (0 : Int) < 4294967296 by decide) (Int.le_of_eq rfl)
  · exact Int.lt_of_lt_of_le (show (0 : Int) < 256 by decide) (Int.le_of_eq rfl)
  · exact Int.lt_of_lt_of_le (show (0 : Int) < 65536 by decide) (Int.le_of_eq rfl)
  · exact Int.lt_of_lt_of_le (show (0 : Int) < 4294967296 by decide) (Int.le_of_eq rfl)
theorem cv_cast (aR aS : Addr) {s : Int × Int × Int × Int} (hs : s ∈ small) (h0 : s.1 ≠ 0) (l h : Int) : ∃ sl sh, CvD aR aS 27 s.1 l h sl sh := by
  have hN := eN_small hs h0 l h
  generalize hρ : rV l h s.1 s.2.1 s.2.2.1 = ρ at hN
  have hL : ∀ f ∈ L_ca (decide ((IE.bin .rem .i64 eD eN).ev ρ ≥ 0)) (decide (ρ 9 ≤ (eM (decide ((IE.bin .rem .i64 eD eN).ev ρ ≥ 0)) 0).ev ρ)) (decide ((eM (decide ((IE.bin .rem .i64 eD eN).ev ρ ≥ 0)) 1).ev ρ ≤ ρ 10)), f.ok ρ := fun f hf => by
    simp only [L_ca, List.mem_cons, List.not_mem_nil, or_false] at hf
    rcases hf with rfl | rfl | rfl | rfl | rfl | rfl | rfl | rfl
    · exact ⟨rfl, by subst hρ; exact decide_eq_false (show ¬ s.1 = 0 from h0)⟩
    · exact ⟨rfl, show (eN.ev ρ != 0) = true by simp; omega⟩
    · exact ⟨rfl, rfl⟩
    · refine ⟨rfl, ?_⟩
      show decide ((IE.bin .rem .i64 eD eN).ev ρ < 0) = !decide ((IE.bin .rem .i64 eD eN).ev ρ ≥ 0)
      generalize (IE.bin .rem .i64 eD eN).ev ρ = x
      by_cases hx : x < 0
      · rw [decide_eq_true hx, decide_eq_false (show ¬ x ≥ 0 by omega)]; rfl
      · rw [decide_eq_false hx, decide_eq_true (show x ≥ 0 by omega)]; rfl
    · exact ⟨rfl, decide_eq_true (show eN.ev ρ > 0 from hN)⟩
    · exact ⟨rfl, rfl⟩
    · exact ⟨rfl, rfl⟩
    · exact ⟨rfl, rfl⟩
  have hU : ∀ u ∈ U_cv, @SOk (E ρ (L_ca (decide ((IE.bin .rem .i64 eD eN).ev ρ ≥ 0)) (decide (ρ 9 ≤ (eM (decide ((IE.bin .rem .i64 eD eN).ev ρ ≥ 0)) 0).ev ρ)) (decide ((eM (decide ((IE.bin .rem .i64 eD eN).ev ρ ≥ 0)) 1).ev ρ ≤ ρ 10)))) Tryz.prog (glob aR aS) u := by
    subst hρ
    exact kd_of hs
  have hx : ∀ L : List CF, @denL (E ρ L) (fun _ => none) (xV 27) = some [.int .i64 27, .int .i64 s.1, spV l h] := fun L => by subst hρ; rfl
  revert hL hU
  generalize decide ((IE.bin .rem .i64 eD eN).ev ρ ≥ 0) = p
  generalize decide (ρ 9 ≤ (eM p 0).ev ρ) = q
  generalize decide ((eM p 1).ev ρ ≤ ρ 10) = r
  intro hL hU
  have hr : ∀ L : List CF, ∃ sl sh, @den (E ρ L) (fun _ => none) (rCa p q r) = some (spV sl sh) := fun L => by
    unfold rCa
    split
    · exact ⟨_, _, rfl⟩
    · exact ⟨_, _, rfl⟩
  obtain ⟨sl, sh, hd⟩ := hr (L_ca p q r)
  exact ⟨sl, sh, fun w hG => pair_of hL hU (run_ca ρ aR aS p q r) rfl (by unfold rCa; split <;> rfl) (by unfold rCa; split <;> rfl) (hx _) hd hd w hG⟩
/-- A conversion to a small kind. -/
theorem cv_small (aR aS : Addr) {s : Int × Int × Int × Int} (hs : s ∈ small) (l h : Int) {op : Int} (ho : op = 27 ∨ op = 28) : ∃ sl sh, CvD aR aS op s.1 l h sl sh := by
  rcases ho with rfl | rfl
  · by_cases h0 : s.1 = 0
    · rw [h0]; exact cv_bool aR aS l h
    · exact cv_cast aR aS hs h0 l h
  · exact cv_sat aR aS hs l h
end
end Go.Proofs.YtgecchiocfkpkaaGreatDoor
