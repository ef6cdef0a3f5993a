import Derived.Test.YtgecchiocfkpkaaGreatDoorLD
namespace Go.Proofs.YtgecchiocfkpkaaGreatDoor
noncomputable section
open Go Go.RX
open Go.RowKit (Below)
set_option maxRecDepth 1000000
set_option maxHeartbeats 4000000
/-! ### Convert -/
def CvV (aR aS : Addr) (op k t l h : Int) : Prop := ∃ sl sh e : Int, (∀ w, (glob aR aS).holds w → Calls Tryz.prog 12 #[.int .i64 op, .int .i64 k, .int .i64 t, spV l h] w (Ret (.tuple #[spV sl sh, .int .i64 e]) w) ∧ Calls Tryz.prog 13 #[.int .i64 op, .int .i64 k, .int .i64 t, spV l h] w (Ret (.int .i64 e) w)) ∧
  (e = 0 → ∀ w, (glob aR aS).holds w → Calls Tryz.prog 14 #[.int .i64 op, .int .i64 t, spV l h] w (Ret (spV sl sh) w)) ∧ (e ≠ 0 → sl = 0 ∧ sh = 0)
/-- 0, 1 the span, 4, 5 the whole span of the kind 7, 9, 10 that of the kind 8, 11 the operation, 12, 14 the errors of the kinds, 15 that of the span, 17, 18 the result. -/
def rT (op k t l h lo hi tl th eF eT eC sl sh : Int) : Nat → Int := rho l h 0 0 lo hi 0 k t tl th fun i => match i with
  | 0 => op
  | 1 => eF
  | 3 => eT
  | 4 => eC
  | 6 => sl
  | 7 => sh
  | _ => 0
def xT (op : Int) : List SVal := [.v (.int .i64 op), sy 7, sy 8, sA]
def L_ct (u v w x y : Bool) : List CF := [⟨.eql, .var 7, .lit 0, u⟩, ⟨.eql, .var 8, .lit 0, v⟩, ⟨.neq, .var 12, .lit 0, w⟩, ⟨.neq, .var 14, .lit 0, x⟩, ⟨.neq, .var 15, .lit 0, y⟩]
def U_ct (op : Int) (b : Bool) : List SEntry := [(20, [sy 7], .tuple [s45, sy 12]), (26, [sy 7], sy 12), (20, [sy 8], .tuple [s9, sy 14]), (26, [sy 8], sy 14),
  (23, [sy 7, sA], sy 15), (10, [sy 7, sA], sy 15)] ++ if b then [] else [(43, xV op, .agg [sy 17, sy 18])]
def errT (w x z y : Bool) : SVal := if w then sy 12 else if x then sy 14 else if z then .v (.int .i64 12) else if y then sy 15 else .v (.int .i64 0)
def resS (w x z y : Bool) : SVal := if !w && !x && z then .v (.tuple #[spV 0 0, .int .i64 12]) else .tuple [spS (w || x || z || y), errT w x z y]
theorem run_c27 (ρ : Nat → Int) (aR aS : Addr) (u v w x y : Bool) : runE ρ aR aS (L_ct u v w x y) (U_ct 27 (w || x || false || y)) [(12, xT 27, resS w x false y), (13, xT 27, errT w x false y)] := by
  unfold runE
  cases u <;> cases v <;> cases w <;> cases x <;> cases y <;> kernel_rfl
theorem run_c28 (ρ : Nat → Int) (aR aS : Addr) (u v w x y : Bool) : runE ρ aR aS (L_ct u v w x y) (U_ct 28 (w || x || (u || v) || y)) [(12, xT 28, resS w x (u || v) y), (13, xT 28, errT w x (u || v) y)] := by
  unfold runE
  cases u <;> cases v <;> cases w <;> cases x <;> cases y <;> kernel_rfl
def errJ (eF eT : Int) (z : Bool) (eC : Int) : Int := if (eF != 0) = true then eF else if (eT != 0) = true then eT else if z = true then 12 else if (eC != 0) = true then eC else 0

theorem cv_in {aR aS : Addr} {op k t l h lo hi tl th eF eT eC sl sh : Int} {z : Bool} (hF : WhV aR aS k lo hi eF) (hT : WhV aR aS t tl th eT) (hC : ChkV aR aS k l h eC) (hD : eF = 0 → eT = 0 → eC = 0 → CvD aR aS op t l h sl sh)
    (hrun : ∀ ρ, runE ρ aR aS (L_ct (k == 0) (t == 0) (eF != 0) (eT != 0) (eC != 0)) (U_ct op ((eF != 0) || (eT != 0) || z || (eC != 0))) [(12, xT op, resS (eF != 0) (eT != 0) z (eC != 0)), (13, xT op, errT (eF != 0) (eT != 0) z (eC != 0))]) : CvV aR aS op k t l h := by
  have hL : ∀ f ∈ L_ct (k == 0) (t == 0) (eF != 0) (eT != 0) (eC != 0), f.ok (rT op k t l h lo hi tl th eF eT eC sl sh) := fun f hf => by
    simp only [L_ct, List.mem_cons, List.not_mem_nil, or_false] at hf
    rcases hf with rfl | rfl | rfl | rfl | rfl <;> exact ⟨rfl, rfl⟩
  have hU : ∀ u ∈ U_ct op ((eF != 0) || (eT != 0) || z || (eC != 0)), @SOk (E (rT op k t l h lo hi tl th eF eT eC sl sh) (L_ct (k == 0) (t == 0) (eF != 0) (eT != 0) (eC != 0))) Tryz.prog (glob aR aS) u := fun u hu => by
    rcases List.mem_append.1 hu with hu | hu
    · simp only [List.mem_cons, List.not_mem_nil, or_false] at hu
      rcases hu with rfl | rfl | rfl | rfl | rfl | rfl
      · exact sokE rfl rfl (vs := [.int .i64 k]) (v := .tuple #[spV lo hi, .int .i64 eF]) rfl rfl fun w hG => (hF w hG).1
      · exact sokE rfl rfl (vs := [.int .i64 k]) (v := .int .i64 eF) rfl rfl fun w hG => (hF w hG).2
      · exact sokE rfl rfl (vs := [.int .i64 t]) (v := .tuple #[spV tl th, .int .i64 eT]) rfl rfl fun w hG => (hT w hG).1
      · exact sokE rfl rfl (vs := [.int .i64 t]) (v := .int .i64 eT) rfl rfl fun w hG => (hT w hG).2
      · exact sokE rfl rfl (vs := [.int .i64 k, spV l h]) (v := .int .i64 eC) rfl rfl fun w hG => (hC w hG).1
      · exact sokE rfl rfl (vs := [.int .i64 k, spV l h]) (v := .int .i64 eC) rfl rfl fun w hG => (hC w hG).2
    · split at hu
      · cases hu
      · rename_i hb
        simp only [Bool.or_eq_true, bne_iff_ne, ne_eq, not_or, Decidable.not_not] at hb
        simp only [List.mem_cons, List.not_mem_nil, or_false] at hu
        subst hu
        exact sokE rfl rfl (vs := [.int .i64 op, .int .i64 t, spV l h]) (v := spV sl sh) rfl rfl fun w hG => (hD hb.1.1.1 hb.1.1.2 hb.2 w hG).1
  have nfE : ∀ w r x y, nf (errT w r x y) = true := by intro w r x y; cases w <;> cases r <;> cases x <;> cases y <;> rfl
  have nfP : ∀ b, nf (spS b) = true := by intro b; cases b <;> rfl
  have dE : @den (E (rT op k t l h lo hi tl th eF eT eC sl sh) (L_ct (k == 0) (t == 0) (eF != 0) (eT != 0) (eC != 0))) (fun _ => none) (errT (eF != 0) (eT != 0) z (eC != 0)) = some (.int .i64 (errJ eF eT z eC)) := by
    unfold errT errJ
    split
    · rfl
    split
    · rfl
    split
    · rfl
    split
    · rfl
    · rfl
  by_cases hz : eF = 0 ∧ eT = 0 ∧ z = false ∧ eC = 0
  · obtain ⟨rfl, rfl, rfl, rfl⟩ := hz
    refine ⟨sl, sh, 0, fun w hG => ?_, fun _ w hG => (hD rfl rfl rfl w hG).2, fun h => absurd rfl h⟩
    exact pair_of hL hU (hrun _) rfl rfl rfl (vs := [.int .i64 op, .int .i64 k, .int .i64 t, spV l h]) (v := .tuple #[spV sl sh, .int .i64 0]) (v' := .int .i64 0) rfl rfl rfl w hG
  · have hb : ((eF != 0) || (eT != 0) || z || (eC != 0)) = true := by
      simp only [Bool.or_eq_true, bne_iff_ne, ne_eq]
      cases z
      · simp only [true_and] at hz
        omega
      · simp
    have hne : errJ eF eT z eC ≠ 0 := by
      unfold errJ
      simp only [bne_iff_ne, ne_eq]
      split
      · assumption
      split
      · assumption
      split
      · decide
      split
      · assumption
      · rename_i h1 h2 h3 h4
        exact absurd ⟨by omega, by omega, by simpa using h3, by omega⟩ hz
    refine ⟨0, 0, errJ eF eT z eC, fun w hG => ?_, fun h => absurd h hne, fun _ => ⟨rfl, rfl⟩⟩
    refine pair_of hL hU (hrun _) rfl ?_ (nfE _ _ _ _) (vs := [.int .i64 op, .int .i64 k, .int .i64 t, spV l h]) (v := .tuple #[spV 0 0, .int .i64 (errJ eF eT z eC)]) (v' := .int .i64 (errJ eF eT z eC)) rfl ?_ dE w hG
    · unfold resS
      split
      · rfl
      · simp only [nf, nfL, nfE, nfP, Bool.and_self]
    · unfold resS
      split
      · rename_i hc
        simp only [Bool.and_eq_true, Bool.not_eq_true', bne_eq_false_iff_eq] at hc
        have : errJ eF eT z eC = 12 := by
          unfold errJ
          rw [hc.1.1, hc.1.2, hc.2]
          rfl
        rw [this]
        rfl
      · rw [hb]
        simp only [spS, if_true, den, denL, dE]
def xO : List SVal := [sy 11, sy 7, sy 8, sA]
def L_oo : List CF := [⟨.neq, .var 11, .lit 27, true⟩, ⟨.neq, .var 11, .lit 28, true⟩]
theorem run_oo (ρ : Nat → Int) (aR aS : Addr) : runE ρ aR aS L_oo [] [(12, xO, .v (.tuple #[spV 0 0, .int .i64 8])), (13, xO, .v (.int .i64 8))] := by
  unfold runE
  kernel_rfl
/-- Convert. -/
theorem cv_all (aR aS : Addr) (op k t l h : Int) : CvV aR aS op k t l h := by
  by_cases ho : op = 27 ∨ op = 28
  · obtain ⟨lo, hi, eF, hF⟩ : ∃ lo hi eF, WhV aR aS k lo hi eF := by
      rcases wh_all aR aS k with ⟨s, _, _, hw⟩ | ⟨e, _, hw⟩
      · exact ⟨_, _, _, hw⟩
      · exact ⟨_, _, _, hw⟩
    obtain ⟨eC, hC⟩ : ∃ eC, ChkV aR aS k l h eC := by
      rcases chk_all aR aS k l h with ⟨_, _, _, _, _, _, hc⟩ | ⟨e, _, hc⟩
      · exact ⟨_, hc⟩
      · exact ⟨_, hc⟩
    obtain ⟨tl, th, eT, sl, sh, hT, hD⟩ : ∃ tl th eT sl sh, WhV aR aS t tl th eT ∧ (eT = 0 → CvD aR aS op t l h sl sh) := by
      rcases wh_all aR aS t with ⟨s, hs, rfl, hw⟩ | ⟨e, he, hw⟩
      · obtain ⟨sl, sh, hd⟩ := cv_small aR aS hs l h ho
        exact ⟨_, _, _, sl, sh, hw, fun _ => hd⟩
      · exact ⟨_, _, _, 0, 0, hw, fun h => absurd h he⟩
    rcases ho with rfl | rfl
    · exact cv_in (z := false) hF hT hC (fun _ h _ => hD h) fun ρ => run_c27 ρ aR aS _ _ _ _ _
    · exact cv_in (z := (k == 0) || (t == 0)) hF hT hC (fun _ h _ => hD h) fun ρ => run_c28 ρ aR aS _ _ _ _ _
  · refine ⟨0, 0, 8, fun w hG => ?_, fun h => absurd h (by decide), fun _ => ⟨rfl, rfl⟩⟩
    have hL : ∀ f ∈ L_oo, f.ok (rT op k t l h 0 0 0 0 0 0 0 0 0) := fun f hf => by
      simp only [L_oo, List.mem_cons, List.not_mem_nil, or_false] at hf
      rcases hf with rfl | rfl
      · exact ⟨rfl, show (op != 27) = true by simp; omega⟩
      · exact ⟨rfl, show (op != 28) = true by simp; omega⟩
    exact pair_of hL (fun _ h => by cases h) (run_oo _ aR aS) rfl rfl rfl (vs := [.int .i64 op, .int .i64 k, .int .i64 t, spV l h]) (v := .tuple #[spV 0 0, .int .i64 8]) (v' := .int .i64 8) rfl rfl rfl w hG

/-! ### Not -/
def NotV (aR aS : Addr) (k l h : Int) : Prop := ∃ sl sh e : Int, (∀ w, (glob aR aS).holds w → Calls Tryz.prog 9 #[.int .i64 k, spV l h] w (Ret (.tuple #[spV sl sh, .int .i64 e]) w) ∧ Calls Tryz.prog 10 #[.int .i64 k, spV l h] w (Ret (.int .i64 e) w)) ∧
  (e = 0 → ∀ w, (glob aR aS).holds w → Calls Tryz.prog 11 #[.int .i64 k, spV l h] w (Ret (spV sl sh) w)) ∧ (e ≠ 0 → sl = 0 ∧ sh = 0)
def U_nt : List SEntry := [(23, xC, .v (.int .i64 0)), (48, xK, s45), (34, xK, s45)]
def L_nt (p : Bool) : List CF := [⟨.geq, .var 7, .lit 5, p⟩, ⟨.leq, .var 7, .lit 8, true⟩]
def eNt (i : Nat) : SVal := .sym (.int .i64 (.bin .sub .i64 (.bin .add .i64 (.var 4) (.var 5)) (.var i)))
def eNr (p : Bool) (i : Nat) : SVal := .sym (.int .i64 (.bin .sub .i64 (if p then .lit (-1) else .var 5) (.var i)))
theorem run_nt (ρ : Nat → Int) (aR aS : Addr) (p : Bool) : runE ρ aR aS (L_nt p) U_nt [(9, xC, .tuple [.agg [eNt 1, eNt 0], .v (.int .i64 0)]), (11, xC, .agg [eNr p 1, eNr p 0])] := by
  unfold runE
  cases p <;> kernel_rfl
theorem run_ne (ρ : Nat → Int) (aR aS : Addr) : runE ρ aR aS [⟨.neq, .var 11, .lit 0, true⟩] [(23, xC, sy 11)] [(9, xC, .tuple [.v (spV 0 0), sy 11])] := by
  unfold runE
  kernel_rfl
theorem nt_of {aR aS : Addr} {k lo hi l h sl sh : Int} {p : Bool} (hp : decide (k ≥ 5) = p) (hk : k ≤ 8) (hC : ChkV aR aS k l h 0) {wd : Int} (hK : KdV aR aS k lo hi wd)
    (h1 : @den (E (rC l h lo hi k 0) (L_nt p)) (fun _ => none) (.tuple [.agg [eNt 1, eNt 0], .v (.int .i64 0)]) = some (.tuple #[spV sl sh, .int .i64 0])) (h2 : @den (E (rC l h lo hi k 0) (L_nt p)) (fun _ => none) (.agg [eNr p 1, eNr p 0]) = some (spV sl sh)) : NotV aR aS k l h := by
  have hL : ∀ f ∈ L_nt p, f.ok (rC l h lo hi k 0) := fun f hf => by
    simp only [L_nt, List.mem_cons, List.not_mem_nil, or_false] at hf
    rcases hf with rfl | rfl
    · exact ⟨rfl, hp⟩
    · exact ⟨rfl, decide_eq_true hk⟩
  have hU : ∀ u ∈ U_nt, @SOk (E (rC l h lo hi k 0) (L_nt p)) Tryz.prog (glob aR aS) u := fun u hu => by
    simp only [U_nt, List.mem_cons, List.not_mem_nil, or_false] at hu
    rcases hu with rfl | rfl | rfl
    · exact sokE rfl rfl (vs := [.int .i64 k, spV l h]) (v := .int .i64 0) rfl rfl fun w hG => (hC w hG).1
    · exact sokE rfl rfl (vs := [.int .i64 k]) (v := spV lo hi) rfl rfl fun w hG => (hK w hG).1
    · exact sokE rfl rfl (vs := [.int .i64 k]) (v := spV lo hi) rfl rfl fun w hG => (hK w hG).2.1
  have hall := fun w hG => pair_of hL hU (run_nt _ aR aS p) rfl rfl (by cases p <;> rfl) (vs := [.int .i64 k, spV l h]) rfl h1 h2 w hG
  exact ⟨sl, sh, 0, fun w hG => ⟨(hall w hG).1, (hC w hG).2⟩, fun _ w hG => (hall w hG).2, fun h => absurd rfl h⟩
/-- Not. -/
theorem nt_all (aR aS : Addr) (k l h : Int) : NotV aR aS k l h := by
  rcases chk_all aR aS k l h with ⟨s, hs, rfl, _, _, _, hc⟩ | ⟨e, he, hc⟩
  · have hK := kd_small aR aS hs
    simp only [small, List.mem_cons, List.not_mem_nil, or_false] at hs
    rcases hs with rfl | rfl | rfl | rfl | rfl | rfl | rfl
    · exact nt_of (p := false) (sl := IntKind.wrap .i64 (1 - h)) (sh := IntKind.wrap .i64 (1 - l)) rfl (by decide) hc hK rfl rfl
    · exact nt_of (p := false) (sl := IntKind.wrap .i64 (255 - h)) (sh := IntKind.wrap .i64 (255 - l)) rfl (by decide) hc hK rfl rfl
    · exact nt_of (p := false) (sl := IntKind.wrap .i64 (65535 - h)) (sh := IntKind.wrap .i64 (65535 - l)) rfl (by decide) hc hK rfl rfl
    · exact nt_of (p := false) (sl := IntKind.wrap .i64 (4294967295 - h)) (sh := IntKind.wrap .i64 (4294967295 - l)) rfl (by decide) hc hK rfl rfl
    · exact nt_of (p := true) (sl := IntKind.wrap .i64 (-1 - h)) (sh := IntKind.wrap .i64 (-1 - l)) rfl (by decide) hc hK rfl rfl
    · exact nt_of (p := true) (sl := IntKind.wrap .i64 (-1 - h)) (sh := IntKind.wrap .i64 (-1 - l)) rfl (by decide) hc hK rfl rfl
    · exact nt_of (p := true) (sl := IntKind.wrap .i64 (-1 - h)) (sh := IntKind.wrap .i64 (-1 - l)) rfl (by decide) hc hK rfl rfl
  · refine ⟨0, 0, e, fun w hG => ⟨?_, (hc w hG).2⟩, fun h => absurd h he, fun _ => ⟨rfl, rfl⟩⟩
    have hL : ∀ f ∈ ([⟨.neq, .var 11, .lit 0, true⟩] : List CF), f.ok (rC l h 0 0 k e) := fun f hf => by
      simp only [List.mem_cons, List.not_mem_nil, or_false] at hf
      subst hf
      exact ⟨rfl, show (e != 0) = true by simpa using he⟩
    have hU : ∀ u ∈ ([(23, xC, sy 11)] : List SEntry), @SOk (E (rC l h 0 0 k e) [⟨.neq, .var 11, .lit 0, true⟩]) Tryz.prog (glob aR aS) u := fun u hu => by
      simp only [List.mem_cons, List.not_mem_nil, or_false] at hu
      subst hu
      exact sokE rfl rfl (vs := [.int .i64 k, spV l h]) (v := .int .i64 e) rfl rfl fun w hG => (hc w hG).1
    exact calls_sym hL hU (run_ne _ aR aS) List.mem_cons_self rfl rfl (vs := [.int .i64 k, spV l h]) (v := .tuple #[spV 0 0, .int .i64 e]) rfl rfl hG
end
end Go.Proofs.YtgecchiocfkpkaaGreatDoor

namespace Go.Proofs.YtgecchiocfkpkaaGreatDoor
noncomputable section
open Go Go.RX
open Go.RowKit (Below)
set_option maxRecDepth 1000000
set_option maxHeartbeats 4000000
/-! ### The operations on right spans -/
def rP (al ah bl bh lo hi wd k rk rl rh : Int) : Nat → Int := rho al ah bl bh lo hi wd k rk rl rh fun _ => 0
section
variable (al ah bl bh lo hi wd k rk rl rh : Int)
theorem rP_0 : rP al ah bl bh lo hi wd k rk rl rh 0 = al := rfl
theorem rP_1 : rP al ah bl bh lo hi wd k rk rl rh 1 = ah := rfl
theorem rP_2 : rP al ah bl bh lo hi wd k rk rl rh 2 = bl := rfl
theorem rP_3 : rP al ah bl bh lo hi wd k rk rl rh 3 = bh := rfl
theorem rP_4 : rP al ah bl bh lo hi wd k rk rl rh 4 = lo := rfl
theorem rP_5 : rP al ah bl bh lo hi wd k rk rl rh 5 = hi := rfl
theorem rP_6 : rP al ah bl bh lo hi wd k rk rl rh 6 = wd := rfl
theorem rP_7 : rP al ah bl bh lo hi wd k rk rl rh 7 = k := rfl
theorem rP_8 : rP al ah bl bh lo hi wd k rk rl rh 8 = rk := rfl
theorem rP_9 : rP al ah bl bh lo hi wd k rk rl rh 9 = rl := rfl
theorem rP_10 : rP al ah bl bh lo hi wd k rk rl rh 10 = rh := rfl
end
def xP (op : Int) : List SVal := [.v (.int .i64 op), sy 7, sA, sB]
def U_op (op : Int) : List SEntry := [(21, [.v (.int .i64 op), sy 7], .tuple [sy 8, .v (.int .i64 0)]), (27, [.v (.int .i64 op), sy 7], .tuple [sy 8, .v (.int .i64 0)]),
  (54, [sy 7], .tuple [sy 6, .v (.int .i64 0)]), (33, [sy 7], sy 6), (48, [sy 8], s9), (34, [sy 8], s9), (34, [sy 7], s45)]
theorem apd_of {aR aS : Addr} {op al ah bl bh lo hi wd k rk rl rh wd2 : Int} {L : List CF} {r1 r2 : SVal} (hR : ResV aR aS op k rk 0) (hK : KdV aR aS k lo hi wd) (hR2 : KdV aR aS rk rl rh wd2)
    (hL : ∀ f ∈ L, f.ok (rP al ah bl bh lo hi wd k rk rl rh)) (h : runE (rP al ah bl bh lo hi wd k rk rl rh) aR aS L (U_op op) [(24, xP op, r1), (8, xP op, r2)]) (h1 : nf r1 = true) (h2 : nf r2 = true) {x y x' y' : Int}
    (d1 : @den (E (rP al ah bl bh lo hi wd k rk rl rh) L) (fun _ => none) r1 = some (spV x y)) (d2 : @den (E (rP al ah bl bh lo hi wd k rk rl rh) L) (fun _ => none) r2 = some (spV x' y')) (ex : x = x') (ey : y = y') : ∃ sl sh, ApD aR aS op k al ah bl bh sl sh := by
  subst ex ey
  refine ⟨x, y, fun w hG => pair_of hL (fun u hu => ?_) h rfl h1 h2 (vs := [.int .i64 op, .int .i64 k, spV al ah, spV bl bh]) rfl d1 d2 w hG⟩
  simp only [U_op, List.mem_cons, List.not_mem_nil, or_false] at hu
  rcases hu with rfl | rfl | rfl | rfl | rfl | rfl | rfl
  · exact sokE rfl rfl (vs := [.int .i64 op, .int .i64 k]) (v := .tuple #[.int .i64 rk, .int .i64 0]) rfl rfl fun w hG => (hR w hG).1
  · exact sokE rfl rfl (vs := [.int .i64 op, .int .i64 k]) (v := .tuple #[.int .i64 rk, .int .i64 0]) rfl rfl fun w hG => (hR w hG).2
  · exact sokE rfl rfl (vs := [.int .i64 k]) (v := .tuple #[.int .i64 wd, .int .i64 0]) rfl rfl fun w hG => (hK w hG).2.2.1
  · exact sokE rfl rfl (vs := [.int .i64 k]) (v := .int .i64 wd) rfl rfl fun w hG => (hK w hG).2.2.2
  · exact sokE rfl rfl (vs := [.int .i64 rk]) (v := spV rl rh) rfl rfl fun w hG => (hR2 w hG).1
  · exact sokE rfl rfl (vs := [.int .i64 rk]) (v := spV rl rh) rfl rfl fun w hG => (hR2 w hG).2.1
  · exact sokE rfl rfl (vs := [.int .i64 k]) (v := spV lo hi) rfl rfl fun w hG => (hK w hG).2.1
theorem ev_addw {n m : Int} (h0 : -9223372036854775808 ≤ n + m) (h1 : n + m < 9223372036854775808) : binI .add .i64 n m = n + m := by
  show IntKind.wrap .i64 (n + m) = n + m
  rw [wrap_i64]; omega
theorem ev_subw {n m : Int} (h0 : -9223372036854775808 ≤ n - m) (h1 : n - m < 9223372036854775808) : binI .sub .i64 n m = n - m := by
  show IntKind.wrap .i64 (n - m) = n - m
  rw [wrap_i64]; omega
theorem ev_shr1 (n : Int) : shI .shr .i64 n 1 = n / 2 := by
  have := shr_ev .i64 n 1 (by decide)
  simpa using this
theorem tdiv_two (n : Int) : n.tdiv 2 = max n 0 / 2 - max (-n) 0 / 2 := by
  rcases Int.le_total 0 n with h | h
  · rw [Int.tdiv_eq_ediv_of_nonneg h]; omega
  · have := Int.tdiv_eq_ediv_of_nonneg (b := 2) (show 0 ≤ -n by omega)
    rw [Int.neg_tdiv] at this
    omega
theorem tmod_two (n : Int) : n.tmod 2 = max n 0 % 2 - max (-n) 0 % 2 := by
  have := Int.mul_tdiv_add_tmod n 2
  rw [tdiv_two] at this
  omega
theorem ev_quo2 {n : Int} (h0 : -9223372036854775808 ≤ n) (h1 : n < 9223372036854775808) : binI .quo .i64 n 2 = max n 0 / 2 - max (-n) 0 / 2 := by
  show IntKind.wrap .i64 (n.tdiv 2) = _
  rw [tdiv_two, wrap_i64]
  omega
theorem ev_rem2 (n : Int) : binI .rem .i64 n 2 = max n 0 % 2 - max (-n) 0 % 2 := tmod_two n
theorem tri_2 (a b c : Int) : triI 2 a b c = max a b := by
  show (if b > a then b else a) = max a b
  split <;> omega
theorem tri_3 (a b c : Int) : triI 3 a b c = min a b := by
  show (if b < a then b else a) = min a b
  split <;> omega
theorem cmpI_leq (a b : Int) : cmpI .leq a b = decide (a ≤ b) := rfl
theorem cmpI_geq (a b : Int) : cmpI .geq a b = decide (a ≥ b) := rfl
theorem cmpI_lss (a b : Int) : cmpI .lss a b = decide (a < b) := rfl
theorem cmpI_gtr (a b : Int) : cmpI .gtr a b = decide (a > b) := rfl
theorem cmpI_eql (a b : Int) : cmpI .eql a b = (a == b) := rfl
theorem cmpI_neq (a b : Int) : cmpI .neq a b = (a != b) := rfl
end
end Go.Proofs.YtgecchiocfkpkaaGreatDoor
