import Derived.Test.YtgecchiocfkpkaaGreatDoorLF
namespace Go.Proofs.YtgecchiocfkpkaaGreatDoor
noncomputable section
open Go Go.RX
open Go.RowKit (Below)
set_option maxRecDepth 1000000
set_option maxHeartbeats 4000000
/-! ### Quotients, remainders and products of two numbers -/
theorem quo_a {x y : Int} (hy : y ≠ 0) (h : 0 ≤ x.tmod y) : x.tdiv y = x / y := by
  have e := Int.mul_tdiv_add_tmod x y
  rcases Int.lt_or_gt_of_ne hy with hn | hp
  · have hb : x.tmod y < -y := by have := Int.tmod_lt_of_pos x (show 0 < -y by omega); rwa [Int.tmod_neg] at this
    have := (Int.ediv_emod_unique (a := x) (b := -y) (r := x.tmod y) (q := -(x.tdiv y)) (by omega)).2 ⟨by rw [Int.neg_mul_neg]; omega, h, hb⟩
    rw [Int.ediv_neg] at this
    omega
  · exact ((Int.ediv_emod_unique hp).2 ⟨by omega, h, Int.tmod_lt_of_pos x hp⟩).1.symm
theorem quo_b {x y : Int} (hp : 0 < y) (h : x.tmod y < 0) : x.tdiv y - 1 = x / y := by
  have e := Int.mul_tdiv_add_tmod x y
  have hb : -y < x.tmod y := Int.lt_tmod_of_pos x hp
  exact ((Int.ediv_emod_unique (a := x) (r := x.tmod y + y) (q := x.tdiv y - 1) hp).2 ⟨by rw [Int.mul_sub]; omega, by omega, by omega⟩).1.symm
theorem quo_c {x y : Int} (hn : y < 0) (h : x.tmod y < 0) : x.tdiv y + 1 = x / y := by
  have h2 := quo_b (x := x) (y := -y) (by omega) (by rwa [Int.tmod_neg])
  rw [Int.tdiv_neg, Int.ediv_neg] at h2
  omega
theorem quo_bd (x y : Int) : -(max x (-x)) ≤ x / y ∧ x / y ≤ max x (-x) := by
  have h := Int.natAbs_ediv_le_natAbs x y
  omega
theorem mul_bd {x y M : Int} (h0 : -M ≤ x) (h1 : x ≤ M) (h2 : -M ≤ y) (h3 : y ≤ M) : -(M * M) ≤ x * y ∧ x * y ≤ M * M := by
  have e : (x * y).natAbs = x.natAbs * y.natAbs := Int.natAbs_mul x y
  have h4 : x.natAbs * y.natAbs ≤ M.natAbs * M.natAbs := Nat.mul_le_mul (by omega) (by omega)
  have e2 : ((M.natAbs * M.natAbs : Nat) : Int) = M * M := by
    rw [Int.natCast_mul, Int.natAbs_of_nonneg (by omega)]
  omega
theorem div_gt {x y M : Int} (hx : 0 < x) : y > M / x ↔ M < x * y := by
  constructor
  · intro h
    have := (Int.ediv_lt_iff_lt_mul hx).1 h
    rwa [Int.mul_comm] at this
  · intro h
    exact (Int.ediv_lt_iff_lt_mul hx).2 (by rwa [Int.mul_comm] at h)
theorem w64 {n : Int} (h0 : -9223372036854775808 ≤ n) (h1 : n < 9223372036854775808) : IntKind.wrap .i64 n = n := by
  rw [wrap_i64]; omega
/-- A function of two numbers, and what it returns. -/
def Fn2 (aR aS : Addr) (f : FuncId) (x y z : Int) : Prop := ∀ w, (glob aR aS).holds w → Calls Tryz.prog f #[.int .i64 x, .int .i64 y] w (Ret (.int .i64 z) w)
def r3 (x y z : Int) : Nat → Int := fun i => match i with
  | 0 => x
  | 1 => y
  | _ => z
def x2 : List SVal := [sy 0, sy 1]
theorem fn2_of {aR aS : Addr} {f : FuncId} {x y q z : Int} {L : List CF} {U : List SEntry} {r : SVal} (hL : ∀ c ∈ L, c.ok (r3 x y q)) (hU : ∀ u ∈ U, @SOk (E (r3 x y q) L) Tryz.prog (glob aR aS) u) (h : runE (r3 x y q) aR aS L U [(f, x2, r)]) (hn : nf r = true)
    (hd : @den (E (r3 x y q) L) (fun _ => none) r = some (.int .i64 z)) : Fn2 aR aS f x y z := fun _ hG => calls_sym hL hU h List.mem_cons_self rfl hn (vs := [.int .i64 x, .int .i64 y]) rfl hd hG
theorem tell2 {aR aS : Addr} {ρ : Nat → Int} {L : List CF} {f : FuncId} {x y z : Int} {a b : SVal} (h : Fn2 aR aS f x y z) (hn : nfL [a, b] = true) (hd : @denL (E ρ L) (fun _ => none) [a, b] = some [.int .i64 x, .int .i64 y]) (j : Nat) (hz : ρ j = z) : @SOk (E ρ L) Tryz.prog (glob aR aS) (f, [a, b], sy j) :=
  sokE hn rfl (vs := [.int .i64 x, .int .i64 y]) (v := .int .i64 z) hd (by subst hz; rfl) h
theorem int64 {x y : Int} (h : x = y) : some (Value.int .i64 x) = some (.int .i64 y) := by rw [h]
def eR : IE := .bin .rem .i64 (.var 0) (.var 1)
def eT : IE := .bin .quo .i64 (.var 0) (.var 1)
theorem eT_ev {x y q : Int} (h0 : -4611686018427387904 ≤ x) (h1 : x ≤ 4611686018427387904) : eT.ev (r3 x y q) = x.tdiv y := by
  have h : (x.tdiv y).natAbs = x.natAbs / y.natAbs := Int.natAbs_tdiv x y
  have h2 := Nat.div_le_self x.natAbs y.natAbs
  show IntKind.wrap .i64 (x.tdiv y) = _
  generalize x.natAbs / y.natAbs = p at h h2
  exact w64 (by omega) (by omega)
/-- The program's quotient. -/
def L_qu (p q : Bool) : List CF := [⟨.neq, .var 1, .lit 0, true⟩, ⟨.geq, eR, .lit 0, p⟩, ⟨.gtr, .var 1, .lit 0, q⟩]
def r_qu (p q : Bool) : SVal := .sym (.int .i64 (if p then eT else if q then .bin .sub .i64 eT (.lit 1) else .bin .add .i64 eT (.lit 1)))
theorem run_qu (ρ : Nat → Int) (aR aS : Addr) (p q : Bool) : runE ρ aR aS (L_qu p q) [] [(74, x2, r_qu p q)] := by
  unfold runE
  cases p <;> cases q <;> kernel_rfl
theorem qu_ok (aR aS : Addr) {x y : Int} (hy : y ≠ 0) (h0 : -4611686018427387904 ≤ x) (h1 : x ≤ 4611686018427387904) : Fn2 aR aS 74 x y (x / y) := by
  have hb := quo_bd x y
  refine fn2_of (q := 0) (L := L_qu (decide (0 ≤ x.tmod y)) (decide (0 < y))) (fun c hc => ?_) (fun _ h => by cases h) (run_qu _ aR aS _ _) ?_ ?_
  · simp only [L_qu, List.mem_cons, List.not_mem_nil, or_false] at hc
    rcases hc with rfl | rfl | rfl
    · exact ⟨rfl, bne_iff_ne.2 hy⟩
    · exact ⟨rfl, rfl⟩
    · exact ⟨rfl, rfl⟩
  · unfold r_qu; rfl
  · refine int64 ?_
    rcases Int.lt_or_le (x.tmod y) 0 with hr | hr
    · rw [decide_eq_false (by omega)]
      rcases Int.lt_or_le 0 y with hp | hp
      · rw [decide_eq_true hp]
        show IntKind.wrap .i64 (eT.ev _ - 1) = _
        rw [eT_ev h0 h1, quo_b hp hr]
        exact w64 (by omega) (by omega)
      · rw [decide_eq_false (by omega)]
        show IntKind.wrap .i64 (eT.ev _ + 1) = _
        rw [eT_ev h0 h1, quo_c (by omega) hr]
        exact w64 (by omega) (by omega)
    · rw [decide_eq_true hr]
      show eT.ev _ = _
      rw [eT_ev h0 h1, quo_a hy hr]
/-- The reference's, by a number above 0. -/
def L_fl (p : Bool) : List CF := [⟨.neq, .var 1, .lit 0, true⟩, ⟨.lss, eR, .lit 0, p⟩]
def r_fl (p : Bool) : SVal := .sym (.int .i64 (if p then .bin .sub .i64 eT (.lit 1) else eT))
theorem run_fl (ρ : Nat → Int) (aR aS : Addr) (p : Bool) : runE ρ aR aS (L_fl p) [] [(36, x2, r_fl p)] := by
  unfold runE
  cases p <;> kernel_rfl
theorem fl_ok (aR aS : Addr) {x y : Int} (hy : 0 < y) (h0 : -4611686018427387904 ≤ x) (h1 : x ≤ 4611686018427387904) : Fn2 aR aS 36 x y (x / y) := by
  have hb := quo_bd x y
  refine fn2_of (q := 0) (L := L_fl (decide (x.tmod y < 0))) (fun c hc => ?_) (fun _ h => by cases h) (run_fl _ aR aS _) ?_ ?_
  · simp only [L_fl, List.mem_cons, List.not_mem_nil, or_false] at hc
    rcases hc with rfl | rfl
    · exact ⟨rfl, bne_iff_ne.2 (show y ≠ 0 by omega)⟩
    · exact ⟨rfl, rfl⟩
  · unfold r_fl; rfl
  · refine int64 ?_
    rcases Int.lt_or_le (x.tmod y) 0 with hr | hr
    · rw [decide_eq_true hr]
      show IntKind.wrap .i64 (eT.ev _ - 1) = _
      rw [eT_ev h0 h1, quo_b hy hr]
      exact w64 (by omega) (by omega)
    · rw [decide_eq_false (by omega)]
      show eT.ev _ = _
      rw [eT_ev h0 h1, quo_a (by omega) hr]
/-- The reference's, by any number. -/
def eNeg : IE := .bin .sub .i64 (.lit 0) (.var 1)
def L_rq (z n : Bool) : List CF := [⟨.eql, .var 1, .lit 0, z⟩, ⟨.lss, .var 1, .lit 0, n⟩]
def U_rq (n : Bool) : List SEntry := [(36, [sy 0, .sym (.int .i64 (if n then eNeg else .var 1))], sy 2)]
theorem run_rz (ρ : Nat → Int) (aR aS : Addr) (n : Bool) : runE ρ aR aS (L_rq true n) [] [(61, x2, .v (.int .i64 0))] := by
  unfold runE
  cases n <;> kernel_rfl
def r_rq (n : Bool) : SVal := .sym (.int .i64 (if n then .bin .sub .i64 (.lit 0) (.var 2) else .var 2))
theorem run_rq (ρ : Nat → Int) (aR aS : Addr) (n : Bool) : runE ρ aR aS (L_rq false n) (U_rq n) [(61, x2, r_rq n)] := by
  unfold runE
  cases n <;> kernel_rfl
theorem rq_ok (aR aS : Addr) {x y : Int} (h0 : -4611686018427387904 ≤ x) (h1 : x ≤ 4611686018427387904) (g0 : -4611686018427387904 ≤ y) (g1 : y ≤ 4611686018427387904) : Fn2 aR aS 61 x y (x / y) := by
  have hb := quo_bd x y
  by_cases hy : y = 0
  · subst hy
    refine fn2_of (q := 0) (L := L_rq true false) (fun c hc => ?_) (fun _ h => by cases h) (run_rz _ aR aS _) rfl (int64 (by rw [Int.ediv_zero]))
    simp only [L_rq, List.mem_cons, List.not_mem_nil, or_false] at hc
    rcases hc with rfl | rfl
    · exact ⟨rfl, rfl⟩
    · exact ⟨rfl, rfl⟩
  · rcases Int.lt_or_le y 0 with hn | hn
    · refine fn2_of (q := x / (-y)) (L := L_rq false true) (fun c hc => ?_) (fun u hu => ?_) (run_rq _ aR aS true) rfl ?_
      · simp only [L_rq, List.mem_cons, List.not_mem_nil, or_false] at hc
        rcases hc with rfl | rfl
        · exact ⟨rfl, beq_false_of_ne hy⟩
        · exact ⟨rfl, decide_eq_true hn⟩
      · obtain rfl := List.mem_singleton.1 hu
        refine tell2 (x := x) (y := eNeg.ev (r3 x y (x / (-y)))) (z := x / (-y)) ?_ rfl rfl 2 rfl
        have e : eNeg.ev (r3 x y (x / (-y))) = -y := by
          show IntKind.wrap .i64 (0 - y) = _
          rw [w64 (by omega) (by omega)]; omega
        rw [e]
        exact fl_ok aR aS (by omega) h0 h1
      · refine int64 ?_
        show IntKind.wrap .i64 (0 - x / (-y)) = _
        rw [Int.ediv_neg, w64 (by omega) (by omega)]; omega
    · refine fn2_of (q := x / y) (L := L_rq false false) (fun c hc => ?_) (fun u hu => ?_) (run_rq _ aR aS false) rfl (int64 rfl)
      · simp only [L_rq, List.mem_cons, List.not_mem_nil, or_false] at hc
        rcases hc with rfl | rfl
        · exact ⟨rfl, beq_false_of_ne hy⟩
        · exact ⟨rfl, decide_eq_false (show ¬ y < 0 by omega)⟩
      · obtain rfl := List.mem_singleton.1 hu
        exact tell2 (x := x) (y := y) (z := x / y) (fl_ok aR aS (by omega) h0 h1) rfl rfl 2 rfl
/-- Remainders. -/
def U_re (f : FuncId) : List SEntry := [(f, [sy 0, sy 1], sy 2)]
theorem run_pr (ρ : Nat → Int) (aR aS : Addr) : runE ρ aR aS [] (U_re 74) [(122, x2, .sym (.int .i64 (.bin .sub .i64 (.var 0) (.bin .mul .i64 (.var 2) (.var 1)))))] := by
  unfold runE
  kernel_rfl
theorem run_rr (ρ : Nat → Int) (aR aS : Addr) : runE ρ aR aS [] (U_re 61) [(63, x2, .sym (.int .i64 (.bin .sub .i64 (.var 0) (.bin .mul .i64 (.var 1) (.var 2)))))] := by
  unfold runE
  kernel_rfl
theorem emod_bd {x y : Int} (hy : y ≠ 0) : 0 ≤ x % y ∧ x % y < max y (-y) := by
  have h1 := Int.emod_nonneg x hy
  have h2 := Int.emod_lt x hy
  omega
theorem pr_ok (aR aS : Addr) {x y : Int} (hy : y ≠ 0) (h0 : -4294967296 ≤ x) (h1 : x ≤ 4294967296) (g0 : -4294967296 ≤ y) (g1 : y ≤ 4294967296) : Fn2 aR aS 122 x y (x % y) := by
  refine fn2_of (q := x / y) (fun _ h => by cases h) (fun u hu => ?_) (run_pr _ aR aS) rfl (int64 ?_)
  · obtain rfl := List.mem_singleton.1 hu
    exact tell2 (x := x) (y := y) (z := x / y) (qu_ok aR aS hy (by omega) (by omega)) rfl rfl 2 rfl
  · show IntKind.wrap .i64 (x - IntKind.wrap .i64 (x / y * y)) = _
    have e := Int.mul_ediv_add_emod x y
    have b := emod_bd (x := x) hy
    rw [Int.mul_comm] at e
    rw [w64 (n := x / y * y) (by omega) (by omega), w64 (by omega) (by omega)]
    omega
theorem rr_ok (aR aS : Addr) {x y : Int} (hy : y ≠ 0) (h0 : -4294967296 ≤ x) (h1 : x ≤ 4294967296) (g0 : -4294967296 ≤ y) (g1 : y ≤ 4294967296) : Fn2 aR aS 63 x y (x % y) := by
  refine fn2_of (q := x / y) (fun _ h => by cases h) (fun u hu => ?_) (run_rr _ aR aS) rfl (int64 ?_)
  · obtain rfl := List.mem_singleton.1 hu
    exact tell2 (x := x) (y := y) (z := x / y) (rq_ok aR aS (by omega) (by omega) (by omega) (by omega)) rfl rfl 2 rfl
  · show IntKind.wrap .i64 (x - IntKind.wrap .i64 (y * (x / y))) = _
    have e := Int.mul_ediv_add_emod x y
    have b := emod_bd (x := x) hy
    rw [w64 (n := y * (x / y)) (by omega) (by omega), w64 (by omega) (by omega)]
    omega
/-! ### Products that may be beyond -/
def prI (x y : Int) : Int := min (x * y) 9223372036854775807
def tiI (x y : Int) : Int := max (min (x * y) 1099511627776) (-1099511627776)
def L_po (a b : Bool) : List CF := [⟨.gtr, .var 0, .lit 0, a⟩, ⟨.neq, .var 0, .lit 0, true⟩, ⟨.gtr, .var 1, .bin .quo .i64 (.lit 9223372036854775807) (.var 0), b⟩]
def L_p0 : List CF := [⟨.gtr, .var 0, .lit 0, false⟩]
theorem run_p0 (ρ : Nat → Int) (aR aS : Addr) : runE ρ aR aS L_p0 [] [(119, x2, .sym (.int .i64 (.bin .mul .i64 (.var 0) (.var 1))))] := by
  unfold runE
  kernel_rfl
theorem run_p1 (ρ : Nat → Int) (aR aS : Addr) : runE ρ aR aS (L_po true true) [] [(119, x2, .v (.int .i64 9223372036854775807))] := by
  unfold runE
  kernel_rfl
theorem run_p2 (ρ : Nat → Int) (aR aS : Addr) : runE ρ aR aS (L_po true false) [] [(119, x2, .sym (.int .i64 (.bin .mul .i64 (.var 0) (.var 1))))] := by
  unfold runE
  kernel_rfl
theorem quo_pos {M x : Int} (h0 : 0 ≤ M) (h1 : M < 9223372036854775808) : IntKind.wrap .i64 (M.tdiv x) = M / x := by
  have hb := quo_bd M x
  rw [Int.tdiv_eq_ediv_of_nonneg h0, w64 (by omega) (by omega)]
theorem po_ok (aR aS : Addr) {x y : Int} (h : x ≤ 0 → -2147483648 ≤ x ∧ -2147483648 ≤ y ∧ y ≤ 2147483648 ∨ x = 0) (h1 : x ≤ 4294967296) (g0 : -4294967296 ≤ y) (g1 : y ≤ 4294967296) (hs : 0 < x → y < 0 → x ≤ 2147483648 ∧ -2147483648 ≤ y) : Fn2 aR aS 119 x y (prI x y) := by
  rcases Int.lt_or_le 0 x with hx | hx
  · by_cases hg : y > 9223372036854775807 / x
    · have hm := (div_gt hx).1 hg
      refine fn2_of (q := 0) (L := L_po true true) (fun c hc => ?_) (fun _ h => by cases h) (run_p1 _ aR aS) rfl (int64 ?_)
      · simp only [L_po, List.mem_cons, List.not_mem_nil, or_false] at hc
        rcases hc with rfl | rfl | rfl
        · exact ⟨rfl, decide_eq_true hx⟩
        · exact ⟨rfl, bne_iff_ne.2 (show x ≠ 0 by omega)⟩
        · refine ⟨rfl, decide_eq_true ?_⟩
          show y > IntKind.wrap .i64 ((9223372036854775807 : Int).tdiv x)
          rw [quo_pos (by decide) (by decide)]; exact hg
      · unfold prI; omega
    · have hm : ¬ 9223372036854775807 < x * y := fun hh => hg ((div_gt hx).2 hh)
      refine fn2_of (q := 0) (L := L_po true false) (fun c hc => ?_) (fun _ h => by cases h) (run_p2 _ aR aS) rfl (int64 ?_)
      · simp only [L_po, List.mem_cons, List.not_mem_nil, or_false] at hc
        rcases hc with rfl | rfl | rfl
        · exact ⟨rfl, decide_eq_true hx⟩
        · exact ⟨rfl, bne_iff_ne.2 (show x ≠ 0 by omega)⟩
        · refine ⟨rfl, decide_eq_false ?_⟩
          show ¬ y > IntKind.wrap .i64 ((9223372036854775807 : Int).tdiv x)
          rw [quo_pos (by decide) (by decide)]; exact hg
      · show IntKind.wrap .i64 (x * y) = _
        have hlo : -9223372036854775808 ≤ x * y := by
          rcases Int.lt_or_le y 0 with hy | hy
          · have := hs hx hy
            have := (mul_bd (M := 2147483648) (x := x) (y := y) (by omega) (by omega) (by omega) (by omega)).1
            omega
          · have := Int.mul_nonneg (Int.le_of_lt hx) hy
            omega
        unfold prI
        rw [w64 hlo (by omega)]
        omega
  · refine fn2_of (q := 0) (L := L_p0) (fun c hc => ?_) (fun _ h => by cases h) (run_p0 _ aR aS) rfl (int64 ?_)
    · obtain rfl := List.mem_singleton.1 hc
      exact ⟨rfl, decide_eq_false (show ¬ x > 0 by omega)⟩
    · show IntKind.wrap .i64 (x * y) = _
      have hb : -4611686018427387904 ≤ x * y ∧ x * y ≤ 4611686018427387904 := by
        rcases h hx with hh | rfl
        · have := mul_bd (M := 2147483648) (x := x) (y := y) (by omega) (by omega) (by omega) (by omega)
          omega
        · omega
      unfold prI
      rw [w64 (by omega) (by omega)]
      omega
def eAbs : IE := .tri 2 (.var 0) (.bin .sub .i64 (.lit 0) (.var 0)) (.lit 0)
def eQa : IE := .bin .quo .i64 (.lit 1099511627776) eAbs
def L_ti (b c p q : Bool) : List CF := [⟨.neq, .var 0, .lit 0, true⟩, ⟨.neq, eAbs, .lit 0, true⟩, ⟨.gtr, .var 1, eQa, b⟩, ⟨.lss, .var 1, .bin .sub .i64 (.lit 0) eQa, c⟩, ⟨.lss, .var 0, .lit 0, p⟩, ⟨.lss, .var 1, .lit 0, q⟩]
def L_t0 : List CF := [⟨.neq, .var 0, .lit 0, false⟩]
def r_ti (b c p q : Bool) : SVal := if b || c then .v (.int .i64 (if p == q then 1099511627776 else -1099511627776)) else .sym (.int .i64 (.bin .mul .i64 (.var 0) (.var 1)))
theorem run_ti0 (ρ : Nat → Int) (aR aS : Addr) : runE ρ aR aS L_t0 [] [(60, x2, .sym (.int .i64 (.bin .mul .i64 (.var 0) (.var 1))))] := by
  unfold runE
  kernel_rfl
theorem run_ti (ρ : Nat → Int) (aR aS : Addr) (b c p q : Bool) : runE ρ aR aS (L_ti b c p q) [] [(60, x2, r_ti b c p q)] := by
  unfold runE
  cases b <;> cases c <;> cases p <;> cases q <;> kernel_rfl
theorem ti_ok (aR aS : Addr) {x y : Int} (h0 : -4294967296 ≤ x) (h1 : x ≤ 4294967296) (g0 : -4294967296 ≤ y) (g1 : y ≤ 4294967296) : Fn2 aR aS 60 x y (tiI x y) := by
  by_cases hx : x = 0
  · subst hx
    refine fn2_of (q := 0) (L := L_t0) (fun c hc => ?_) (fun _ h => by cases h) (run_ti0 _ aR aS) rfl (int64 ?_)
    · obtain rfl := List.mem_singleton.1 hc
      exact ⟨rfl, rfl⟩
    · show IntKind.wrap .i64 (0 * y) = _
      unfold tiI
      rw [Int.zero_mul]; rfl
  · have ea : eAbs.ev (r3 x y 0) = max x (-x) := by
      show (if IntKind.wrap .i64 (0 - x) > x then IntKind.wrap .i64 (0 - x) else x) = _
      rw [w64 (by omega) (by omega)]
      split <;> omega
    have hA : 0 < max x (-x) := by omega
    have hb := quo_bd 1099511627776 (max x (-x))
    have eq : eQa.ev (r3 x y 0) = 1099511627776 / (max x (-x)) := by
      show IntKind.wrap .i64 ((1099511627776 : Int).tdiv (eAbs.ev (r3 x y 0))) = _
      rw [ea]
      exact quo_pos (by decide) (by decide)
    have en : IntKind.wrap .i64 (0 - eQa.ev (r3 x y 0)) = -(1099511627776 / (max x (-x))) := by
      rw [eq, w64 (by omega) (by omega)]; omega
    have d1 := div_gt (y := y) (M := 1099511627776) hA
    have d2 := div_gt (y := -y) (M := 1099511627776) hA
    have m1 : max x (-x) * y = x * y ∨ max x (-x) * y = -(x * y) := by
      rcases Int.lt_or_le x 0 with h | h
      · right; rw [show max x (-x) = -x by omega, Int.neg_mul]
      · left; rw [show max x (-x) = x by omega]
    have m2 : max x (-x) * -y = -(max x (-x) * y) := Int.mul_neg _ _
    have s1 : 0 ≤ x → 0 ≤ y → 0 ≤ x * y := Int.mul_nonneg
    have s2 : x ≤ 0 → y ≤ 0 → 0 ≤ x * y := Int.mul_nonneg_of_nonpos_of_nonpos
    have s3 : 0 ≤ x → y ≤ 0 → x * y ≤ 0 := Int.mul_nonpos_of_nonneg_of_nonpos
    have s4 : x ≤ 0 → 0 ≤ y → x * y ≤ 0 := Int.mul_nonpos_of_nonpos_of_nonneg
    have m3 : (0 ≤ x → max x (-x) * y = x * y) ∧ (x ≤ 0 → max x (-x) * y = -(x * y)) := by
      constructor <;> intro h
      · rw [show max x (-x) = x by omega]
      · rw [show max x (-x) = -x by omega, Int.neg_mul]
    refine fn2_of (q := 0) (L := L_ti (decide (y > 1099511627776 / (max x (-x)))) (decide (y < -(1099511627776 / (max x (-x))))) (decide (x < 0)) (decide (y < 0))) (fun c hc => ?_) (fun _ h => by cases h) (run_ti _ aR aS _ _ _ _) ?_ ?_
    · simp only [L_ti, List.mem_cons, List.not_mem_nil, or_false] at hc
      rcases hc with rfl | rfl | rfl | rfl | rfl | rfl
      · exact ⟨rfl, bne_iff_ne.2 hx⟩
      · refine ⟨rfl, ?_⟩
        show (eAbs.ev (r3 x y 0) != 0) = true
        rw [ea]; exact bne_iff_ne.2 (by omega)
      · refine ⟨rfl, ?_⟩
        show decide (y > eQa.ev (r3 x y 0)) = _
        rw [eq]
      · refine ⟨rfl, ?_⟩
        show decide (y < IntKind.wrap .i64 (0 - eQa.ev (r3 x y 0))) = _
        rw [en]
      · exact ⟨rfl, rfl⟩
      · exact ⟨rfl, rfl⟩
    · unfold r_ti; split <;> rfl
    · generalize 1099511627776 / (max x (-x)) = Q at d1 d2 hb
      rw [m2] at d2
      generalize max x (-x) * y = Z at d1 d2 m3
      clear m1 m2 ea eq en
      unfold tiI
      unfold r_ti
      split
      · rename_i hc
        simp only [Bool.or_eq_true, decide_eq_true_eq] at hc
        refine int64 ?_
        generalize x * y = T at m3 s1 s2 s3 s4
        rcases Int.lt_or_le x 0 with hx0 | hx0 <;> rcases Int.lt_or_le y 0 with hy0 | hy0
        · rw [decide_eq_true hx0, decide_eq_true hy0, if_pos (by rfl)]; omega
        · rw [decide_eq_true hx0, decide_eq_false (show ¬ y < 0 by omega), if_neg (by decide)]; omega
        · rw [decide_eq_false (show ¬ x < 0 by omega), decide_eq_true hy0, if_neg (by decide)]; omega
        · rw [decide_eq_false (show ¬ x < 0 by omega), decide_eq_false (show ¬ y < 0 by omega), if_pos (by rfl)]; omega
      · rename_i hc
        simp only [Bool.or_eq_true, decide_eq_true_eq, not_or] at hc
        refine int64 ?_
        show IntKind.wrap .i64 (x * y) = _
        generalize x * y = T at m3 s1 s2 s3 s4
        rw [w64 (by omega) (by omega)]
        omega
end
end Go.Proofs.YtgecchiocfkpkaaGreatDoor

namespace Go.Proofs.YtgecchiocfkpkaaGreatDoor
noncomputable section
open Go Go.RX
open Go.RowKit (Below)
set_option maxRecDepth 1000000
set_option maxHeartbeats 4000000
/-! ### Operations by the hull of what becomes of the ends, kept in the kind -/
section
variable (al ah bl bh lo hi wd k rk rl rh : Int) (m : Nat → Int)
theorem rm_0 : rho al ah bl bh lo hi wd k rk rl rh m 0 = al := rfl
theorem rm_1 : rho al ah bl bh lo hi wd k rk rl rh m 1 = ah := rfl
theorem rm_2 : rho al ah bl bh lo hi wd k rk rl rh m 2 = bl := rfl
theorem rm_3 : rho al ah bl bh lo hi wd k rk rl rh m 3 = bh := rfl
theorem rm_4 : rho al ah bl bh lo hi wd k rk rl rh m 4 = lo := rfl
theorem rm_5 : rho al ah bl bh lo hi wd k rk rl rh m 5 = hi := rfl
theorem rm_6 : rho al ah bl bh lo hi wd k rk rl rh m 6 = wd := rfl
theorem rm_7 : rho al ah bl bh lo hi wd k rk rl rh m 7 = k := rfl
theorem rm_8 : rho al ah bl bh lo hi wd k rk rl rh m 8 = rk := rfl
theorem rm_9 : rho al ah bl bh lo hi wd k rk rl rh m 9 = rl := rfl
theorem rm_10 : rho al ah bl bh lo hi wd k rk rl rh m 10 = rh := rfl
end
/-- The symbols from 11 on. -/
def mL (l : List Int) : Nat → Int := fun i => l.getD i 0
theorem uop_ok {aR aS : Addr} {op al ah bl bh lo hi wd k rk rl rh wd2 : Int} {m : Nat → Int} {L : List CF} (hR : ResV aR aS op k rk 0) (hK : KdV aR aS k lo hi wd) (hR2 : KdV aR aS rk rl rh wd2) : ∀ u ∈ U_op op, @SOk (E (rho al ah bl bh lo hi wd k rk rl rh m) L) Tryz.prog (glob aR aS) u := fun u hu => by
  simp only [U_op, List.mem_cons, List.not_mem_nil, or_false] at hu
  rcases hu with rfl | rfl | rfl | rfl | rfl | rfl | rfl
  · exact sokE rfl rfl (vs := [.int .i64 op, .int .i64 k]) (v := .tuple #[.int .i64 rk, .int .i64 0]) rfl rfl fun w hG => (hR w hG).1
  · exact sokE rfl rfl (vs := [.int .i64 op, .int .i64 k]) (v := .tuple #[.int .i64 rk, .int .i64 0]) rfl rfl fun w hG => (hR w hG).2
  · exact sokE rfl rfl (vs := [.int .i64 k]) (v := .tuple #[.int .i64 wd, .int .i64 0]) rfl rfl fun w hG => (hK w hG).2.2.1
  · exact sokE rfl rfl (vs := [.int .i64 k]) (v := .int .i64 wd) rfl rfl fun w hG => (hK w hG).2.2.2
  · exact sokE rfl rfl (vs := [.int .i64 rk]) (v := spV rl rh) rfl rfl fun w hG => (hR2 w hG).1
  · exact sokE rfl rfl (vs := [.int .i64 rk]) (v := spV rl rh) rfl rfl fun w hG => (hR2 w hG).2.1
  · exact sokE rfl rfl (vs := [.int .i64 k]) (v := spV lo hi) rfl rfl fun w hG => (hK w hG).2.1
/-- With further told calls. -/
theorem apd_x {aR aS : Addr} {op al ah bl bh lo hi wd k rk rl rh wd2 : Int} {m : Nat → Int} {L : List CF} {X : List SEntry} {r1 r2 : SVal} (hR : ResV aR aS op k rk 0) (hK : KdV aR aS k lo hi wd) (hR2 : KdV aR aS rk rl rh wd2)
    (hL : ∀ f ∈ L, f.ok (rho al ah bl bh lo hi wd k rk rl rh m)) (hX : ∀ u ∈ X, @SOk (E (rho al ah bl bh lo hi wd k rk rl rh m) L) Tryz.prog (glob aR aS) u)
    (h : runE (rho al ah bl bh lo hi wd k rk rl rh m) aR aS L (U_op op ++ X) [(24, xP op, r1), (8, xP op, r2)]) (h1 : nf r1 = true) (h2 : nf r2 = true) {x y x' y' : Int}
    (d1 : @den (E (rho al ah bl bh lo hi wd k rk rl rh m) L) (fun _ => none) r1 = some (spV x y)) (d2 : @den (E (rho al ah bl bh lo hi wd k rk rl rh m) L) (fun _ => none) r2 = some (spV x' y')) (ex : x = x') (ey : y = y') : ∃ sl sh, ApD aR aS op k al ah bl bh sl sh := by
  subst ex ey
  refine ⟨x, y, fun w hG => pair_of hL (fun u hu => ?_) h rfl h1 h2 (vs := [.int .i64 op, .int .i64 k, spV al ah, spV bl bh]) rfl d1 d2 w hG⟩
  rcases List.mem_append.1 hu with hu | hu
  · exact uop_ok hR hK hR2 u hu
  · exact hX u hu
def L_fit (p1 p2 t1 t2 : IE) (b1 b2 c1 c2 : Bool) : List CF := [⟨.leq, .var 9, p1, b1⟩, ⟨.leq, p2, .var 10, b2⟩, ⟨.geq, t1, .var 9, c1⟩, ⟨.leq, t2, .var 10, c2⟩]
def r_fit (p1 p2 : IE) (b : Bool) : SVal := if b then .agg [.sym (.int .i64 p1), .sym (.int .i64 p2)] else s9
theorem apd_fit {aR aS : Addr} {op al ah bl bh lo hi wd k rk rl rh wd2 : Int} {m : Nat → Int} {Lx : List CF} {X : List SEntry} {p1 p2 t1 t2 : IE} (hR : ResV aR aS op k rk 0) (hK : KdV aR aS k lo hi wd) (hR2 : KdV aR aS rk rl rh wd2)
    (hL : ∀ f ∈ Lx, f.ok (rho al ah bl bh lo hi wd k rk rl rh m)) (hX : ∀ L, ∀ u ∈ X, @SOk (E (rho al ah bl bh lo hi wd k rk rl rh m) L) Tryz.prog (glob aR aS) u)
    (h : ∀ b1 b2 c1 c2 : Bool, (b1 && b2) = (c1 && c2) → runE (rho al ah bl bh lo hi wd k rk rl rh m) aR aS (L_fit p1 p2 t1 t2 b1 b2 c1 c2 ++ Lx) (U_op op ++ X) [(24, xP op, r_fit p1 p2 (b1 && b2)), (8, xP op, r_fit t1 t2 (c1 && c2))])
    {P1 P2 T1 T2 : Int} (e1 : p1.ev (rho al ah bl bh lo hi wd k rk rl rh m) = P1) (e2 : p2.ev (rho al ah bl bh lo hi wd k rk rl rh m) = P2) (e3 : t1.ev (rho al ah bl bh lo hi wd k rk rl rh m) = T1) (e4 : t2.ev (rho al ah bl bh lo hi wd k rk rl rh m) = T2)
    (g1 : (rl ≤ P1 ∧ P2 ≤ rh) ↔ (rl ≤ T1 ∧ T2 ≤ rh)) (g2 : (rl ≤ P1 ∧ P2 ≤ rh) → P1 = T1 ∧ P2 = T2) : ∃ sl sh, ApD aR aS op k al ah bl bh sl sh := by
  subst e1 e2 e3 e4
  generalize hρ : rho al ah bl bh lo hi wd k rk rl rh m = ρ at *
  have q9 : ρ 9 = rl := by subst hρ; rfl
  have q10 : ρ 10 = rh := by subst hρ; rfl
  have hb : (decide (rl ≤ p1.ev ρ) && decide (p2.ev ρ ≤ rh)) = (decide (rl ≤ t1.ev ρ) && decide (t2.ev ρ ≤ rh)) := by
    rw [← Bool.decide_and, ← Bool.decide_and]
    exact decide_eq_decide.2 g1
  have hL' : ∀ f ∈ L_fit p1 p2 t1 t2 (decide (rl ≤ p1.ev ρ)) (decide (p2.ev ρ ≤ rh)) (decide (rl ≤ t1.ev ρ)) (decide (t2.ev ρ ≤ rh)) ++ Lx, f.ok ρ := fun f hf => by
    rcases List.mem_append.1 hf with hf | hf
    · simp only [L_fit, List.mem_cons, List.not_mem_nil, or_false] at hf
      rcases hf with rfl | rfl | rfl | rfl
      · exact ⟨rfl, show decide (ρ 9 ≤ p1.ev ρ) = _ by rw [q9]⟩
      · exact ⟨rfl, show decide (p2.ev ρ ≤ ρ 10) = _ by rw [q10]⟩
      · exact ⟨rfl, show decide (t1.ev ρ ≥ ρ 9) = _ by rw [q9]⟩
      · exact ⟨rfl, show decide (t2.ev ρ ≤ ρ 10) = _ by rw [q10]⟩
    · exact hL f hf
  have hr := h _ _ _ _ hb
  subst hρ
  have n9 : ∀ p1 p2 b, nf (r_fit p1 p2 b) = true := by intro p1 p2 b; cases b <;> rfl
  by_cases hk : rl ≤ p1.ev (rho al ah bl bh lo hi wd k rk rl rh m) ∧ p2.ev (rho al ah bl bh lo hi wd k rk rl rh m) ≤ rh
  · obtain ⟨g3, g4⟩ := g2 hk
    have f1 : (decide (rl ≤ p1.ev (rho al ah bl bh lo hi wd k rk rl rh m)) && decide (p2.ev (rho al ah bl bh lo hi wd k rk rl rh m) ≤ rh)) = true := by
      rw [← Bool.decide_and]; exact decide_eq_true hk
    refine apd_x hR hK hR2 hL' (hX _) hr (n9 _ _ _) (n9 _ _ _) ?_ ?_ g3 g4
    · rw [f1]; rfl
    · rw [← hb, f1]; rfl
  · have f1 : (decide (rl ≤ p1.ev (rho al ah bl bh lo hi wd k rk rl rh m)) && decide (p2.ev (rho al ah bl bh lo hi wd k rk rl rh m) ≤ rh)) = false := by
      rw [← Bool.decide_and]; exact decide_eq_false hk
    refine apd_x hR hK hR2 hL' (hX _) hr (n9 _ _ _) (n9 _ _ _) (x := rl) (y := rh) (x' := rl) (y' := rh) ?_ ?_ rfl rfl
    · rw [f1]; rfl
    · rw [← hb, f1]; rfl
theorem fit_same {rl rh P1 P2 T1 T2 : Int} (e1 : P1 = T1) (e2 : P2 = T2) : ((rl ≤ P1 ∧ P2 ≤ rh) ↔ (rl ≤ T1 ∧ T2 ≤ rh)) ∧ ((rl ≤ P1 ∧ P2 ≤ rh) → P1 = T1 ∧ P2 = T2) := by
  subst e1 e2
  exact ⟨Iff.rfl, fun _ => ⟨rfl, rfl⟩⟩
/-- One is as good as the other: the same, or both beyond. -/
def Fit (rl rh p t : Int) : Prop := p = t ∨ (p > rh ∧ t > rh) ∨ (p < rl ∧ t < rl)
theorem fit_one {rl rh p t : Int} (h : Fit rl rh p t) : ((rl ≤ p ∧ p ≤ rh) ↔ (rl ≤ t ∧ t ≤ rh)) ∧ (rl ≤ p ∧ p ≤ rh → p = t) := by
  unfold Fit at h
  omega
theorem fit4 {rl rh p1 p2 p3 p4 t1 t2 t3 t4 : Int} (h1 : Fit rl rh p1 t1) (h2 : Fit rl rh p2 t2) (h3 : Fit rl rh p3 t3) (h4 : Fit rl rh p4 t4) :
    ((rl ≤ min (min (min p1 p2) p3) p4 ∧ max (max (max p1 p2) p3) p4 ≤ rh) ↔ (rl ≤ min (min (min t1 t2) t3) t4 ∧ max (max (max t1 t2) t3) t4 ≤ rh)) ∧
    ((rl ≤ min (min (min p1 p2) p3) p4 ∧ max (max (max p1 p2) p3) p4 ≤ rh) → min (min (min p1 p2) p3) p4 = min (min (min t1 t2) t3) t4 ∧ max (max (max p1 p2) p3) p4 = max (max (max t1 t2) t3) t4) := by
  simp only [Int.le_min, Int.max_le]
  obtain ⟨a1, b1⟩ := fit_one h1
  obtain ⟨a2, b2⟩ := fit_one h2
  obtain ⟨a3, b3⟩ := fit_one h3
  obtain ⟨a4, b4⟩ := fit_one h4
  constructor
  · constructor <;> intro h
    · exact ⟨⟨⟨⟨(a1.1 ⟨h.1.1.1.1, h.2.1.1.1⟩).1, (a2.1 ⟨h.1.1.1.2, h.2.1.1.2⟩).1⟩, (a3.1 ⟨h.1.1.2, h.2.1.2⟩).1⟩, (a4.1 ⟨h.1.2, h.2.2⟩).1⟩, ⟨⟨(a1.1 ⟨h.1.1.1.1, h.2.1.1.1⟩).2, (a2.1 ⟨h.1.1.1.2, h.2.1.1.2⟩).2⟩, (a3.1 ⟨h.1.1.2, h.2.1.2⟩).2⟩, (a4.1 ⟨h.1.2, h.2.2⟩).2⟩
    · exact ⟨⟨⟨⟨(a1.2 ⟨h.1.1.1.1, h.2.1.1.1⟩).1, (a2.2 ⟨h.1.1.1.2, h.2.1.1.2⟩).1⟩, (a3.2 ⟨h.1.1.2, h.2.1.2⟩).1⟩, (a4.2 ⟨h.1.2, h.2.2⟩).1⟩, ⟨⟨(a1.2 ⟨h.1.1.1.1, h.2.1.1.1⟩).2, (a2.2 ⟨h.1.1.1.2, h.2.1.1.2⟩).2⟩, (a3.2 ⟨h.1.1.2, h.2.1.2⟩).2⟩, (a4.2 ⟨h.1.2, h.2.2⟩).2⟩
  · intro h
    rw [b1 ⟨h.1.1.1.1, h.2.1.1.1⟩, b2 ⟨h.1.1.1.2, h.2.1.1.2⟩, b3 ⟨h.1.1.2, h.2.1.2⟩, b4 ⟨h.1.2, h.2.2⟩]
    exact ⟨rfl, rfl⟩
theorem fit_mul {rl rh z : Int} (h0 : -2147483648 ≤ rl) (h1 : rh ≤ 4294967295) (x y : Int) (hz : x * y = z) : Fit rl rh (prI x y) (tiI x y) := by
  unfold Fit prI tiI
  rw [hz]
  omega
theorem fit_shl {rl rh : Int} (h0 : -2147483648 ≤ rl) (h1 : rh ≤ 4294967295) (x y : Int) : Fit rl rh (x * y) (tiI x y) := by
  unfold Fit tiI
  omega
end
end Go.Proofs.YtgecchiocfkpkaaGreatDoor
