import Derived.Test.YtonkcpmefnddaaaGreatDoorHM
import Derived.Test.YtonkcpmefnddaaaGreatDoorRXM
namespace Go.Proofs.YtonkcpmefnddaaaGreatDoor
noncomputable section
open Go Go.RX
open Go.RowKit (Below)
set_option maxRecDepth 1000000
set_option maxHeartbeats 4000000
def QI (n m : Int) : Int := if m = 0 then 0 else loI (n / m)
def RI (n m : Int) : Int := if m = 0 then 0 else n % m
/-- The quotient and the remainder of two right values of a kind. -/
def DivV (aR aS : Addr) (k b n b2 n2 : Int) : Prop := ∀ w, (glob aR aS).holds w → Calls Tryz.prog 98 #[agV k b, agV k b2] w (Ret (.tuple #[.int .u64 (QI n n2), .int .u64 (RI n n2)]) w)
def UN (vk : Int) : List SEntry := [(126, [ag0 vk], .sym (.int .i64 (.var 4))), (126, [ag1 vk], .sym (.int .i64 (.var 14)))]
theorem UN_ok {W : Nat → Nat} {C : Nat → Nat × Nat} {b n e ka b2 n2 e2 kb vk : Int} {L : List CF} {T : List XE} {aR aS : Addr} (i1 : IntV aR aS vk b n) (i2 : IntV aR aS vk b2 n2) : ∀ x ∈ UN vk, @SOk (E W C (rd b n e ka b2 n2 e2 kb) L T) Tryz.prog (glob aR aS) x := fun x hx => by
  simp only [UN, List.mem_cons, List.not_mem_nil, or_false] at hx
  rcases hx with rfl | rfl
  · exact sokE (vs := [agV vk b]) (v := .int .i64 (IntKind.wrap .i64 n)) rfl rfl rfl rfl fun w hG => (i1 w hG).2
  · exact sokE (vs := [agV vk b2]) (v := .int .i64 (IntKind.wrap .i64 n2)) rfl rfl rfl rfl fun w hG => (i2 w hG).2
theorem i64_id {n : Int} (h0 : -9223372036854775808 ≤ n) (h1 : n < 9223372036854775808) : IntKind.wrap .i64 n = n := by
  rw [wrap_i64]
  omega
theorem emod_le {n m : Int} (hn : 0 ≤ n) (hm : 0 < m) : n % m ≤ n := by
  have h1 := Int.mul_ediv_add_emod n m
  have h2 := Int.mul_nonneg (Int.le_of_lt hm) (Int.ediv_nonneg hn (Int.le_of_lt hm))
  omega
def D_z : List CF := [⟨.eql, (.var 10), (.lit 0), true⟩]
def D_u : List CF := [⟨.eql, (.var 10), (.lit 0), false⟩, ⟨.neq, (.var 10), (.lit 0), true⟩]
def remS : IE := .bin .rem .i64 (.var 4) (.var 14)
def quoS : IE := .bin .quo .i64 (.var 4) (.var 14)
def D_s0 : List CF := [⟨.eql, (.var 10), (.lit 0), false⟩, ⟨.neq, (.var 14), (.lit 0), true⟩, ⟨.lss, remS, (.lit 0), false⟩]
def D_s (p : Bool) : List CF := [⟨.eql, (.var 10), (.lit 0), false⟩, ⟨.neq, (.var 14), (.lit 0), true⟩, ⟨.lss, remS, (.lit 0), true⟩, ⟨.gtr, (.var 14), (.lit 0), p⟩]
def r_u : SVal := .tuple [.sym (.int .u64 (.bin .quo .u64 (.var 0) (.var 10))), .sym (.int .u64 (.bin .rem .u64 (.var 0) (.var 10)))]
def r_0 : SVal := .tuple [.sym (.int .u64 (.cv .u64 quoS)), .sym (.int .u64 (.cv .u64 remS))]
def r_p : SVal := .tuple [.sym (.int .u64 (.cv .u64 (.bin .sub .i64 quoS (.lit 1)))), .sym (.int .u64 (.cv .u64 (.bin .add .i64 remS (.var 14))))]
def r_m : SVal := .tuple [.sym (.int .u64 (.cv .u64 (.bin .add .i64 quoS (.lit 1)))), .sym (.int .u64 (.cv .u64 (.bin .sub .i64 remS (.var 14))))]
theorem of_runs {aR aS : Addr} {k b n b2 n2 : Int} (i1 : IntV aR aS k b n) (i2 : IntV aR aS k b2 n2) {L : List CF} {r : SVal} (hL : ∀ f ∈ L, f.ok (rd b n 0 k b2 n2 0 k)) (h : runE (wF 0) (cF 0) (rd b n 0 k b2 n2 0 k) aR aS L [] (UN k) [(98, [ag0 k, ag1 k], r)]) (hn : nf r = true)
    (hd : @den (E (wF 0) (cF 0) (rd b n 0 k b2 n2 0 k) L []) (fun _ => none) r = some (.tuple #[.int .u64 (QI n n2), .int .u64 (RI n n2)])) : DivV aR aS k b n b2 n2 := fun w hG =>
  calls_symF (W := wF 0) (C := cF 0) (ρ := rd b n 0 k b2 n2 0 k) (T := []) hL (fun _ h => by cases h) (UN_ok i1 i2) h List.mem_cons_self rfl hn (vs := [agV k b, agV k b2]) rfl hd hG
theorem tup2 {x y x' y' : Int} (h1 : x = x') (h2 : y = y') : some (Value.tuple #[.int .u64 x, .int .u64 y]) = some (.tuple #[.int .u64 x', .int .u64 y']) := by rw [h1, h2]
theorem ok_z {b n b2 n2 k : Int} (h : b2 = 0) : ∀ f ∈ D_z, f.ok (rd b n 0 k b2 n2 0 k) := fun f hf => by
  obtain rfl := List.mem_singleton.1 hf
  subst h
  exact ⟨rfl, rfl⟩
theorem ok_u {b n b2 n2 k : Int} (h : b2 ≠ 0) : ∀ f ∈ D_u, f.ok (rd b n 0 k b2 n2 0 k) := fun f hf => by
  simp only [D_u, List.mem_cons, List.not_mem_nil, or_false] at hf
  rcases hf with rfl | rfl
  · exact ⟨rfl, beq_false_of_ne h⟩
  · exact ⟨rfl, bne_iff_ne.2 h⟩
theorem rem_ev {b n b2 n2 k : Int} (r0 : -9223372036854775808 ≤ n) (r1 : n < 9223372036854775808) (r2 : -9223372036854775808 ≤ n2) (r3 : n2 < 9223372036854775808) : remS.ev (rd b n 0 k b2 n2 0 k) = n.tmod n2 ∧ quoS.ev (rd b n 0 k b2 n2 0 k) = IntKind.wrap .i64 (n.tdiv n2) := by
  simp only [remS, quoS, IE.ev, rd_4, rd_14, binI, i64_id r0 r1, i64_id r2 r3, and_self]
theorem ok_s0 {b n b2 n2 k : Int} (h : b2 ≠ 0) (h' : n2 ≠ 0) (r0 : -9223372036854775808 ≤ n) (r1 : n < 9223372036854775808) (r2 : -9223372036854775808 ≤ n2) (r3 : n2 < 9223372036854775808) (o : 0 ≤ n.tmod n2) : ∀ f ∈ D_s0, f.ok (rd b n 0 k b2 n2 0 k) := fun f hf => by
  simp only [D_s0, List.mem_cons, List.not_mem_nil, or_false] at hf
  rcases hf with rfl | rfl | rfl
  · exact ⟨rfl, beq_false_of_ne h⟩
  · refine ⟨rfl, ?_⟩
    show (IntKind.wrap .i64 n2 != 0) = true
    rw [i64_id r2 r3]
    exact bne_iff_ne.2 h'
  · refine ⟨rfl, ?_⟩
    show decide (remS.ev _ < 0) = false
    rw [(rem_ev r0 r1 r2 r3).1]
    exact decide_eq_false (by omega)
theorem ok_s {b n b2 n2 k : Int} (h : b2 ≠ 0) (h' : n2 ≠ 0) (r0 : -9223372036854775808 ≤ n) (r1 : n < 9223372036854775808) (r2 : -9223372036854775808 ≤ n2) (r3 : n2 < 9223372036854775808) (o : n.tmod n2 < 0) {p : Bool} (hp : decide (n2 > 0) = p) : ∀ f ∈ D_s p, f.ok (rd b n 0 k b2 n2 0 k) := fun f hf => by
  simp only [D_s, List.mem_cons, List.not_mem_nil, or_false] at hf
  rcases hf with rfl | rfl | rfl | rfl
  · exact ⟨rfl, beq_false_of_ne h⟩
  · refine ⟨rfl, ?_⟩
    show (IntKind.wrap .i64 n2 != 0) = true
    rw [i64_id r2 r3]
    exact bne_iff_ne.2 h'
  · refine ⟨rfl, ?_⟩
    show decide (remS.ev _ < 0) = true
    rw [(rem_ev r0 r1 r2 r3).1]
    exact decide_eq_true o
  · refine ⟨rfl, ?_⟩
    show decide (IntKind.wrap .i64 n2 > 0) = p
    rw [i64_id r2 r3]
    exact hp
/-- Signed ones. -/
theorem div_s {aR aS : Addr} {k b n b2 n2 : Int} (i1 : IntV aR aS k b n) (i2 : IntV aR aS k b2 n2) (hz2 : b2 ≠ 0) (hz : n2 ≠ 0) (r0 : -9223372036854775808 ≤ n) (r1 : n < 9223372036854775808) (r2 : -9223372036854775808 ≤ n2) (r3 : n2 < 9223372036854775808)
    (h0 : runE (wF 0) (cF 0) (rd b n 0 k b2 n2 0 k) aR aS D_s0 [] (UN k) [(98, [ag0 k, ag1 k], r_0)]) (hp : runE (wF 0) (cF 0) (rd b n 0 k b2 n2 0 k) aR aS (D_s true) [] (UN k) [(98, [ag0 k, ag1 k], r_p)]) (hm : runE (wF 0) (cF 0) (rd b n 0 k b2 n2 0 k) aR aS (D_s false) [] (UN k) [(98, [ag0 k, ag1 k], r_m)]) : DivV aR aS k b n b2 n2 := by
  obtain ⟨er, eq⟩ := rem_ev (b := b) (b2 := b2) (k := k) r0 r1 r2 r3
  have q0 : ∀ {x y : Int}, x = n / n2 → y = n % n2 → 0 ≤ y → y < 9223372036854775808 → IntKind.wrap .u64 (IntKind.wrap .i64 x) = QI n n2 ∧ IntKind.wrap .u64 y = RI n n2 := by
    intro x y hx hy y0 y1
    unfold QI RI loI
    rw [if_neg hz, if_neg hz, ← hx, ← hy, wrap_u64, wrap_i64, wrap_u64]
    constructor <;> omega
  have e14 : (IE.var 14).ev (rd b n 0 k b2 n2 0 k) = n2 := i64_id r2 r3
  rcases Int.lt_or_le n 0 with hn | hn
  · obtain ⟨t1, t2⟩ := tdiv_np (b := n2) hn
    rcases Int.lt_or_le 0 n2 with hpos | hneg
    · obtain ⟨d1, d2⟩ := ediv_mp (a := n) hpos
      have m0 := Int.emod_nonneg (-n) hz
      have m1 := Int.emod_lt_of_pos (-n) hpos
      by_cases hr : (-n) % n2 = 0
      · rw [if_pos hr] at d1 d2
        obtain ⟨g1, g2⟩ := q0 (x := n.tdiv n2) (y := n.tmod n2) (by rw [t1, d1]) (by rw [t2, d2, hr]; rfl) (by rw [t2, hr]; decide) (by rw [t2, hr]; decide)
        refine of_runs i1 i2 (ok_s0 hz2 hz r0 r1 r2 r3 (by rw [t2, hr]; decide)) h0 rfl (tup2 ?_ ?_)
        · show IntKind.wrap .u64 (quoS.ev _) = _
          rw [eq]; exact g1
        · show IntKind.wrap .u64 (remS.ev _) = _
          rw [er]; exact g2
      · rw [if_neg hr] at d1 d2
        obtain ⟨g1, g2⟩ := q0 (x := n.tdiv n2 - 1) (y := n.tmod n2 + n2) (by rw [t1, d1]; omega) (by rw [t2, d2]; omega) (by rw [t2]; omega) (by rw [t2]; omega)
        refine of_runs i1 i2 (ok_s hz2 hz r0 r1 r2 r3 (by rw [t2]; omega) (decide_eq_true hpos)) hp rfl (tup2 ?_ ?_)
        · show IntKind.wrap .u64 (IntKind.wrap .i64 (quoS.ev _ - 1)) = _
          rw [eq, ← g1, wrap_i64, wrap_i64, wrap_i64]
          simp only [wrap_u64]
          omega
        · show IntKind.wrap .u64 (IntKind.wrap .i64 (remS.ev _ + (IE.var 14).ev _)) = _
          rw [er, e14, i64_id (by rw [t2]; omega) (by rw [t2]; omega)]; exact g2
    · have hneg' : 0 < -n2 := by omega
      obtain ⟨d1, d2⟩ := ediv_mp (a := n) hneg'
      obtain ⟨p1, p2⟩ := ediv_pm n n2
      obtain ⟨s1, s2⟩ := ediv_pm (-n) n2
      have m0 := Int.emod_nonneg (-n) (show -n2 ≠ 0 by omega)
      have m1 := Int.emod_lt_of_pos (-n) hneg'
      rw [s1] at t1
      rw [s2] at t2
      by_cases hr : (-n) % (-n2) = 0
      · rw [if_pos hr] at d1 d2
        obtain ⟨g1, g2⟩ := q0 (x := n.tdiv n2) (y := n.tmod n2) (by rw [t1, p1, d1]) (by rw [t2, p2, d2, hr]; rfl) (by rw [t2, hr]; decide) (by rw [t2, hr]; decide)
        refine of_runs i1 i2 (ok_s0 hz2 hz r0 r1 r2 r3 (by rw [t2, hr]; decide)) h0 rfl (tup2 ?_ ?_)
        · show IntKind.wrap .u64 (quoS.ev _) = _
          rw [eq]; exact g1
        · show IntKind.wrap .u64 (remS.ev _) = _
          rw [er]; exact g2
      · rw [if_neg hr] at d1 d2
        obtain ⟨g1, g2⟩ := q0 (x := n.tdiv n2 + 1) (y := n.tmod n2 - n2) (by rw [t1, p1, d1]; omega) (by rw [t2, p2, d2]; omega) (by rw [t2]; omega) (by rw [t2]; omega)
        refine of_runs i1 i2 (ok_s hz2 hz r0 r1 r2 r3 (by rw [t2]; omega) (decide_eq_false (by omega))) hm rfl (tup2 ?_ ?_)
        · show IntKind.wrap .u64 (IntKind.wrap .i64 (quoS.ev _ + 1)) = _
          rw [eq, ← g1, wrap_i64, wrap_i64, wrap_i64]
          simp only [wrap_u64]
          omega
        · show IntKind.wrap .u64 (IntKind.wrap .i64 (remS.ev _ - (IE.var 14).ev _)) = _
          rw [er, e14, i64_id (by rw [t2]; omega) (by rw [t2]; omega)]; exact g2
  · obtain ⟨t1, t2⟩ := tdiv_pp (b := n2) hn
    have m0 := Int.emod_nonneg n hz
    have m1 : n % n2 < 9223372036854775808 := by
      have := Int.emod_lt n hz
      have h3 : n % n2 ≤ n := by
        rcases Int.lt_or_le n2 0 with h | h
        · rw [(ediv_pm n n2).2]
          exact emod_le hn (by omega)
        · exact emod_le hn (by omega)
      omega
    obtain ⟨g1, g2⟩ := q0 (x := n.tdiv n2) (y := n.tmod n2) t1 t2 (by rw [t2]; exact m0) (by rw [t2]; exact m1)
    refine of_runs i1 i2 (ok_s0 hz2 hz r0 r1 r2 r3 (by rw [t2]; exact m0)) h0 rfl (tup2 ?_ ?_)
    · show IntKind.wrap .u64 (quoS.ev _) = _
      rw [eq]; exact g1
    · show IntKind.wrap .u64 (remS.ev _) = _
      rw [er]; exact g2
theorem run_dz1 (W : Nat → Nat) (C : Nat → Nat × Nat) (ρ : Nat → Int) (aR aS : Addr) : runE W C ρ aR aS D_z [] (UN 1) [(98, [ag0 1, ag1 1], .v (.tuple #[.int .u64 0, .int .u64 0]))] := by unfold runE; kernel_rfl
theorem run_du1 (W : Nat → Nat) (C : Nat → Nat × Nat) (ρ : Nat → Int) (aR aS : Addr) : runE W C ρ aR aS D_u [] (UN 1) [(98, [ag0 1, ag1 1], r_u)] := by unfold runE; kernel_rfl
theorem div_1 {aR aS : Addr} {b n b2 n2 : Int} (hA : HN 1 b n) (hB : HN 1 b2 n2) (i1 : IntV aR aS 1 b n) (i2 : IntV aR aS 1 b2 n2) : DivV aR aS 1 b n b2 n2 := by
  obtain ⟨a1, a2, a3, a4, a5⟩ := hA
  obtain ⟨c1, c2, c3, c4, c5⟩ := hB
  by_cases hz : n2 = 0
  · exact of_runs i1 i2 (ok_z (by omega)) (run_dz1 _ _ _ aR aS) rfl (tup2 (by unfold QI; rw [if_pos hz]) (by unfold RI; rw [if_pos hz]))
  · refine of_runs i1 i2 (ok_u (by omega)) (run_du1 _ _ _ aR aS) rfl (tup2 ?_ ?_)
    · unfold QI loI
      rw [if_neg hz]
      show IntKind.wrap .u64 (b.tdiv b2) = _
      rw [Int.tdiv_eq_ediv_of_nonneg a1, wrap_u64, show b = n by omega, show b2 = n2 by omega]
    · unfold RI
      rw [if_neg hz]
      show b.tmod b2 = _
      rw [Int.tmod_eq_emod_of_nonneg a1, show b = n by omega, show b2 = n2 by omega]
theorem run_dz2 (W : Nat → Nat) (C : Nat → Nat × Nat) (ρ : Nat → Int) (aR aS : Addr) : runE W C ρ aR aS D_z [] (UN 2) [(98, [ag0 2, ag1 2], .v (.tuple #[.int .u64 0, .int .u64 0]))] := by unfold runE; kernel_rfl
theorem run_du2 (W : Nat → Nat) (C : Nat → Nat × Nat) (ρ : Nat → Int) (aR aS : Addr) : runE W C ρ aR aS D_u [] (UN 2) [(98, [ag0 2, ag1 2], r_u)] := by unfold runE; kernel_rfl
theorem div_2 {aR aS : Addr} {b n b2 n2 : Int} (hA : HN 2 b n) (hB : HN 2 b2 n2) (i1 : IntV aR aS 2 b n) (i2 : IntV aR aS 2 b2 n2) : DivV aR aS 2 b n b2 n2 := by
  obtain ⟨a1, a2, a3, a4, a5⟩ := hA
  obtain ⟨c1, c2, c3, c4, c5⟩ := hB
  by_cases hz : n2 = 0
  · exact of_runs i1 i2 (ok_z (by omega)) (run_dz2 _ _ _ aR aS) rfl (tup2 (by unfold QI; rw [if_pos hz]) (by unfold RI; rw [if_pos hz]))
  · refine of_runs i1 i2 (ok_u (by omega)) (run_du2 _ _ _ aR aS) rfl (tup2 ?_ ?_)
    · unfold QI loI
      rw [if_neg hz]
      show IntKind.wrap .u64 (b.tdiv b2) = _
      rw [Int.tdiv_eq_ediv_of_nonneg a1, wrap_u64, show b = n by omega, show b2 = n2 by omega]
    · unfold RI
      rw [if_neg hz]
      show b.tmod b2 = _
      rw [Int.tmod_eq_emod_of_nonneg a1, show b = n by omega, show b2 = n2 by omega]
theorem run_dz3 (W : Nat → Nat) (C : Nat → Nat × Nat) (ρ : Nat → Int) (aR aS : Addr) : runE W C ρ aR aS D_z [] (UN 3) [(98, [ag0 3, ag1 3], .v (.tuple #[.int .u64 0, .int .u64 0]))] := by unfold runE; kernel_rfl
theorem run_du3 (W : Nat → Nat) (C : Nat → Nat × Nat) (ρ : Nat → Int) (aR aS : Addr) : runE W C ρ aR aS D_u [] (UN 3) [(98, [ag0 3, ag1 3], r_u)] := by unfold runE; kernel_rfl
theorem div_3 {aR aS : Addr} {b n b2 n2 : Int} (hA : HN 3 b n) (hB : HN 3 b2 n2) (i1 : IntV aR aS 3 b n) (i2 : IntV aR aS 3 b2 n2) : DivV aR aS 3 b n b2 n2 := by
  obtain ⟨a1, a2, a3, a4, a5⟩ := hA
  obtain ⟨c1, c2, c3, c4, c5⟩ := hB
  by_cases hz : n2 = 0
  · exact of_runs i1 i2 (ok_z (by omega)) (run_dz3 _ _ _ aR aS) rfl (tup2 (by unfold QI; rw [if_pos hz]) (by unfold RI; rw [if_pos hz]))
  · refine of_runs i1 i2 (ok_u (by omega)) (run_du3 _ _ _ aR aS) rfl (tup2 ?_ ?_)
    · unfold QI loI
      rw [if_neg hz]
      show IntKind.wrap .u64 (b.tdiv b2) = _
      rw [Int.tdiv_eq_ediv_of_nonneg a1, wrap_u64, show b = n by omega, show b2 = n2 by omega]
    · unfold RI
      rw [if_neg hz]
      show b.tmod b2 = _
      rw [Int.tmod_eq_emod_of_nonneg a1, show b = n by omega, show b2 = n2 by omega]
theorem run_dz4 (W : Nat → Nat) (C : Nat → Nat × Nat) (ρ : Nat → Int) (aR aS : Addr) : runE W C ρ aR aS D_z [] (UN 4) [(98, [ag0 4, ag1 4], .v (.tuple #[.int .u64 0, .int .u64 0]))] := by unfold runE; kernel_rfl
theorem run_du4 (W : Nat → Nat) (C : Nat → Nat × Nat) (ρ : Nat → Int) (aR aS : Addr) : runE W C ρ aR aS D_u [] (UN 4) [(98, [ag0 4, ag1 4], r_u)] := by unfold runE; kernel_rfl
theorem div_4 {aR aS : Addr} {b n b2 n2 : Int} (hA : HN 4 b n) (hB : HN 4 b2 n2) (i1 : IntV aR aS 4 b n) (i2 : IntV aR aS 4 b2 n2) : DivV aR aS 4 b n b2 n2 := by
  obtain ⟨a1, a2, a3, a4, a5⟩ := hA
  obtain ⟨c1, c2, c3, c4, c5⟩ := hB
  by_cases hz : n2 = 0
  · exact of_runs i1 i2 (ok_z (by omega)) (run_dz4 _ _ _ aR aS) rfl (tup2 (by unfold QI; rw [if_pos hz]) (by unfold RI; rw [if_pos hz]))
  · refine of_runs i1 i2 (ok_u (by omega)) (run_du4 _ _ _ aR aS) rfl (tup2 ?_ ?_)
    · unfold QI loI
      rw [if_neg hz]
      show IntKind.wrap .u64 (b.tdiv b2) = _
      rw [Int.tdiv_eq_ediv_of_nonneg a1, wrap_u64, show b = n by omega, show b2 = n2 by omega]
    · unfold RI
      rw [if_neg hz]
      show b.tmod b2 = _
      rw [Int.tmod_eq_emod_of_nonneg a1, show b = n by omega, show b2 = n2 by omega]
theorem run_dz5 (W : Nat → Nat) (C : Nat → Nat × Nat) (ρ : Nat → Int) (aR aS : Addr) : runE W C ρ aR aS D_z [] (UN 5) [(98, [ag0 5, ag1 5], .v (.tuple #[.int .u64 0, .int .u64 0]))] := by unfold runE; kernel_rfl
theorem run_d05 (W : Nat → Nat) (C : Nat → Nat × Nat) (ρ : Nat → Int) (aR aS : Addr) : runE W C ρ aR aS D_s0 [] (UN 5) [(98, [ag0 5, ag1 5], r_0)] := by unfold runE; kernel_rfl
theorem run_dp5 (W : Nat → Nat) (C : Nat → Nat × Nat) (ρ : Nat → Int) (aR aS : Addr) : runE W C ρ aR aS (D_s true) [] (UN 5) [(98, [ag0 5, ag1 5], r_p)] := by unfold runE; kernel_rfl
theorem run_dm5 (W : Nat → Nat) (C : Nat → Nat × Nat) (ρ : Nat → Int) (aR aS : Addr) : runE W C ρ aR aS (D_s false) [] (UN 5) [(98, [ag0 5, ag1 5], r_m)] := by unfold runE; kernel_rfl
theorem div_5 {aR aS : Addr} {b n b2 n2 : Int} (hA : HN 5 b n) (hB : HN 5 b2 n2) (i1 : IntV aR aS 5 b n) (i2 : IntV aR aS 5 b2 n2) : DivV aR aS 5 b n b2 n2 := by
  obtain ⟨a1, a2, a3, a4, a5⟩ := hA
  obtain ⟨c1, c2, c3, c4, c5⟩ := hB
  by_cases hz : n2 = 0
  · exact of_runs i1 i2 (ok_z (by omega)) (run_dz5 _ _ _ aR aS) rfl (tup2 (by unfold QI; rw [if_pos hz]) (by unfold RI; rw [if_pos hz]))
  · have hz2 : b2 ≠ 0 := by omega
    exact div_s i1 i2 hz2 hz (by omega) (by omega) (by omega) (by omega) (run_d05 _ _ _ aR aS) (run_dp5 _ _ _ aR aS) (run_dm5 _ _ _ aR aS)
theorem run_dz6 (W : Nat → Nat) (C : Nat → Nat × Nat) (ρ : Nat → Int) (aR aS : Addr) : runE W C ρ aR aS D_z [] (UN 6) [(98, [ag0 6, ag1 6], .v (.tuple #[.int .u64 0, .int .u64 0]))] := by unfold runE; kernel_rfl
theorem run_d06 (W : Nat → Nat) (C : Nat → Nat × Nat) (ρ : Nat → Int) (aR aS : Addr) : runE W C ρ aR aS D_s0 [] (UN 6) [(98, [ag0 6, ag1 6], r_0)] := by unfold runE; kernel_rfl
theorem run_dp6 (W : Nat → Nat) (C : Nat → Nat × Nat) (ρ : Nat → Int) (aR aS : Addr) : runE W C ρ aR aS (D_s true) [] (UN 6) [(98, [ag0 6, ag1 6], r_p)] := by unfold runE; kernel_rfl
theorem run_dm6 (W : Nat → Nat) (C : Nat → Nat × Nat) (ρ : Nat → Int) (aR aS : Addr) : runE W C ρ aR aS (D_s false) [] (UN 6) [(98, [ag0 6, ag1 6], r_m)] := by unfold runE; kernel_rfl
theorem div_6 {aR aS : Addr} {b n b2 n2 : Int} (hA : HN 6 b n) (hB : HN 6 b2 n2) (i1 : IntV aR aS 6 b n) (i2 : IntV aR aS 6 b2 n2) : DivV aR aS 6 b n b2 n2 := by
  obtain ⟨a1, a2, a3, a4, a5⟩ := hA
  obtain ⟨c1, c2, c3, c4, c5⟩ := hB
  by_cases hz : n2 = 0
  · exact of_runs i1 i2 (ok_z (by omega)) (run_dz6 _ _ _ aR aS) rfl (tup2 (by unfold QI; rw [if_pos hz]) (by unfold RI; rw [if_pos hz]))
  · have hz2 : b2 ≠ 0 := by omega
    exact div_s i1 i2 hz2 hz (by omega) (by omega) (by omega) (by omega) (run_d06 _ _ _ aR aS) (run_dp6 _ _ _ aR aS) (run_dm6 _ _ _ aR aS)
theorem run_dz7 (W : Nat → Nat) (C : Nat → Nat × Nat) (ρ : Nat → Int) (aR aS : Addr) : runE W C ρ aR aS D_z [] (UN 7) [(98, [ag0 7, ag1 7], .v (.tuple #[.int .u64 0, .int .u64 0]))] := by unfold runE; kernel_rfl
theorem run_d07 (W : Nat → Nat) (C : Nat → Nat × Nat) (ρ : Nat → Int) (aR aS : Addr) : runE W C ρ aR aS D_s0 [] (UN 7) [(98, [ag0 7, ag1 7], r_0)] := by unfold runE; kernel_rfl
theorem run_dp7 (W : Nat → Nat) (C : Nat → Nat × Nat) (ρ : Nat → Int) (aR aS : Addr) : runE W C ρ aR aS (D_s true) [] (UN 7) [(98, [ag0 7, ag1 7], r_p)] := by unfold runE; kernel_rfl
theorem run_dm7 (W : Nat → Nat) (C : Nat → Nat × Nat) (ρ : Nat → Int) (aR aS : Addr) : runE W C ρ aR aS (D_s false) [] (UN 7) [(98, [ag0 7, ag1 7], r_m)] := by unfold runE; kernel_rfl
theorem div_7 {aR aS : Addr} {b n b2 n2 : Int} (hA : HN 7 b n) (hB : HN 7 b2 n2) (i1 : IntV aR aS 7 b n) (i2 : IntV aR aS 7 b2 n2) : DivV aR aS 7 b n b2 n2 := by
  obtain ⟨a1, a2, a3, a4, a5⟩ := hA
  obtain ⟨c1, c2, c3, c4, c5⟩ := hB
  by_cases hz : n2 = 0
  · exact of_runs i1 i2 (ok_z (by omega)) (run_dz7 _ _ _ aR aS) rfl (tup2 (by unfold QI; rw [if_pos hz]) (by unfold RI; rw [if_pos hz]))
  · have hz2 : b2 ≠ 0 := by omega
    exact div_s i1 i2 hz2 hz (by omega) (by omega) (by omega) (by omega) (run_d07 _ _ _ aR aS) (run_dp7 _ _ _ aR aS) (run_dm7 _ _ _ aR aS)
theorem run_dz8 (W : Nat → Nat) (C : Nat → Nat × Nat) (ρ : Nat → Int) (aR aS : Addr) : runE W C ρ aR aS D_z [] (UN 8) [(98, [ag0 8, ag1 8], .v (.tuple #[.int .u64 0, .int .u64 0]))] := by unfold runE; kernel_rfl
theorem run_d08 (W : Nat → Nat) (C : Nat → Nat × Nat) (ρ : Nat → Int) (aR aS : Addr) : runE W C ρ aR aS D_s0 [] (UN 8) [(98, [ag0 8, ag1 8], r_0)] := by unfold runE; kernel_rfl
theorem run_dp8 (W : Nat → Nat) (C : Nat → Nat × Nat) (ρ : Nat → Int) (aR aS : Addr) : runE W C ρ aR aS (D_s true) [] (UN 8) [(98, [ag0 8, ag1 8], r_p)] := by unfold runE; kernel_rfl
theorem run_dm8 (W : Nat → Nat) (C : Nat → Nat × Nat) (ρ : Nat → Int) (aR aS : Addr) : runE W C ρ aR aS (D_s false) [] (UN 8) [(98, [ag0 8, ag1 8], r_m)] := by unfold runE; kernel_rfl
theorem div_8 {aR aS : Addr} {b n b2 n2 : Int} (hA : HN 8 b n) (hB : HN 8 b2 n2) (i1 : IntV aR aS 8 b n) (i2 : IntV aR aS 8 b2 n2) : DivV aR aS 8 b n b2 n2 := by
  obtain ⟨a1, a2, a3, a4, a5⟩ := hA
  obtain ⟨c1, c2, c3, c4, c5⟩ := hB
  by_cases hz : n2 = 0
  · exact of_runs i1 i2 (ok_z (by omega)) (run_dz8 _ _ _ aR aS) rfl (tup2 (by unfold QI; rw [if_pos hz]) (by unfold RI; rw [if_pos hz]))
  · have hz2 : b2 ≠ 0 := by omega
    exact div_s i1 i2 hz2 hz (by omega) (by omega) (by omega) (by omega) (run_d08 _ _ _ aR aS) (run_dp8 _ _ _ aR aS) (run_dm8 _ _ _ aR aS)
end
end Go.Proofs.YtonkcpmefnddaaaGreatDoor
