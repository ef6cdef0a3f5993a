import Derived.Test.YtonkcpmefnddaaaGreatDoorJD
namespace Go.Proofs.YtonkcpmefnddaaaGreatDoor
noncomputable section
open Go Go.RX
open Go.RowKit (Below)
set_option maxRecDepth 1000000
set_option maxHeartbeats 4000000
theorem ev_addu (x y : Int) : binI .add .u64 x y = IntKind.wrap .u64 (x + y) := rfl
theorem ev_subu (x y : Int) : binI .sub .u64 x y = IntKind.wrap .u64 (x - y) := rfl
/-- A sum, or a difference, held. -/
def HeldV (aR aS : Addr) (op k b b2 B : Int) : Prop := ∀ w, (glob aR aS).holds w → Calls Tryz.prog 101 #[.int .i64 op, agV k b, agV k b2] w (Ret (agV k B) w)
theorem held_of {aR aS : Addr} {op k b n b2 n2 B : Int} (i1 : IntV aR aS k b n) (i2 : IntV aR aS k b2 n2) {L : List CF} {r : SVal} (hL : ∀ f ∈ L, f.ok (rd b n 0 k b2 n2 0 k)) (h : runE (wF 0) (cF 0) (rd b n 0 k b2 n2 0 k) aR aS L [] (UN k) [(101, [.v (.int .i64 op), ag0 k, ag1 k], r)]) (hn : nf r = true)
    (hd : @den (E (wF 0) (cF 0) (rd b n 0 k b2 n2 0 k) L []) (fun _ => none) r = some (agV k B)) : HeldV aR aS op k b b2 B := fun w hG =>
  calls_symF (W := wF 0) (C := cF 0) (ρ := rd b n 0 k b2 n2 0 k) (T := []) hL (fun _ h => by cases h) (UN_ok i1 i2) h List.mem_cons_self rfl hn (vs := [.int .i64 op, agV k b, agV k b2]) rfl hd hG
def L_h18_1in : List CF := [⟨.lss, (.var 10), (.lit 0), false⟩, ⟨.lss, (.bin .and .u64 (.bin .add .u64 (.var 0) (.var 10)) (.lit 255)), (.var 0), false⟩]
theorem run_h18_1in (W : Nat → Nat) (C : Nat → Nat × Nat) (ρ : Nat → Int) (aR aS : Addr) : runE W C ρ aR aS L_h18_1in [] (UN 1) [(101, [.v (.int .i64 18), ag0 1, ag1 1], .agg [.v (.int .i64 1), .sym (.int .u64 (.bin .and .u64 (.bin .add .u64 (.var 0) (.var 10)) (.lit 255)))])] := by unfold runE; kernel_rfl
theorem h18_1in {aR aS : Addr} {b n b2 n2 : Int} (hA : HN 1 b n) (hB : HN 1 b2 n2) (i1 : IntV aR aS 1 b n) (i2 : IntV aR aS 1 b2 n2) (h0 : n + n2 ≤ 255) : HeldV aR aS 18 1 b b2 ((if n + n2 < 0 then 0 else if 255 < n + n2 then 255 else n + n2) % 256) := by
  obtain ⟨a1, a2, a3, a4, a5⟩ := hA
  obtain ⟨c1, c2, c3, c4, c5⟩ := hB
  refine held_of i1 i2 (fun f hf => ?_) (run_h18_1in _ _ _ aR aS) rfl (agEq ?_)
  · simp only [L_h18_1in, List.mem_cons, List.not_mem_nil, or_false] at hf
    rcases hf with rfl | rfl
    · exact ⟨rfl, cmp_lss_f (by simp (disch := omega) only [IE.ev, rd_10] <;> omega)⟩
    · exact ⟨rfl, cmp_lss_f (by simp (disch := omega) only [IE.ev, rd_0, rd_10, and_u64_8, ev_addu, wrap_u64] <;> omega)⟩
  · show IE.ev (rd b n 0 1 b2 n2 0 1) (.bin .and .u64 (.bin .add .u64 (.var 0) (.var 10)) (.lit 255)) = _
    rw [if_neg (by omega), if_neg (by omega)]
    simp (disch := omega) only [IE.ev, rd_0, rd_10, and_u64_8, ev_addu, wrap_u64] <;> omega
def L_h18_1ov : List CF := [⟨.lss, (.var 10), (.lit 0), false⟩, ⟨.lss, (.bin .and .u64 (.bin .add .u64 (.var 0) (.var 10)) (.lit 255)), (.var 0), true⟩]
theorem run_h18_1ov (W : Nat → Nat) (C : Nat → Nat × Nat) (ρ : Nat → Int) (aR aS : Addr) : runE W C ρ aR aS L_h18_1ov [] (UN 1) [(101, [.v (.int .i64 18), ag0 1, ag1 1], .v (.agg #[.int .i64 1, .int .u64 255]))] := by unfold runE; kernel_rfl
theorem h18_1ov {aR aS : Addr} {b n b2 n2 : Int} (hA : HN 1 b n) (hB : HN 1 b2 n2) (i1 : IntV aR aS 1 b n) (i2 : IntV aR aS 1 b2 n2) (h0 : 255 < n + n2) : HeldV aR aS 18 1 b b2 ((if n + n2 < 0 then 0 else if 255 < n + n2 then 255 else n + n2) % 256) := by
  obtain ⟨a1, a2, a3, a4, a5⟩ := hA
  obtain ⟨c1, c2, c3, c4, c5⟩ := hB
  refine held_of i1 i2 (fun f hf => ?_) (run_h18_1ov _ _ _ aR aS) rfl (agEq ?_)
  · simp only [L_h18_1ov, List.mem_cons, List.not_mem_nil, or_false] at hf
    rcases hf with rfl | rfl
    · exact ⟨rfl, cmp_lss_f (by simp (disch := omega) only [IE.ev, rd_10] <;> omega)⟩
    · exact ⟨rfl, cmp_lss_t (by simp (disch := omega) only [IE.ev, rd_0, rd_10, and_u64_8, ev_addu, wrap_u64] <;> omega)⟩
  · show (255 : Int) = _
    rw [if_neg (by omega), if_pos (by omega)]
    omega
def L_h18_2in : List CF := [⟨.lss, (.var 10), (.lit 0), false⟩, ⟨.lss, (.bin .and .u64 (.bin .add .u64 (.var 0) (.var 10)) (.lit 65535)), (.var 0), false⟩]
theorem run_h18_2in (W : Nat → Nat) (C : Nat → Nat × Nat) (ρ : Nat → Int) (aR aS : Addr) : runE W C ρ aR aS L_h18_2in [] (UN 2) [(101, [.v (.int .i64 18), ag0 2, ag1 2], .agg [.v (.int .i64 2), .sym (.int .u64 (.bin .and .u64 (.bin .add .u64 (.var 0) (.var 10)) (.lit 65535)))])] := by unfold runE; kernel_rfl
theorem h18_2in {aR aS : Addr} {b n b2 n2 : Int} (hA : HN 2 b n) (hB : HN 2 b2 n2) (i1 : IntV aR aS 2 b n) (i2 : IntV aR aS 2 b2 n2) (h0 : n + n2 ≤ 65535) : HeldV aR aS 18 2 b b2 ((if n + n2 < 0 then 0 else if 65535 < n + n2 then 65535 else n + n2) % 65536) := by
  obtain ⟨a1, a2, a3, a4, a5⟩ := hA
  obtain ⟨c1, c2, c3, c4, c5⟩ := hB
  refine held_of i1 i2 (fun f hf => ?_) (run_h18_2in _ _ _ aR aS) rfl (agEq ?_)
  · simp only [L_h18_2in, List.mem_cons, List.not_mem_nil, or_false] at hf
    rcases hf with rfl | rfl
    · exact ⟨rfl, cmp_lss_f (by simp (disch := omega) only [IE.ev, rd_10] <;> omega)⟩
    · exact ⟨rfl, cmp_lss_f (by simp (disch := omega) only [IE.ev, rd_0, rd_10, and_u64_16, ev_addu, wrap_u64] <;> omega)⟩
  · show IE.ev (rd b n 0 2 b2 n2 0 2) (.bin .and .u64 (.bin .add .u64 (.var 0) (.var 10)) (.lit 65535)) = _
    rw [if_neg (by omega), if_neg (by omega)]
    simp (disch := omega) only [IE.ev, rd_0, rd_10, and_u64_16, ev_addu, wrap_u64] <;> omega
def L_h18_2ov : List CF := [⟨.lss, (.var 10), (.lit 0), false⟩, ⟨.lss, (.bin .and .u64 (.bin .add .u64 (.var 0) (.var 10)) (.lit 65535)), (.var 0), true⟩]
theorem run_h18_2ov (W : Nat → Nat) (C : Nat → Nat × Nat) (ρ : Nat → Int) (aR aS : Addr) : runE W C ρ aR aS L_h18_2ov [] (UN 2) [(101, [.v (.int .i64 18), ag0 2, ag1 2], .v (.agg #[.int .i64 2, .int .u64 65535]))] := by unfold runE; kernel_rfl
theorem h18_2ov {aR aS : Addr} {b n b2 n2 : Int} (hA : HN 2 b n) (hB : HN 2 b2 n2) (i1 : IntV aR aS 2 b n) (i2 : IntV aR aS 2 b2 n2) (h0 : 65535 < n + n2) : HeldV aR aS 18 2 b b2 ((if n + n2 < 0 then 0 else if 65535 < n + n2 then 65535 else n + n2) % 65536) := by
  obtain ⟨a1, a2, a3, a4, a5⟩ := hA
  obtain ⟨c1, c2, c3, c4, c5⟩ := hB
  refine held_of i1 i2 (fun f hf => ?_) (run_h18_2ov _ _ _ aR aS) rfl (agEq ?_)
  · simp only [L_h18_2ov, List.mem_cons, List.not_mem_nil, or_false] at hf
    rcases hf with rfl | rfl
    · exact ⟨rfl, cmp_lss_f (by simp (disch := omega) only [IE.ev, rd_10] <;> omega)⟩
    · exact ⟨rfl, cmp_lss_t (by simp (disch := omega) only [IE.ev, rd_0, rd_10, and_u64_16, ev_addu, wrap_u64] <;> omega)⟩
  · show (65535 : Int) = _
    rw [if_neg (by omega), if_pos (by omega)]
    omega
def L_h18_3in : List CF := [⟨.lss, (.var 10), (.lit 0), false⟩, ⟨.lss, (.bin .and .u64 (.bin .add .u64 (.var 0) (.var 10)) (.lit 4294967295)), (.var 0), false⟩]
theorem run_h18_3in (W : Nat → Nat) (C : Nat → Nat × Nat) (ρ : Nat → Int) (aR aS : Addr) : runE W C ρ aR aS L_h18_3in [] (UN 3) [(101, [.v (.int .i64 18), ag0 3, ag1 3], .agg [.v (.int .i64 3), .sym (.int .u64 (.bin .and .u64 (.bin .add .u64 (.var 0) (.var 10)) (.lit 4294967295)))])] := by unfold runE; kernel_rfl
theorem h18_3in {aR aS : Addr} {b n b2 n2 : Int} (hA : HN 3 b n) (hB : HN 3 b2 n2) (i1 : IntV aR aS 3 b n) (i2 : IntV aR aS 3 b2 n2) (h0 : n + n2 ≤ 4294967295) : HeldV aR aS 18 3 b b2 ((if n + n2 < 0 then 0 else if 4294967295 < n + n2 then 4294967295 else n + n2) % 4294967296) := by
  obtain ⟨a1, a2, a3, a4, a5⟩ := hA
  obtain ⟨c1, c2, c3, c4, c5⟩ := hB
  refine held_of i1 i2 (fun f hf => ?_) (run_h18_3in _ _ _ aR aS) rfl (agEq ?_)
  · simp only [L_h18_3in, List.mem_cons, List.not_mem_nil, or_false] at hf
    rcases hf with rfl | rfl
    · exact ⟨rfl, cmp_lss_f (by simp (disch := omega) only [IE.ev, rd_10] <;> omega)⟩
    · exact ⟨rfl, cmp_lss_f (by simp (disch := omega) only [IE.ev, rd_0, rd_10, and_u64_32, ev_addu, wrap_u64] <;> omega)⟩
  · show IE.ev (rd b n 0 3 b2 n2 0 3) (.bin .and .u64 (.bin .add .u64 (.var 0) (.var 10)) (.lit 4294967295)) = _
    rw [if_neg (by omega), if_neg (by omega)]
    simp (disch := omega) only [IE.ev, rd_0, rd_10, and_u64_32, ev_addu, wrap_u64] <;> omega
def L_h18_3ov : List CF := [⟨.lss, (.var 10), (.lit 0), false⟩, ⟨.lss, (.bin .and .u64 (.bin .add .u64 (.var 0) (.var 10)) (.lit 4294967295)), (.var 0), true⟩]
theorem run_h18_3ov (W : Nat → Nat) (C : Nat → Nat × Nat) (ρ : Nat → Int) (aR aS : Addr) : runE W C ρ aR aS L_h18_3ov [] (UN 3) [(101, [.v (.int .i64 18), ag0 3, ag1 3], .v (.agg #[.int .i64 3, .int .u64 4294967295]))] := by unfold runE; kernel_rfl
theorem h18_3ov {aR aS : Addr} {b n b2 n2 : Int} (hA : HN 3 b n) (hB : HN 3 b2 n2) (i1 : IntV aR aS 3 b n) (i2 : IntV aR aS 3 b2 n2) (h0 : 4294967295 < n + n2) : HeldV aR aS 18 3 b b2 ((if n + n2 < 0 then 0 else if 4294967295 < n + n2 then 4294967295 else n + n2) % 4294967296) := by
  obtain ⟨a1, a2, a3, a4, a5⟩ := hA
  obtain ⟨c1, c2, c3, c4, c5⟩ := hB
  refine held_of i1 i2 (fun f hf => ?_) (run_h18_3ov _ _ _ aR aS) rfl (agEq ?_)
  · simp only [L_h18_3ov, List.mem_cons, List.not_mem_nil, or_false] at hf
    rcases hf with rfl | rfl
    · exact ⟨rfl, cmp_lss_f (by simp (disch := omega) only [IE.ev, rd_10] <;> omega)⟩
    · exact ⟨rfl, cmp_lss_t (by simp (disch := omega) only [IE.ev, rd_0, rd_10, and_u64_32, ev_addu, wrap_u64] <;> omega)⟩
  · show (4294967295 : Int) = _
    rw [if_neg (by omega), if_pos (by omega)]
    omega
def L_h18_4in : List CF := [⟨.lss, (.var 10), (.lit 0), false⟩, ⟨.lss, (.bin .and .u64 (.bin .add .u64 (.var 0) (.var 10)) (.lit 18446744073709551615)), (.var 0), false⟩]
theorem run_h18_4in (W : Nat → Nat) (C : Nat → Nat × Nat) (ρ : Nat → Int) (aR aS : Addr) : runE W C ρ aR aS L_h18_4in [] (UN 4) [(101, [.v (.int .i64 18), ag0 4, ag1 4], .agg [.v (.int .i64 4), .sym (.int .u64 (.bin .and .u64 (.bin .add .u64 (.var 0) (.var 10)) (.lit 18446744073709551615)))])] := by unfold runE; kernel_rfl
theorem h18_4in {aR aS : Addr} {b n b2 n2 : Int} (hA : HN 4 b n) (hB : HN 4 b2 n2) (i1 : IntV aR aS 4 b n) (i2 : IntV aR aS 4 b2 n2) (h0 : n + n2 ≤ 18446744073709551615) : HeldV aR aS 18 4 b b2 ((if n + n2 < 0 then 0 else if 18446744073709551615 < n + n2 then 18446744073709551615 else n + n2) % 18446744073709551616) := by
  obtain ⟨a1, a2, a3, a4, a5⟩ := hA
  obtain ⟨c1, c2, c3, c4, c5⟩ := hB
  refine held_of i1 i2 (fun f hf => ?_) (run_h18_4in _ _ _ aR aS) rfl (agEq ?_)
  · simp only [L_h18_4in, List.mem_cons, List.not_mem_nil, or_false] at hf
    rcases hf with rfl | rfl
    · exact ⟨rfl, cmp_lss_f (by simp (disch := omega) only [IE.ev, rd_10] <;> omega)⟩
    · exact ⟨rfl, cmp_lss_f (by simp (disch := omega) only [IE.ev, rd_0, rd_10, and_u64_64, ev_addu, wrap_u64] <;> omega)⟩
  · show IE.ev (rd b n 0 4 b2 n2 0 4) (.bin .and .u64 (.bin .add .u64 (.var 0) (.var 10)) (.lit 18446744073709551615)) = _
    rw [if_neg (by omega), if_neg (by omega)]
    simp (disch := omega) only [IE.ev, rd_0, rd_10, and_u64_64, ev_addu, wrap_u64] <;> omega
def L_h18_4ov : List CF := [⟨.lss, (.var 10), (.lit 0), false⟩, ⟨.lss, (.bin .and .u64 (.bin .add .u64 (.var 0) (.var 10)) (.lit 18446744073709551615)), (.var 0), true⟩]
theorem run_h18_4ov (W : Nat → Nat) (C : Nat → Nat × Nat) (ρ : Nat → Int) (aR aS : Addr) : runE W C ρ aR aS L_h18_4ov [] (UN 4) [(101, [.v (.int .i64 18), ag0 4, ag1 4], .v (.agg #[.int .i64 4, .int .u64 18446744073709551615]))] := by unfold runE; kernel_rfl
theorem h18_4ov {aR aS : Addr} {b n b2 n2 : Int} (hA : HN 4 b n) (hB : HN 4 b2 n2) (i1 : IntV aR aS 4 b n) (i2 : IntV aR aS 4 b2 n2) (h0 : 18446744073709551615 < n + n2) : HeldV aR aS 18 4 b b2 ((if n + n2 < 0 then 0 else if 18446744073709551615 < n + n2 then 18446744073709551615 else n + n2) % 18446744073709551616) := by
  obtain ⟨a1, a2, a3, a4, a5⟩ := hA
  obtain ⟨c1, c2, c3, c4, c5⟩ := hB
  refine held_of i1 i2 (fun f hf => ?_) (run_h18_4ov _ _ _ aR aS) rfl (agEq ?_)
  · simp only [L_h18_4ov, List.mem_cons, List.not_mem_nil, or_false] at hf
    rcases hf with rfl | rfl
    · exact ⟨rfl, cmp_lss_f (by simp (disch := omega) only [IE.ev, rd_10] <;> omega)⟩
    · exact ⟨rfl, cmp_lss_t (by simp (disch := omega) only [IE.ev, rd_0, rd_10, and_u64_64, ev_addu, wrap_u64] <;> omega)⟩
  · show (18446744073709551615 : Int) = _
    rw [if_neg (by omega), if_pos (by omega)]
    omega
def L_h18_5ppin : List CF := [⟨.lss, (.var 14), (.lit 0), false⟩, ⟨.gtr, (.bin .and .u64 (.bin .add .u64 (.var 0) (.var 10)) (.lit 255)), (.lit 127), false⟩, ⟨.lss, (.cv .i64 (.bin .and .u64 (.bin .add .u64 (.var 0) (.var 10)) (.lit 255))), (.var 4), false⟩]
theorem run_h18_5ppin (W : Nat → Nat) (C : Nat → Nat × Nat) (ρ : Nat → Int) (aR aS : Addr) : runE W C ρ aR aS L_h18_5ppin [] (UN 5) [(101, [.v (.int .i64 18), ag0 5, ag1 5], .agg [.v (.int .i64 5), .sym (.int .u64 (.bin .and .u64 (.bin .add .u64 (.var 0) (.var 10)) (.lit 255)))])] := by unfold runE; kernel_rfl
theorem h18_5ppin {aR aS : Addr} {b n b2 n2 : Int} (hA : HN 5 b n) (hB : HN 5 b2 n2) (i1 : IntV aR aS 5 b n) (i2 : IntV aR aS 5 b2 n2) (h0 : 0 ≤ n) (h1 : 0 ≤ n2) (h2 : n + n2 ≤ 127) : HeldV aR aS 18 5 b b2 ((if n + n2 < (-128) then (-128) else if 127 < n + n2 then 127 else n + n2) % 256) := by
  obtain ⟨a1, a2, a3, a4, a5⟩ := hA
  obtain ⟨c1, c2, c3, c4, c5⟩ := hB
  refine held_of i1 i2 (fun f hf => ?_) (run_h18_5ppin _ _ _ aR aS) rfl (agEq ?_)
  · simp only [L_h18_5ppin, List.mem_cons, List.not_mem_nil, or_false] at hf
    rcases hf with rfl | rfl | rfl
    · exact ⟨rfl, cmp_lss_f (by simp (disch := omega) only [IE.ev, rd_14, wrap_i64] <;> omega)⟩
    · exact ⟨rfl, cmp_gtr_f (by simp (disch := omega) only [IE.ev, rd_0, rd_10, and_u64_8, ev_addu, wrap_u64] <;> omega)⟩
    · exact ⟨rfl, cmp_lss_f (by simp (disch := omega) only [IE.ev, rd_0, rd_4, rd_10, and_u64_8, ev_addu, wrap_i64, wrap_u64] <;> omega)⟩
  · show IE.ev (rd b n 0 5 b2 n2 0 5) (.bin .and .u64 (.bin .add .u64 (.var 0) (.var 10)) (.lit 255)) = _
    rw [if_neg (by omega), if_neg (by omega)]
    simp (disch := omega) only [IE.ev, rd_0, rd_10, and_u64_8, ev_addu, wrap_u64] <;> omega
def L_h18_5ppov : List CF := [⟨.lss, (.var 14), (.lit 0), false⟩, ⟨.gtr, (.bin .and .u64 (.bin .add .u64 (.var 0) (.var 10)) (.lit 255)), (.lit 127), true⟩, ⟨.lss, (.cv .i64 (.bin .or .u64 (.bin .and .u64 (.bin .add .u64 (.var 0) (.var 10)) (.lit 255)) (.lit 18446744073709551360))), (.var 4), true⟩]
theorem run_h18_5ppov (W : Nat → Nat) (C : Nat → Nat × Nat) (ρ : Nat → Int) (aR aS : Addr) : runE W C ρ aR aS L_h18_5ppov [] (UN 5) [(101, [.v (.int .i64 18), ag0 5, ag1 5], .v (.agg #[.int .i64 5, .int .u64 127]))] := by unfold runE; kernel_rfl
theorem h18_5ppov {aR aS : Addr} {b n b2 n2 : Int} (hA : HN 5 b n) (hB : HN 5 b2 n2) (i1 : IntV aR aS 5 b n) (i2 : IntV aR aS 5 b2 n2) (h0 : 0 ≤ n) (h1 : 0 ≤ n2) (h2 : 127 < n + n2) : HeldV aR aS 18 5 b b2 ((if n + n2 < (-128) then (-128) else if 127 < n + n2 then 127 else n + n2) % 256) := by
  obtain ⟨a1, a2, a3, a4, a5⟩ := hA
  obtain ⟨c1, c2, c3, c4, c5⟩ := hB
  refine held_of i1 i2 (fun f hf => ?_) (run_h18_5ppov _ _ _ aR aS) rfl (agEq ?_)
  · simp only [L_h18_5ppov, List.mem_cons, List.not_mem_nil, or_false] at hf
    rcases hf with rfl | rfl | rfl
    · exact ⟨rfl, cmp_lss_f (by simp (disch := omega) only [IE.ev, rd_14, wrap_i64] <;> omega)⟩
    · exact ⟨rfl, cmp_gtr_t (by simp (disch := omega) only [IE.ev, rd_0, rd_10, and_u64_8, ev_addu, wrap_u64] <;> omega)⟩
    · exact ⟨rfl, cmp_lss_t (by simp (disch := omega) only [IE.ev, rd_0, rd_4, rd_10, and_u64_8, ev_addu, or_u64_8, wrap_i64, wrap_u64] <;> omega)⟩
  · show (127 : Int) = _
    rw [if_neg (by omega), if_pos (by omega)]
    omega
def L_h18_5mmin : List CF := [⟨.lss, (.var 14), (.lit 0), true⟩, ⟨.gtr, (.bin .and .u64 (.bin .add .u64 (.var 0) (.var 10)) (.lit 255)), (.lit 127), true⟩, ⟨.lss, (.cv .i64 (.bin .or .u64 (.bin .and .u64 (.bin .add .u64 (.var 0) (.var 10)) (.lit 255)) (.lit 18446744073709551360))), (.var 4), true⟩]
theorem run_h18_5mmin (W : Nat → Nat) (C : Nat → Nat × Nat) (ρ : Nat → Int) (aR aS : Addr) : runE W C ρ aR aS L_h18_5mmin [] (UN 5) [(101, [.v (.int .i64 18), ag0 5, ag1 5], .agg [.v (.int .i64 5), .sym (.int .u64 (.bin .and .u64 (.bin .add .u64 (.var 0) (.var 10)) (.lit 255)))])] := by unfold runE; kernel_rfl
theorem h18_5mmin {aR aS : Addr} {b n b2 n2 : Int} (hA : HN 5 b n) (hB : HN 5 b2 n2) (i1 : IntV aR aS 5 b n) (i2 : IntV aR aS 5 b2 n2) (h0 : n < 0) (h1 : n2 < 0) (h2 : (-128) ≤ n + n2) : HeldV aR aS 18 5 b b2 ((if n + n2 < (-128) then (-128) else if 127 < n + n2 then 127 else n + n2) % 256) := by
  obtain ⟨a1, a2, a3, a4, a5⟩ := hA
  obtain ⟨c1, c2, c3, c4, c5⟩ := hB
  refine held_of i1 i2 (fun f hf => ?_) (run_h18_5mmin _ _ _ aR aS) rfl (agEq ?_)
  · simp only [L_h18_5mmin, List.mem_cons, List.not_mem_nil, or_false] at hf
    rcases hf with rfl | rfl | rfl
    · exact ⟨rfl, cmp_lss_t (by simp (disch := omega) only [IE.ev, rd_14, wrap_i64] <;> omega)⟩
    · exact ⟨rfl, cmp_gtr_t (by simp (disch := omega) only [IE.ev, rd_0, rd_10, and_u64_8, ev_addu, wrap_u64] <;> omega)⟩
    · exact ⟨rfl, cmp_lss_t (by simp (disch := omega) only [IE.ev, rd_0, rd_4, rd_10, and_u64_8, ev_addu, or_u64_8, wrap_i64, wrap_u64] <;> omega)⟩
  · show IE.ev (rd b n 0 5 b2 n2 0 5) (.bin .and .u64 (.bin .add .u64 (.var 0) (.var 10)) (.lit 255)) = _
    rw [if_neg (by omega), if_neg (by omega)]
    simp (disch := omega) only [IE.ev, rd_0, rd_10, and_u64_8, ev_addu, wrap_u64] <;> omega
def L_h18_5mmun : List CF := [⟨.lss, (.var 14), (.lit 0), true⟩, ⟨.gtr, (.bin .and .u64 (.bin .add .u64 (.var 0) (.var 10)) (.lit 255)), (.lit 127), false⟩, ⟨.lss, (.cv .i64 (.bin .and .u64 (.bin .add .u64 (.var 0) (.var 10)) (.lit 255))), (.var 4), false⟩]
theorem run_h18_5mmun (W : Nat → Nat) (C : Nat → Nat × Nat) (ρ : Nat → Int) (aR aS : Addr) : runE W C ρ aR aS L_h18_5mmun [] (UN 5) [(101, [.v (.int .i64 18), ag0 5, ag1 5], .v (.agg #[.int .i64 5, .int .u64 128]))] := by unfold runE; kernel_rfl
theorem h18_5mmun {aR aS : Addr} {b n b2 n2 : Int} (hA : HN 5 b n) (hB : HN 5 b2 n2) (i1 : IntV aR aS 5 b n) (i2 : IntV aR aS 5 b2 n2) (h0 : n < 0) (h1 : n2 < 0) (h2 : n + n2 < (-128)) : HeldV aR aS 18 5 b b2 ((if n + n2 < (-128) then (-128) else if 127 < n + n2 then 127 else n + n2) % 256) := by
  obtain ⟨a1, a2, a3, a4, a5⟩ := hA
  obtain ⟨c1, c2, c3, c4, c5⟩ := hB
  refine held_of i1 i2 (fun f hf => ?_) (run_h18_5mmun _ _ _ aR aS) rfl (agEq ?_)
  · simp only [L_h18_5mmun, List.mem_cons, List.not_mem_nil, or_false] at hf
    rcases hf with rfl | rfl | rfl
    · exact ⟨rfl, cmp_lss_t (by simp (disch := omega) only [IE.ev, rd_14, wrap_i64] <;> omega)⟩
    · exact ⟨rfl, cmp_gtr_f (by simp (disch := omega) only [IE.ev, rd_0, rd_10, and_u64_8, ev_addu, wrap_u64] <;> omega)⟩
    · exact ⟨rfl, cmp_lss_f (by simp (disch := omega) only [IE.ev, rd_0, rd_4, rd_10, and_u64_8, ev_addu, wrap_i64, wrap_u64] <;> omega)⟩
  · show (128 : Int) = _
    rw [if_pos (by omega)]
    omega
def L_h18_5pmp : List CF := [⟨.lss, (.var 14), (.lit 0), true⟩, ⟨.gtr, (.bin .and .u64 (.bin .add .u64 (.var 0) (.var 10)) (.lit 255)), (.lit 127), false⟩, ⟨.lss, (.cv .i64 (.bin .and .u64 (.bin .add .u64 (.var 0) (.var 10)) (.lit 255))), (.var 4), true⟩]
theorem run_h18_5pmp (W : Nat → Nat) (C : Nat → Nat × Nat) (ρ : Nat → Int) (aR aS : Addr) : runE W C ρ aR aS L_h18_5pmp [] (UN 5) [(101, [.v (.int .i64 18), ag0 5, ag1 5], .agg [.v (.int .i64 5), .sym (.int .u64 (.bin .and .u64 (.bin .add .u64 (.var 0) (.var 10)) (.lit 255)))])] := by unfold runE; kernel_rfl
theorem h18_5pmp {aR aS : Addr} {b n b2 n2 : Int} (hA : HN 5 b n) (hB : HN 5 b2 n2) (i1 : IntV aR aS 5 b n) (i2 : IntV aR aS 5 b2 n2) (h0 : 0 ≤ n) (h1 : n2 < 0) (h2 : 0 ≤ n + n2) : HeldV aR aS 18 5 b b2 ((if n + n2 < (-128) then (-128) else if 127 < n + n2 then 127 else n + n2) % 256) := by
  obtain ⟨a1, a2, a3, a4, a5⟩ := hA
  obtain ⟨c1, c2, c3, c4, c5⟩ := hB
  refine held_of i1 i2 (fun f hf => ?_) (run_h18_5pmp _ _ _ aR aS) rfl (agEq ?_)
  · simp only [L_h18_5pmp, List.mem_cons, List.not_mem_nil, or_false] at hf
    rcases hf with rfl | rfl | rfl
    · exact ⟨rfl, cmp_lss_t (by simp (disch := omega) only [IE.ev, rd_14, wrap_i64] <;> omega)⟩
    · exact ⟨rfl, cmp_gtr_f (by simp (disch := omega) only [IE.ev, rd_0, rd_10, and_u64_8, ev_addu, wrap_u64] <;> omega)⟩
    · exact ⟨rfl, cmp_lss_t (by simp (disch := omega) only [IE.ev, rd_0, rd_4, rd_10, and_u64_8, ev_addu, wrap_i64, wrap_u64] <;> omega)⟩
  · show IE.ev (rd b n 0 5 b2 n2 0 5) (.bin .and .u64 (.bin .add .u64 (.var 0) (.var 10)) (.lit 255)) = _
    rw [if_neg (by omega), if_neg (by omega)]
    simp (disch := omega) only [IE.ev, rd_0, rd_10, and_u64_8, ev_addu, wrap_u64] <;> omega
def L_h18_5pmm : List CF := [⟨.lss, (.var 14), (.lit 0), true⟩, ⟨.gtr, (.bin .and .u64 (.bin .add .u64 (.var 0) (.var 10)) (.lit 255)), (.lit 127), true⟩, ⟨.lss, (.cv .i64 (.bin .or .u64 (.bin .and .u64 (.bin .add .u64 (.var 0) (.var 10)) (.lit 255)) (.lit 18446744073709551360))), (.var 4), true⟩]
theorem run_h18_5pmm (W : Nat → Nat) (C : Nat → Nat × Nat) (ρ : Nat → Int) (aR aS : Addr) : runE W C ρ aR aS L_h18_5pmm [] (UN 5) [(101, [.v (.int .i64 18), ag0 5, ag1 5], .agg [.v (.int .i64 5), .sym (.int .u64 (.bin .and .u64 (.bin .add .u64 (.var 0) (.var 10)) (.lit 255)))])] := by unfold runE; kernel_rfl
theorem h18_5pmm {aR aS : Addr} {b n b2 n2 : Int} (hA : HN 5 b n) (hB : HN 5 b2 n2) (i1 : IntV aR aS 5 b n) (i2 : IntV aR aS 5 b2 n2) (h0 : 0 ≤ n) (h1 : n2 < 0) (h2 : n + n2 < 0) : HeldV aR aS 18 5 b b2 ((if n + n2 < (-128) then (-128) else if 127 < n + n2 then 127 else n + n2) % 256) := by
  obtain ⟨a1, a2, a3, a4, a5⟩ := hA
  obtain ⟨c1, c2, c3, c4, c5⟩ := hB
  refine held_of i1 i2 (fun f hf => ?_) (run_h18_5pmm _ _ _ aR aS) rfl (agEq ?_)
  · simp only [L_h18_5pmm, List.mem_cons, List.not_mem_nil, or_false] at hf
    rcases hf with rfl | rfl | rfl
    · exact ⟨rfl, cmp_lss_t (by simp (disch := omega) only [IE.ev, rd_14, wrap_i64] <;> omega)⟩
    · exact ⟨rfl, cmp_gtr_t (by simp (disch := omega) only [IE.ev, rd_0, rd_10, and_u64_8, ev_addu, wrap_u64] <;> omega)⟩
    · exact ⟨rfl, cmp_lss_t (by simp (disch := omega) only [IE.ev, rd_0, rd_4, rd_10, and_u64_8, ev_addu, or_u64_8, wrap_i64, wrap_u64] <;> omega)⟩
  · show IE.ev (rd b n 0 5 b2 n2 0 5) (.bin .and .u64 (.bin .add .u64 (.var 0) (.var 10)) (.lit 255)) = _
    rw [if_neg (by omega), if_neg (by omega)]
    simp (disch := omega) only [IE.ev, rd_0, rd_10, and_u64_8, ev_addu, wrap_u64] <;> omega
def L_h18_5mpp : List CF := [⟨.lss, (.var 14), (.lit 0), false⟩, ⟨.gtr, (.bin .and .u64 (.bin .add .u64 (.var 0) (.var 10)) (.lit 255)), (.lit 127), false⟩, ⟨.lss, (.cv .i64 (.bin .and .u64 (.bin .add .u64 (.var 0) (.var 10)) (.lit 255))), (.var 4), false⟩]
theorem run_h18_5mpp (W : Nat → Nat) (C : Nat → Nat × Nat) (ρ : Nat → Int) (aR aS : Addr) : runE W C ρ aR aS L_h18_5mpp [] (UN 5) [(101, [.v (.int .i64 18), ag0 5, ag1 5], .agg [.v (.int .i64 5), .sym (.int .u64 (.bin .and .u64 (.bin .add .u64 (.var 0) (.var 10)) (.lit 255)))])] := by unfold runE; kernel_rfl
theorem h18_5mpp {aR aS : Addr} {b n b2 n2 : Int} (hA : HN 5 b n) (hB : HN 5 b2 n2) (i1 : IntV aR aS 5 b n) (i2 : IntV aR aS 5 b2 n2) (h0 : n < 0) (h1 : 0 ≤ n2) (h2 : 0 ≤ n + n2) : HeldV aR aS 18 5 b b2 ((if n + n2 < (-128) then (-128) else if 127 < n + n2 then 127 else n + n2) % 256) := by
  obtain ⟨a1, a2, a3, a4, a5⟩ := hA
  obtain ⟨c1, c2, c3, c4, c5⟩ := hB
  refine held_of i1 i2 (fun f hf => ?_) (run_h18_5mpp _ _ _ aR aS) rfl (agEq ?_)
  · simp only [L_h18_5mpp, List.mem_cons, List.not_mem_nil, or_false] at hf
    rcases hf with rfl | rfl | rfl
    · exact ⟨rfl, cmp_lss_f (by simp (disch := omega) only [IE.ev, rd_14, wrap_i64] <;> omega)⟩
    · exact ⟨rfl, cmp_gtr_f (by simp (disch := omega) only [IE.ev, rd_0, rd_10, and_u64_8, ev_addu, wrap_u64] <;> omega)⟩
    · exact ⟨rfl, cmp_lss_f (by simp (disch := omega) only [IE.ev, rd_0, rd_4, rd_10, and_u64_8, ev_addu, wrap_i64, wrap_u64] <;> omega)⟩
  · show IE.ev (rd b n 0 5 b2 n2 0 5) (.bin .and .u64 (.bin .add .u64 (.var 0) (.var 10)) (.lit 255)) = _
    rw [if_neg (by omega), if_neg (by omega)]
    simp (disch := omega) only [IE.ev, rd_0, rd_10, and_u64_8, ev_addu, wrap_u64] <;> omega
def L_h18_5mpm : List CF := [⟨.lss, (.var 14), (.lit 0), false⟩, ⟨.gtr, (.bin .and .u64 (.bin .add .u64 (.var 0) (.var 10)) (.lit 255)), (.lit 127), true⟩, ⟨.lss, (.cv .i64 (.bin .or .u64 (.bin .and .u64 (.bin .add .u64 (.var 0) (.var 10)) (.lit 255)) (.lit 18446744073709551360))), (.var 4), false⟩]
theorem run_h18_5mpm (W : Nat → Nat) (C : Nat → Nat × Nat) (ρ : Nat → Int) (aR aS : Addr) : runE W C ρ aR aS L_h18_5mpm [] (UN 5) [(101, [.v (.int .i64 18), ag0 5, ag1 5], .agg [.v (.int .i64 5), .sym (.int .u64 (.bin .and .u64 (.bin .add .u64 (.var 0) (.var 10)) (.lit 255)))])] := by unfold runE; kernel_rfl
theorem h18_5mpm {aR aS : Addr} {b n b2 n2 : Int} (hA : HN 5 b n) (hB : HN 5 b2 n2) (i1 : IntV aR aS 5 b n) (i2 : IntV aR aS 5 b2 n2) (h0 : n < 0) (h1 : 0 ≤ n2) (h2 : n + n2 < 0) : HeldV aR aS 18 5 b b2 ((if n + n2 < (-128) then (-128) else if 127 < n + n2 then 127 else n + n2) % 256) := by
  obtain ⟨a1, a2, a3, a4, a5⟩ := hA
  obtain ⟨c1, c2, c3, c4, c5⟩ := hB
  refine held_of i1 i2 (fun f hf => ?_) (run_h18_5mpm _ _ _ aR aS) rfl (agEq ?_)
  · simp only [L_h18_5mpm, List.mem_cons, List.not_mem_nil, or_false] at hf
    rcases hf with rfl | rfl | rfl
    · exact ⟨rfl, cmp_lss_f (by simp (disch := omega) only [IE.ev, rd_14, wrap_i64] <;> omega)⟩
    · exact ⟨rfl, cmp_gtr_t (by simp (disch := omega) only [IE.ev, rd_0, rd_10, and_u64_8, ev_addu, wrap_u64] <;> omega)⟩
    · exact ⟨rfl, cmp_lss_f (by simp (disch := omega) only [IE.ev, rd_0, rd_4, rd_10, and_u64_8, ev_addu, or_u64_8, wrap_i64, wrap_u64] <;> omega)⟩
  · show IE.ev (rd b n 0 5 b2 n2 0 5) (.bin .and .u64 (.bin .add .u64 (.var 0) (.var 10)) (.lit 255)) = _
    rw [if_neg (by omega), if_neg (by omega)]
    simp (disch := omega) only [IE.ev, rd_0, rd_10, and_u64_8, ev_addu, wrap_u64] <;> omega
def L_h18_6ppin : List CF := [⟨.lss, (.var 14), (.lit 0), false⟩, ⟨.gtr, (.bin .and .u64 (.bin .add .u64 (.var 0) (.var 10)) (.lit 65535)), (.lit 32767), false⟩, ⟨.lss, (.cv .i64 (.bin .and .u64 (.bin .add .u64 (.var 0) (.var 10)) (.lit 65535))), (.var 4), false⟩]
theorem run_h18_6ppin (W : Nat → Nat) (C : Nat → Nat × Nat) (ρ : Nat → Int) (aR aS : Addr) : runE W C ρ aR aS L_h18_6ppin [] (UN 6) [(101, [.v (.int .i64 18), ag0 6, ag1 6], .agg [.v (.int .i64 6), .sym (.int .u64 (.bin .and .u64 (.bin .add .u64 (.var 0) (.var 10)) (.lit 65535)))])] := by unfold runE; kernel_rfl
theorem h18_6ppin {aR aS : Addr} {b n b2 n2 : Int} (hA : HN 6 b n) (hB : HN 6 b2 n2) (i1 : IntV aR aS 6 b n) (i2 : IntV aR aS 6 b2 n2) (h0 : 0 ≤ n) (h1 : 0 ≤ n2) (h2 : n + n2 ≤ 32767) : HeldV aR aS 18 6 b b2 ((if n + n2 < (-32768) then (-32768) else if 32767 < n + n2 then 32767 else n + n2) % 65536) := by
  obtain ⟨a1, a2, a3, a4, a5⟩ := hA
  obtain ⟨c1, c2, c3, c4, c5⟩ := hB
  refine held_of i1 i2 (fun f hf => ?_) (run_h18_6ppin _ _ _ aR aS) rfl (agEq ?_)
  · simp only [L_h18_6ppin, List.mem_cons, List.not_mem_nil, or_false] at hf
    rcases hf with rfl | rfl | rfl
    · exact ⟨rfl, cmp_lss_f (by simp (disch := omega) only [IE.ev, rd_14, wrap_i64] <;> omega)⟩
    · exact ⟨rfl, cmp_gtr_f (by simp (disch := omega) only [IE.ev, rd_0, rd_10, and_u64_16, ev_addu, wrap_u64] <;> omega)⟩
    · exact ⟨rfl, cmp_lss_f (by simp (disch := omega) only [IE.ev, rd_0, rd_4, rd_10, and_u64_16, ev_addu, wrap_i64, wrap_u64] <;> omega)⟩
  · show IE.ev (rd b n 0 6 b2 n2 0 6) (.bin .and .u64 (.bin .add .u64 (.var 0) (.var 10)) (.lit 65535)) = _
    rw [if_neg (by omega), if_neg (by omega)]
    simp (disch := omega) only [IE.ev, rd_0, rd_10, and_u64_16, ev_addu, wrap_u64] <;> omega
def L_h18_6ppov : List CF := [⟨.lss, (.var 14), (.lit 0), false⟩, ⟨.gtr, (.bin .and .u64 (.bin .add .u64 (.var 0) (.var 10)) (.lit 65535)), (.lit 32767), true⟩, ⟨.lss, (.cv .i64 (.bin .or .u64 (.bin .and .u64 (.bin .add .u64 (.var 0) (.var 10)) (.lit 65535)) (.lit 18446744073709486080))), (.var 4), true⟩]
theorem run_h18_6ppov (W : Nat → Nat) (C : Nat → Nat × Nat) (ρ : Nat → Int) (aR aS : Addr) : runE W C ρ aR aS L_h18_6ppov [] (UN 6) [(101, [.v (.int .i64 18), ag0 6, ag1 6], .v (.agg #[.int .i64 6, .int .u64 32767]))] := by unfold runE; kernel_rfl
theorem h18_6ppov {aR aS : Addr} {b n b2 n2 : Int} (hA : HN 6 b n) (hB : HN 6 b2 n2) (i1 : IntV aR aS 6 b n) (i2 : IntV aR aS 6 b2 n2) (h0 : 0 ≤ n) (h1 : 0 ≤ n2) (h2 : 32767 < n + n2) : HeldV aR aS 18 6 b b2 ((if n + n2 < (-32768) then (-32768) else if 32767 < n + n2 then 32767 else n + n2) % 65536) := by
  obtain ⟨a1, a2, a3, a4, a5⟩ := hA
  obtain ⟨c1, c2, c3, c4, c5⟩ := hB
  refine held_of i1 i2 (fun f hf => ?_) (run_h18_6ppov _ _ _ aR aS) rfl (agEq ?_)
  · simp only [L_h18_6ppov, List.mem_cons, List.not_mem_nil, or_false] at hf
    rcases hf with rfl | rfl | rfl
    · exact ⟨rfl, cmp_lss_f (by simp (disch := omega) only [IE.ev, rd_14, wrap_i64] <;> omega)⟩
    · exact ⟨rfl, cmp_gtr_t (by simp (disch := omega) only [IE.ev, rd_0, rd_10, and_u64_16, ev_addu, wrap_u64] <;> omega)⟩
    · exact ⟨rfl, cmp_lss_t (by simp (disch := omega) only [IE.ev, rd_0, rd_4, rd_10, and_u64_16, ev_addu, or_u64_16, wrap_i64, wrap_u64] <;> omega)⟩
  · show (32767 : Int) = _
    rw [if_neg (by omega), if_pos (by omega)]
    omega
def L_h18_6mmin : List CF := [⟨.lss, (.var 14), (.lit 0), true⟩, ⟨.gtr, (.bin .and .u64 (.bin .add .u64 (.var 0) (.var 10)) (.lit 65535)), (.lit 32767), true⟩, ⟨.lss, (.cv .i64 (.bin .or .u64 (.bin .and .u64 (.bin .add .u64 (.var 0) (.var 10)) (.lit 65535)) (.lit 18446744073709486080))), (.var 4), true⟩]
theorem run_h18_6mmin (W : Nat → Nat) (C : Nat → Nat × Nat) (ρ : Nat → Int) (aR aS : Addr) : runE W C ρ aR aS L_h18_6mmin [] (UN 6) [(101, [.v (.int .i64 18), ag0 6, ag1 6], .agg [.v (.int .i64 6), .sym (.int .u64 (.bin .and .u64 (.bin .add .u64 (.var 0) (.var 10)) (.lit 65535)))])] := by unfold runE; kernel_rfl
theorem h18_6mmin {aR aS : Addr} {b n b2 n2 : Int} (hA : HN 6 b n) (hB : HN 6 b2 n2) (i1 : IntV aR aS 6 b n) (i2 : IntV aR aS 6 b2 n2) (h0 : n < 0) (h1 : n2 < 0) (h2 : (-32768) ≤ n + n2) : HeldV aR aS 18 6 b b2 ((if n + n2 < (-32768) then (-32768) else if 32767 < n + n2 then 32767 else n + n2) % 65536) := by
  obtain ⟨a1, a2, a3, a4, a5⟩ := hA
  obtain ⟨c1, c2, c3, c4, c5⟩ := hB
  refine held_of i1 i2 (fun f hf => ?_) (run_h18_6mmin _ _ _ aR aS) rfl (agEq ?_)
  · simp only [L_h18_6mmin, List.mem_cons, List.not_mem_nil, or_false] at hf
    rcases hf with rfl | rfl | rfl
    · exact ⟨rfl, cmp_lss_t (by simp (disch := omega) only [IE.ev, rd_14, wrap_i64] <;> omega)⟩
    · exact ⟨rfl, cmp_gtr_t (by simp (disch := omega) only [IE.ev, rd_0, rd_10, and_u64_16, ev_addu, wrap_u64] <;> omega)⟩
    · exact ⟨rfl, cmp_lss_t (by simp (disch := omega) only [IE.ev, rd_0, rd_4, rd_10, and_u64_16, ev_addu, or_u64_16, wrap_i64, wrap_u64] <;> omega)⟩
  · show IE.ev (rd b n 0 6 b2 n2 0 6) (.bin .and .u64 (.bin .add .u64 (.var 0) (.var 10)) (.lit 65535)) = _
    rw [if_neg (by omega), if_neg (by omega)]
    simp (disch := omega) only [IE.ev, rd_0, rd_10, and_u64_16, ev_addu, wrap_u64] <;> omega
def L_h18_6mmun : List CF := [⟨.lss, (.var 14), (.lit 0), true⟩, ⟨.gtr, (.bin .and .u64 (.bin .add .u64 (.var 0) (.var 10)) (.lit 65535)), (.lit 32767), false⟩, ⟨.lss, (.cv .i64 (.bin .and .u64 (.bin .add .u64 (.var 0) (.var 10)) (.lit 65535))), (.var 4), false⟩]
theorem run_h18_6mmun (W : Nat → Nat) (C : Nat → Nat × Nat) (ρ : Nat → Int) (aR aS : Addr) : runE W C ρ aR aS L_h18_6mmun [] (UN 6) [(101, [.v (.int .i64 18), ag0 6, ag1 6], .v (.agg #[.int .i64 6, .int .u64 32768]))] := by unfold runE; kernel_rfl
theorem h18_6mmun {aR aS : Addr} {b n b2 n2 : Int} (hA : HN 6 b n) (hB : HN 6 b2 n2) (i1 : IntV aR aS 6 b n) (i2 : IntV aR aS 6 b2 n2) (h0 : n < 0) (h1 : n2 < 0) (h2 : n + n2 < (-32768)) : HeldV aR aS 18 6 b b2 ((if n + n2 < (-32768) then (-32768) else if 32767 < n + n2 then 32767 else n + n2) % 65536) := by
  obtain ⟨a1, a2, a3, a4, a5⟩ := hA
  obtain ⟨c1, c2, c3, c4, c5⟩ := hB
  refine held_of i1 i2 (fun f hf => ?_) (run_h18_6mmun _ _ _ aR aS) rfl (agEq ?_)
  · simp only [L_h18_6mmun, List.mem_cons, List.not_mem_nil, or_false] at hf
    rcases hf with rfl | rfl | rfl
    · exact ⟨rfl, cmp_lss_t (by simp (disch := omega) only [IE.ev, rd_14, wrap_i64] <;> omega)⟩
    · exact ⟨rfl, cmp_gtr_f (by simp (disch := omega) only [IE.ev, rd_0, rd_10, and_u64_16, ev_addu, wrap_u64] <;> omega)⟩
    · exact ⟨rfl, cmp_lss_f (by simp (disch := omega) only [IE.ev, rd_0, rd_4, rd_10, and_u64_16, ev_addu, wrap_i64, wrap_u64] <;> omega)⟩
  · show (32768 : Int) = _
    rw [if_pos (by omega)]
    omega
def L_h18_6pmp : List CF := [⟨.lss, (.var 14), (.lit 0), true⟩, ⟨.gtr, (.bin .and .u64 (.bin .add .u64 (.var 0) (.var 10)) (.lit 65535)), (.lit 32767), false⟩, ⟨.lss, (.cv .i64 (.bin .and .u64 (.bin .add .u64 (.var 0) (.var 10)) (.lit 65535))), (.var 4), true⟩]
theorem run_h18_6pmp (W : Nat → Nat) (C : Nat → Nat × Nat) (ρ : Nat → Int) (aR aS : Addr) : runE W C ρ aR aS L_h18_6pmp [] (UN 6) [(101, [.v (.int .i64 18), ag0 6, ag1 6], .agg [.v (.int .i64 6), .sym (.int .u64 (.bin .and .u64 (.bin .add .u64 (.var 0) (.var 10)) (.lit 65535)))])] := by unfold runE; kernel_rfl
theorem h18_6pmp {aR aS : Addr} {b n b2 n2 : Int} (hA : HN 6 b n) (hB : HN 6 b2 n2) (i1 : IntV aR aS 6 b n) (i2 : IntV aR aS 6 b2 n2) (h0 : 0 ≤ n) (h1 : n2 < 0) (h2 : 0 ≤ n + n2) : HeldV aR aS 18 6 b b2 ((if n + n2 < (-32768) then (-32768) else if 32767 < n + n2 then 32767 else n + n2) % 65536) := by
  obtain ⟨a1, a2, a3, a4, a5⟩ := hA
  obtain ⟨c1, c2, c3, c4, c5⟩ := hB
  refine held_of i1 i2 (fun f hf => ?_) (run_h18_6pmp _ _ _ aR aS) rfl (agEq ?_)
  · simp only [L_h18_6pmp, List.mem_cons, List.not_mem_nil, or_false] at hf
    rcases hf with rfl | rfl | rfl
    · exact ⟨rfl, cmp_lss_t (by simp (disch := omega) only [IE.ev, rd_14, wrap_i64] <;> omega)⟩
    · exact ⟨rfl, cmp_gtr_f (by simp (disch := omega) only [IE.ev, rd_0, rd_10, and_u64_16, ev_addu, wrap_u64] <;> omega)⟩
    · exact ⟨rfl, cmp_lss_t (by simp (disch := omega) only [IE.ev, rd_0, rd_4, rd_10, and_u64_16, ev_addu, wrap_i64, wrap_u64] <;> omega)⟩
  · show IE.ev (rd b n 0 6 b2 n2 0 6) (.bin .and .u64 (.bin .add .u64 (.var 0) (.var 10)) (.lit 65535)) = _
    rw [if_neg (by omega), if_neg (by omega)]
    simp (disch := omega) only [IE.ev, rd_0, rd_10, and_u64_16, ev_addu, wrap_u64] <;> omega
def L_h18_6pmm : List CF := [⟨.lss, (.var 14), (.lit 0), true⟩, ⟨.gtr, (.bin .and .u64 (.bin .add .u64 (.var 0) (.var 10)) (.lit 65535)), (.lit 32767), true⟩, ⟨.lss, (.cv .i64 (.bin .or .u64 (.bin .and .u64 (.bin .add .u64 (.var 0) (.var 10)) (.lit 65535)) (.lit 18446744073709486080))), (.var 4), true⟩]
theorem run_h18_6pmm (W : Nat → Nat) (C : Nat → Nat × Nat) (ρ : Nat → Int) (aR aS : Addr) : runE W C ρ aR aS L_h18_6pmm [] (UN 6) [(101, [.v (.int .i64 18), ag0 6, ag1 6], .agg [.v (.int .i64 6), .sym (.int .u64 (.bin .and .u64 (.bin .add .u64 (.var 0) (.var 10)) (.lit 65535)))])] := by unfold runE; kernel_rfl
theorem h18_6pmm {aR aS : Addr} {b n b2 n2 : Int} (hA : HN 6 b n) (hB : HN 6 b2 n2) (i1 : IntV aR aS 6 b n) (i2 : IntV aR aS 6 b2 n2) (h0 : 0 ≤ n) (h1 : n2 < 0) (h2 : n + n2 < 0) : HeldV aR aS 18 6 b b2 ((if n + n2 < (-32768) then (-32768) else if 32767 < n + n2 then 32767 else n + n2) % 65536) := by
  obtain ⟨a1, a2, a3, a4, a5⟩ := hA
  obtain ⟨c1, c2, c3, c4, c5⟩ := hB
  refine held_of i1 i2 (fun f hf => ?_) (run_h18_6pmm _ _ _ aR aS) rfl (agEq ?_)
  · simp only [L_h18_6pmm, List.mem_cons, List.not_mem_nil, or_false] at hf
    rcases hf with rfl | rfl | rfl
    · exact ⟨rfl, cmp_lss_t (by simp (disch := omega) only [IE.ev, rd_14, wrap_i64] <;> omega)⟩
    · exact ⟨rfl, cmp_gtr_t (by simp (disch := omega) only [IE.ev, rd_0, rd_10, and_u64_16, ev_addu, wrap_u64] <;> omega)⟩
    · exact ⟨rfl, cmp_lss_t (by simp (disch := omega) only [IE.ev, rd_0, rd_4, rd_10, and_u64_16, ev_addu, or_u64_16, wrap_i64, wrap_u64] <;> omega)⟩
  · show IE.ev (rd b n 0 6 b2 n2 0 6) (.bin .and .u64 (.bin .add .u64 (.var 0) (.var 10)) (.lit 65535)) = _
    rw [if_neg (by omega), if_neg (by omega)]
    simp (disch := omega) only [IE.ev, rd_0, rd_10, and_u64_16, ev_addu, wrap_u64] <;> omega
def L_h18_6mpp : List CF := [⟨.lss, (.var 14), (.lit 0), false⟩, ⟨.gtr, (.bin .and .u64 (.bin .add .u64 (.var 0) (.var 10)) (.lit 65535)), (.lit 32767), false⟩, ⟨.lss, (.cv .i64 (.bin .and .u64 (.bin .add .u64 (.var 0) (.var 10)) (.lit 65535))), (.var 4), false⟩]
theorem run_h18_6mpp (W : Nat → Nat) (C : Nat → Nat × Nat) (ρ : Nat → Int) (aR aS : Addr) : runE W C ρ aR aS L_h18_6mpp [] (UN 6) [(101, [.v (.int .i64 18), ag0 6, ag1 6], .agg [.v (.int .i64 6), .sym (.int .u64 (.bin .and .u64 (.bin .add .u64 (.var 0) (.var 10)) (.lit 65535)))])] := by unfold runE; kernel_rfl
theorem h18_6mpp {aR aS : Addr} {b n b2 n2 : Int} (hA : HN 6 b n) (hB : HN 6 b2 n2) (i1 : IntV aR aS 6 b n) (i2 : IntV aR aS 6 b2 n2) (h0 : n < 0) (h1 : 0 ≤ n2) (h2 : 0 ≤ n + n2) : HeldV aR aS 18 6 b b2 ((if n + n2 < (-32768) then (-32768) else if 32767 < n + n2 then 32767 else n + n2) % 65536) := by
  obtain ⟨a1, a2, a3, a4, a5⟩ := hA
  obtain ⟨c1, c2, c3, c4, c5⟩ := hB
  refine held_of i1 i2 (fun f hf => ?_) (run_h18_6mpp _ _ _ aR aS) rfl (agEq ?_)
  · simp only [L_h18_6mpp, List.mem_cons, List.not_mem_nil, or_false] at hf
    rcases hf with rfl | rfl | rfl
    · exact ⟨rfl, cmp_lss_f (by simp (disch := omega) only [IE.ev, rd_14, wrap_i64] <;> omega)⟩
    · exact ⟨rfl, cmp_gtr_f (by simp (disch := omega) only [IE.ev, rd_0, rd_10, and_u64_16, ev_addu, wrap_u64] <;> omega)⟩
    · exact ⟨rfl, cmp_lss_f (by simp (disch := omega) only [IE.ev, rd_0, rd_4, rd_10, and_u64_16, ev_addu, wrap_i64, wrap_u64] <;> omega)⟩
  · show IE.ev (rd b n 0 6 b2 n2 0 6) (.bin .and .u64 (.bin .add .u64 (.var 0) (.var 10)) (.lit 65535)) = _
    rw [if_neg (by omega), if_neg (by omega)]
    simp (disch := omega) only [IE.ev, rd_0, rd_10, and_u64_16, ev_addu, wrap_u64] <;> omega
def L_h18_6mpm : List CF := [⟨.lss, (.var 14), (.lit 0), false⟩, ⟨.gtr, (.bin .and .u64 (.bin .add .u64 (.var 0) (.var 10)) (.lit 65535)), (.lit 32767), true⟩, ⟨.lss, (.cv .i64 (.bin .or .u64 (.bin .and .u64 (.bin .add .u64 (.var 0) (.var 10)) (.lit 65535)) (.lit 18446744073709486080))), (.var 4), false⟩]
theorem run_h18_6mpm (W : Nat → Nat) (C : Nat → Nat × Nat) (ρ : Nat → Int) (aR aS : Addr) : runE W C ρ aR aS L_h18_6mpm [] (UN 6) [(101, [.v (.int .i64 18), ag0 6, ag1 6], .agg [.v (.int .i64 6), .sym (.int .u64 (.bin .and .u64 (.bin .add .u64 (.var 0) (.var 10)) (.lit 65535)))])] := by unfold runE; kernel_rfl
theorem h18_6mpm {aR aS : Addr} {b n b2 n2 : Int} (hA : HN 6 b n) (hB : HN 6 b2 n2) (i1 : IntV aR aS 6 b n) (i2 : IntV aR aS 6 b2 n2) (h0 : n < 0) (h1 : 0 ≤ n2) (h2 : n + n2 < 0) : HeldV aR aS 18 6 b b2 ((if n + n2 < (-32768) then (-32768) else if 32767 < n + n2 then 32767 else n + n2) % 65536) := by
  obtain ⟨a1, a2, a3, a4, a5⟩ := hA
  obtain ⟨c1, c2, c3, c4, c5⟩ := hB
  refine held_of i1 i2 (fun f hf => ?_) (run_h18_6mpm _ _ _ aR aS) rfl (agEq ?_)
  · simp only [L_h18_6mpm, List.mem_cons, List.not_mem_nil, or_false] at hf
    rcases hf with rfl | rfl | rfl
    · exact ⟨rfl, cmp_lss_f (by simp (disch := omega) only [IE.ev, rd_14, wrap_i64] <;> omega)⟩
    · exact ⟨rfl, cmp_gtr_t (by simp (disch := omega) only [IE.ev, rd_0, rd_10, and_u64_16, ev_addu, wrap_u64] <;> omega)⟩
    · exact ⟨rfl, cmp_lss_f (by simp (disch := omega) only [IE.ev, rd_0, rd_4, rd_10, and_u64_16, ev_addu, or_u64_16, wrap_i64, wrap_u64] <;> omega)⟩
  · show IE.ev (rd b n 0 6 b2 n2 0 6) (.bin .and .u64 (.bin .add .u64 (.var 0) (.var 10)) (.lit 65535)) = _
    rw [if_neg (by omega), if_neg (by omega)]
    simp (disch := omega) only [IE.ev, rd_0, rd_10, and_u64_16, ev_addu, wrap_u64] <;> omega
def L_h18_7ppin : List CF := [⟨.lss, (.var 14), (.lit 0), false⟩, ⟨.gtr, (.bin .and .u64 (.bin .add .u64 (.var 0) (.var 10)) (.lit 4294967295)), (.lit 2147483647), false⟩, ⟨.lss, (.cv .i64 (.bin .and .u64 (.bin .add .u64 (.var 0) (.var 10)) (.lit 4294967295))), (.var 4), false⟩]
theorem run_h18_7ppin (W : Nat → Nat) (C : Nat → Nat × Nat) (ρ : Nat → Int) (aR aS : Addr) : runE W C ρ aR aS L_h18_7ppin [] (UN 7) [(101, [.v (.int .i64 18), ag0 7, ag1 7], .agg [.v (.int .i64 7), .sym (.int .u64 (.bin .and .u64 (.bin .add .u64 (.var 0) (.var 10)) (.lit 4294967295)))])] := by unfold runE; kernel_rfl
theorem h18_7ppin {aR aS : Addr} {b n b2 n2 : Int} (hA : HN 7 b n) (hB : HN 7 b2 n2) (i1 : IntV aR aS 7 b n) (i2 : IntV aR aS 7 b2 n2) (h0 : 0 ≤ n) (h1 : 0 ≤ n2) (h2 : n + n2 ≤ 2147483647) : HeldV aR aS 18 7 b b2 ((if n + n2 < (-2147483648) then (-2147483648) else if 2147483647 < n + n2 then 2147483647 else n + n2) % 4294967296) := by
  obtain ⟨a1, a2, a3, a4, a5⟩ := hA
  obtain ⟨c1, c2, c3, c4, c5⟩ := hB
  refine held_of i1 i2 (fun f hf => ?_) (run_h18_7ppin _ _ _ aR aS) rfl (agEq ?_)
  · simp only [L_h18_7ppin, List.mem_cons, List.not_mem_nil, or_false] at hf
    rcases hf with rfl | rfl | rfl
    · exact ⟨rfl, cmp_lss_f (by simp (disch := omega) only [IE.ev, rd_14, wrap_i64] <;> omega)⟩
    · exact ⟨rfl, cmp_gtr_f (by simp (disch := omega) only [IE.ev, rd_0, rd_10, and_u64_32, ev_addu, wrap_u64] <;> omega)⟩
    · exact ⟨rfl, cmp_lss_f (by simp (disch := omega) only [IE.ev, rd_0, rd_4, rd_10, and_u64_32, ev_addu, wrap_i64, wrap_u64] <;> omega)⟩
  · show IE.ev (rd b n 0 7 b2 n2 0 7) (.bin .and .u64 (.bin .add .u64 (.var 0) (.var 10)) (.lit 4294967295)) = _
    rw [if_neg (by omega), if_neg (by omega)]
    simp (disch := omega) only [IE.ev, rd_0, rd_10, and_u64_32, ev_addu, wrap_u64] <;> omega
def L_h18_7ppov : List CF := [⟨.lss, (.var 14), (.lit 0), false⟩, ⟨.gtr, (.bin .and .u64 (.bin .add .u64 (.var 0) (.var 10)) (.lit 4294967295)), (.lit 2147483647), true⟩, ⟨.lss, (.cv .i64 (.bin .or .u64 (.bin .and .u64 (.bin .add .u64 (.var 0) (.var 10)) (.lit 4294967295)) (.lit 18446744069414584320))), (.var 4), true⟩]
theorem run_h18_7ppov (W : Nat → Nat) (C : Nat → Nat × Nat) (ρ : Nat → Int) (aR aS : Addr) : runE W C ρ aR aS L_h18_7ppov [] (UN 7) [(101, [.v (.int .i64 18), ag0 7, ag1 7], .v (.agg #[.int .i64 7, .int .u64 2147483647]))] := by unfold runE; kernel_rfl
theorem h18_7ppov {aR aS : Addr} {b n b2 n2 : Int} (hA : HN 7 b n) (hB : HN 7 b2 n2) (i1 : IntV aR aS 7 b n) (i2 : IntV aR aS 7 b2 n2) (h0 : 0 ≤ n) (h1 : 0 ≤ n2) (h2 : 2147483647 < n + n2) : HeldV aR aS 18 7 b b2 ((if n + n2 < (-2147483648) then (-2147483648) else if 2147483647 < n + n2 then 2147483647 else n + n2) % 4294967296) := by
  obtain ⟨a1, a2, a3, a4, a5⟩ := hA
  obtain ⟨c1, c2, c3, c4, c5⟩ := hB
  refine held_of i1 i2 (fun f hf => ?_) (run_h18_7ppov _ _ _ aR aS) rfl (agEq ?_)
  · simp only [L_h18_7ppov, List.mem_cons, List.not_mem_nil, or_false] at hf
    rcases hf with rfl | rfl | rfl
    · exact ⟨rfl, cmp_lss_f (by simp (disch := omega) only [IE.ev, rd_14, wrap_i64] <;> omega)⟩
    · exact ⟨rfl, cmp_gtr_t (by simp (disch := omega) only [IE.ev, rd_0, rd_10, and_u64_32, ev_addu, wrap_u64] <;> omega)⟩
    · exact ⟨rfl, cmp_lss_t (by simp (disch := omega) only [IE.ev, rd_0, rd_4, rd_10, and_u64_32, ev_addu, or_u64_32, wrap_i64, wrap_u64] <;> omega)⟩
  · show (2147483647 : Int) = _
    rw [if_neg (by omega), if_pos (by omega)]
    omega
def L_h18_7mmin : List CF := [⟨.lss, (.var 14), (.lit 0), true⟩, ⟨.gtr, (.bin .and .u64 (.bin .add .u64 (.var 0) (.var 10)) (.lit 4294967295)), (.lit 2147483647), true⟩, ⟨.lss, (.cv .i64 (.bin .or .u64 (.bin .and .u64 (.bin .add .u64 (.var 0) (.var 10)) (.lit 4294967295)) (.lit 18446744069414584320))), (.var 4), true⟩]
theorem run_h18_7mmin (W : Nat → Nat) (C : Nat → Nat × Nat) (ρ : Nat → Int) (aR aS : Addr) : runE W C ρ aR aS L_h18_7mmin [] (UN 7) [(101, [.v (.int .i64 18), ag0 7, ag1 7], .agg [.v (.int .i64 7), .sym (.int .u64 (.bin .and .u64 (.bin .add .u64 (.var 0) (.var 10)) (.lit 4294967295)))])] := by unfold runE; kernel_rfl
theorem h18_7mmin {aR aS : Addr} {b n b2 n2 : Int} (hA : HN 7 b n) (hB : HN 7 b2 n2) (i1 : IntV aR aS 7 b n) (i2 : IntV aR aS 7 b2 n2) (h0 : n < 0) (h1 : n2 < 0) (h2 : (-2147483648) ≤ n + n2) : HeldV aR aS 18 7 b b2 ((if n + n2 < (-2147483648) then (-2147483648) else if 2147483647 < n + n2 then 2147483647 else n + n2) % 4294967296) := by
  obtain ⟨a1, a2, a3, a4, a5⟩ := hA
  obtain ⟨c1, c2, c3, c4, c5⟩ := hB
  refine held_of i1 i2 (fun f hf => ?_) (run_h18_7mmin _ _ _ aR aS) rfl (agEq ?_)
  · simp only [L_h18_7mmin, List.mem_cons, List.not_mem_nil, or_false] at hf
    rcases hf with rfl | rfl | rfl
    · exact ⟨rfl, cmp_lss_t (by simp (disch := omega) only [IE.ev, rd_14, wrap_i64] <;> omega)⟩
    · exact ⟨rfl, cmp_gtr_t (by simp (disch := omega) only [IE.ev, rd_0, rd_10, and_u64_32, ev_addu, wrap_u64] <;> omega)⟩
    · exact ⟨rfl, cmp_lss_t (by simp (disch := omega) only [IE.ev, rd_0, rd_4, rd_10, and_u64_32, ev_addu, or_u64_32, wrap_i64, wrap_u64] <;> omega)⟩
  · show IE.ev (rd b n 0 7 b2 n2 0 7) (.bin .and .u64 (.bin .add .u64 (.var 0) (.var 10)) (.lit 4294967295)) = _
    rw [if_neg (by omega), if_neg (by omega)]
    simp (disch := omega) only [IE.ev, rd_0, rd_10, and_u64_32, ev_addu, wrap_u64] <;> omega
def L_h18_7mmun : List CF := [⟨.lss, (.var 14), (.lit 0), true⟩, ⟨.gtr, (.bin .and .u64 (.bin .add .u64 (.var 0) (.var 10)) (.lit 4294967295)), (.lit 2147483647), false⟩, ⟨.lss, (.cv .i64 (.bin .and .u64 (.bin .add .u64 (.var 0) (.var 10)) (.lit 4294967295))), (.var 4), false⟩]
theorem run_h18_7mmun (W : Nat → Nat) (C : Nat → Nat × Nat) (ρ : Nat → Int) (aR aS : Addr) : runE W C ρ aR aS L_h18_7mmun [] (UN 7) [(101, [.v (.int .i64 18), ag0 7, ag1 7], .v (.agg #[.int .i64 7, .int .u64 2147483648]))] := by unfold runE; kernel_rfl
theorem h18_7mmun {aR aS : Addr} {b n b2 n2 : Int} (hA : HN 7 b n) (hB : HN 7 b2 n2) (i1 : IntV aR aS 7 b n) (i2 : IntV aR aS 7 b2 n2) (h0 : n < 0) (h1 : n2 < 0) (h2 : n + n2 < (-2147483648)) : HeldV aR aS 18 7 b b2 ((if n + n2 < (-2147483648) then (-2147483648) else if 2147483647 < n + n2 then 2147483647 else n + n2) % 4294967296) := by
  obtain ⟨a1, a2, a3, a4, a5⟩ := hA
  obtain ⟨c1, c2, c3, c4, c5⟩ := hB
  refine held_of i1 i2 (fun f hf => ?_) (run_h18_7mmun _ _ _ aR aS) rfl (agEq ?_)
  · simp only [L_h18_7mmun, List.mem_cons, List.not_mem_nil, or_false] at hf
    rcases hf with rfl | rfl | rfl
    · exact ⟨rfl, cmp_lss_t (by simp (disch := omega) only [IE.ev, rd_14, wrap_i64] <;> omega)⟩
    · exact ⟨rfl, cmp_gtr_f (by simp (disch := omega) only [IE.ev, rd_0, rd_10, and_u64_32, ev_addu, wrap_u64] <;> omega)⟩
    · exact ⟨rfl, cmp_lss_f (by simp (disch := omega) only [IE.ev, rd_0, rd_4, rd_10, and_u64_32, ev_addu, wrap_i64, wrap_u64] <;> omega)⟩
  · show (2147483648 : Int) = _
    rw [if_pos (by omega)]
    omega
def L_h18_7pmp : List CF := [⟨.lss, (.var 14), (.lit 0), true⟩, ⟨.gtr, (.bin .and .u64 (.bin .add .u64 (.var 0) (.var 10)) (.lit 4294967295)), (.lit 2147483647), false⟩, ⟨.lss, (.cv .i64 (.bin .and .u64 (.bin .add .u64 (.var 0) (.var 10)) (.lit 4294967295))), (.var 4), true⟩]
theorem run_h18_7pmp (W : Nat → Nat) (C : Nat → Nat × Nat) (ρ : Nat → Int) (aR aS : Addr) : runE W C ρ aR aS L_h18_7pmp [] (UN 7) [(101, [.v (.int .i64 18), ag0 7, ag1 7], .agg [.v (.int .i64 7), .sym (.int .u64 (.bin .and .u64 (.bin .add .u64 (.var 0) (.var 10)) (.lit 4294967295)))])] := by unfold runE; kernel_rfl
theorem h18_7pmp {aR aS : Addr} {b n b2 n2 : Int} (hA : HN 7 b n) (hB : HN 7 b2 n2) (i1 : IntV aR aS 7 b n) (i2 : IntV aR aS 7 b2 n2) (h0 : 0 ≤ n) (h1 : n2 < 0) (h2 : 0 ≤ n + n2) : HeldV aR aS 18 7 b b2 ((if n + n2 < (-2147483648) then (-2147483648) else if 2147483647 < n + n2 then 2147483647 else n + n2) % 4294967296) := by
  obtain ⟨a1, a2, a3, a4, a5⟩ := hA
  obtain ⟨c1, c2, c3, c4, c5⟩ := hB
  refine held_of i1 i2 (fun f hf => ?_) (run_h18_7pmp _ _ _ aR aS) rfl (agEq ?_)
  · simp only [L_h18_7pmp, List.mem_cons, List.not_mem_nil, or_false] at hf
    rcases hf with rfl | rfl | rfl
    · exact ⟨rfl, cmp_lss_t (by simp (disch := omega) only [IE.ev, rd_14, wrap_i64] <;> omega)⟩
    · exact ⟨rfl, cmp_gtr_f (by simp (disch := omega) only [IE.ev, rd_0, rd_10, and_u64_32, ev_addu, wrap_u64] <;> omega)⟩
    · exact ⟨rfl, cmp_lss_t (by simp (disch := omega) only [IE.ev, rd_0, rd_4, rd_10, and_u64_32, ev_addu, wrap_i64, wrap_u64] <;> omega)⟩
  · show IE.ev (rd b n 0 7 b2 n2 0 7) (.bin .and .u64 (.bin .add .u64 (.var 0) (.var 10)) (.lit 4294967295)) = _
    rw [if_neg (by omega), if_neg (by omega)]
    simp (disch := omega) only [IE.ev, rd_0, rd_10, and_u64_32, ev_addu, wrap_u64] <;> omega
def L_h18_7pmm : List CF := [⟨.lss, (.var 14), (.lit 0), true⟩, ⟨.gtr, (.bin .and .u64 (.bin .add .u64 (.var 0) (.var 10)) (.lit 4294967295)), (.lit 2147483647), true⟩, ⟨.lss, (.cv .i64 (.bin .or .u64 (.bin .and .u64 (.bin .add .u64 (.var 0) (.var 10)) (.lit 4294967295)) (.lit 18446744069414584320))), (.var 4), true⟩]
theorem run_h18_7pmm (W : Nat → Nat) (C : Nat → Nat × Nat) (ρ : Nat → Int) (aR aS : Addr) : runE W C ρ aR aS L_h18_7pmm [] (UN 7) [(101, [.v (.int .i64 18), ag0 7, ag1 7], .agg [.v (.int .i64 7), .sym (.int .u64 (.bin .and .u64 (.bin .add .u64 (.var 0) (.var 10)) (.lit 4294967295)))])] := by unfold runE; kernel_rfl
theorem h18_7pmm {aR aS : Addr} {b n b2 n2 : Int} (hA : HN 7 b n) (hB : HN 7 b2 n2) (i1 : IntV aR aS 7 b n) (i2 : IntV aR aS 7 b2 n2) (h0 : 0 ≤ n) (h1 : n2 < 0) (h2 : n + n2 < 0) : HeldV aR aS 18 7 b b2 ((if n + n2 < (-2147483648) then (-2147483648) else if 2147483647 < n + n2 then 2147483647 else n + n2) % 4294967296) := by
  obtain ⟨a1, a2, a3, a4, a5⟩ := hA
  obtain ⟨c1, c2, c3, c4, c5⟩ := hB
  refine held_of i1 i2 (fun f hf => ?_) (run_h18_7pmm _ _ _ aR aS) rfl (agEq ?_)
  · simp only [L_h18_7pmm, List.mem_cons, List.not_mem_nil, or_false] at hf
    rcases hf with rfl | rfl | rfl
    · exact ⟨rfl, cmp_lss_t (by simp (disch := omega) only [IE.ev, rd_14, wrap_i64] <;> omega)⟩
    · exact ⟨rfl, cmp_gtr_t (by simp (disch := omega) only [IE.ev, rd_0, rd_10, and_u64_32, ev_addu, wrap_u64] <;> omega)⟩
    · exact ⟨rfl, cmp_lss_t (by simp (disch := omega) only [IE.ev, rd_0, rd_4, rd_10, and_u64_32, ev_addu, or_u64_32, wrap_i64, wrap_u64] <;> omega)⟩
  · show IE.ev (rd b n 0 7 b2 n2 0 7) (.bin .and .u64 (.bin .add .u64 (.var 0) (.var 10)) (.lit 4294967295)) = _
    rw [if_neg (by omega), if_neg (by omega)]
    simp (disch := omega) only [IE.ev, rd_0, rd_10, and_u64_32, ev_addu, wrap_u64] <;> omega
def L_h18_7mpp : List CF := [⟨.lss, (.var 14), (.lit 0), false⟩, ⟨.gtr, (.bin .and .u64 (.bin .add .u64 (.var 0) (.var 10)) (.lit 4294967295)), (.lit 2147483647), false⟩, ⟨.lss, (.cv .i64 (.bin .and .u64 (.bin .add .u64 (.var 0) (.var 10)) (.lit 4294967295))), (.var 4), false⟩]
theorem run_h18_7mpp (W : Nat → Nat) (C : Nat → Nat × Nat) (ρ : Nat → Int) (aR aS : Addr) : runE W C ρ aR aS L_h18_7mpp [] (UN 7) [(101, [.v (.int .i64 18), ag0 7, ag1 7], .agg [.v (.int .i64 7), .sym (.int .u64 (.bin .and .u64 (.bin .add .u64 (.var 0) (.var 10)) (.lit 4294967295)))])] := by unfold runE; kernel_rfl
theorem h18_7mpp {aR aS : Addr} {b n b2 n2 : Int} (hA : HN 7 b n) (hB : HN 7 b2 n2) (i1 : IntV aR aS 7 b n) (i2 : IntV aR aS 7 b2 n2) (h0 : n < 0) (h1 : 0 ≤ n2) (h2 : 0 ≤ n + n2) : HeldV aR aS 18 7 b b2 ((if n + n2 < (-2147483648) then (-2147483648) else if 2147483647 < n + n2 then 2147483647 else n + n2) % 4294967296) := by
  obtain ⟨a1, a2, a3, a4, a5⟩ := hA
  obtain ⟨c1, c2, c3, c4, c5⟩ := hB
  refine held_of i1 i2 (fun f hf => ?_) (run_h18_7mpp _ _ _ aR aS) rfl (agEq ?_)
  · simp only [L_h18_7mpp, List.mem_cons, List.not_mem_nil, or_false] at hf
    rcases hf with rfl | rfl | rfl
    · exact ⟨rfl, cmp_lss_f (by simp (disch := omega) only [IE.ev, rd_14, wrap_i64] <;> omega)⟩
    · exact ⟨rfl, cmp_gtr_f (by simp (disch := omega) only [IE.ev, rd_0, rd_10, and_u64_32, ev_addu, wrap_u64] <;> omega)⟩
    · exact ⟨rfl, cmp_lss_f (by simp (disch := omega) only [IE.ev, rd_0, rd_4, rd_10, and_u64_32, ev_addu, wrap_i64, wrap_u64] <;> omega)⟩
  · show IE.ev (rd b n 0 7 b2 n2 0 7) (.bin .and .u64 (.bin .add .u64 (.var 0) (.var 10)) (.lit 4294967295)) = _
    rw [if_neg (by omega), if_neg (by omega)]
    simp (disch := omega) only [IE.ev, rd_0, rd_10, and_u64_32, ev_addu, wrap_u64] <;> omega
def L_h18_7mpm : List CF := [⟨.lss, (.var 14), (.lit 0), false⟩, ⟨.gtr, (.bin .and .u64 (.bin .add .u64 (.var 0) (.var 10)) (.lit 4294967295)), (.lit 2147483647), true⟩, ⟨.lss, (.cv .i64 (.bin .or .u64 (.bin .and .u64 (.bin .add .u64 (.var 0) (.var 10)) (.lit 4294967295)) (.lit 18446744069414584320))), (.var 4), false⟩]
theorem run_h18_7mpm (W : Nat → Nat) (C : Nat → Nat × Nat) (ρ : Nat → Int) (aR aS : Addr) : runE W C ρ aR aS L_h18_7mpm [] (UN 7) [(101, [.v (.int .i64 18), ag0 7, ag1 7], .agg [.v (.int .i64 7), .sym (.int .u64 (.bin .and .u64 (.bin .add .u64 (.var 0) (.var 10)) (.lit 4294967295)))])] := by unfold runE; kernel_rfl
theorem h18_7mpm {aR aS : Addr} {b n b2 n2 : Int} (hA : HN 7 b n) (hB : HN 7 b2 n2) (i1 : IntV aR aS 7 b n) (i2 : IntV aR aS 7 b2 n2) (h0 : n < 0) (h1 : 0 ≤ n2) (h2 : n + n2 < 0) : HeldV aR aS 18 7 b b2 ((if n + n2 < (-2147483648) then (-2147483648) else if 2147483647 < n + n2 then 2147483647 else n + n2) % 4294967296) := by
  obtain ⟨a1, a2, a3, a4, a5⟩ := hA
  obtain ⟨c1, c2, c3, c4, c5⟩ := hB
  refine held_of i1 i2 (fun f hf => ?_) (run_h18_7mpm _ _ _ aR aS) rfl (agEq ?_)
  · simp only [L_h18_7mpm, List.mem_cons, List.not_mem_nil, or_false] at hf
    rcases hf with rfl | rfl | rfl
    · exact ⟨rfl, cmp_lss_f (by simp (disch := omega) only [IE.ev, rd_14, wrap_i64] <;> omega)⟩
    · exact ⟨rfl, cmp_gtr_t (by simp (disch := omega) only [IE.ev, rd_0, rd_10, and_u64_32, ev_addu, wrap_u64] <;> omega)⟩
    · exact ⟨rfl, cmp_lss_f (by simp (disch := omega) only [IE.ev, rd_0, rd_4, rd_10, and_u64_32, ev_addu, or_u64_32, wrap_i64, wrap_u64] <;> omega)⟩
  · show IE.ev (rd b n 0 7 b2 n2 0 7) (.bin .and .u64 (.bin .add .u64 (.var 0) (.var 10)) (.lit 4294967295)) = _
    rw [if_neg (by omega), if_neg (by omega)]
    simp (disch := omega) only [IE.ev, rd_0, rd_10, and_u64_32, ev_addu, wrap_u64] <;> omega
def L_h18_8ppin : List CF := [⟨.lss, (.var 14), (.lit 0), false⟩, ⟨.gtr, (.bin .and .u64 (.bin .add .u64 (.var 0) (.var 10)) (.lit 18446744073709551615)), (.lit 9223372036854775807), false⟩, ⟨.lss, (.cv .i64 (.bin .and .u64 (.bin .add .u64 (.var 0) (.var 10)) (.lit 18446744073709551615))), (.var 4), false⟩]
theorem run_h18_8ppin (W : Nat → Nat) (C : Nat → Nat × Nat) (ρ : Nat → Int) (aR aS : Addr) : runE W C ρ aR aS L_h18_8ppin [] (UN 8) [(101, [.v (.int .i64 18), ag0 8, ag1 8], .agg [.v (.int .i64 8), .sym (.int .u64 (.bin .and .u64 (.bin .add .u64 (.var 0) (.var 10)) (.lit 18446744073709551615)))])] := by unfold runE; kernel_rfl
theorem h18_8ppin {aR aS : Addr} {b n b2 n2 : Int} (hA : HN 8 b n) (hB : HN 8 b2 n2) (i1 : IntV aR aS 8 b n) (i2 : IntV aR aS 8 b2 n2) (h0 : 0 ≤ n) (h1 : 0 ≤ n2) (h2 : n + n2 ≤ 9223372036854775807) : HeldV aR aS 18 8 b b2 ((if n + n2 < (-9223372036854775808) then (-9223372036854775808) else if 9223372036854775807 < n + n2 then 9223372036854775807 else n + n2) % 18446744073709551616) := by
  obtain ⟨a1, a2, a3, a4, a5⟩ := hA
  obtain ⟨c1, c2, c3, c4, c5⟩ := hB
  refine held_of i1 i2 (fun f hf => ?_) (run_h18_8ppin _ _ _ aR aS) rfl (agEq ?_)
  · simp only [L_h18_8ppin, List.mem_cons, List.not_mem_nil, or_false] at hf
    rcases hf with rfl | rfl | rfl
    · exact ⟨rfl, cmp_lss_f (by simp (disch := omega) only [IE.ev, rd_14, wrap_i64] <;> omega)⟩
    · exact ⟨rfl, cmp_gtr_f (by simp (disch := omega) only [IE.ev, rd_0, rd_10, and_u64_64, ev_addu, wrap_u64] <;> omega)⟩
    · exact ⟨rfl, cmp_lss_f (by simp (disch := omega) only [IE.ev, rd_0, rd_4, rd_10, and_u64_64, ev_addu, wrap_i64, wrap_u64] <;> omega)⟩
  · show IE.ev (rd b n 0 8 b2 n2 0 8) (.bin .and .u64 (.bin .add .u64 (.var 0) (.var 10)) (.lit 18446744073709551615)) = _
    rw [if_neg (by omega), if_neg (by omega)]
    simp (disch := omega) only [IE.ev, rd_0, rd_10, and_u64_64, ev_addu, wrap_u64] <;> omega
def L_h18_8ppov : List CF := [⟨.lss, (.var 14), (.lit 0), false⟩, ⟨.gtr, (.bin .and .u64 (.bin .add .u64 (.var 0) (.var 10)) (.lit 18446744073709551615)), (.lit 9223372036854775807), true⟩, ⟨.lss, (.cv .i64 (.bin .or .u64 (.bin .and .u64 (.bin .add .u64 (.var 0) (.var 10)) (.lit 18446744073709551615)) (.lit 0))), (.var 4), true⟩]
theorem run_h18_8ppov (W : Nat → Nat) (C : Nat → Nat × Nat) (ρ : Nat → Int) (aR aS : Addr) : runE W C ρ aR aS L_h18_8ppov [] (UN 8) [(101, [.v (.int .i64 18), ag0 8, ag1 8], .v (.agg #[.int .i64 8, .int .u64 9223372036854775807]))] := by unfold runE; kernel_rfl
theorem h18_8ppov {aR aS : Addr} {b n b2 n2 : Int} (hA : HN 8 b n) (hB : HN 8 b2 n2) (i1 : IntV aR aS 8 b n) (i2 : IntV aR aS 8 b2 n2) (h0 : 0 ≤ n) (h1 : 0 ≤ n2) (h2 : 9223372036854775807 < n + n2) : HeldV aR aS 18 8 b b2 ((if n + n2 < (-9223372036854775808) then (-9223372036854775808) else if 9223372036854775807 < n + n2 then 9223372036854775807 else n + n2) % 18446744073709551616) := by
  obtain ⟨a1, a2, a3, a4, a5⟩ := hA
  obtain ⟨c1, c2, c3, c4, c5⟩ := hB
  refine held_of i1 i2 (fun f hf => ?_) (run_h18_8ppov _ _ _ aR aS) rfl (agEq ?_)
  · simp only [L_h18_8ppov, List.mem_cons, List.not_mem_nil, or_false] at hf
    rcases hf with rfl | rfl | rfl
    · exact ⟨rfl, cmp_lss_f (by simp (disch := omega) only [IE.ev, rd_14, wrap_i64] <;> omega)⟩
    · exact ⟨rfl, cmp_gtr_t (by simp (disch := omega) only [IE.ev, rd_0, rd_10, and_u64_64, ev_addu, wrap_u64] <;> omega)⟩
    · exact ⟨rfl, cmp_lss_t (by simp (disch := omega) only [IE.ev, rd_0, rd_4, rd_10, and_u64_64, ev_addu, or_u64_64, wrap_i64, wrap_u64] <;> omega)⟩
  · show (9223372036854775807 : Int) = _
    rw [if_neg (by omega), if_pos (by omega)]
    omega
def L_h18_8mmin : List CF := [⟨.lss, (.var 14), (.lit 0), true⟩, ⟨.gtr, (.bin .and .u64 (.bin .add .u64 (.var 0) (.var 10)) (.lit 18446744073709551615)), (.lit 9223372036854775807), true⟩, ⟨.lss, (.cv .i64 (.bin .or .u64 (.bin .and .u64 (.bin .add .u64 (.var 0) (.var 10)) (.lit 18446744073709551615)) (.lit 0))), (.var 4), true⟩]
theorem run_h18_8mmin (W : Nat → Nat) (C : Nat → Nat × Nat) (ρ : Nat → Int) (aR aS : Addr) : runE W C ρ aR aS L_h18_8mmin [] (UN 8) [(101, [.v (.int .i64 18), ag0 8, ag1 8], .agg [.v (.int .i64 8), .sym (.int .u64 (.bin .and .u64 (.bin .add .u64 (.var 0) (.var 10)) (.lit 18446744073709551615)))])] := by unfold runE; kernel_rfl
theorem h18_8mmin {aR aS : Addr} {b n b2 n2 : Int} (hA : HN 8 b n) (hB : HN 8 b2 n2) (i1 : IntV aR aS 8 b n) (i2 : IntV aR aS 8 b2 n2) (h0 : n < 0) (h1 : n2 < 0) (h2 : (-9223372036854775808) ≤ n + n2) : HeldV aR aS 18 8 b b2 ((if n + n2 < (-9223372036854775808) then (-9223372036854775808) else if 9223372036854775807 < n + n2 then 9223372036854775807 else n + n2) % 18446744073709551616) := by
  obtain ⟨a1, a2, a3, a4, a5⟩ := hA
  obtain ⟨c1, c2, c3, c4, c5⟩ := hB
  refine held_of i1 i2 (fun f hf => ?_) (run_h18_8mmin _ _ _ aR aS) rfl (agEq ?_)
  · simp only [L_h18_8mmin, List.mem_cons, List.not_mem_nil, or_false] at hf
    rcases hf with rfl | rfl | rfl
    · exact ⟨rfl, cmp_lss_t (by simp (disch := omega) only [IE.ev, rd_14, wrap_i64] <;> omega)⟩
    · exact ⟨rfl, cmp_gtr_t (by simp (disch := omega) only [IE.ev, rd_0, rd_10, and_u64_64, ev_addu, wrap_u64] <;> omega)⟩
    · exact ⟨rfl, cmp_lss_t (by simp (disch := omega) only [IE.ev, rd_0, rd_4, rd_10, and_u64_64, ev_addu, or_u64_64, wrap_i64, wrap_u64] <;> omega)⟩
  · show IE.ev (rd b n 0 8 b2 n2 0 8) (.bin .and .u64 (.bin .add .u64 (.var 0) (.var 10)) (.lit 18446744073709551615)) = _
    rw [if_neg (by omega), if_neg (by omega)]
    simp (disch := omega) only [IE.ev, rd_0, rd_10, and_u64_64, ev_addu, wrap_u64] <;> omega
def L_h18_8mmun : List CF := [⟨.lss, (.var 14), (.lit 0), true⟩, ⟨.gtr, (.bin .and .u64 (.bin .add .u64 (.var 0) (.var 10)) (.lit 18446744073709551615)), (.lit 9223372036854775807), false⟩, ⟨.lss, (.cv .i64 (.bin .and .u64 (.bin .add .u64 (.var 0) (.var 10)) (.lit 18446744073709551615))), (.var 4), false⟩]
theorem run_h18_8mmun (W : Nat → Nat) (C : Nat → Nat × Nat) (ρ : Nat → Int) (aR aS : Addr) : runE W C ρ aR aS L_h18_8mmun [] (UN 8) [(101, [.v (.int .i64 18), ag0 8, ag1 8], .v (.agg #[.int .i64 8, .int .u64 9223372036854775808]))] := by unfold runE; kernel_rfl
theorem h18_8mmun {aR aS : Addr} {b n b2 n2 : Int} (hA : HN 8 b n) (hB : HN 8 b2 n2) (i1 : IntV aR aS 8 b n) (i2 : IntV aR aS 8 b2 n2) (h0 : n < 0) (h1 : n2 < 0) (h2 : n + n2 < (-9223372036854775808)) : HeldV aR aS 18 8 b b2 ((if n + n2 < (-9223372036854775808) then (-9223372036854775808) else if 9223372036854775807 < n + n2 then 9223372036854775807 else n + n2) % 18446744073709551616) := by
  obtain ⟨a1, a2, a3, a4, a5⟩ := hA
  obtain ⟨c1, c2, c3, c4, c5⟩ := hB
  refine held_of i1 i2 (fun f hf => ?_) (run_h18_8mmun _ _ _ aR aS) rfl (agEq ?_)
  · simp only [L_h18_8mmun, List.mem_cons, List.not_mem_nil, or_false] at hf
    rcases hf with rfl | rfl | rfl
    · exact ⟨rfl, cmp_lss_t (by simp (disch := omega) only [IE.ev, rd_14, wrap_i64] <;> omega)⟩
    · exact ⟨rfl, cmp_gtr_f (by simp (disch := omega) only [IE.ev, rd_0, rd_10, and_u64_64, ev_addu, wrap_u64] <;> omega)⟩
    · exact ⟨rfl, cmp_lss_f (by simp (disch := omega) only [IE.ev, rd_0, rd_4, rd_10, and_u64_64, ev_addu, wrap_i64, wrap_u64] <;> omega)⟩
  · show (9223372036854775808 : Int) = _
    rw [if_pos (by omega)]
    omega
def L_h18_8pmp : List CF := [⟨.lss, (.var 14), (.lit 0), true⟩, ⟨.gtr, (.bin .and .u64 (.bin .add .u64 (.var 0) (.var 10)) (.lit 18446744073709551615)), (.lit 9223372036854775807), false⟩, ⟨.lss, (.cv .i64 (.bin .and .u64 (.bin .add .u64 (.var 0) (.var 10)) (.lit 18446744073709551615))), (.var 4), true⟩]
theorem run_h18_8pmp (W : Nat → Nat) (C : Nat → Nat × Nat) (ρ : Nat → Int) (aR aS : Addr) : runE W C ρ aR aS L_h18_8pmp [] (UN 8) [(101, [.v (.int .i64 18), ag0 8, ag1 8], .agg [.v (.int .i64 8), .sym (.int .u64 (.bin .and .u64 (.bin .add .u64 (.var 0) (.var 10)) (.lit 18446744073709551615)))])] := by unfold runE; kernel_rfl
theorem h18_8pmp {aR aS : Addr} {b n b2 n2 : Int} (hA : HN 8 b n) (hB : HN 8 b2 n2) (i1 : IntV aR aS 8 b n) (i2 : IntV aR aS 8 b2 n2) (h0 : 0 ≤ n) (h1 : n2 < 0) (h2 : 0 ≤ n + n2) : HeldV aR aS 18 8 b b2 ((if n + n2 < (-9223372036854775808) then (-9223372036854775808) else if 9223372036854775807 < n + n2 then 9223372036854775807 else n + n2) % 18446744073709551616) := by
  obtain ⟨a1, a2, a3, a4, a5⟩ := hA
  obtain ⟨c1, c2, c3, c4, c5⟩ := hB
  refine held_of i1 i2 (fun f hf => ?_) (run_h18_8pmp _ _ _ aR aS) rfl (agEq ?_)
  · simp only [L_h18_8pmp, List.mem_cons, List.not_mem_nil, or_false] at hf
    rcases hf with rfl | rfl | rfl
    · exact ⟨rfl, cmp_lss_t (by simp (disch := omega) only [IE.ev, rd_14, wrap_i64] <;> omega)⟩
    · exact ⟨rfl, cmp_gtr_f (by simp (disch := omega) only [IE.ev, rd_0, rd_10, and_u64_64, ev_addu, wrap_u64] <;> omega)⟩
    · exact ⟨rfl, cmp_lss_t (by simp (disch := omega) only [IE.ev, rd_0, rd_4, rd_10, and_u64_64, ev_addu, wrap_i64, wrap_u64] <;> omega)⟩
  · show IE.ev (rd b n 0 8 b2 n2 0 8) (.bin .and .u64 (.bin .add .u64 (.var 0) (.var 10)) (.lit 18446744073709551615)) = _
    rw [if_neg (by omega), if_neg (by omega)]
    simp (disch := omega) only [IE.ev, rd_0, rd_10, and_u64_64, ev_addu, wrap_u64] <;> omega
def L_h18_8pmm : List CF := [⟨.lss, (.var 14), (.lit 0), true⟩, ⟨.gtr, (.bin .and .u64 (.bin .add .u64 (.var 0) (.var 10)) (.lit 18446744073709551615)), (.lit 9223372036854775807), true⟩, ⟨.lss, (.cv .i64 (.bin .or .u64 (.bin .and .u64 (.bin .add .u64 (.var 0) (.var 10)) (.lit 18446744073709551615)) (.lit 0))), (.var 4), true⟩]
theorem run_h18_8pmm (W : Nat → Nat) (C : Nat → Nat × Nat) (ρ : Nat → Int) (aR aS : Addr) : runE W C ρ aR aS L_h18_8pmm [] (UN 8) [(101, [.v (.int .i64 18), ag0 8, ag1 8], .agg [.v (.int .i64 8), .sym (.int .u64 (.bin .and .u64 (.bin .add .u64 (.var 0) (.var 10)) (.lit 18446744073709551615)))])] := by unfold runE; kernel_rfl
theorem h18_8pmm {aR aS : Addr} {b n b2 n2 : Int} (hA : HN 8 b n) (hB : HN 8 b2 n2) (i1 : IntV aR aS 8 b n) (i2 : IntV aR aS 8 b2 n2) (h0 : 0 ≤ n) (h1 : n2 < 0) (h2 : n + n2 < 0) : HeldV aR aS 18 8 b b2 ((if n + n2 < (-9223372036854775808) then (-9223372036854775808) else if 9223372036854775807 < n + n2 then 9223372036854775807 else n + n2) % 18446744073709551616) := by
  obtain ⟨a1, a2, a3, a4, a5⟩ := hA
  obtain ⟨c1, c2, c3, c4, c5⟩ := hB
  refine held_of i1 i2 (fun f hf => ?_) (run_h18_8pmm _ _ _ aR aS) rfl (agEq ?_)
  · simp only [L_h18_8pmm, List.mem_cons, List.not_mem_nil, or_false] at hf
    rcases hf with rfl | rfl | rfl
    · exact ⟨rfl, cmp_lss_t (by simp (disch := omega) only [IE.ev, rd_14, wrap_i64] <;> omega)⟩
    · exact ⟨rfl, cmp_gtr_t (by simp (disch := omega) only [IE.ev, rd_0, rd_10, and_u64_64, ev_addu, wrap_u64] <;> omega)⟩
    · exact ⟨rfl, cmp_lss_t (by simp (disch := omega) only [IE.ev, rd_0, rd_4, rd_10, and_u64_64, ev_addu, or_u64_64, wrap_i64, wrap_u64] <;> omega)⟩
  · show IE.ev (rd b n 0 8 b2 n2 0 8) (.bin .and .u64 (.bin .add .u64 (.var 0) (.var 10)) (.lit 18446744073709551615)) = _
    rw [if_neg (by omega), if_neg (by omega)]
    simp (disch := omega) only [IE.ev, rd_0, rd_10, and_u64_64, ev_addu, wrap_u64] <;> omega
def L_h18_8mpp : List CF := [⟨.lss, (.var 14), (.lit 0), false⟩, ⟨.gtr, (.bin .and .u64 (.bin .add .u64 (.var 0) (.var 10)) (.lit 18446744073709551615)), (.lit 9223372036854775807), false⟩, ⟨.lss, (.cv .i64 (.bin .and .u64 (.bin .add .u64 (.var 0) (.var 10)) (.lit 18446744073709551615))), (.var 4), false⟩]
theorem run_h18_8mpp (W : Nat → Nat) (C : Nat → Nat × Nat) (ρ : Nat → Int) (aR aS : Addr) : runE W C ρ aR aS L_h18_8mpp [] (UN 8) [(101, [.v (.int .i64 18), ag0 8, ag1 8], .agg [.v (.int .i64 8), .sym (.int .u64 (.bin .and .u64 (.bin .add .u64 (.var 0) (.var 10)) (.lit 18446744073709551615)))])] := by unfold runE; kernel_rfl
theorem h18_8mpp {aR aS : Addr} {b n b2 n2 : Int} (hA : HN 8 b n) (hB : HN 8 b2 n2) (i1 : IntV aR aS 8 b n) (i2 : IntV aR aS 8 b2 n2) (h0 : n < 0) (h1 : 0 ≤ n2) (h2 : 0 ≤ n + n2) : HeldV aR aS 18 8 b b2 ((if n + n2 < (-9223372036854775808) then (-9223372036854775808) else if 9223372036854775807 < n + n2 then 9223372036854775807 else n + n2) % 18446744073709551616) := by
  obtain ⟨a1, a2, a3, a4, a5⟩ := hA
  obtain ⟨c1, c2, c3, c4, c5⟩ := hB
  refine held_of i1 i2 (fun f hf => ?_) (run_h18_8mpp _ _ _ aR aS) rfl (agEq ?_)
  · simp only [L_h18_8mpp, List.mem_cons, List.not_mem_nil, or_false] at hf
    rcases hf with rfl | rfl | rfl
    · exact ⟨rfl, cmp_lss_f (by simp (disch := omega) only [IE.ev, rd_14, wrap_i64] <;> omega)⟩
    · exact ⟨rfl, cmp_gtr_f (by simp (disch := omega) only [IE.ev, rd_0, rd_10, and_u64_64, ev_addu, wrap_u64] <;> omega)⟩
    · exact ⟨rfl, cmp_lss_f (by simp (disch := omega) only [IE.ev, rd_0, rd_4, rd_10, and_u64_64, ev_addu, wrap_i64, wrap_u64] <;> omega)⟩
  · show IE.ev (rd b n 0 8 b2 n2 0 8) (.bin .and .u64 (.bin .add .u64 (.var 0) (.var 10)) (.lit 18446744073709551615)) = _
    rw [if_neg (by omega), if_neg (by omega)]
    simp (disch := omega) only [IE.ev, rd_0, rd_10, and_u64_64, ev_addu, wrap_u64] <;> omega
def L_h18_8mpm : List CF := [⟨.lss, (.var 14), (.lit 0), false⟩, ⟨.gtr, (.bin .and .u64 (.bin .add .u64 (.var 0) (.var 10)) (.lit 18446744073709551615)), (.lit 9223372036854775807), true⟩, ⟨.lss, (.cv .i64 (.bin .or .u64 (.bin .and .u64 (.bin .add .u64 (.var 0) (.var 10)) (.lit 18446744073709551615)) (.lit 0))), (.var 4), false⟩]
theorem run_h18_8mpm (W : Nat → Nat) (C : Nat → Nat × Nat) (ρ : Nat → Int) (aR aS : Addr) : runE W C ρ aR aS L_h18_8mpm [] (UN 8) [(101, [.v (.int .i64 18), ag0 8, ag1 8], .agg [.v (.int .i64 8), .sym (.int .u64 (.bin .and .u64 (.bin .add .u64 (.var 0) (.var 10)) (.lit 18446744073709551615)))])] := by unfold runE; kernel_rfl
theorem h18_8mpm {aR aS : Addr} {b n b2 n2 : Int} (hA : HN 8 b n) (hB : HN 8 b2 n2) (i1 : IntV aR aS 8 b n) (i2 : IntV aR aS 8 b2 n2) (h0 : n < 0) (h1 : 0 ≤ n2) (h2 : n + n2 < 0) : HeldV aR aS 18 8 b b2 ((if n + n2 < (-9223372036854775808) then (-9223372036854775808) else if 9223372036854775807 < n + n2 then 9223372036854775807 else n + n2) % 18446744073709551616) := by
  obtain ⟨a1, a2, a3, a4, a5⟩ := hA
  obtain ⟨c1, c2, c3, c4, c5⟩ := hB
  refine held_of i1 i2 (fun f hf => ?_) (run_h18_8mpm _ _ _ aR aS) rfl (agEq ?_)
  · simp only [L_h18_8mpm, List.mem_cons, List.not_mem_nil, or_false] at hf
    rcases hf with rfl | rfl | rfl
    · exact ⟨rfl, cmp_lss_f (by simp (disch := omega) only [IE.ev, rd_14, wrap_i64] <;> omega)⟩
    · exact ⟨rfl, cmp_gtr_t (by simp (disch := omega) only [IE.ev, rd_0, rd_10, and_u64_64, ev_addu, wrap_u64] <;> omega)⟩
    · exact ⟨rfl, cmp_lss_f (by simp (disch := omega) only [IE.ev, rd_0, rd_4, rd_10, and_u64_64, ev_addu, or_u64_64, wrap_i64, wrap_u64] <;> omega)⟩
  · show IE.ev (rd b n 0 8 b2 n2 0 8) (.bin .and .u64 (.bin .add .u64 (.var 0) (.var 10)) (.lit 18446744073709551615)) = _
    rw [if_neg (by omega), if_neg (by omega)]
    simp (disch := omega) only [IE.ev, rd_0, rd_10, and_u64_64, ev_addu, wrap_u64] <;> omega
def L_h19_1in : List CF := [⟨.lss, (.var 10), (.lit 0), false⟩, ⟨.lss, (.var 0), (.bin .and .u64 (.bin .sub .u64 (.var 0) (.var 10)) (.lit 255)), false⟩]
theorem run_h19_1in (W : Nat → Nat) (C : Nat → Nat × Nat) (ρ : Nat → Int) (aR aS : Addr) : runE W C ρ aR aS L_h19_1in [] (UN 1) [(101, [.v (.int .i64 19), ag0 1, ag1 1], .agg [.v (.int .i64 1), .sym (.int .u64 (.bin .and .u64 (.bin .sub .u64 (.var 0) (.var 10)) (.lit 255)))])] := by unfold runE; kernel_rfl
theorem h19_1in {aR aS : Addr} {b n b2 n2 : Int} (hA : HN 1 b n) (hB : HN 1 b2 n2) (i1 : IntV aR aS 1 b n) (i2 : IntV aR aS 1 b2 n2) (h0 : 0 ≤ n - n2) : HeldV aR aS 19 1 b b2 ((if n - n2 < 0 then 0 else if 255 < n - n2 then 255 else n - n2) % 256) := by
  obtain ⟨a1, a2, a3, a4, a5⟩ := hA
  obtain ⟨c1, c2, c3, c4, c5⟩ := hB
  refine held_of i1 i2 (fun f hf => ?_) (run_h19_1in _ _ _ aR aS) rfl (agEq ?_)
  · simp only [L_h19_1in, List.mem_cons, List.not_mem_nil, or_false] at hf
    rcases hf with rfl | rfl
    · exact ⟨rfl, cmp_lss_f (by simp (disch := omega) only [IE.ev, rd_10] <;> omega)⟩
    · exact ⟨rfl, cmp_lss_f (by simp (disch := omega) only [IE.ev, rd_0, rd_10, and_u64_8, ev_subu, wrap_u64] <;> omega)⟩
  · show IE.ev (rd b n 0 1 b2 n2 0 1) (.bin .and .u64 (.bin .sub .u64 (.var 0) (.var 10)) (.lit 255)) = _
    rw [if_neg (by omega), if_neg (by omega)]
    simp (disch := omega) only [IE.ev, rd_0, rd_10, and_u64_8, ev_subu, wrap_u64] <;> omega
def L_h19_1un : List CF := [⟨.lss, (.var 10), (.lit 0), false⟩, ⟨.lss, (.var 0), (.bin .and .u64 (.bin .sub .u64 (.var 0) (.var 10)) (.lit 255)), true⟩]
theorem run_h19_1un (W : Nat → Nat) (C : Nat → Nat × Nat) (ρ : Nat → Int) (aR aS : Addr) : runE W C ρ aR aS L_h19_1un [] (UN 1) [(101, [.v (.int .i64 19), ag0 1, ag1 1], .v (.agg #[.int .i64 1, .int .u64 0]))] := by unfold runE; kernel_rfl
theorem h19_1un {aR aS : Addr} {b n b2 n2 : Int} (hA : HN 1 b n) (hB : HN 1 b2 n2) (i1 : IntV aR aS 1 b n) (i2 : IntV aR aS 1 b2 n2) (h0 : n - n2 < 0) : HeldV aR aS 19 1 b b2 ((if n - n2 < 0 then 0 else if 255 < n - n2 then 255 else n - n2) % 256) := by
  obtain ⟨a1, a2, a3, a4, a5⟩ := hA
  obtain ⟨c1, c2, c3, c4, c5⟩ := hB
  refine held_of i1 i2 (fun f hf => ?_) (run_h19_1un _ _ _ aR aS) rfl (agEq ?_)
  · simp only [L_h19_1un, List.mem_cons, List.not_mem_nil, or_false] at hf
    rcases hf with rfl | rfl
    · exact ⟨rfl, cmp_lss_f (by simp (disch := omega) only [IE.ev, rd_10] <;> omega)⟩
    · exact ⟨rfl, cmp_lss_t (by simp (disch := omega) only [IE.ev, rd_0, rd_10, and_u64_8, ev_subu, wrap_u64] <;> omega)⟩
  · show (0 : Int) = _
    rw [if_pos (by omega)]
    omega
def L_h19_2in : List CF := [⟨.lss, (.var 10), (.lit 0), false⟩, ⟨.lss, (.var 0), (.bin .and .u64 (.bin .sub .u64 (.var 0) (.var 10)) (.lit 65535)), false⟩]
theorem run_h19_2in (W : Nat → Nat) (C : Nat → Nat × Nat) (ρ : Nat → Int) (aR aS : Addr) : runE W C ρ aR aS L_h19_2in [] (UN 2) [(101, [.v (.int .i64 19), ag0 2, ag1 2], .agg [.v (.int .i64 2), .sym (.int .u64 (.bin .and .u64 (.bin .sub .u64 (.var 0) (.var 10)) (.lit 65535)))])] := by unfold runE; kernel_rfl
theorem h19_2in {aR aS : Addr} {b n b2 n2 : Int} (hA : HN 2 b n) (hB : HN 2 b2 n2) (i1 : IntV aR aS 2 b n) (i2 : IntV aR aS 2 b2 n2) (h0 : 0 ≤ n - n2) : HeldV aR aS 19 2 b b2 ((if n - n2 < 0 then 0 else if 65535 < n - n2 then 65535 else n - n2) % 65536) := by
  obtain ⟨a1, a2, a3, a4, a5⟩ := hA
  obtain ⟨c1, c2, c3, c4, c5⟩ := hB
  refine held_of i1 i2 (fun f hf => ?_) (run_h19_2in _ _ _ aR aS) rfl (agEq ?_)
  · simp only [L_h19_2in, List.mem_cons, List.not_mem_nil, or_false] at hf
    rcases hf with rfl | rfl
    · exact ⟨rfl, cmp_lss_f (by simp (disch := omega) only [IE.ev, rd_10] <;> omega)⟩
    · exact ⟨rfl, cmp_lss_f (by simp (disch := omega) only [IE.ev, rd_0, rd_10, and_u64_16, ev_subu, wrap_u64] <;> omega)⟩
  · show IE.ev (rd b n 0 2 b2 n2 0 2) (.bin .and .u64 (.bin .sub .u64 (.var 0) (.var 10)) (.lit 65535)) = _
    rw [if_neg (by omega), if_neg (by omega)]
    simp (disch := omega) only [IE.ev, rd_0, rd_10, and_u64_16, ev_subu, wrap_u64] <;> omega
def L_h19_2un : List CF := [⟨.lss, (.var 10), (.lit 0), false⟩, ⟨.lss, (.var 0), (.bin .and .u64 (.bin .sub .u64 (.var 0) (.var 10)) (.lit 65535)), true⟩]
theorem run_h19_2un (W : Nat → Nat) (C : Nat → Nat × Nat) (ρ : Nat → Int) (aR aS : Addr) : runE W C ρ aR aS L_h19_2un [] (UN 2) [(101, [.v (.int .i64 19), ag0 2, ag1 2], .v (.agg #[.int .i64 2, .int .u64 0]))] := by unfold runE; kernel_rfl
theorem h19_2un {aR aS : Addr} {b n b2 n2 : Int} (hA : HN 2 b n) (hB : HN 2 b2 n2) (i1 : IntV aR aS 2 b n) (i2 : IntV aR aS 2 b2 n2) (h0 : n - n2 < 0) : HeldV aR aS 19 2 b b2 ((if n - n2 < 0 then 0 else if 65535 < n - n2 then 65535 else n - n2) % 65536) := by
  obtain ⟨a1, a2, a3, a4, a5⟩ := hA
  obtain ⟨c1, c2, c3, c4, c5⟩ := hB
  refine held_of i1 i2 (fun f hf => ?_) (run_h19_2un _ _ _ aR aS) rfl (agEq ?_)
  · simp only [L_h19_2un, List.mem_cons, List.not_mem_nil, or_false] at hf
    rcases hf with rfl | rfl
    · exact ⟨rfl, cmp_lss_f (by simp (disch := omega) only [IE.ev, rd_10] <;> omega)⟩
    · exact ⟨rfl, cmp_lss_t (by simp (disch := omega) only [IE.ev, rd_0, rd_10, and_u64_16, ev_subu, wrap_u64] <;> omega)⟩
  · show (0 : Int) = _
    rw [if_pos (by omega)]
    omega
def L_h19_3in : List CF := [⟨.lss, (.var 10), (.lit 0), false⟩, ⟨.lss, (.var 0), (.bin .and .u64 (.bin .sub .u64 (.var 0) (.var 10)) (.lit 4294967295)), false⟩]
theorem run_h19_3in (W : Nat → Nat) (C : Nat → Nat × Nat) (ρ : Nat → Int) (aR aS : Addr) : runE W C ρ aR aS L_h19_3in [] (UN 3) [(101, [.v (.int .i64 19), ag0 3, ag1 3], .agg [.v (.int .i64 3), .sym (.int .u64 (.bin .and .u64 (.bin .sub .u64 (.var 0) (.var 10)) (.lit 4294967295)))])] := by unfold runE; kernel_rfl
theorem h19_3in {aR aS : Addr} {b n b2 n2 : Int} (hA : HN 3 b n) (hB : HN 3 b2 n2) (i1 : IntV aR aS 3 b n) (i2 : IntV aR aS 3 b2 n2) (h0 : 0 ≤ n - n2) : HeldV aR aS 19 3 b b2 ((if n - n2 < 0 then 0 else if 4294967295 < n - n2 then 4294967295 else n - n2) % 4294967296) := by
  obtain ⟨a1, a2, a3, a4, a5⟩ := hA
  obtain ⟨c1, c2, c3, c4, c5⟩ := hB
  refine held_of i1 i2 (fun f hf => ?_) (run_h19_3in _ _ _ aR aS) rfl (agEq ?_)
  · simp only [L_h19_3in, List.mem_cons, List.not_mem_nil, or_false] at hf
    rcases hf with rfl | rfl
    · exact ⟨rfl, cmp_lss_f (by simp (disch := omega) only [IE.ev, rd_10] <;> omega)⟩
    · exact ⟨rfl, cmp_lss_f (by simp (disch := omega) only [IE.ev, rd_0, rd_10, and_u64_32, ev_subu, wrap_u64] <;> omega)⟩
  · show IE.ev (rd b n 0 3 b2 n2 0 3) (.bin .and .u64 (.bin .sub .u64 (.var 0) (.var 10)) (.lit 4294967295)) = _
    rw [if_neg (by omega), if_neg (by omega)]
    simp (disch := omega) only [IE.ev, rd_0, rd_10, and_u64_32, ev_subu, wrap_u64] <;> omega
def L_h19_3un : List CF := [⟨.lss, (.var 10), (.lit 0), false⟩, ⟨.lss, (.var 0), (.bin .and .u64 (.bin .sub .u64 (.var 0) (.var 10)) (.lit 4294967295)), true⟩]
theorem run_h19_3un (W : Nat → Nat) (C : Nat → Nat × Nat) (ρ : Nat → Int) (aR aS : Addr) : runE W C ρ aR aS L_h19_3un [] (UN 3) [(101, [.v (.int .i64 19), ag0 3, ag1 3], .v (.agg #[.int .i64 3, .int .u64 0]))] := by unfold runE; kernel_rfl
theorem h19_3un {aR aS : Addr} {b n b2 n2 : Int} (hA : HN 3 b n) (hB : HN 3 b2 n2) (i1 : IntV aR aS 3 b n) (i2 : IntV aR aS 3 b2 n2) (h0 : n - n2 < 0) : HeldV aR aS 19 3 b b2 ((if n - n2 < 0 then 0 else if 4294967295 < n - n2 then 4294967295 else n - n2) % 4294967296) := by
  obtain ⟨a1, a2, a3, a4, a5⟩ := hA
  obtain ⟨c1, c2, c3, c4, c5⟩ := hB
  refine held_of i1 i2 (fun f hf => ?_) (run_h19_3un _ _ _ aR aS) rfl (agEq ?_)
  · simp only [L_h19_3un, List.mem_cons, List.not_mem_nil, or_false] at hf
    rcases hf with rfl | rfl
    · exact ⟨rfl, cmp_lss_f (by simp (disch := omega) only [IE.ev, rd_10] <;> omega)⟩
    · exact ⟨rfl, cmp_lss_t (by simp (disch := omega) only [IE.ev, rd_0, rd_10, and_u64_32, ev_subu, wrap_u64] <;> omega)⟩
  · show (0 : Int) = _
    rw [if_pos (by omega)]
    omega
def L_h19_4in : List CF := [⟨.lss, (.var 10), (.lit 0), false⟩, ⟨.lss, (.var 0), (.bin .and .u64 (.bin .sub .u64 (.var 0) (.var 10)) (.lit 18446744073709551615)), false⟩]
theorem run_h19_4in (W : Nat → Nat) (C : Nat → Nat × Nat) (ρ : Nat → Int) (aR aS : Addr) : runE W C ρ aR aS L_h19_4in [] (UN 4) [(101, [.v (.int .i64 19), ag0 4, ag1 4], .agg [.v (.int .i64 4), .sym (.int .u64 (.bin .and .u64 (.bin .sub .u64 (.var 0) (.var 10)) (.lit 18446744073709551615)))])] := by unfold runE; kernel_rfl
theorem h19_4in {aR aS : Addr} {b n b2 n2 : Int} (hA : HN 4 b n) (hB : HN 4 b2 n2) (i1 : IntV aR aS 4 b n) (i2 : IntV aR aS 4 b2 n2) (h0 : 0 ≤ n - n2) : HeldV aR aS 19 4 b b2 ((if n - n2 < 0 then 0 else if 18446744073709551615 < n - n2 then 18446744073709551615 else n - n2) % 18446744073709551616) := by
  obtain ⟨a1, a2, a3, a4, a5⟩ := hA
  obtain ⟨c1, c2, c3, c4, c5⟩ := hB
  refine held_of i1 i2 (fun f hf => ?_) (run_h19_4in _ _ _ aR aS) rfl (agEq ?_)
  · simp only [L_h19_4in, List.mem_cons, List.not_mem_nil, or_false] at hf
    rcases hf with rfl | rfl
    · exact ⟨rfl, cmp_lss_f (by simp (disch := omega) only [IE.ev, rd_10] <;> omega)⟩
    · exact ⟨rfl, cmp_lss_f (by simp (disch := omega) only [IE.ev, rd_0, rd_10, and_u64_64, ev_subu, wrap_u64] <;> omega)⟩
  · show IE.ev (rd b n 0 4 b2 n2 0 4) (.bin .and .u64 (.bin .sub .u64 (.var 0) (.var 10)) (.lit 18446744073709551615)) = _
    rw [if_neg (by omega), if_neg (by omega)]
    simp (disch := omega) only [IE.ev, rd_0, rd_10, and_u64_64, ev_subu, wrap_u64] <;> omega
def L_h19_4un : List CF := [⟨.lss, (.var 10), (.lit 0), false⟩, ⟨.lss, (.var 0), (.bin .and .u64 (.bin .sub .u64 (.var 0) (.var 10)) (.lit 18446744073709551615)), true⟩]
theorem run_h19_4un (W : Nat → Nat) (C : Nat → Nat × Nat) (ρ : Nat → Int) (aR aS : Addr) : runE W C ρ aR aS L_h19_4un [] (UN 4) [(101, [.v (.int .i64 19), ag0 4, ag1 4], .v (.agg #[.int .i64 4, .int .u64 0]))] := by unfold runE; kernel_rfl
theorem h19_4un {aR aS : Addr} {b n b2 n2 : Int} (hA : HN 4 b n) (hB : HN 4 b2 n2) (i1 : IntV aR aS 4 b n) (i2 : IntV aR aS 4 b2 n2) (h0 : n - n2 < 0) : HeldV aR aS 19 4 b b2 ((if n - n2 < 0 then 0 else if 18446744073709551615 < n - n2 then 18446744073709551615 else n - n2) % 18446744073709551616) := by
  obtain ⟨a1, a2, a3, a4, a5⟩ := hA
  obtain ⟨c1, c2, c3, c4, c5⟩ := hB
  refine held_of i1 i2 (fun f hf => ?_) (run_h19_4un _ _ _ aR aS) rfl (agEq ?_)
  · simp only [L_h19_4un, List.mem_cons, List.not_mem_nil, or_false] at hf
    rcases hf with rfl | rfl
    · exact ⟨rfl, cmp_lss_f (by simp (disch := omega) only [IE.ev, rd_10] <;> omega)⟩
    · exact ⟨rfl, cmp_lss_t (by simp (disch := omega) only [IE.ev, rd_0, rd_10, and_u64_64, ev_subu, wrap_u64] <;> omega)⟩
  · show (0 : Int) = _
    rw [if_pos (by omega)]
    omega
def L_h19_5ppp : List CF := [⟨.lss, (.var 14), (.lit 0), false⟩, ⟨.gtr, (.bin .and .u64 (.bin .sub .u64 (.var 0) (.var 10)) (.lit 255)), (.lit 127), false⟩, ⟨.lss, (.var 4), (.cv .i64 (.bin .and .u64 (.bin .sub .u64 (.var 0) (.var 10)) (.lit 255))), false⟩]
theorem run_h19_5ppp (W : Nat → Nat) (C : Nat → Nat × Nat) (ρ : Nat → Int) (aR aS : Addr) : runE W C ρ aR aS L_h19_5ppp [] (UN 5) [(101, [.v (.int .i64 19), ag0 5, ag1 5], .agg [.v (.int .i64 5), .sym (.int .u64 (.bin .and .u64 (.bin .sub .u64 (.var 0) (.var 10)) (.lit 255)))])] := by unfold runE; kernel_rfl
theorem h19_5ppp {aR aS : Addr} {b n b2 n2 : Int} (hA : HN 5 b n) (hB : HN 5 b2 n2) (i1 : IntV aR aS 5 b n) (i2 : IntV aR aS 5 b2 n2) (h0 : 0 ≤ n) (h1 : 0 ≤ n2) (h2 : 0 ≤ n - n2) : HeldV aR aS 19 5 b b2 ((if n - n2 < (-128) then (-128) else if 127 < n - n2 then 127 else n - n2) % 256) := by
  obtain ⟨a1, a2, a3, a4, a5⟩ := hA
  obtain ⟨c1, c2, c3, c4, c5⟩ := hB
  refine held_of i1 i2 (fun f hf => ?_) (run_h19_5ppp _ _ _ aR aS) rfl (agEq ?_)
  · simp only [L_h19_5ppp, List.mem_cons, List.not_mem_nil, or_false] at hf
    rcases hf with rfl | rfl | rfl
    · exact ⟨rfl, cmp_lss_f (by simp (disch := omega) only [IE.ev, rd_14, wrap_i64] <;> omega)⟩
    · exact ⟨rfl, cmp_gtr_f (by simp (disch := omega) only [IE.ev, rd_0, rd_10, and_u64_8, ev_subu, wrap_u64] <;> omega)⟩
    · exact ⟨rfl, cmp_lss_f (by simp (disch := omega) only [IE.ev, rd_0, rd_4, rd_10, and_u64_8, ev_subu, wrap_i64, wrap_u64] <;> omega)⟩
  · show IE.ev (rd b n 0 5 b2 n2 0 5) (.bin .and .u64 (.bin .sub .u64 (.var 0) (.var 10)) (.lit 255)) = _
    rw [if_neg (by omega), if_neg (by omega)]
    simp (disch := omega) only [IE.ev, rd_0, rd_10, and_u64_8, ev_subu, wrap_u64] <;> omega
def L_h19_5ppm : List CF := [⟨.lss, (.var 14), (.lit 0), false⟩, ⟨.gtr, (.bin .and .u64 (.bin .sub .u64 (.var 0) (.var 10)) (.lit 255)), (.lit 127), true⟩, ⟨.lss, (.var 4), (.cv .i64 (.bin .or .u64 (.bin .and .u64 (.bin .sub .u64 (.var 0) (.var 10)) (.lit 255)) (.lit 18446744073709551360))), false⟩]
theorem run_h19_5ppm (W : Nat → Nat) (C : Nat → Nat × Nat) (ρ : Nat → Int) (aR aS : Addr) : runE W C ρ aR aS L_h19_5ppm [] (UN 5) [(101, [.v (.int .i64 19), ag0 5, ag1 5], .agg [.v (.int .i64 5), .sym (.int .u64 (.bin .and .u64 (.bin .sub .u64 (.var 0) (.var 10)) (.lit 255)))])] := by unfold runE; kernel_rfl
theorem h19_5ppm {aR aS : Addr} {b n b2 n2 : Int} (hA : HN 5 b n) (hB : HN 5 b2 n2) (i1 : IntV aR aS 5 b n) (i2 : IntV aR aS 5 b2 n2) (h0 : 0 ≤ n) (h1 : 0 ≤ n2) (h2 : n - n2 < 0) : HeldV aR aS 19 5 b b2 ((if n - n2 < (-128) then (-128) else if 127 < n - n2 then 127 else n - n2) % 256) := by
  obtain ⟨a1, a2, a3, a4, a5⟩ := hA
  obtain ⟨c1, c2, c3, c4, c5⟩ := hB
  refine held_of i1 i2 (fun f hf => ?_) (run_h19_5ppm _ _ _ aR aS) rfl (agEq ?_)
  · simp only [L_h19_5ppm, List.mem_cons, List.not_mem_nil, or_false] at hf
    rcases hf with rfl | rfl | rfl
    · exact ⟨rfl, cmp_lss_f (by simp (disch := omega) only [IE.ev, rd_14, wrap_i64] <;> omega)⟩
    · exact ⟨rfl, cmp_gtr_t (by simp (disch := omega) only [IE.ev, rd_0, rd_10, and_u64_8, ev_subu, wrap_u64] <;> omega)⟩
    · exact ⟨rfl, cmp_lss_f (by simp (disch := omega) only [IE.ev, rd_0, rd_4, rd_10, and_u64_8, ev_subu, or_u64_8, wrap_i64, wrap_u64] <;> omega)⟩
  · show IE.ev (rd b n 0 5 b2 n2 0 5) (.bin .and .u64 (.bin .sub .u64 (.var 0) (.var 10)) (.lit 255)) = _
    rw [if_neg (by omega), if_neg (by omega)]
    simp (disch := omega) only [IE.ev, rd_0, rd_10, and_u64_8, ev_subu, wrap_u64] <;> omega
def L_h19_5mmp : List CF := [⟨.lss, (.var 14), (.lit 0), true⟩, ⟨.gtr, (.bin .and .u64 (.bin .sub .u64 (.var 0) (.var 10)) (.lit 255)), (.lit 127), false⟩, ⟨.lss, (.var 4), (.cv .i64 (.bin .and .u64 (.bin .sub .u64 (.var 0) (.var 10)) (.lit 255))), true⟩]
theorem run_h19_5mmp (W : Nat → Nat) (C : Nat → Nat × Nat) (ρ : Nat → Int) (aR aS : Addr) : runE W C ρ aR aS L_h19_5mmp [] (UN 5) [(101, [.v (.int .i64 19), ag0 5, ag1 5], .agg [.v (.int .i64 5), .sym (.int .u64 (.bin .and .u64 (.bin .sub .u64 (.var 0) (.var 10)) (.lit 255)))])] := by unfold runE; kernel_rfl
theorem h19_5mmp {aR aS : Addr} {b n b2 n2 : Int} (hA : HN 5 b n) (hB : HN 5 b2 n2) (i1 : IntV aR aS 5 b n) (i2 : IntV aR aS 5 b2 n2) (h0 : n < 0) (h1 : n2 < 0) (h2 : 0 ≤ n - n2) : HeldV aR aS 19 5 b b2 ((if n - n2 < (-128) then (-128) else if 127 < n - n2 then 127 else n - n2) % 256) := by
  obtain ⟨a1, a2, a3, a4, a5⟩ := hA
  obtain ⟨c1, c2, c3, c4, c5⟩ := hB
  refine held_of i1 i2 (fun f hf => ?_) (run_h19_5mmp _ _ _ aR aS) rfl (agEq ?_)
  · simp only [L_h19_5mmp, List.mem_cons, List.not_mem_nil, or_false] at hf
    rcases hf with rfl | rfl | rfl
    · exact ⟨rfl, cmp_lss_t (by simp (disch := omega) only [IE.ev, rd_14, wrap_i64] <;> omega)⟩
    · exact ⟨rfl, cmp_gtr_f (by simp (disch := omega) only [IE.ev, rd_0, rd_10, and_u64_8, ev_subu, wrap_u64] <;> omega)⟩
    · exact ⟨rfl, cmp_lss_t (by simp (disch := omega) only [IE.ev, rd_0, rd_4, rd_10, and_u64_8, ev_subu, wrap_i64, wrap_u64] <;> omega)⟩
  · show IE.ev (rd b n 0 5 b2 n2 0 5) (.bin .and .u64 (.bin .sub .u64 (.var 0) (.var 10)) (.lit 255)) = _
    rw [if_neg (by omega), if_neg (by omega)]
    simp (disch := omega) only [IE.ev, rd_0, rd_10, and_u64_8, ev_subu, wrap_u64] <;> omega
def L_h19_5mmm : List CF := [⟨.lss, (.var 14), (.lit 0), true⟩, ⟨.gtr, (.bin .and .u64 (.bin .sub .u64 (.var 0) (.var 10)) (.lit 255)), (.lit 127), true⟩, ⟨.lss, (.var 4), (.cv .i64 (.bin .or .u64 (.bin .and .u64 (.bin .sub .u64 (.var 0) (.var 10)) (.lit 255)) (.lit 18446744073709551360))), true⟩]
theorem run_h19_5mmm (W : Nat → Nat) (C : Nat → Nat × Nat) (ρ : Nat → Int) (aR aS : Addr) : runE W C ρ aR aS L_h19_5mmm [] (UN 5) [(101, [.v (.int .i64 19), ag0 5, ag1 5], .agg [.v (.int .i64 5), .sym (.int .u64 (.bin .and .u64 (.bin .sub .u64 (.var 0) (.var 10)) (.lit 255)))])] := by unfold runE; kernel_rfl
theorem h19_5mmm {aR aS : Addr} {b n b2 n2 : Int} (hA : HN 5 b n) (hB : HN 5 b2 n2) (i1 : IntV aR aS 5 b n) (i2 : IntV aR aS 5 b2 n2) (h0 : n < 0) (h1 : n2 < 0) (h2 : n - n2 < 0) : HeldV aR aS 19 5 b b2 ((if n - n2 < (-128) then (-128) else if 127 < n - n2 then 127 else n - n2) % 256) := by
  obtain ⟨a1, a2, a3, a4, a5⟩ := hA
  obtain ⟨c1, c2, c3, c4, c5⟩ := hB
  refine held_of i1 i2 (fun f hf => ?_) (run_h19_5mmm _ _ _ aR aS) rfl (agEq ?_)
  · simp only [L_h19_5mmm, List.mem_cons, List.not_mem_nil, or_false] at hf
    rcases hf with rfl | rfl | rfl
    · exact ⟨rfl, cmp_lss_t (by simp (disch := omega) only [IE.ev, rd_14, wrap_i64] <;> omega)⟩
    · exact ⟨rfl, cmp_gtr_t (by simp (disch := omega) only [IE.ev, rd_0, rd_10, and_u64_8, ev_subu, wrap_u64] <;> omega)⟩
    · exact ⟨rfl, cmp_lss_t (by simp (disch := omega) only [IE.ev, rd_0, rd_4, rd_10, and_u64_8, ev_subu, or_u64_8, wrap_i64, wrap_u64] <;> omega)⟩
  · show IE.ev (rd b n 0 5 b2 n2 0 5) (.bin .and .u64 (.bin .sub .u64 (.var 0) (.var 10)) (.lit 255)) = _
    rw [if_neg (by omega), if_neg (by omega)]
    simp (disch := omega) only [IE.ev, rd_0, rd_10, and_u64_8, ev_subu, wrap_u64] <;> omega
def L_h19_5pmin : List CF := [⟨.lss, (.var 14), (.lit 0), true⟩, ⟨.gtr, (.bin .and .u64 (.bin .sub .u64 (.var 0) (.var 10)) (.lit 255)), (.lit 127), false⟩, ⟨.lss, (.var 4), (.cv .i64 (.bin .and .u64 (.bin .sub .u64 (.var 0) (.var 10)) (.lit 255))), true⟩]
theorem run_h19_5pmin (W : Nat → Nat) (C : Nat → Nat × Nat) (ρ : Nat → Int) (aR aS : Addr) : runE W C ρ aR aS L_h19_5pmin [] (UN 5) [(101, [.v (.int .i64 19), ag0 5, ag1 5], .agg [.v (.int .i64 5), .sym (.int .u64 (.bin .and .u64 (.bin .sub .u64 (.var 0) (.var 10)) (.lit 255)))])] := by unfold runE; kernel_rfl
theorem h19_5pmin {aR aS : Addr} {b n b2 n2 : Int} (hA : HN 5 b n) (hB : HN 5 b2 n2) (i1 : IntV aR aS 5 b n) (i2 : IntV aR aS 5 b2 n2) (h0 : 0 ≤ n) (h1 : n2 < 0) (h2 : n - n2 ≤ 127) : HeldV aR aS 19 5 b b2 ((if n - n2 < (-128) then (-128) else if 127 < n - n2 then 127 else n - n2) % 256) := by
  obtain ⟨a1, a2, a3, a4, a5⟩ := hA
  obtain ⟨c1, c2, c3, c4, c5⟩ := hB
  refine held_of i1 i2 (fun f hf => ?_) (run_h19_5pmin _ _ _ aR aS) rfl (agEq ?_)
  · simp only [L_h19_5pmin, List.mem_cons, List.not_mem_nil, or_false] at hf
    rcases hf with rfl | rfl | rfl
    · exact ⟨rfl, cmp_lss_t (by simp (disch := omega) only [IE.ev, rd_14, wrap_i64] <;> omega)⟩
    · exact ⟨rfl, cmp_gtr_f (by simp (disch := omega) only [IE.ev, rd_0, rd_10, and_u64_8, ev_subu, wrap_u64] <;> omega)⟩
    · exact ⟨rfl, cmp_lss_t (by simp (disch := omega) only [IE.ev, rd_0, rd_4, rd_10, and_u64_8, ev_subu, wrap_i64, wrap_u64] <;> omega)⟩
  · show IE.ev (rd b n 0 5 b2 n2 0 5) (.bin .and .u64 (.bin .sub .u64 (.var 0) (.var 10)) (.lit 255)) = _
    rw [if_neg (by omega), if_neg (by omega)]
    simp (disch := omega) only [IE.ev, rd_0, rd_10, and_u64_8, ev_subu, wrap_u64] <;> omega
def L_h19_5pmov : List CF := [⟨.lss, (.var 14), (.lit 0), true⟩, ⟨.gtr, (.bin .and .u64 (.bin .sub .u64 (.var 0) (.var 10)) (.lit 255)), (.lit 127), true⟩, ⟨.lss, (.var 4), (.cv .i64 (.bin .or .u64 (.bin .and .u64 (.bin .sub .u64 (.var 0) (.var 10)) (.lit 255)) (.lit 18446744073709551360))), false⟩]
theorem run_h19_5pmov (W : Nat → Nat) (C : Nat → Nat × Nat) (ρ : Nat → Int) (aR aS : Addr) : runE W C ρ aR aS L_h19_5pmov [] (UN 5) [(101, [.v (.int .i64 19), ag0 5, ag1 5], .v (.agg #[.int .i64 5, .int .u64 127]))] := by unfold runE; kernel_rfl
theorem h19_5pmov {aR aS : Addr} {b n b2 n2 : Int} (hA : HN 5 b n) (hB : HN 5 b2 n2) (i1 : IntV aR aS 5 b n) (i2 : IntV aR aS 5 b2 n2) (h0 : 0 ≤ n) (h1 : n2 < 0) (h2 : 127 < n - n2) : HeldV aR aS 19 5 b b2 ((if n - n2 < (-128) then (-128) else if 127 < n - n2 then 127 else n - n2) % 256) := by
  obtain ⟨a1, a2, a3, a4, a5⟩ := hA
  obtain ⟨c1, c2, c3, c4, c5⟩ := hB
  refine held_of i1 i2 (fun f hf => ?_) (run_h19_5pmov _ _ _ aR aS) rfl (agEq ?_)
  · simp only [L_h19_5pmov, List.mem_cons, List.not_mem_nil, or_false] at hf
    rcases hf with rfl | rfl | rfl
    · exact ⟨rfl, cmp_lss_t (by simp (disch := omega) only [IE.ev, rd_14, wrap_i64] <;> omega)⟩
    · exact ⟨rfl, cmp_gtr_t (by simp (disch := omega) only [IE.ev, rd_0, rd_10, and_u64_8, ev_subu, wrap_u64] <;> omega)⟩
    · exact ⟨rfl, cmp_lss_f (by simp (disch := omega) only [IE.ev, rd_0, rd_4, rd_10, and_u64_8, ev_subu, or_u64_8, wrap_i64, wrap_u64] <;> omega)⟩
  · show (127 : Int) = _
    rw [if_neg (by omega), if_pos (by omega)]
    omega
def L_h19_5mpin : List CF := [⟨.lss, (.var 14), (.lit 0), false⟩, ⟨.gtr, (.bin .and .u64 (.bin .sub .u64 (.var 0) (.var 10)) (.lit 255)), (.lit 127), true⟩, ⟨.lss, (.var 4), (.cv .i64 (.bin .or .u64 (.bin .and .u64 (.bin .sub .u64 (.var 0) (.var 10)) (.lit 255)) (.lit 18446744073709551360))), false⟩]
theorem run_h19_5mpin (W : Nat → Nat) (C : Nat → Nat × Nat) (ρ : Nat → Int) (aR aS : Addr) : runE W C ρ aR aS L_h19_5mpin [] (UN 5) [(101, [.v (.int .i64 19), ag0 5, ag1 5], .agg [.v (.int .i64 5), .sym (.int .u64 (.bin .and .u64 (.bin .sub .u64 (.var 0) (.var 10)) (.lit 255)))])] := by unfold runE; kernel_rfl
theorem h19_5mpin {aR aS : Addr} {b n b2 n2 : Int} (hA : HN 5 b n) (hB : HN 5 b2 n2) (i1 : IntV aR aS 5 b n) (i2 : IntV aR aS 5 b2 n2) (h0 : n < 0) (h1 : 0 ≤ n2) (h2 : (-128) ≤ n - n2) : HeldV aR aS 19 5 b b2 ((if n - n2 < (-128) then (-128) else if 127 < n - n2 then 127 else n - n2) % 256) := by
  obtain ⟨a1, a2, a3, a4, a5⟩ := hA
  obtain ⟨c1, c2, c3, c4, c5⟩ := hB
  refine held_of i1 i2 (fun f hf => ?_) (run_h19_5mpin _ _ _ aR aS) rfl (agEq ?_)
  · simp only [L_h19_5mpin, List.mem_cons, List.not_mem_nil, or_false] at hf
    rcases hf with rfl | rfl | rfl
    · exact ⟨rfl, cmp_lss_f (by simp (disch := omega) only [IE.ev, rd_14, wrap_i64] <;> omega)⟩
    · exact ⟨rfl, cmp_gtr_t (by simp (disch := omega) only [IE.ev, rd_0, rd_10, and_u64_8, ev_subu, wrap_u64] <;> omega)⟩
    · exact ⟨rfl, cmp_lss_f (by simp (disch := omega) only [IE.ev, rd_0, rd_4, rd_10, and_u64_8, ev_subu, or_u64_8, wrap_i64, wrap_u64] <;> omega)⟩
  · show IE.ev (rd b n 0 5 b2 n2 0 5) (.bin .and .u64 (.bin .sub .u64 (.var 0) (.var 10)) (.lit 255)) = _
    rw [if_neg (by omega), if_neg (by omega)]
    simp (disch := omega) only [IE.ev, rd_0, rd_10, and_u64_8, ev_subu, wrap_u64] <;> omega
def L_h19_5mpun : List CF := [⟨.lss, (.var 14), (.lit 0), false⟩, ⟨.gtr, (.bin .and .u64 (.bin .sub .u64 (.var 0) (.var 10)) (.lit 255)), (.lit 127), false⟩, ⟨.lss, (.var 4), (.cv .i64 (.bin .and .u64 (.bin .sub .u64 (.var 0) (.var 10)) (.lit 255))), true⟩]
theorem run_h19_5mpun (W : Nat → Nat) (C : Nat → Nat × Nat) (ρ : Nat → Int) (aR aS : Addr) : runE W C ρ aR aS L_h19_5mpun [] (UN 5) [(101, [.v (.int .i64 19), ag0 5, ag1 5], .v (.agg #[.int .i64 5, .int .u64 128]))] := by unfold runE; kernel_rfl
theorem h19_5mpun {aR aS : Addr} {b n b2 n2 : Int} (hA : HN 5 b n) (hB : HN 5 b2 n2) (i1 : IntV aR aS 5 b n) (i2 : IntV aR aS 5 b2 n2) (h0 : n < 0) (h1 : 0 ≤ n2) (h2 : n - n2 < (-128)) : HeldV aR aS 19 5 b b2 ((if n - n2 < (-128) then (-128) else if 127 < n - n2 then 127 else n - n2) % 256) := by
  obtain ⟨a1, a2, a3, a4, a5⟩ := hA
  obtain ⟨c1, c2, c3, c4, c5⟩ := hB
  refine held_of i1 i2 (fun f hf => ?_) (run_h19_5mpun _ _ _ aR aS) rfl (agEq ?_)
  · simp only [L_h19_5mpun, List.mem_cons, List.not_mem_nil, or_false] at hf
    rcases hf with rfl | rfl | rfl
    · exact ⟨rfl, cmp_lss_f (by simp (disch := omega) only [IE.ev, rd_14, wrap_i64] <;> omega)⟩
    · exact ⟨rfl, cmp_gtr_f (by simp (disch := omega) only [IE.ev, rd_0, rd_10, and_u64_8, ev_subu, wrap_u64] <;> omega)⟩
    · exact ⟨rfl, cmp_lss_t (by simp (disch := omega) only [IE.ev, rd_0, rd_4, rd_10, and_u64_8, ev_subu, wrap_i64, wrap_u64] <;> omega)⟩
  · show (128 : Int) = _
    rw [if_pos (by omega)]
    omega
def L_h19_6ppp : List CF := [⟨.lss, (.var 14), (.lit 0), false⟩, ⟨.gtr, (.bin .and .u64 (.bin .sub .u64 (.var 0) (.var 10)) (.lit 65535)), (.lit 32767), false⟩, ⟨.lss, (.var 4), (.cv .i64 (.bin .and .u64 (.bin .sub .u64 (.var 0) (.var 10)) (.lit 65535))), false⟩]
theorem run_h19_6ppp (W : Nat → Nat) (C : Nat → Nat × Nat) (ρ : Nat → Int) (aR aS : Addr) : runE W C ρ aR aS L_h19_6ppp [] (UN 6) [(101, [.v (.int .i64 19), ag0 6, ag1 6], .agg [.v (.int .i64 6), .sym (.int .u64 (.bin .and .u64 (.bin .sub .u64 (.var 0) (.var 10)) (.lit 65535)))])] := by unfold runE; kernel_rfl
theorem h19_6ppp {aR aS : Addr} {b n b2 n2 : Int} (hA : HN 6 b n) (hB : HN 6 b2 n2) (i1 : IntV aR aS 6 b n) (i2 : IntV aR aS 6 b2 n2) (h0 : 0 ≤ n) (h1 : 0 ≤ n2) (h2 : 0 ≤ n - n2) : HeldV aR aS 19 6 b b2 ((if n - n2 < (-32768) then (-32768) else if 32767 < n - n2 then 32767 else n - n2) % 65536) := by
  obtain ⟨a1, a2, a3, a4, a5⟩ := hA
  obtain ⟨c1, c2, c3, c4, c5⟩ := hB
  refine held_of i1 i2 (fun f hf => ?_) (run_h19_6ppp _ _ _ aR aS) rfl (agEq ?_)
  · simp only [L_h19_6ppp, List.mem_cons, List.not_mem_nil, or_false] at hf
    rcases hf with rfl | rfl | rfl
    · exact ⟨rfl, cmp_lss_f (by simp (disch := omega) only [IE.ev, rd_14, wrap_i64] <;> omega)⟩
    · exact ⟨rfl, cmp_gtr_f (by simp (disch := omega) only [IE.ev, rd_0, rd_10, and_u64_16, ev_subu, wrap_u64] <;> omega)⟩
    · exact ⟨rfl, cmp_lss_f (by simp (disch := omega) only [IE.ev, rd_0, rd_4, rd_10, and_u64_16, ev_subu, wrap_i64, wrap_u64] <;> omega)⟩
  · show IE.ev (rd b n 0 6 b2 n2 0 6) (.bin .and .u64 (.bin .sub .u64 (.var 0) (.var 10)) (.lit 65535)) = _
    rw [if_neg (by omega), if_neg (by omega)]
    simp (disch := omega) only [IE.ev, rd_0, rd_10, and_u64_16, ev_subu, wrap_u64] <;> omega
def L_h19_6ppm : List CF := [⟨.lss, (.var 14), (.lit 0), false⟩, ⟨.gtr, (.bin .and .u64 (.bin .sub .u64 (.var 0) (.var 10)) (.lit 65535)), (.lit 32767), true⟩, ⟨.lss, (.var 4), (.cv .i64 (.bin .or .u64 (.bin .and .u64 (.bin .sub .u64 (.var 0) (.var 10)) (.lit 65535)) (.lit 18446744073709486080))), false⟩]
theorem run_h19_6ppm (W : Nat → Nat) (C : Nat → Nat × Nat) (ρ : Nat → Int) (aR aS : Addr) : runE W C ρ aR aS L_h19_6ppm [] (UN 6) [(101, [.v (.int .i64 19), ag0 6, ag1 6], .agg [.v (.int .i64 6), .sym (.int .u64 (.bin .and .u64 (.bin .sub .u64 (.var 0) (.var 10)) (.lit 65535)))])] := by unfold runE; kernel_rfl
theorem h19_6ppm {aR aS : Addr} {b n b2 n2 : Int} (hA : HN 6 b n) (hB : HN 6 b2 n2) (i1 : IntV aR aS 6 b n) (i2 : IntV aR aS 6 b2 n2) (h0 : 0 ≤ n) (h1 : 0 ≤ n2) (h2 : n - n2 < 0) : HeldV aR aS 19 6 b b2 ((if n - n2 < (-32768) then (-32768) else if 32767 < n - n2 then 32767 else n - n2) % 65536) := by
  obtain ⟨a1, a2, a3, a4, a5⟩ := hA
  obtain ⟨c1, c2, c3, c4, c5⟩ := hB
  refine held_of i1 i2 (fun f hf => ?_) (run_h19_6ppm _ _ _ aR aS) rfl (agEq ?_)
  · simp only [L_h19_6ppm, List.mem_cons, List.not_mem_nil, or_false] at hf
    rcases hf with rfl | rfl | rfl
    · exact ⟨rfl, cmp_lss_f (by simp (disch := omega) only [IE.ev, rd_14, wrap_i64] <;> omega)⟩
    · exact ⟨rfl, cmp_gtr_t (by simp (disch := omega) only [IE.ev, rd_0, rd_10, and_u64_16, ev_subu, wrap_u64] <;> omega)⟩
    · exact ⟨rfl, cmp_lss_f (by simp (disch := omega) only [IE.ev, rd_0, rd_4, rd_10, and_u64_16, ev_subu, or_u64_16, wrap_i64, wrap_u64] <;> omega)⟩
  · show IE.ev (rd b n 0 6 b2 n2 0 6) (.bin .and .u64 (.bin .sub .u64 (.var 0) (.var 10)) (.lit 65535)) = _
    rw [if_neg (by omega), if_neg (by omega)]
    simp (disch := omega) only [IE.ev, rd_0, rd_10, and_u64_16, ev_subu, wrap_u64] <;> omega
def L_h19_6mmp : List CF := [⟨.lss, (.var 14), (.lit 0), true⟩, ⟨.gtr, (.bin .and .u64 (.bin .sub .u64 (.var 0) (.var 10)) (.lit 65535)), (.lit 32767), false⟩, ⟨.lss, (.var 4), (.cv .i64 (.bin .and .u64 (.bin .sub .u64 (.var 0) (.var 10)) (.lit 65535))), true⟩]
theorem run_h19_6mmp (W : Nat → Nat) (C : Nat → Nat × Nat) (ρ : Nat → Int) (aR aS : Addr) : runE W C ρ aR aS L_h19_6mmp [] (UN 6) [(101, [.v (.int .i64 19), ag0 6, ag1 6], .agg [.v (.int .i64 6), .sym (.int .u64 (.bin .and .u64 (.bin .sub .u64 (.var 0) (.var 10)) (.lit 65535)))])] := by unfold runE; kernel_rfl
theorem h19_6mmp {aR aS : Addr} {b n b2 n2 : Int} (hA : HN 6 b n) (hB : HN 6 b2 n2) (i1 : IntV aR aS 6 b n) (i2 : IntV aR aS 6 b2 n2) (h0 : n < 0) (h1 : n2 < 0) (h2 : 0 ≤ n - n2) : HeldV aR aS 19 6 b b2 ((if n - n2 < (-32768) then (-32768) else if 32767 < n - n2 then 32767 else n - n2) % 65536) := by
  obtain ⟨a1, a2, a3, a4, a5⟩ := hA
  obtain ⟨c1, c2, c3, c4, c5⟩ := hB
  refine held_of i1 i2 (fun f hf => ?_) (run_h19_6mmp _ _ _ aR aS) rfl (agEq ?_)
  · simp only [L_h19_6mmp, List.mem_cons, List.not_mem_nil, or_false] at hf
    rcases hf with rfl | rfl | rfl
    · exact ⟨rfl, cmp_lss_t (by simp (disch := omega) only [IE.ev, rd_14, wrap_i64] <;> omega)⟩
    · exact ⟨rfl, cmp_gtr_f (by simp (disch := omega) only [IE.ev, rd_0, rd_10, and_u64_16, ev_subu, wrap_u64] <;> omega)⟩
    · exact ⟨rfl, cmp_lss_t (by simp (disch := omega) only [IE.ev, rd_0, rd_4, rd_10, and_u64_16, ev_subu, wrap_i64, wrap_u64] <;> omega)⟩
  · show IE.ev (rd b n 0 6 b2 n2 0 6) (.bin .and .u64 (.bin .sub .u64 (.var 0) (.var 10)) (.lit 65535)) = _
    rw [if_neg (by omega), if_neg (by omega)]
    simp (disch := omega) only [IE.ev, rd_0, rd_10, and_u64_16, ev_subu, wrap_u64] <;> omega
def L_h19_6mmm : List CF := [⟨.lss, (.var 14), (.lit 0), true⟩, ⟨.gtr, (.bin .and .u64 (.bin .sub .u64 (.var 0) (.var 10)) (.lit 65535)), (.lit 32767), true⟩, ⟨.lss, (.var 4), (.cv .i64 (.bin .or .u64 (.bin .and .u64 (.bin .sub .u64 (.var 0) (.var 10)) (.lit 65535)) (.lit 18446744073709486080))), true⟩]
theorem run_h19_6mmm (W : Nat → Nat) (C : Nat → Nat × Nat) (ρ : Nat → Int) (aR aS : Addr) : runE W C ρ aR aS L_h19_6mmm [] (UN 6) [(101, [.v (.int .i64 19), ag0 6, ag1 6], .agg [.v (.int .i64 6), .sym (.int .u64 (.bin .and .u64 (.bin .sub .u64 (.var 0) (.var 10)) (.lit 65535)))])] := by unfold runE; kernel_rfl
theorem h19_6mmm {aR aS : Addr} {b n b2 n2 : Int} (hA : HN 6 b n) (hB : HN 6 b2 n2) (i1 : IntV aR aS 6 b n) (i2 : IntV aR aS 6 b2 n2) (h0 : n < 0) (h1 : n2 < 0) (h2 : n - n2 < 0) : HeldV aR aS 19 6 b b2 ((if n - n2 < (-32768) then (-32768) else if 32767 < n - n2 then 32767 else n - n2) % 65536) := by
  obtain ⟨a1, a2, a3, a4, a5⟩ := hA
  obtain ⟨c1, c2, c3, c4, c5⟩ := hB
  refine held_of i1 i2 (fun f hf => ?_) (run_h19_6mmm _ _ _ aR aS) rfl (agEq ?_)
  · simp only [L_h19_6mmm, List.mem_cons, List.not_mem_nil, or_false] at hf
    rcases hf with rfl | rfl | rfl
    · exact ⟨rfl, cmp_lss_t (by simp (disch := omega) only [IE.ev, rd_14, wrap_i64] <;> omega)⟩
    · exact ⟨rfl, cmp_gtr_t (by simp (disch := omega) only [IE.ev, rd_0, rd_10, and_u64_16, ev_subu, wrap_u64] <;> omega)⟩
    · exact ⟨rfl, cmp_lss_t (by simp (disch := omega) only [IE.ev, rd_0, rd_4, rd_10, and_u64_16, ev_subu, or_u64_16, wrap_i64, wrap_u64] <;> omega)⟩
  · show IE.ev (rd b n 0 6 b2 n2 0 6) (.bin .and .u64 (.bin .sub .u64 (.var 0) (.var 10)) (.lit 65535)) = _
    rw [if_neg (by omega), if_neg (by omega)]
    simp (disch := omega) only [IE.ev, rd_0, rd_10, and_u64_16, ev_subu, wrap_u64] <;> omega
def L_h19_6pmin : List CF := [⟨.lss, (.var 14), (.lit 0), true⟩, ⟨.gtr, (.bin .and .u64 (.bin .sub .u64 (.var 0) (.var 10)) (.lit 65535)), (.lit 32767), false⟩, ⟨.lss, (.var 4), (.cv .i64 (.bin .and .u64 (.bin .sub .u64 (.var 0) (.var 10)) (.lit 65535))), true⟩]
theorem run_h19_6pmin (W : Nat → Nat) (C : Nat → Nat × Nat) (ρ : Nat → Int) (aR aS : Addr) : runE W C ρ aR aS L_h19_6pmin [] (UN 6) [(101, [.v (.int .i64 19), ag0 6, ag1 6], .agg [.v (.int .i64 6), .sym (.int .u64 (.bin .and .u64 (.bin .sub .u64 (.var 0) (.var 10)) (.lit 65535)))])] := by unfold runE; kernel_rfl
theorem h19_6pmin {aR aS : Addr} {b n b2 n2 : Int} (hA : HN 6 b n) (hB : HN 6 b2 n2) (i1 : IntV aR aS 6 b n) (i2 : IntV aR aS 6 b2 n2) (h0 : 0 ≤ n) (h1 : n2 < 0) (h2 : n - n2 ≤ 32767) : HeldV aR aS 19 6 b b2 ((if n - n2 < (-32768) then (-32768) else if 32767 < n - n2 then 32767 else n - n2) % 65536) := by
  obtain ⟨a1, a2, a3, a4, a5⟩ := hA
  obtain ⟨c1, c2, c3, c4, c5⟩ := hB
  refine held_of i1 i2 (fun f hf => ?_) (run_h19_6pmin _ _ _ aR aS) rfl (agEq ?_)
  · simp only [L_h19_6pmin, List.mem_cons, List.not_mem_nil, or_false] at hf
    rcases hf with rfl | rfl | rfl
    · exact ⟨rfl, cmp_lss_t (by simp (disch := omega) only [IE.ev, rd_14, wrap_i64] <;> omega)⟩
    · exact ⟨rfl, cmp_gtr_f (by simp (disch := omega) only [IE.ev, rd_0, rd_10, and_u64_16, ev_subu, wrap_u64] <;> omega)⟩
    · exact ⟨rfl, cmp_lss_t (by simp (disch := omega) only [IE.ev, rd_0, rd_4, rd_10, and_u64_16, ev_subu, wrap_i64, wrap_u64] <;> omega)⟩
  · show IE.ev (rd b n 0 6 b2 n2 0 6) (.bin .and .u64 (.bin .sub .u64 (.var 0) (.var 10)) (.lit 65535)) = _
    rw [if_neg (by omega), if_neg (by omega)]
    simp (disch := omega) only [IE.ev, rd_0, rd_10, and_u64_16, ev_subu, wrap_u64] <;> omega
def L_h19_6pmov : List CF := [⟨.lss, (.var 14), (.lit 0), true⟩, ⟨.gtr, (.bin .and .u64 (.bin .sub .u64 (.var 0) (.var 10)) (.lit 65535)), (.lit 32767), true⟩, ⟨.lss, (.var 4), (.cv .i64 (.bin .or .u64 (.bin .and .u64 (.bin .sub .u64 (.var 0) (.var 10)) (.lit 65535)) (.lit 18446744073709486080))), false⟩]
theorem run_h19_6pmov (W : Nat → Nat) (C : Nat → Nat × Nat) (ρ : Nat → Int) (aR aS : Addr) : runE W C ρ aR aS L_h19_6pmov [] (UN 6) [(101, [.v (.int .i64 19), ag0 6, ag1 6], .v (.agg #[.int .i64 6, .int .u64 32767]))] := by unfold runE; kernel_rfl
theorem h19_6pmov {aR aS : Addr} {b n b2 n2 : Int} (hA : HN 6 b n) (hB : HN 6 b2 n2) (i1 : IntV aR aS 6 b n) (i2 : IntV aR aS 6 b2 n2) (h0 : 0 ≤ n) (h1 : n2 < 0) (h2 : 32767 < n - n2) : HeldV aR aS 19 6 b b2 ((if n - n2 < (-32768) then (-32768) else if 32767 < n - n2 then 32767 else n - n2) % 65536) := by
  obtain ⟨a1, a2, a3, a4, a5⟩ := hA
  obtain ⟨c1, c2, c3, c4, c5⟩ := hB
  refine held_of i1 i2 (fun f hf => ?_) (run_h19_6pmov _ _ _ aR aS) rfl (agEq ?_)
  · simp only [L_h19_6pmov, List.mem_cons, List.not_mem_nil, or_false] at hf
    rcases hf with rfl | rfl | rfl
    · exact ⟨rfl, cmp_lss_t (by simp (disch := omega) only [IE.ev, rd_14, wrap_i64] <;> omega)⟩
    · exact ⟨rfl, cmp_gtr_t (by simp (disch := omega) only [IE.ev, rd_0, rd_10, and_u64_16, ev_subu, wrap_u64] <;> omega)⟩
    · exact ⟨rfl, cmp_lss_f (by simp (disch := omega) only [IE.ev, rd_0, rd_4, rd_10, and_u64_16, ev_subu, or_u64_16, wrap_i64, wrap_u64] <;> omega)⟩
  · show (32767 : Int) = _
    rw [if_neg (by omega), if_pos (by omega)]
    omega
def L_h19_6mpin : List CF := [⟨.lss, (.var 14), (.lit 0), false⟩, ⟨.gtr, (.bin .and .u64 (.bin .sub .u64 (.var 0) (.var 10)) (.lit 65535)), (.lit 32767), true⟩, ⟨.lss, (.var 4), (.cv .i64 (.bin .or .u64 (.bin .and .u64 (.bin .sub .u64 (.var 0) (.var 10)) (.lit 65535)) (.lit 18446744073709486080))), false⟩]
theorem run_h19_6mpin (W : Nat → Nat) (C : Nat → Nat × Nat) (ρ : Nat → Int) (aR aS : Addr) : runE W C ρ aR aS L_h19_6mpin [] (UN 6) [(101, [.v (.int .i64 19), ag0 6, ag1 6], .agg [.v (.int .i64 6), .sym (.int .u64 (.bin .and .u64 (.bin .sub .u64 (.var 0) (.var 10)) (.lit 65535)))])] := by unfold runE; kernel_rfl
theorem h19_6mpin {aR aS : Addr} {b n b2 n2 : Int} (hA : HN 6 b n) (hB : HN 6 b2 n2) (i1 : IntV aR aS 6 b n) (i2 : IntV aR aS 6 b2 n2) (h0 : n < 0) (h1 : 0 ≤ n2) (h2 : (-32768) ≤ n - n2) : HeldV aR aS 19 6 b b2 ((if n - n2 < (-32768) then (-32768) else if 32767 < n - n2 then 32767 else n - n2) % 65536) := by
  obtain ⟨a1, a2, a3, a4, a5⟩ := hA
  obtain ⟨c1, c2, c3, c4, c5⟩ := hB
  refine held_of i1 i2 (fun f hf => ?_) (run_h19_6mpin _ _ _ aR aS) rfl (agEq ?_)
  · simp only [L_h19_6mpin, List.mem_cons, List.not_mem_nil, or_false] at hf
    rcases hf with rfl | rfl | rfl
    · exact ⟨rfl, cmp_lss_f (by simp (disch := omega) only [IE.ev, rd_14, wrap_i64] <;> omega)⟩
    · exact ⟨rfl, cmp_gtr_t (by simp (disch := omega) only [IE.ev, rd_0, rd_10, and_u64_16, ev_subu, wrap_u64] <;> omega)⟩
    · exact ⟨rfl, cmp_lss_f (by simp (disch := omega) only [IE.ev, rd_0, rd_4, rd_10, and_u64_16, ev_subu, or_u64_16, wrap_i64, wrap_u64] <;> omega)⟩
  · show IE.ev (rd b n 0 6 b2 n2 0 6) (.bin .and .u64 (.bin .sub .u64 (.var 0) (.var 10)) (.lit 65535)) = _
    rw [if_neg (by omega), if_neg (by omega)]
    simp (disch := omega) only [IE.ev, rd_0, rd_10, and_u64_16, ev_subu, wrap_u64] <;> omega
def L_h19_6mpun : List CF := [⟨.lss, (.var 14), (.lit 0), false⟩, ⟨.gtr, (.bin .and .u64 (.bin .sub .u64 (.var 0) (.var 10)) (.lit 65535)), (.lit 32767), false⟩, ⟨.lss, (.var 4), (.cv .i64 (.bin .and .u64 (.bin .sub .u64 (.var 0) (.var 10)) (.lit 65535))), true⟩]
theorem run_h19_6mpun (W : Nat → Nat) (C : Nat → Nat × Nat) (ρ : Nat → Int) (aR aS : Addr) : runE W C ρ aR aS L_h19_6mpun [] (UN 6) [(101, [.v (.int .i64 19), ag0 6, ag1 6], .v (.agg #[.int .i64 6, .int .u64 32768]))] := by unfold runE; kernel_rfl
theorem h19_6mpun {aR aS : Addr} {b n b2 n2 : Int} (hA : HN 6 b n) (hB : HN 6 b2 n2) (i1 : IntV aR aS 6 b n) (i2 : IntV aR aS 6 b2 n2) (h0 : n < 0) (h1 : 0 ≤ n2) (h2 : n - n2 < (-32768)) : HeldV aR aS 19 6 b b2 ((if n - n2 < (-32768) then (-32768) else if 32767 < n - n2 then 32767 else n - n2) % 65536) := by
  obtain ⟨a1, a2, a3, a4, a5⟩ := hA
  obtain ⟨c1, c2, c3, c4, c5⟩ := hB
  refine held_of i1 i2 (fun f hf => ?_) (run_h19_6mpun _ _ _ aR aS) rfl (agEq ?_)
  · simp only [L_h19_6mpun, List.mem_cons, List.not_mem_nil, or_false] at hf
    rcases hf with rfl | rfl | rfl
    · exact ⟨rfl, cmp_lss_f (by simp (disch := omega) only [IE.ev, rd_14, wrap_i64] <;> omega)⟩
    · exact ⟨rfl, cmp_gtr_f (by simp (disch := omega) only [IE.ev, rd_0, rd_10, and_u64_16, ev_subu, wrap_u64] <;> omega)⟩
    · exact ⟨rfl, cmp_lss_t (by simp (disch := omega) only [IE.ev, rd_0, rd_4, rd_10, and_u64_16, ev_subu, wrap_i64, wrap_u64] <;> omega)⟩
  · show (32768 : Int) = _
    rw [if_pos (by omega)]
    omega
def L_h19_7ppp : List CF := [⟨.lss, (.var 14), (.lit 0), false⟩, ⟨.gtr, (.bin .and .u64 (.bin .sub .u64 (.var 0) (.var 10)) (.lit 4294967295)), (.lit 2147483647), false⟩, ⟨.lss, (.var 4), (.cv .i64 (.bin .and .u64 (.bin .sub .u64 (.var 0) (.var 10)) (.lit 4294967295))), false⟩]
theorem run_h19_7ppp (W : Nat → Nat) (C : Nat → Nat × Nat) (ρ : Nat → Int) (aR aS : Addr) : runE W C ρ aR aS L_h19_7ppp [] (UN 7) [(101, [.v (.int .i64 19), ag0 7, ag1 7], .agg [.v (.int .i64 7), .sym (.int .u64 (.bin .and .u64 (.bin .sub .u64 (.var 0) (.var 10)) (.lit 4294967295)))])] := by unfold runE; kernel_rfl
theorem h19_7ppp {aR aS : Addr} {b n b2 n2 : Int} (hA : HN 7 b n) (hB : HN 7 b2 n2) (i1 : IntV aR aS 7 b n) (i2 : IntV aR aS 7 b2 n2) (h0 : 0 ≤ n) (h1 : 0 ≤ n2) (h2 : 0 ≤ n - n2) : HeldV aR aS 19 7 b b2 ((if n - n2 < (-2147483648) then (-2147483648) else if 2147483647 < n - n2 then 2147483647 else n - n2) % 4294967296) := by
  obtain ⟨a1, a2, a3, a4, a5⟩ := hA
  obtain ⟨c1, c2, c3, c4, c5⟩ := hB
  refine held_of i1 i2 (fun f hf => ?_) (run_h19_7ppp _ _ _ aR aS) rfl (agEq ?_)
  · simp only [L_h19_7ppp, List.mem_cons, List.not_mem_nil, or_false] at hf
    rcases hf with rfl | rfl | rfl
    · exact ⟨rfl, cmp_lss_f (by simp (disch := omega) only [IE.ev, rd_14, wrap_i64] <;> omega)⟩
    · exact ⟨rfl, cmp_gtr_f (by simp (disch := omega) only [IE.ev, rd_0, rd_10, and_u64_32, ev_subu, wrap_u64] <;> omega)⟩
    · exact ⟨rfl, cmp_lss_f (by simp (disch := omega) only [IE.ev, rd_0, rd_4, rd_10, and_u64_32, ev_subu, wrap_i64, wrap_u64] <;> omega)⟩
  · show IE.ev (rd b n 0 7 b2 n2 0 7) (.bin .and .u64 (.bin .sub .u64 (.var 0) (.var 10)) (.lit 4294967295)) = _
    rw [if_neg (by omega), if_neg (by omega)]
    simp (disch := omega) only [IE.ev, rd_0, rd_10, and_u64_32, ev_subu, wrap_u64] <;> omega
def L_h19_7ppm : List CF := [⟨.lss, (.var 14), (.lit 0), false⟩, ⟨.gtr, (.bin .and .u64 (.bin .sub .u64 (.var 0) (.var 10)) (.lit 4294967295)), (.lit 2147483647), true⟩, ⟨.lss, (.var 4), (.cv .i64 (.bin .or .u64 (.bin .and .u64 (.bin .sub .u64 (.var 0) (.var 10)) (.lit 4294967295)) (.lit 18446744069414584320))), false⟩]
theorem run_h19_7ppm (W : Nat → Nat) (C : Nat → Nat × Nat) (ρ : Nat → Int) (aR aS : Addr) : runE W C ρ aR aS L_h19_7ppm [] (UN 7) [(101, [.v (.int .i64 19), ag0 7, ag1 7], .agg [.v (.int .i64 7), .sym (.int .u64 (.bin .and .u64 (.bin .sub .u64 (.var 0) (.var 10)) (.lit 4294967295)))])] := by unfold runE; kernel_rfl
theorem h19_7ppm {aR aS : Addr} {b n b2 n2 : Int} (hA : HN 7 b n) (hB : HN 7 b2 n2) (i1 : IntV aR aS 7 b n) (i2 : IntV aR aS 7 b2 n2) (h0 : 0 ≤ n) (h1 : 0 ≤ n2) (h2 : n - n2 < 0) : HeldV aR aS 19 7 b b2 ((if n - n2 < (-2147483648) then (-2147483648) else if 2147483647 < n - n2 then 2147483647 else n - n2) % 4294967296) := by
  obtain ⟨a1, a2, a3, a4, a5⟩ := hA
  obtain ⟨c1, c2, c3, c4, c5⟩ := hB
  refine held_of i1 i2 (fun f hf => ?_) (run_h19_7ppm _ _ _ aR aS) rfl (agEq ?_)
  · simp only [L_h19_7ppm, List.mem_cons, List.not_mem_nil, or_false] at hf
    rcases hf with rfl | rfl | rfl
    · exact ⟨rfl, cmp_lss_f (by simp (disch := omega) only [IE.ev, rd_14, wrap_i64] <;> omega)⟩
    · exact ⟨rfl, cmp_gtr_t (by simp (disch := omega) only [IE.ev, rd_0, rd_10, and_u64_32, ev_subu, wrap_u64] <;> omega)⟩
    · exact ⟨rfl, cmp_lss_f (by simp (disch := omega) only [IE.ev, rd_0, rd_4, rd_10, and_u64_32, ev_subu, or_u64_32, wrap_i64, wrap_u64] <;> omega)⟩
  · show IE.ev (rd b n 0 7 b2 n2 0 7) (.bin .and .u64 (.bin .sub .u64 (.var 0) (.var 10)) (.lit 4294967295)) = _
    rw [if_neg (by omega), if_neg (by omega)]
    simp (disch := omega) only [IE.ev, rd_0, rd_10, and_u64_32, ev_subu, wrap_u64] <;> omega
def L_h19_7mmp : List CF := [⟨.lss, (.var 14), (.lit 0), true⟩, ⟨.gtr, (.bin .and .u64 (.bin .sub .u64 (.var 0) (.var 10)) (.lit 4294967295)), (.lit 2147483647), false⟩, ⟨.lss, (.var 4), (.cv .i64 (.bin .and .u64 (.bin .sub .u64 (.var 0) (.var 10)) (.lit 4294967295))), true⟩]
theorem run_h19_7mmp (W : Nat → Nat) (C : Nat → Nat × Nat) (ρ : Nat → Int) (aR aS : Addr) : runE W C ρ aR aS L_h19_7mmp [] (UN 7) [(101, [.v (.int .i64 19), ag0 7, ag1 7], .agg [.v (.int .i64 7), .sym (.int .u64 (.bin .and .u64 (.bin .sub .u64 (.var 0) (.var 10)) (.lit 4294967295)))])] := by unfold runE; kernel_rfl
theorem h19_7mmp {aR aS : Addr} {b n b2 n2 : Int} (hA : HN 7 b n) (hB : HN 7 b2 n2) (i1 : IntV aR aS 7 b n) (i2 : IntV aR aS 7 b2 n2) (h0 : n < 0) (h1 : n2 < 0) (h2 : 0 ≤ n - n2) : HeldV aR aS 19 7 b b2 ((if n - n2 < (-2147483648) then (-2147483648) else if 2147483647 < n - n2 then 2147483647 else n - n2) % 4294967296) := by
  obtain ⟨a1, a2, a3, a4, a5⟩ := hA
  obtain ⟨c1, c2, c3, c4, c5⟩ := hB
  refine held_of i1 i2 (fun f hf => ?_) (run_h19_7mmp _ _ _ aR aS) rfl (agEq ?_)
  · simp only [L_h19_7mmp, List.mem_cons, List.not_mem_nil, or_false] at hf
    rcases hf with rfl | rfl | rfl
    · exact ⟨rfl, cmp_lss_t (by simp (disch := omega) only [IE.ev, rd_14, wrap_i64] <;> omega)⟩
    · exact ⟨rfl, cmp_gtr_f (by simp (disch := omega) only [IE.ev, rd_0, rd_10, and_u64_32, ev_subu, wrap_u64] <;> omega)⟩
    · exact ⟨rfl, cmp_lss_t (by simp (disch := omega) only [IE.ev, rd_0, rd_4, rd_10, and_u64_32, ev_subu, wrap_i64, wrap_u64] <;> omega)⟩
  · show IE.ev (rd b n 0 7 b2 n2 0 7) (.bin .and .u64 (.bin .sub .u64 (.var 0) (.var 10)) (.lit 4294967295)) = _
    rw [if_neg (by omega), if_neg (by omega)]
    simp (disch := omega) only [IE.ev, rd_0, rd_10, and_u64_32, ev_subu, wrap_u64] <;> omega
def L_h19_7mmm : List CF := [⟨.lss, (.var 14), (.lit 0), true⟩, ⟨.gtr, (.bin .and .u64 (.bin .sub .u64 (.var 0) (.var 10)) (.lit 4294967295)), (.lit 2147483647), true⟩, ⟨.lss, (.var 4), (.cv .i64 (.bin .or .u64 (.bin .and .u64 (.bin .sub .u64 (.var 0) (.var 10)) (.lit 4294967295)) (.lit 18446744069414584320))), true⟩]
theorem run_h19_7mmm (W : Nat → Nat) (C : Nat → Nat × Nat) (ρ : Nat → Int) (aR aS : Addr) : runE W C ρ aR aS L_h19_7mmm [] (UN 7) [(101, [.v (.int .i64 19), ag0 7, ag1 7], .agg [.v (.int .i64 7), .sym (.int .u64 (.bin .and .u64 (.bin .sub .u64 (.var 0) (.var 10)) (.lit 4294967295)))])] := by unfold runE; kernel_rfl
theorem h19_7mmm {aR aS : Addr} {b n b2 n2 : Int} (hA : HN 7 b n) (hB : HN 7 b2 n2) (i1 : IntV aR aS 7 b n) (i2 : IntV aR aS 7 b2 n2) (h0 : n < 0) (h1 : n2 < 0) (h2 : n - n2 < 0) : HeldV aR aS 19 7 b b2 ((if n - n2 < (-2147483648) then (-2147483648) else if 2147483647 < n - n2 then 2147483647 else n - n2) % 4294967296) := by
  obtain ⟨a1, a2, a3, a4, a5⟩ := hA
  obtain ⟨c1, c2, c3, c4, c5⟩ := hB
  refine held_of i1 i2 (fun f hf => ?_) (run_h19_7mmm _ _ _ aR aS) rfl (agEq ?_)
  · simp only [L_h19_7mmm, List.mem_cons, List.not_mem_nil, or_false] at hf
    rcases hf with rfl | rfl | rfl
    · exact ⟨rfl, cmp_lss_t (by simp (disch := omega) only [IE.ev, rd_14, wrap_i64] <;> omega)⟩
    · exact ⟨rfl, cmp_gtr_t (by simp (disch := omega) only [IE.ev, rd_0, rd_10, and_u64_32, ev_subu, wrap_u64] <;> omega)⟩
    · exact ⟨rfl, cmp_lss_t (by simp (disch := omega) only [IE.ev, rd_0, rd_4, rd_10, and_u64_32, ev_subu, or_u64_32, wrap_i64, wrap_u64] <;> omega)⟩
  · show IE.ev (rd b n 0 7 b2 n2 0 7) (.bin .and .u64 (.bin .sub .u64 (.var 0) (.var 10)) (.lit 4294967295)) = _
    rw [if_neg (by omega), if_neg (by omega)]
    simp (disch := omega) only [IE.ev, rd_0, rd_10, and_u64_32, ev_subu, wrap_u64] <;> omega
def L_h19_7pmin : List CF := [⟨.lss, (.var 14), (.lit 0), true⟩, ⟨.gtr, (.bin .and .u64 (.bin .sub .u64 (.var 0) (.var 10)) (.lit 4294967295)), (.lit 2147483647), false⟩, ⟨.lss, (.var 4), (.cv .i64 (.bin .and .u64 (.bin .sub .u64 (.var 0) (.var 10)) (.lit 4294967295))), true⟩]
theorem run_h19_7pmin (W : Nat → Nat) (C : Nat → Nat × Nat) (ρ : Nat → Int) (aR aS : Addr) : runE W C ρ aR aS L_h19_7pmin [] (UN 7) [(101, [.v (.int .i64 19), ag0 7, ag1 7], .agg [.v (.int .i64 7), .sym (.int .u64 (.bin .and .u64 (.bin .sub .u64 (.var 0) (.var 10)) (.lit 4294967295)))])] := by unfold runE; kernel_rfl
theorem h19_7pmin {aR aS : Addr} {b n b2 n2 : Int} (hA : HN 7 b n) (hB : HN 7 b2 n2) (i1 : IntV aR aS 7 b n) (i2 : IntV aR aS 7 b2 n2) (h0 : 0 ≤ n) (h1 : n2 < 0) (h2 : n - n2 ≤ 2147483647) : HeldV aR aS 19 7 b b2 ((if n - n2 < (-2147483648) then (-2147483648) else if 2147483647 < n - n2 then 2147483647 else n - n2) % 4294967296) := by
  obtain ⟨a1, a2, a3, a4, a5⟩ := hA
  obtain ⟨c1, c2, c3, c4, c5⟩ := hB
  refine held_of i1 i2 (fun f hf => ?_) (run_h19_7pmin _ _ _ aR aS) rfl (agEq ?_)
  · simp only [L_h19_7pmin, List.mem_cons, List.not_mem_nil, or_false] at hf
    rcases hf with rfl | rfl | rfl
    · exact ⟨rfl, cmp_lss_t (by simp (disch := omega) only [IE.ev, rd_14, wrap_i64] <;> omega)⟩
    · exact ⟨rfl, cmp_gtr_f (by simp (disch := omega) only [IE.ev, rd_0, rd_10, and_u64_32, ev_subu, wrap_u64] <;> omega)⟩
    · exact ⟨rfl, cmp_lss_t (by simp (disch := omega) only [IE.ev, rd_0, rd_4, rd_10, and_u64_32, ev_subu, wrap_i64, wrap_u64] <;> omega)⟩
  · show IE.ev (rd b n 0 7 b2 n2 0 7) (.bin .and .u64 (.bin .sub .u64 (.var 0) (.var 10)) (.lit 4294967295)) = _
    rw [if_neg (by omega), if_neg (by omega)]
    simp (disch := omega) only [IE.ev, rd_0, rd_10, and_u64_32, ev_subu, wrap_u64] <;> omega
def L_h19_7pmov : List CF := [⟨.lss, (.var 14), (.lit 0), true⟩, ⟨.gtr, (.bin .and .u64 (.bin .sub .u64 (.var 0) (.var 10)) (.lit 4294967295)), (.lit 2147483647), true⟩, ⟨.lss, (.var 4), (.cv .i64 (.bin .or .u64 (.bin .and .u64 (.bin .sub .u64 (.var 0) (.var 10)) (.lit 4294967295)) (.lit 18446744069414584320))), false⟩]
theorem run_h19_7pmov (W : Nat → Nat) (C : Nat → Nat × Nat) (ρ : Nat → Int) (aR aS : Addr) : runE W C ρ aR aS L_h19_7pmov [] (UN 7) [(101, [.v (.int .i64 19), ag0 7, ag1 7], .v (.agg #[.int .i64 7, .int .u64 2147483647]))] := by unfold runE; kernel_rfl
theorem h19_7pmov {aR aS : Addr} {b n b2 n2 : Int} (hA : HN 7 b n) (hB : HN 7 b2 n2) (i1 : IntV aR aS 7 b n) (i2 : IntV aR aS 7 b2 n2) (h0 : 0 ≤ n) (h1 : n2 < 0) (h2 : 2147483647 < n - n2) : HeldV aR aS 19 7 b b2 ((if n - n2 < (-2147483648) then (-2147483648) else if 2147483647 < n - n2 then 2147483647 else n - n2) % 4294967296) := by
  obtain ⟨a1, a2, a3, a4, a5⟩ := hA
  obtain ⟨c1, c2, c3, c4, c5⟩ := hB
  refine held_of i1 i2 (fun f hf => ?_) (run_h19_7pmov _ _ _ aR aS) rfl (agEq ?_)
  · simp only [L_h19_7pmov, List.mem_cons, List.not_mem_nil, or_false] at hf
    rcases hf with rfl | rfl | rfl
    · exact ⟨rfl, cmp_lss_t (by simp (disch := omega) only [IE.ev, rd_14, wrap_i64] <;> omega)⟩
    · exact ⟨rfl, cmp_gtr_t (by simp (disch := omega) only [IE.ev, rd_0, rd_10, and_u64_32, ev_subu, wrap_u64] <;> omega)⟩
    · exact ⟨rfl, cmp_lss_f (by simp (disch := omega) only [IE.ev, rd_0, rd_4, rd_10, and_u64_32, ev_subu, or_u64_32, wrap_i64, wrap_u64] <;> omega)⟩
  · show (2147483647 : Int) = _
    rw [if_neg (by omega), if_pos (by omega)]
    omega
def L_h19_7mpin : List CF := [⟨.lss, (.var 14), (.lit 0), false⟩, ⟨.gtr, (.bin .and .u64 (.bin .sub .u64 (.var 0) (.var 10)) (.lit 4294967295)), (.lit 2147483647), true⟩, ⟨.lss, (.var 4), (.cv .i64 (.bin .or .u64 (.bin .and .u64 (.bin .sub .u64 (.var 0) (.var 10)) (.lit 4294967295)) (.lit 18446744069414584320))), false⟩]
theorem run_h19_7mpin (W : Nat → Nat) (C : Nat → Nat × Nat) (ρ : Nat → Int) (aR aS : Addr) : runE W C ρ aR aS L_h19_7mpin [] (UN 7) [(101, [.v (.int .i64 19), ag0 7, ag1 7], .agg [.v (.int .i64 7), .sym (.int .u64 (.bin .and .u64 (.bin .sub .u64 (.var 0) (.var 10)) (.lit 4294967295)))])] := by unfold runE; kernel_rfl
theorem h19_7mpin {aR aS : Addr} {b n b2 n2 : Int} (hA : HN 7 b n) (hB : HN 7 b2 n2) (i1 : IntV aR aS 7 b n) (i2 : IntV aR aS 7 b2 n2) (h0 : n < 0) (h1 : 0 ≤ n2) (h2 : (-2147483648) ≤ n - n2) : HeldV aR aS 19 7 b b2 ((if n - n2 < (-2147483648) then (-2147483648) else if 2147483647 < n - n2 then 2147483647 else n - n2) % 4294967296) := by
  obtain ⟨a1, a2, a3, a4, a5⟩ := hA
  obtain ⟨c1, c2, c3, c4, c5⟩ := hB
  refine held_of i1 i2 (fun f hf => ?_) (run_h19_7mpin _ _ _ aR aS) rfl (agEq ?_)
  · simp only [L_h19_7mpin, List.mem_cons, List.not_mem_nil, or_false] at hf
    rcases hf with rfl | rfl | rfl
    · exact ⟨rfl, cmp_lss_f (by simp (disch := omega) only [IE.ev, rd_14, wrap_i64] <;> omega)⟩
    · exact ⟨rfl, cmp_gtr_t (by simp (disch := omega) only [IE.ev, rd_0, rd_10, and_u64_32, ev_subu, wrap_u64] <;> omega)⟩
    · exact ⟨rfl, cmp_lss_f (by simp (disch := omega) only [IE.ev, rd_0, rd_4, rd_10, and_u64_32, ev_subu, or_u64_32, wrap_i64, wrap_u64] <;> omega)⟩
  · show IE.ev (rd b n 0 7 b2 n2 0 7) (.bin .and .u64 (.bin .sub .u64 (.var 0) (.var 10)) (.lit 4294967295)) = _
    rw [if_neg (by omega), if_neg (by omega)]
    simp (disch := omega) only [IE.ev, rd_0, rd_10, and_u64_32, ev_subu, wrap_u64] <;> omega
def L_h19_7mpun : List CF := [⟨.lss, (.var 14), (.lit 0), false⟩, ⟨.gtr, (.bin .and .u64 (.bin .sub .u64 (.var 0) (.var 10)) (.lit 4294967295)), (.lit 2147483647), false⟩, ⟨.lss, (.var 4), (.cv .i64 (.bin .and .u64 (.bin .sub .u64 (.var 0) (.var 10)) (.lit 4294967295))), true⟩]
theorem run_h19_7mpun (W : Nat → Nat) (C : Nat → Nat × Nat) (ρ : Nat → Int) (aR aS : Addr) : runE W C ρ aR aS L_h19_7mpun [] (UN 7) [(101, [.v (.int .i64 19), ag0 7, ag1 7], .v (.agg #[.int .i64 7, .int .u64 2147483648]))] := by unfold runE; kernel_rfl
theorem h19_7mpun {aR aS : Addr} {b n b2 n2 : Int} (hA : HN 7 b n) (hB : HN 7 b2 n2) (i1 : IntV aR aS 7 b n) (i2 : IntV aR aS 7 b2 n2) (h0 : n < 0) (h1 : 0 ≤ n2) (h2 : n - n2 < (-2147483648)) : HeldV aR aS 19 7 b b2 ((if n - n2 < (-2147483648) then (-2147483648) else if 2147483647 < n - n2 then 2147483647 else n - n2) % 4294967296) := by
  obtain ⟨a1, a2, a3, a4, a5⟩ := hA
  obtain ⟨c1, c2, c3, c4, c5⟩ := hB
  refine held_of i1 i2 (fun f hf => ?_) (run_h19_7mpun _ _ _ aR aS) rfl (agEq ?_)
  · simp only [L_h19_7mpun, List.mem_cons, List.not_mem_nil, or_false] at hf
    rcases hf with rfl | rfl | rfl
    · exact ⟨rfl, cmp_lss_f (by simp (disch := omega) only [IE.ev, rd_14, wrap_i64] <;> omega)⟩
    · exact ⟨rfl, cmp_gtr_f (by simp (disch := omega) only [IE.ev, rd_0, rd_10, and_u64_32, ev_subu, wrap_u64] <;> omega)⟩
    · exact ⟨rfl, cmp_lss_t (by simp (disch := omega) only [IE.ev, rd_0, rd_4, rd_10, and_u64_32, ev_subu, wrap_i64, wrap_u64] <;> omega)⟩
  · show (2147483648 : Int) = _
    rw [if_pos (by omega)]
    omega
def L_h19_8ppp : List CF := [⟨.lss, (.var 14), (.lit 0), false⟩, ⟨.gtr, (.bin .and .u64 (.bin .sub .u64 (.var 0) (.var 10)) (.lit 18446744073709551615)), (.lit 9223372036854775807), false⟩, ⟨.lss, (.var 4), (.cv .i64 (.bin .and .u64 (.bin .sub .u64 (.var 0) (.var 10)) (.lit 18446744073709551615))), false⟩]
theorem run_h19_8ppp (W : Nat → Nat) (C : Nat → Nat × Nat) (ρ : Nat → Int) (aR aS : Addr) : runE W C ρ aR aS L_h19_8ppp [] (UN 8) [(101, [.v (.int .i64 19), ag0 8, ag1 8], .agg [.v (.int .i64 8), .sym (.int .u64 (.bin .and .u64 (.bin .sub .u64 (.var 0) (.var 10)) (.lit 18446744073709551615)))])] := by unfold runE; kernel_rfl
theorem h19_8ppp {aR aS : Addr} {b n b2 n2 : Int} (hA : HN 8 b n) (hB : HN 8 b2 n2) (i1 : IntV aR aS 8 b n) (i2 : IntV aR aS 8 b2 n2) (h0 : 0 ≤ n) (h1 : 0 ≤ n2) (h2 : 0 ≤ n - n2) : HeldV aR aS 19 8 b b2 ((if n - n2 < (-9223372036854775808) then (-9223372036854775808) else if 9223372036854775807 < n - n2 then 9223372036854775807 else n - n2) % 18446744073709551616) := by
  obtain ⟨a1, a2, a3, a4, a5⟩ := hA
  obtain ⟨c1, c2, c3, c4, c5⟩ := hB
  refine held_of i1 i2 (fun f hf => ?_) (run_h19_8ppp _ _ _ aR aS) rfl (agEq ?_)
  · simp only [L_h19_8ppp, List.mem_cons, List.not_mem_nil, or_false] at hf
    rcases hf with rfl | rfl | rfl
    · exact ⟨rfl, cmp_lss_f (by simp (disch := omega) only [IE.ev, rd_14, wrap_i64] <;> omega)⟩
    · exact ⟨rfl, cmp_gtr_f (by simp (disch := omega) only [IE.ev, rd_0, rd_10, and_u64_64, ev_subu, wrap_u64] <;> omega)⟩
    · exact ⟨rfl, cmp_lss_f (by simp (disch := omega) only [IE.ev, rd_0, rd_4, rd_10, and_u64_64, ev_subu, wrap_i64, wrap_u64] <;> omega)⟩
  · show IE.ev (rd b n 0 8 b2 n2 0 8) (.bin .and .u64 (.bin .sub .u64 (.var 0) (.var 10)) (.lit 18446744073709551615)) = _
    rw [if_neg (by omega), if_neg (by omega)]
    simp (disch := omega) only [IE.ev, rd_0, rd_10, and_u64_64, ev_subu, wrap_u64] <;> omega
def L_h19_8ppm : List CF := [⟨.lss, (.var 14), (.lit 0), false⟩, ⟨.gtr, (.bin .and .u64 (.bin .sub .u64 (.var 0) (.var 10)) (.lit 18446744073709551615)), (.lit 9223372036854775807), true⟩, ⟨.lss, (.var 4), (.cv .i64 (.bin .or .u64 (.bin .and .u64 (.bin .sub .u64 (.var 0) (.var 10)) (.lit 18446744073709551615)) (.lit 0))), false⟩]
theorem run_h19_8ppm (W : Nat → Nat) (C : Nat → Nat × Nat) (ρ : Nat → Int) (aR aS : Addr) : runE W C ρ aR aS L_h19_8ppm [] (UN 8) [(101, [.v (.int .i64 19), ag0 8, ag1 8], .agg [.v (.int .i64 8), .sym (.int .u64 (.bin .and .u64 (.bin .sub .u64 (.var 0) (.var 10)) (.lit 18446744073709551615)))])] := by unfold runE; kernel_rfl
theorem h19_8ppm {aR aS : Addr} {b n b2 n2 : Int} (hA : HN 8 b n) (hB : HN 8 b2 n2) (i1 : IntV aR aS 8 b n) (i2 : IntV aR aS 8 b2 n2) (h0 : 0 ≤ n) (h1 : 0 ≤ n2) (h2 : n - n2 < 0) : HeldV aR aS 19 8 b b2 ((if n - n2 < (-9223372036854775808) then (-9223372036854775808) else if 9223372036854775807 < n - n2 then 9223372036854775807 else n - n2) % 18446744073709551616) := by
  obtain ⟨a1, a2, a3, a4, a5⟩ := hA
  obtain ⟨c1, c2, c3, c4, c5⟩ := hB
  refine held_of i1 i2 (fun f hf => ?_) (run_h19_8ppm _ _ _ aR aS) rfl (agEq ?_)
  · simp only [L_h19_8ppm, List.mem_cons, List.not_mem_nil, or_false] at hf
    rcases hf with rfl | rfl | rfl
    · exact ⟨rfl, cmp_lss_f (by simp (disch := omega) only [IE.ev, rd_14, wrap_i64] <;> omega)⟩
    · exact ⟨rfl, cmp_gtr_t (by simp (disch := omega) only [IE.ev, rd_0, rd_10, and_u64_64, ev_subu, wrap_u64] <;> omega)⟩
    · exact ⟨rfl, cmp_lss_f (by simp (disch := omega) only [IE.ev, rd_0, rd_4, rd_10, and_u64_64, ev_subu, or_u64_64, wrap_i64, wrap_u64] <;> omega)⟩
  · show IE.ev (rd b n 0 8 b2 n2 0 8) (.bin .and .u64 (.bin .sub .u64 (.var 0) (.var 10)) (.lit 18446744073709551615)) = _
    rw [if_neg (by omega), if_neg (by omega)]
    simp (disch := omega) only [IE.ev, rd_0, rd_10, and_u64_64, ev_subu, wrap_u64] <;> omega
def L_h19_8mmp : List CF := [⟨.lss, (.var 14), (.lit 0), true⟩, ⟨.gtr, (.bin .and .u64 (.bin .sub .u64 (.var 0) (.var 10)) (.lit 18446744073709551615)), (.lit 9223372036854775807), false⟩, ⟨.lss, (.var 4), (.cv .i64 (.bin .and .u64 (.bin .sub .u64 (.var 0) (.var 10)) (.lit 18446744073709551615))), true⟩]
theorem run_h19_8mmp (W : Nat → Nat) (C : Nat → Nat × Nat) (ρ : Nat → Int) (aR aS : Addr) : runE W C ρ aR aS L_h19_8mmp [] (UN 8) [(101, [.v (.int .i64 19), ag0 8, ag1 8], .agg [.v (.int .i64 8), .sym (.int .u64 (.bin .and .u64 (.bin .sub .u64 (.var 0) (.var 10)) (.lit 18446744073709551615)))])] := by unfold runE; kernel_rfl
theorem h19_8mmp {aR aS : Addr} {b n b2 n2 : Int} (hA : HN 8 b n) (hB : HN 8 b2 n2) (i1 : IntV aR aS 8 b n) (i2 : IntV aR aS 8 b2 n2) (h0 : n < 0) (h1 : n2 < 0) (h2 : 0 ≤ n - n2) : HeldV aR aS 19 8 b b2 ((if n - n2 < (-9223372036854775808) then (-9223372036854775808) else if 9223372036854775807 < n - n2 then 9223372036854775807 else n - n2) % 18446744073709551616) := by
  obtain ⟨a1, a2, a3, a4, a5⟩ := hA
  obtain ⟨c1, c2, c3, c4, c5⟩ := hB
  refine held_of i1 i2 (fun f hf => ?_) (run_h19_8mmp _ _ _ aR aS) rfl (agEq ?_)
  · simp only [L_h19_8mmp, List.mem_cons, List.not_mem_nil, or_false] at hf
    rcases hf with rfl | rfl | rfl
    · exact ⟨rfl, cmp_lss_t (by simp (disch := omega) only [IE.ev, rd_14, wrap_i64] <;> omega)⟩
    · exact ⟨rfl, cmp_gtr_f (by simp (disch := omega) only [IE.ev, rd_0, rd_10, and_u64_64, ev_subu, wrap_u64] <;> omega)⟩
    · exact ⟨rfl, cmp_lss_t (by simp (disch := omega) only [IE.ev, rd_0, rd_4, rd_10, and_u64_64, ev_subu, wrap_i64, wrap_u64] <;> omega)⟩
  · show IE.ev (rd b n 0 8 b2 n2 0 8) (.bin .and .u64 (.bin .sub .u64 (.var 0) (.var 10)) (.lit 18446744073709551615)) = _
    rw [if_neg (by omega), if_neg (by omega)]
    simp (disch := omega) only [IE.ev, rd_0, rd_10, and_u64_64, ev_subu, wrap_u64] <;> omega
def L_h19_8mmm : List CF := [⟨.lss, (.var 14), (.lit 0), true⟩, ⟨.gtr, (.bin .and .u64 (.bin .sub .u64 (.var 0) (.var 10)) (.lit 18446744073709551615)), (.lit 9223372036854775807), true⟩, ⟨.lss, (.var 4), (.cv .i64 (.bin .or .u64 (.bin .and .u64 (.bin .sub .u64 (.var 0) (.var 10)) (.lit 18446744073709551615)) (.lit 0))), true⟩]
theorem run_h19_8mmm (W : Nat → Nat) (C : Nat → Nat × Nat) (ρ : Nat → Int) (aR aS : Addr) : runE W C ρ aR aS L_h19_8mmm [] (UN 8) [(101, [.v (.int .i64 19), ag0 8, ag1 8], .agg [.v (.int .i64 8), .sym (.int .u64 (.bin .and .u64 (.bin .sub .u64 (.var 0) (.var 10)) (.lit 18446744073709551615)))])] := by unfold runE; kernel_rfl
theorem h19_8mmm {aR aS : Addr} {b n b2 n2 : Int} (hA : HN 8 b n) (hB : HN 8 b2 n2) (i1 : IntV aR aS 8 b n) (i2 : IntV aR aS 8 b2 n2) (h0 : n < 0) (h1 : n2 < 0) (h2 : n - n2 < 0) : HeldV aR aS 19 8 b b2 ((if n - n2 < (-9223372036854775808) then (-9223372036854775808) else if 9223372036854775807 < n - n2 then 9223372036854775807 else n - n2) % 18446744073709551616) := by
  obtain ⟨a1, a2, a3, a4, a5⟩ := hA
  obtain ⟨c1, c2, c3, c4, c5⟩ := hB
  refine held_of i1 i2 (fun f hf => ?_) (run_h19_8mmm _ _ _ aR aS) rfl (agEq ?_)
  · simp only [L_h19_8mmm, List.mem_cons, List.not_mem_nil, or_false] at hf
    rcases hf with rfl | rfl | rfl
    · exact ⟨rfl, cmp_lss_t (by simp (disch := omega) only [IE.ev, rd_14, wrap_i64] <;> omega)⟩
    · exact ⟨rfl, cmp_gtr_t (by simp (disch := omega) only [IE.ev, rd_0, rd_10, and_u64_64, ev_subu, wrap_u64] <;> omega)⟩
    · exact ⟨rfl, cmp_lss_t (by simp (disch := omega) only [IE.ev, rd_0, rd_4, rd_10, and_u64_64, ev_subu, or_u64_64, wrap_i64, wrap_u64] <;> omega)⟩
  · show IE.ev (rd b n 0 8 b2 n2 0 8) (.bin .and .u64 (.bin .sub .u64 (.var 0) (.var 10)) (.lit 18446744073709551615)) = _
    rw [if_neg (by omega), if_neg (by omega)]
    simp (disch := omega) only [IE.ev, rd_0, rd_10, and_u64_64, ev_subu, wrap_u64] <;> omega
def L_h19_8pmin : List CF := [⟨.lss, (.var 14), (.lit 0), true⟩, ⟨.gtr, (.bin .and .u64 (.bin .sub .u64 (.var 0) (.var 10)) (.lit 18446744073709551615)), (.lit 9223372036854775807), false⟩, ⟨.lss, (.var 4), (.cv .i64 (.bin .and .u64 (.bin .sub .u64 (.var 0) (.var 10)) (.lit 18446744073709551615))), true⟩]
theorem run_h19_8pmin (W : Nat → Nat) (C : Nat → Nat × Nat) (ρ : Nat → Int) (aR aS : Addr) : runE W C ρ aR aS L_h19_8pmin [] (UN 8) [(101, [.v (.int .i64 19), ag0 8, ag1 8], .agg [.v (.int .i64 8), .sym (.int .u64 (.bin .and .u64 (.bin .sub .u64 (.var 0) (.var 10)) (.lit 18446744073709551615)))])] := by unfold runE; kernel_rfl
theorem h19_8pmin {aR aS : Addr} {b n b2 n2 : Int} (hA : HN 8 b n) (hB : HN 8 b2 n2) (i1 : IntV aR aS 8 b n) (i2 : IntV aR aS 8 b2 n2) (h0 : 0 ≤ n) (h1 : n2 < 0) (h2 : n - n2 ≤ 9223372036854775807) : HeldV aR aS 19 8 b b2 ((if n - n2 < (-9223372036854775808) then (-9223372036854775808) else if 9223372036854775807 < n - n2 then 9223372036854775807 else n - n2) % 18446744073709551616) := by
  obtain ⟨a1, a2, a3, a4, a5⟩ := hA
  obtain ⟨c1, c2, c3, c4, c5⟩ := hB
  refine held_of i1 i2 (fun f hf => ?_) (run_h19_8pmin _ _ _ aR aS) rfl (agEq ?_)
  · simp only [L_h19_8pmin, List.mem_cons, List.not_mem_nil, or_false] at hf
    rcases hf with rfl | rfl | rfl
    · exact ⟨rfl, cmp_lss_t (by simp (disch := omega) only [IE.ev, rd_14, wrap_i64] <;> omega)⟩
    · exact ⟨rfl, cmp_gtr_f (by simp (disch := omega) only [IE.ev, rd_0, rd_10, and_u64_64, ev_subu, wrap_u64] <;> omega)⟩
    · exact ⟨rfl, cmp_lss_t (by simp (disch := omega) only [IE.ev, rd_0, rd_4, rd_10, and_u64_64, ev_subu, wrap_i64, wrap_u64] <;> omega)⟩
  · show IE.ev (rd b n 0 8 b2 n2 0 8) (.bin .and .u64 (.bin .sub .u64 (.var 0) (.var 10)) (.lit 18446744073709551615)) = _
    rw [if_neg (by omega), if_neg (by omega)]
    simp (disch := omega) only [IE.ev, rd_0, rd_10, and_u64_64, ev_subu, wrap_u64] <;> omega
def L_h19_8pmov : List CF := [⟨.lss, (.var 14), (.lit 0), true⟩, ⟨.gtr, (.bin .and .u64 (.bin .sub .u64 (.var 0) (.var 10)) (.lit 18446744073709551615)), (.lit 9223372036854775807), true⟩, ⟨.lss, (.var 4), (.cv .i64 (.bin .or .u64 (.bin .and .u64 (.bin .sub .u64 (.var 0) (.var 10)) (.lit 18446744073709551615)) (.lit 0))), false⟩]
theorem run_h19_8pmov (W : Nat → Nat) (C : Nat → Nat × Nat) (ρ : Nat → Int) (aR aS : Addr) : runE W C ρ aR aS L_h19_8pmov [] (UN 8) [(101, [.v (.int .i64 19), ag0 8, ag1 8], .v (.agg #[.int .i64 8, .int .u64 9223372036854775807]))] := by unfold runE; kernel_rfl
theorem h19_8pmov {aR aS : Addr} {b n b2 n2 : Int} (hA : HN 8 b n) (hB : HN 8 b2 n2) (i1 : IntV aR aS 8 b n) (i2 : IntV aR aS 8 b2 n2) (h0 : 0 ≤ n) (h1 : n2 < 0) (h2 : 9223372036854775807 < n - n2) : HeldV aR aS 19 8 b b2 ((if n - n2 < (-9223372036854775808) then (-9223372036854775808) else if 9223372036854775807 < n - n2 then 9223372036854775807 else n - n2) % 18446744073709551616) := by
  obtain ⟨a1, a2, a3, a4, a5⟩ := hA
  obtain ⟨c1, c2, c3, c4, c5⟩ := hB
  refine held_of i1 i2 (fun f hf => ?_) (run_h19_8pmov _ _ _ aR aS) rfl (agEq ?_)
  · simp only [L_h19_8pmov, List.mem_cons, List.not_mem_nil, or_false] at hf
    rcases hf with rfl | rfl | rfl
    · exact ⟨rfl, cmp_lss_t (by simp (disch := omega) only [IE.ev, rd_14, wrap_i64] <;> omega)⟩
    · exact ⟨rfl, cmp_gtr_t (by simp (disch := omega) only [IE.ev, rd_0, rd_10, and_u64_64, ev_subu, wrap_u64] <;> omega)⟩
    · exact ⟨rfl, cmp_lss_f (by simp (disch := omega) only [IE.ev, rd_0, rd_4, rd_10, and_u64_64, ev_subu, or_u64_64, wrap_i64, wrap_u64] <;> omega)⟩
  · show (9223372036854775807 : Int) = _
    rw [if_neg (by omega), if_pos (by omega)]
    omega
def L_h19_8mpin : List CF := [⟨.lss, (.var 14), (.lit 0), false⟩, ⟨.gtr, (.bin .and .u64 (.bin .sub .u64 (.var 0) (.var 10)) (.lit 18446744073709551615)), (.lit 9223372036854775807), true⟩, ⟨.lss, (.var 4), (.cv .i64 (.bin .or .u64 (.bin .and .u64 (.bin .sub .u64 (.var 0) (.var 10)) (.lit 18446744073709551615)) (.lit 0))), false⟩]
theorem run_h19_8mpin (W : Nat → Nat) (C : Nat → Nat × Nat) (ρ : Nat → Int) (aR aS : Addr) : runE W C ρ aR aS L_h19_8mpin [] (UN 8) [(101, [.v (.int .i64 19), ag0 8, ag1 8], .agg [.v (.int .i64 8), .sym (.int .u64 (.bin .and .u64 (.bin .sub .u64 (.var 0) (.var 10)) (.lit 18446744073709551615)))])] := by unfold runE; kernel_rfl
theorem h19_8mpin {aR aS : Addr} {b n b2 n2 : Int} (hA : HN 8 b n) (hB : HN 8 b2 n2) (i1 : IntV aR aS 8 b n) (i2 : IntV aR aS 8 b2 n2) (h0 : n < 0) (h1 : 0 ≤ n2) (h2 : (-9223372036854775808) ≤ n - n2) : HeldV aR aS 19 8 b b2 ((if n - n2 < (-9223372036854775808) then (-9223372036854775808) else if 9223372036854775807 < n - n2 then 9223372036854775807 else n - n2) % 18446744073709551616) := by
  obtain ⟨a1, a2, a3, a4, a5⟩ := hA
  obtain ⟨c1, c2, c3, c4, c5⟩ := hB
  refine held_of i1 i2 (fun f hf => ?_) (run_h19_8mpin _ _ _ aR aS) rfl (agEq ?_)
  · simp only [L_h19_8mpin, List.mem_cons, List.not_mem_nil, or_false] at hf
    rcases hf with rfl | rfl | rfl
    · exact ⟨rfl, cmp_lss_f (by simp (disch := omega) only [IE.ev, rd_14, wrap_i64] <;> omega)⟩
    · exact ⟨rfl, cmp_gtr_t (by simp (disch := omega) only [IE.ev, rd_0, rd_10, and_u64_64, ev_subu, wrap_u64] <;> omega)⟩
    · exact ⟨rfl, cmp_lss_f (by simp (disch := omega) only [IE.ev, rd_0, rd_4, rd_10, and_u64_64, ev_subu, or_u64_64, wrap_i64, wrap_u64] <;> omega)⟩
  · show IE.ev (rd b n 0 8 b2 n2 0 8) (.bin .and .u64 (.bin .sub .u64 (.var 0) (.var 10)) (.lit 18446744073709551615)) = _
    rw [if_neg (by omega), if_neg (by omega)]
    simp (disch := omega) only [IE.ev, rd_0, rd_10, and_u64_64, ev_subu, wrap_u64] <;> omega
def L_h19_8mpun : List CF := [⟨.lss, (.var 14), (.lit 0), false⟩, ⟨.gtr, (.bin .and .u64 (.bin .sub .u64 (.var 0) (.var 10)) (.lit 18446744073709551615)), (.lit 9223372036854775807), false⟩, ⟨.lss, (.var 4), (.cv .i64 (.bin .and .u64 (.bin .sub .u64 (.var 0) (.var 10)) (.lit 18446744073709551615))), true⟩]
theorem run_h19_8mpun (W : Nat → Nat) (C : Nat → Nat × Nat) (ρ : Nat → Int) (aR aS : Addr) : runE W C ρ aR aS L_h19_8mpun [] (UN 8) [(101, [.v (.int .i64 19), ag0 8, ag1 8], .v (.agg #[.int .i64 8, .int .u64 9223372036854775808]))] := by unfold runE; kernel_rfl
theorem h19_8mpun {aR aS : Addr} {b n b2 n2 : Int} (hA : HN 8 b n) (hB : HN 8 b2 n2) (i1 : IntV aR aS 8 b n) (i2 : IntV aR aS 8 b2 n2) (h0 : n < 0) (h1 : 0 ≤ n2) (h2 : n - n2 < (-9223372036854775808)) : HeldV aR aS 19 8 b b2 ((if n - n2 < (-9223372036854775808) then (-9223372036854775808) else if 9223372036854775807 < n - n2 then 9223372036854775807 else n - n2) % 18446744073709551616) := by
  obtain ⟨a1, a2, a3, a4, a5⟩ := hA
  obtain ⟨c1, c2, c3, c4, c5⟩ := hB
  refine held_of i1 i2 (fun f hf => ?_) (run_h19_8mpun _ _ _ aR aS) rfl (agEq ?_)
  · simp only [L_h19_8mpun, List.mem_cons, List.not_mem_nil, or_false] at hf
    rcases hf with rfl | rfl | rfl
    · exact ⟨rfl, cmp_lss_f (by simp (disch := omega) only [IE.ev, rd_14, wrap_i64] <;> omega)⟩
    · exact ⟨rfl, cmp_gtr_f (by simp (disch := omega) only [IE.ev, rd_0, rd_10, and_u64_64, ev_subu, wrap_u64] <;> omega)⟩
    · exact ⟨rfl, cmp_lss_t (by simp (disch := omega) only [IE.ev, rd_0, rd_4, rd_10, and_u64_64, ev_subu, wrap_i64, wrap_u64] <;> omega)⟩
  · show (9223372036854775808 : Int) = _
    rw [if_pos (by omega)]
    omega
theorem held18_1 {aR aS : Addr} {b n b2 n2 : Int} (hA : HN 1 b n) (hB : HN 1 b2 n2) (i1 : IntV aR aS 1 b n) (i2 : IntV aR aS 1 b2 n2) : HeldV aR aS 18 1 b b2 ((if n + n2 < 0 then 0 else if 255 < n + n2 then 255 else n + n2) % 256) := by
  by_cases c0 : n + n2 ≤ 255
  · exact h18_1in hA hB i1 i2 (by omega)
  exact h18_1ov hA hB i1 i2 (by omega)
theorem held18_2 {aR aS : Addr} {b n b2 n2 : Int} (hA : HN 2 b n) (hB : HN 2 b2 n2) (i1 : IntV aR aS 2 b n) (i2 : IntV aR aS 2 b2 n2) : HeldV aR aS 18 2 b b2 ((if n + n2 < 0 then 0 else if 65535 < n + n2 then 65535 else n + n2) % 65536) := by
  by_cases c0 : n + n2 ≤ 65535
  · exact h18_2in hA hB i1 i2 (by omega)
  exact h18_2ov hA hB i1 i2 (by omega)
theorem held18_3 {aR aS : Addr} {b n b2 n2 : Int} (hA : HN 3 b n) (hB : HN 3 b2 n2) (i1 : IntV aR aS 3 b n) (i2 : IntV aR aS 3 b2 n2) : HeldV aR aS 18 3 b b2 ((if n + n2 < 0 then 0 else if 4294967295 < n + n2 then 4294967295 else n + n2) % 4294967296) := by
  by_cases c0 : n + n2 ≤ 4294967295
  · exact h18_3in hA hB i1 i2 (by omega)
  exact h18_3ov hA hB i1 i2 (by omega)
theorem held18_4 {aR aS : Addr} {b n b2 n2 : Int} (hA : HN 4 b n) (hB : HN 4 b2 n2) (i1 : IntV aR aS 4 b n) (i2 : IntV aR aS 4 b2 n2) : HeldV aR aS 18 4 b b2 ((if n + n2 < 0 then 0 else if 18446744073709551615 < n + n2 then 18446744073709551615 else n + n2) % 18446744073709551616) := by
  by_cases c0 : n + n2 ≤ 18446744073709551615
  · exact h18_4in hA hB i1 i2 (by omega)
  exact h18_4ov hA hB i1 i2 (by omega)
theorem held18_5 {aR aS : Addr} {b n b2 n2 : Int} (hA : HN 5 b n) (hB : HN 5 b2 n2) (i1 : IntV aR aS 5 b n) (i2 : IntV aR aS 5 b2 n2) : HeldV aR aS 18 5 b b2 ((if n + n2 < (-128) then (-128) else if 127 < n + n2 then 127 else n + n2) % 256) := by
  by_cases c0 : 0 ≤ n ∧ 0 ≤ n2 ∧ n + n2 ≤ 127
  · exact h18_5ppin hA hB i1 i2 (by omega) (by omega) (by omega)
  by_cases c1 : 0 ≤ n ∧ 0 ≤ n2 ∧ 127 < n + n2
  · exact h18_5ppov hA hB i1 i2 (by omega) (by omega) (by omega)
  by_cases c2 : n < 0 ∧ n2 < 0 ∧ (-128) ≤ n + n2
  · exact h18_5mmin hA hB i1 i2 (by omega) (by omega) (by omega)
  by_cases c3 : n < 0 ∧ n2 < 0 ∧ n + n2 < (-128)
  · exact h18_5mmun hA hB i1 i2 (by omega) (by omega) (by omega)
  by_cases c4 : 0 ≤ n ∧ n2 < 0 ∧ 0 ≤ n + n2
  · exact h18_5pmp hA hB i1 i2 (by omega) (by omega) (by omega)
  by_cases c5 : 0 ≤ n ∧ n2 < 0 ∧ n + n2 < 0
  · exact h18_5pmm hA hB i1 i2 (by omega) (by omega) (by omega)
  by_cases c6 : n < 0 ∧ 0 ≤ n2 ∧ 0 ≤ n + n2
  · exact h18_5mpp hA hB i1 i2 (by omega) (by omega) (by omega)
  exact h18_5mpm hA hB i1 i2 (by omega) (by omega) (by omega)
theorem held18_6 {aR aS : Addr} {b n b2 n2 : Int} (hA : HN 6 b n) (hB : HN 6 b2 n2) (i1 : IntV aR aS 6 b n) (i2 : IntV aR aS 6 b2 n2) : HeldV aR aS 18 6 b b2 ((if n + n2 < (-32768) then (-32768) else if 32767 < n + n2 then 32767 else n + n2) % 65536) := by
  by_cases c0 : 0 ≤ n ∧ 0 ≤ n2 ∧ n + n2 ≤ 32767
  · exact h18_6ppin hA hB i1 i2 (by omega) (by omega) (by omega)
  by_cases c1 : 0 ≤ n ∧ 0 ≤ n2 ∧ 32767 < n + n2
  · exact h18_6ppov hA hB i1 i2 (by omega) (by omega) (by omega)
  by_cases c2 : n < 0 ∧ n2 < 0 ∧ (-32768) ≤ n + n2
  · exact h18_6mmin hA hB i1 i2 (by omega) (by omega) (by omega)
  by_cases c3 : n < 0 ∧ n2 < 0 ∧ n + n2 < (-32768)
  · exact h18_6mmun hA hB i1 i2 (by omega) (by omega) (by omega)
  by_cases c4 : 0 ≤ n ∧ n2 < 0 ∧ 0 ≤ n + n2
  · exact h18_6pmp hA hB i1 i2 (by omega) (by omega) (by omega)
  by_cases c5 : 0 ≤ n ∧ n2 < 0 ∧ n + n2 < 0
  · exact h18_6pmm hA hB i1 i2 (by omega) (by omega) (by omega)
  by_cases c6 : n < 0 ∧ 0 ≤ n2 ∧ 0 ≤ n + n2
  · exact h18_6mpp hA hB i1 i2 (by omega) (by omega) (by omega)
  exact h18_6mpm hA hB i1 i2 (by omega) (by omega) (by omega)
theorem held18_7 {aR aS : Addr} {b n b2 n2 : Int} (hA : HN 7 b n) (hB : HN 7 b2 n2) (i1 : IntV aR aS 7 b n) (i2 : IntV aR aS 7 b2 n2) : HeldV aR aS 18 7 b b2 ((if n + n2 < (-2147483648) then (-2147483648) else if 2147483647 < n + n2 then 2147483647 else n + n2) % 4294967296) := by
  by_cases c0 : 0 ≤ n ∧ 0 ≤ n2 ∧ n + n2 ≤ 2147483647
  · exact h18_7ppin hA hB i1 i2 (by omega) (by omega) (by omega)
  by_cases c1 : 0 ≤ n ∧ 0 ≤ n2 ∧ 2147483647 < n + n2
  · exact h18_7ppov hA hB i1 i2 (by omega) (by omega) (by omega)
  by_cases c2 : n < 0 ∧ n2 < 0 ∧ (-2147483648) ≤ n + n2
  · exact h18_7mmin hA hB i1 i2 (by omega) (by omega) (by omega)
  by_cases c3 : n < 0 ∧ n2 < 0 ∧ n + n2 < (-2147483648)
  · exact h18_7mmun hA hB i1 i2 (by omega) (by omega) (by omega)
  by_cases c4 : 0 ≤ n ∧ n2 < 0 ∧ 0 ≤ n + n2
  · exact h18_7pmp hA hB i1 i2 (by omega) (by omega) (by omega)
  by_cases c5 : 0 ≤ n ∧ n2 < 0 ∧ n + n2 < 0
  · exact h18_7pmm hA hB i1 i2 (by omega) (by omega) (by omega)
  by_cases c6 : n < 0 ∧ 0 ≤ n2 ∧ 0 ≤ n + n2
  · exact h18_7mpp hA hB i1 i2 (by omega) (by omega) (by omega)
  exact h18_7mpm hA hB i1 i2 (by omega) (by omega) (by omega)
theorem held18_8 {aR aS : Addr} {b n b2 n2 : Int} (hA : HN 8 b n) (hB : HN 8 b2 n2) (i1 : IntV aR aS 8 b n) (i2 : IntV aR aS 8 b2 n2) : HeldV aR aS 18 8 b b2 ((if n + n2 < (-9223372036854775808) then (-9223372036854775808) else if 9223372036854775807 < n + n2 then 9223372036854775807 else n + n2) % 18446744073709551616) := by
  by_cases c0 : 0 ≤ n ∧ 0 ≤ n2 ∧ n + n2 ≤ 9223372036854775807
  · exact h18_8ppin hA hB i1 i2 (by omega) (by omega) (by omega)
  by_cases c1 : 0 ≤ n ∧ 0 ≤ n2 ∧ 9223372036854775807 < n + n2
  · exact h18_8ppov hA hB i1 i2 (by omega) (by omega) (by omega)
  by_cases c2 : n < 0 ∧ n2 < 0 ∧ (-9223372036854775808) ≤ n + n2
  · exact h18_8mmin hA hB i1 i2 (by omega) (by omega) (by omega)
  by_cases c3 : n < 0 ∧ n2 < 0 ∧ n + n2 < (-9223372036854775808)
  · exact h18_8mmun hA hB i1 i2 (by omega) (by omega) (by omega)
  by_cases c4 : 0 ≤ n ∧ n2 < 0 ∧ 0 ≤ n + n2
  · exact h18_8pmp hA hB i1 i2 (by omega) (by omega) (by omega)
  by_cases c5 : 0 ≤ n ∧ n2 < 0 ∧ n + n2 < 0
  · exact h18_8pmm hA hB i1 i2 (by omega) (by omega) (by omega)
  by_cases c6 : n < 0 ∧ 0 ≤ n2 ∧ 0 ≤ n + n2
  · exact h18_8mpp hA hB i1 i2 (by omega) (by omega) (by omega)
  exact h18_8mpm hA hB i1 i2 (by omega) (by omega) (by omega)
theorem held19_1 {aR aS : Addr} {b n b2 n2 : Int} (hA : HN 1 b n) (hB : HN 1 b2 n2) (i1 : IntV aR aS 1 b n) (i2 : IntV aR aS 1 b2 n2) : HeldV aR aS 19 1 b b2 ((if n - n2 < 0 then 0 else if 255 < n - n2 then 255 else n - n2) % 256) := by
  by_cases c0 : 0 ≤ n - n2
  · exact h19_1in hA hB i1 i2 (by omega)
  exact h19_1un hA hB i1 i2 (by omega)
theorem held19_2 {aR aS : Addr} {b n b2 n2 : Int} (hA : HN 2 b n) (hB : HN 2 b2 n2) (i1 : IntV aR aS 2 b n) (i2 : IntV aR aS 2 b2 n2) : HeldV aR aS 19 2 b b2 ((if n - n2 < 0 then 0 else if 65535 < n - n2 then 65535 else n - n2) % 65536) := by
  by_cases c0 : 0 ≤ n - n2
  · exact h19_2in hA hB i1 i2 (by omega)
  exact h19_2un hA hB i1 i2 (by omega)
theorem held19_3 {aR aS : Addr} {b n b2 n2 : Int} (hA : HN 3 b n) (hB : HN 3 b2 n2) (i1 : IntV aR aS 3 b n) (i2 : IntV aR aS 3 b2 n2) : HeldV aR aS 19 3 b b2 ((if n - n2 < 0 then 0 else if 4294967295 < n - n2 then 4294967295 else n - n2) % 4294967296) := by
  by_cases c0 : 0 ≤ n - n2
  · exact h19_3in hA hB i1 i2 (by omega)
  exact h19_3un hA hB i1 i2 (by omega)
theorem held19_4 {aR aS : Addr} {b n b2 n2 : Int} (hA : HN 4 b n) (hB : HN 4 b2 n2) (i1 : IntV aR aS 4 b n) (i2 : IntV aR aS 4 b2 n2) : HeldV aR aS 19 4 b b2 ((if n - n2 < 0 then 0 else if 18446744073709551615 < n - n2 then 18446744073709551615 else n - n2) % 18446744073709551616) := by
  by_cases c0 : 0 ≤ n - n2
  · exact h19_4in hA hB i1 i2 (by omega)
  exact h19_4un hA hB i1 i2 (by omega)
theorem held19_5 {aR aS : Addr} {b n b2 n2 : Int} (hA : HN 5 b n) (hB : HN 5 b2 n2) (i1 : IntV aR aS 5 b n) (i2 : IntV aR aS 5 b2 n2) : HeldV aR aS 19 5 b b2 ((if n - n2 < (-128) then (-128) else if 127 < n - n2 then 127 else n - n2) % 256) := by
  by_cases c0 : 0 ≤ n ∧ 0 ≤ n2 ∧ 0 ≤ n - n2
  · exact h19_5ppp hA hB i1 i2 (by omega) (by omega) (by omega)
  by_cases c1 : 0 ≤ n ∧ 0 ≤ n2 ∧ n - n2 < 0
  · exact h19_5ppm hA hB i1 i2 (by omega) (by omega) (by omega)
  by_cases c2 : n < 0 ∧ n2 < 0 ∧ 0 ≤ n - n2
  · exact h19_5mmp hA hB i1 i2 (by omega) (by omega) (by omega)
  by_cases c3 : n < 0 ∧ n2 < 0 ∧ n - n2 < 0
  · exact h19_5mmm hA hB i1 i2 (by omega) (by omega) (by omega)
  by_cases c4 : 0 ≤ n ∧ n2 < 0 ∧ n - n2 ≤ 127
  · exact h19_5pmin hA hB i1 i2 (by omega) (by omega) (by omega)
  by_cases c5 : 0 ≤ n ∧ n2 < 0 ∧ 127 < n - n2
  · exact h19_5pmov hA hB i1 i2 (by omega) (by omega) (by omega)
  by_cases c6 : n < 0 ∧ 0 ≤ n2 ∧ (-128) ≤ n - n2
  · exact h19_5mpin hA hB i1 i2 (by omega) (by omega) (by omega)
  exact h19_5mpun hA hB i1 i2 (by omega) (by omega) (by omega)
theorem held19_6 {aR aS : Addr} {b n b2 n2 : Int} (hA : HN 6 b n) (hB : HN 6 b2 n2) (i1 : IntV aR aS 6 b n) (i2 : IntV aR aS 6 b2 n2) : HeldV aR aS 19 6 b b2 ((if n - n2 < (-32768) then (-32768) else if 32767 < n - n2 then 32767 else n - n2) % 65536) := by
  by_cases c0 : 0 ≤ n ∧ 0 ≤ n2 ∧ 0 ≤ n - n2
  · exact h19_6ppp hA hB i1 i2 (by omega) (by omega) (by omega)
  by_cases c1 : 0 ≤ n ∧ 0 ≤ n2 ∧ n - n2 < 0
  · exact h19_6ppm hA hB i1 i2 (by omega) (by omega) (by omega)
  by_cases c2 : n < 0 ∧ n2 < 0 ∧ 0 ≤ n - n2
  · exact h19_6mmp hA hB i1 i2 (by omega) (by omega) (by omega)
  by_cases c3 : n < 0 ∧ n2 < 0 ∧ n - n2 < 0
  · exact h19_6mmm hA hB i1 i2 (by omega) (by omega) (by omega)
  by_cases c4 : 0 ≤ n ∧ n2 < 0 ∧ n - n2 ≤ 32767
  · exact h19_6pmin hA hB i1 i2 (by omega) (by omega) (by omega)
  by_cases c5 : 0 ≤ n ∧ n2 < 0 ∧ 32767 < n - n2
  · exact h19_6pmov hA hB i1 i2 (by omega) (by omega) (by omega)
  by_cases c6 : n < 0 ∧ 0 ≤ n2 ∧ (-32768) ≤ n - n2
  · exact h19_6mpin hA hB i1 i2 (by omega) (by omega) (by omega)
  exact h19_6mpun hA hB i1 i2 (by omega) (by omega) (by omega)
theorem held19_7 {aR aS : Addr} {b n b2 n2 : Int} (hA : HN 7 b n) (hB : HN 7 b2 n2) (i1 : IntV aR aS 7 b n) (i2 : IntV aR aS 7 b2 n2) : HeldV aR aS 19 7 b b2 ((if n - n2 < (-2147483648) then (-2147483648) else if 2147483647 < n - n2 then 2147483647 else n - n2) % 4294967296) := by
  by_cases c0 : 0 ≤ n ∧ 0 ≤ n2 ∧ 0 ≤ n - n2
  · exact h19_7ppp hA hB i1 i2 (by omega) (by omega) (by omega)
  by_cases c1 : 0 ≤ n ∧ 0 ≤ n2 ∧ n - n2 < 0
  · exact h19_7ppm hA hB i1 i2 (by omega) (by omega) (by omega)
  by_cases c2 : n < 0 ∧ n2 < 0 ∧ 0 ≤ n - n2
  · exact h19_7mmp hA hB i1 i2 (by omega) (by omega) (by omega)
  by_cases c3 : n < 0 ∧ n2 < 0 ∧ n - n2 < 0
  · exact h19_7mmm hA hB i1 i2 (by omega) (by omega) (by omega)
  by_cases c4 : 0 ≤ n ∧ n2 < 0 ∧ n - n2 ≤ 2147483647
  · exact h19_7pmin hA hB i1 i2 (by omega) (by omega) (by omega)
  by_cases c5 : 0 ≤ n ∧ n2 < 0 ∧ 2147483647 < n - n2
  · exact h19_7pmov hA hB i1 i2 (by omega) (by omega) (by omega)
  by_cases c6 : n < 0 ∧ 0 ≤ n2 ∧ (-2147483648) ≤ n - n2
  · exact h19_7mpin hA hB i1 i2 (by omega) (by omega) (by omega)
  exact h19_7mpun hA hB i1 i2 (by omega) (by omega) (by omega)
theorem held19_8 {aR aS : Addr} {b n b2 n2 : Int} (hA : HN 8 b n) (hB : HN 8 b2 n2) (i1 : IntV aR aS 8 b n) (i2 : IntV aR aS 8 b2 n2) : HeldV aR aS 19 8 b b2 ((if n - n2 < (-9223372036854775808) then (-9223372036854775808) else if 9223372036854775807 < n - n2 then 9223372036854775807 else n - n2) % 18446744073709551616) := by
  by_cases c0 : 0 ≤ n ∧ 0 ≤ n2 ∧ 0 ≤ n - n2
  · exact h19_8ppp hA hB i1 i2 (by omega) (by omega) (by omega)
  by_cases c1 : 0 ≤ n ∧ 0 ≤ n2 ∧ n - n2 < 0
  · exact h19_8ppm hA hB i1 i2 (by omega) (by omega) (by omega)
  by_cases c2 : n < 0 ∧ n2 < 0 ∧ 0 ≤ n - n2
  · exact h19_8mmp hA hB i1 i2 (by omega) (by omega) (by omega)
  by_cases c3 : n < 0 ∧ n2 < 0 ∧ n - n2 < 0
  · exact h19_8mmm hA hB i1 i2 (by omega) (by omega) (by omega)
  by_cases c4 : 0 ≤ n ∧ n2 < 0 ∧ n - n2 ≤ 9223372036854775807
  · exact h19_8pmin hA hB i1 i2 (by omega) (by omega) (by omega)
  by_cases c5 : 0 ≤ n ∧ n2 < 0 ∧ 9223372036854775807 < n - n2
  · exact h19_8pmov hA hB i1 i2 (by omega) (by omega) (by omega)
  by_cases c6 : n < 0 ∧ 0 ≤ n2 ∧ (-9223372036854775808) ≤ n - n2
  · exact h19_8mpin hA hB i1 i2 (by omega) (by omega) (by omega)
  exact h19_8mpun hA hB i1 i2 (by omega) (by omega) (by omega)
end
end Go.Proofs.YtonkcpmefnddaaaGreatDoor
