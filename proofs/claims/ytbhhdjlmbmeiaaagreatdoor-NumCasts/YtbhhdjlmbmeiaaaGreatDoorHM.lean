import Derived.Test.YtbhhdjlmbmeiaaaGreatDoorHB
namespace Go.Proofs.YtbhhdjlmbmeiaaaGreatDoor
noncomputable section
open Go Go.RX
open Go.RowKit (Below)
set_option maxRecDepth 1000000
set_option maxHeartbeats 4000000
def rd (b n e ka b2 n2 e2 kb : Int) : Nat → Int := fun i => match i with
  | 0 => b
  | 2 => hiI n
  | 3 => loI n
  | 4 => IntKind.wrap .i64 n
  | 6 => e
  | 7 => ka
  | 10 => b2
  | 12 => hiI n2
  | 13 => loI n2
  | 14 => IntKind.wrap .i64 n2
  | 16 => e2
  | 17 => kb
  | _ => 0
theorem rd_0 (b n e ka b2 n2 e2 kb : Int) : rd b n e ka b2 n2 e2 kb 0 = b := rfl
theorem rd_2 (b n e ka b2 n2 e2 kb : Int) : rd b n e ka b2 n2 e2 kb 2 = hiI n := rfl
theorem rd_3 (b n e ka b2 n2 e2 kb : Int) : rd b n e ka b2 n2 e2 kb 3 = loI n := rfl
theorem rd_4 (b n e ka b2 n2 e2 kb : Int) : rd b n e ka b2 n2 e2 kb 4 = IntKind.wrap .i64 n := rfl
theorem rd_10 (b n e ka b2 n2 e2 kb : Int) : rd b n e ka b2 n2 e2 kb 10 = b2 := rfl
theorem rd_12 (b n e ka b2 n2 e2 kb : Int) : rd b n e ka b2 n2 e2 kb 12 = hiI n2 := rfl
theorem rd_13 (b n e ka b2 n2 e2 kb : Int) : rd b n e ka b2 n2 e2 kb 13 = loI n2 := rfl
theorem rd_14 (b n e ka b2 n2 e2 kb : Int) : rd b n e ka b2 n2 e2 kb 14 = IntKind.wrap .i64 n2 := rfl
def wG (F G : Nat) : Nat → Nat := fun i => match i with
  | 0 => F
  | _ => G
def ag1 (vk : Int) : SVal := .agg [.v (.int .i64 vk), .sym (.int .u64 (.var 10))]
def UV (vk : Int) : List SEntry := [(21, [ag0 vk], .v (.int .i64 0)), (21, [ag1 vk], .v (.int .i64 0))]
def UM (vk : Int) : List SEntry := UV vk ++ [(30, [ag0 vk], .agg [.sym (.int .u64 (.var 2)), .sym (.int .u64 (.var 3))]), (30, [ag1 vk], .agg [.sym (.int .u64 (.var 12)), .sym (.int .u64 (.var 13))]),
  (38, [ag0 vk], .sym (.int .i64 (.var 4))), (38, [ag1 vk], .sym (.int .i64 (.var 14)))]
def UG : List SEntry := UV 9 ++ [(36, [.sym (.int .u64 (.var 0))], .sym (.nm 0)), (36, [.sym (.int .u64 (.var 10))], .sym (.nm 1))]
section
variable {W : Nat → Nat} {C : Nat → Nat × Nat} {b n e ka b2 n2 e2 kb vk : Int} {L : List CF} {T : List XE} {aR aS : Addr}
theorem UV_ok (h1 : Chk aR aS vk b 0) (h2 : Chk aR aS vk b2 0) : ∀ x ∈ UV vk, @SOk (E W C (rd b n e ka b2 n2 e2 kb) L T) Tryz.prog (glob aR aS) x := fun x hx => by
  simp only [UV, List.mem_cons, List.not_mem_nil, or_false] at hx
  rcases hx with rfl | rfl
  · exact sokE (vs := [agV vk b]) (v := .int .i64 0) rfl rfl rfl rfl fun w hG => (h1 w hG).2
  · exact sokE (vs := [agV vk b2]) (v := .int .i64 0) rfl rfl rfl rfl fun w hG => (h2 w hG).2
theorem UM_ok (h1 : Chk aR aS vk b 0) (h2 : Chk aR aS vk b2 0) (i1 : IntV aR aS vk b n) (i2 : IntV aR aS vk b2 n2) : ∀ x ∈ UM vk, @SOk (E W C (rd b n e ka b2 n2 e2 kb) L T) Tryz.prog (glob aR aS) x := fun x hx => by
  rcases List.mem_append.1 hx with h | h
  · exact UV_ok h1 h2 x h
  simp only [List.mem_cons, List.not_mem_nil, or_false] at h
  rcases h with rfl | rfl | rfl | rfl
  · exact sokE (vs := [agV vk b]) (v := .agg #[.int .u64 (hiI n), .int .u64 (loI n)]) rfl rfl rfl rfl fun w hG => (i1 w hG).1
  · exact sokE (vs := [agV vk b2]) (v := .agg #[.int .u64 (hiI n2), .int .u64 (loI n2)]) rfl rfl rfl rfl fun w hG => (i2 w hG).1
  · exact sokE (vs := [agV vk b]) (v := .int .i64 (IntKind.wrap .i64 n)) rfl rfl rfl rfl fun w hG => (i1 w hG).2
  · exact sokE (vs := [agV vk b2]) (v := .int .i64 (IntKind.wrap .i64 n2)) rfl rfl rfl rfl fun w hG => (i2 w hG).2
theorem UG_ok {F G : Nat} (hF : HF F) (hG' : HF G) (h1 : Chk aR aS 9 F 0) (h2 : Chk aR aS 9 G 0) : ∀ x ∈ UG, @SOk (E (wG F G) C (rd F n e ka G n2 e2 kb) L T) Tryz.prog (glob aR aS) x := fun x hx => by
  rcases List.mem_append.1 hx with h | h
  · exact UV_ok h1 h2 x h
  simp only [List.mem_cons, List.not_mem_nil, or_false] at h
  rcases h with rfl | rfl
  · exact sokE (vs := [.int .u64 F]) (v := .float .f32 F) rfl rfl rfl rfl fun w hG => float_calls aR aS F hF.1 hF.2.1 hF.2.2 w hG
  · exact sokE (vs := [.int .u64 G]) (v := .float .f32 G) rfl rfl rfl rfl fun w hG => float_calls aR aS G hG'.1 hG'.2.1 hG'.2.2 w hG
end
def CmpV (aR aS : Addr) (ka a kb b : Int) : Prop := ∃ m : Int, ∀ w, (glob aR aS).holds w → Calls Tryz.prog 9 #[agV ka a, agV kb b] w (Ret (.tuple #[.int .i64 m, .int .i64 0]) w) ∧ Calls Tryz.prog 13 #[agV ka a, agV kb b] w (Ret (.int .i64 m) w)
def L_upplt : List CF := [⟨.neq, .var 2, .var 12, false⟩, ⟨.lss, .var 3, .var 13, true⟩, ⟨.lss, .var 0, .var 10, true⟩]
theorem ok_upplt (b n b2 n2 : Int) (r0 : 0 ≤ n ∧ b = n) (r1 : n < 18446744073709551616) (r2 : 0 ≤ n2 ∧ b2 = n2) (r3 : n2 < 18446744073709551616) (s0 : 0 ≤ n) (s1 : 0 ≤ n2) (o : n < n2) (vk : Int) : ∀ f ∈ L_upplt, f.ok (rd b n 0 vk b2 n2 0 vk) := by
  intro f hf
  simp only [L_upplt, List.mem_cons, List.not_mem_nil, or_false] at hf
  rcases hf with rfl | rfl | rfl
  · exact ⟨rfl, cmp_neq_f (by simp (disch := omega) only [IE.ev, rd_2, rd_12, hiI_pos] <;> omega)⟩
  · exact ⟨rfl, cmp_lss_t (by simp (disch := omega) only [IE.ev, rd_3, rd_13, loI] <;> omega)⟩
  · exact ⟨rfl, cmp_lss_t (by simp (disch := omega) only [IE.ev, rd_0, rd_10] <;> omega)⟩
theorem run_upplt_0 : RunE L_upplt [] (UM 0) [(9, [ag0 0, ag1 0], .v (.tuple #[.int .i64 (-1), .int .i64 0])), (13, [ag0 0, ag1 0], .v (.int .i64 (-1)))] := fun W C ρ aR aS => by unfold runE; kernel_rfl
theorem run_upplt_1 : RunE L_upplt [] (UM 1) [(9, [ag0 1, ag1 1], .v (.tuple #[.int .i64 (-1), .int .i64 0])), (13, [ag0 1, ag1 1], .v (.int .i64 (-1)))] := fun W C ρ aR aS => by unfold runE; kernel_rfl
theorem run_upplt_2 : RunE L_upplt [] (UM 2) [(9, [ag0 2, ag1 2], .v (.tuple #[.int .i64 (-1), .int .i64 0])), (13, [ag0 2, ag1 2], .v (.int .i64 (-1)))] := fun W C ρ aR aS => by unfold runE; kernel_rfl
theorem run_upplt_3 : RunE L_upplt [] (UM 3) [(9, [ag0 3, ag1 3], .v (.tuple #[.int .i64 (-1), .int .i64 0])), (13, [ag0 3, ag1 3], .v (.int .i64 (-1)))] := fun W C ρ aR aS => by unfold runE; kernel_rfl
theorem run_upplt_4 : RunE L_upplt [] (UM 4) [(9, [ag0 4, ag1 4], .v (.tuple #[.int .i64 (-1), .int .i64 0])), (13, [ag0 4, ag1 4], .v (.int .i64 (-1)))] := fun W C ρ aR aS => by unfold runE; kernel_rfl
def L_uppeq : List CF := [⟨.neq, .var 2, .var 12, false⟩, ⟨.lss, .var 3, .var 13, false⟩, ⟨.neq, .var 12, .var 2, false⟩, ⟨.lss, .var 13, .var 3, false⟩, ⟨.lss, .var 0, .var 10, false⟩, ⟨.lss, .var 10, .var 0, false⟩]
theorem ok_uppeq (b n b2 n2 : Int) (r0 : 0 ≤ n ∧ b = n) (_ : n < 18446744073709551616) (r2 : 0 ≤ n2 ∧ b2 = n2) (_ : n2 < 18446744073709551616) (s0 : 0 ≤ n) (s1 : 0 ≤ n2) (o : n = n2) (vk : Int) : ∀ f ∈ L_uppeq, f.ok (rd b n 0 vk b2 n2 0 vk) := by
  intro f hf
  simp only [L_uppeq, List.mem_cons, List.not_mem_nil, or_false] at hf
  rcases hf with rfl | rfl | rfl | rfl | rfl | rfl
  · exact ⟨rfl, cmp_neq_f (by simp (disch := omega) only [IE.ev, rd_2, rd_12, hiI_pos] <;> omega)⟩
  · exact ⟨rfl, cmp_lss_f (by simp (disch := omega) only [IE.ev, rd_3, rd_13, loI] <;> omega)⟩
  · exact ⟨rfl, cmp_neq_f (by simp (disch := omega) only [IE.ev, rd_2, rd_12, hiI_pos] <;> omega)⟩
  · exact ⟨rfl, cmp_lss_f (by simp (disch := omega) only [IE.ev, rd_3, rd_13, loI] <;> omega)⟩
  · exact ⟨rfl, cmp_lss_f (by simp (disch := omega) only [IE.ev, rd_0, rd_10] <;> omega)⟩
  · exact ⟨rfl, cmp_lss_f (by simp (disch := omega) only [IE.ev, rd_0, rd_10] <;> omega)⟩
theorem run_uppeq_0 : RunE L_uppeq [] (UM 0) [(9, [ag0 0, ag1 0], .v (.tuple #[.int .i64 0, .int .i64 0])), (13, [ag0 0, ag1 0], .v (.int .i64 0))] := fun W C ρ aR aS => by unfold runE; kernel_rfl
theorem run_uppeq_1 : RunE L_uppeq [] (UM 1) [(9, [ag0 1, ag1 1], .v (.tuple #[.int .i64 0, .int .i64 0])), (13, [ag0 1, ag1 1], .v (.int .i64 0))] := fun W C ρ aR aS => by unfold runE; kernel_rfl
theorem run_uppeq_2 : RunE L_uppeq [] (UM 2) [(9, [ag0 2, ag1 2], .v (.tuple #[.int .i64 0, .int .i64 0])), (13, [ag0 2, ag1 2], .v (.int .i64 0))] := fun W C ρ aR aS => by unfold runE; kernel_rfl
theorem run_uppeq_3 : RunE L_uppeq [] (UM 3) [(9, [ag0 3, ag1 3], .v (.tuple #[.int .i64 0, .int .i64 0])), (13, [ag0 3, ag1 3], .v (.int .i64 0))] := fun W C ρ aR aS => by unfold runE; kernel_rfl
theorem run_uppeq_4 : RunE L_uppeq [] (UM 4) [(9, [ag0 4, ag1 4], .v (.tuple #[.int .i64 0, .int .i64 0])), (13, [ag0 4, ag1 4], .v (.int .i64 0))] := fun W C ρ aR aS => by unfold runE; kernel_rfl
def L_uppgt : List CF := [⟨.neq, .var 2, .var 12, false⟩, ⟨.lss, .var 3, .var 13, false⟩, ⟨.neq, .var 12, .var 2, false⟩, ⟨.lss, .var 13, .var 3, true⟩, ⟨.lss, .var 0, .var 10, false⟩, ⟨.lss, .var 10, .var 0, true⟩]
theorem ok_uppgt (b n b2 n2 : Int) (r0 : 0 ≤ n ∧ b = n) (r1 : n < 18446744073709551616) (r2 : 0 ≤ n2 ∧ b2 = n2) (r3 : n2 < 18446744073709551616) (s0 : 0 ≤ n) (s1 : 0 ≤ n2) (o : n2 < n) (vk : Int) : ∀ f ∈ L_uppgt, f.ok (rd b n 0 vk b2 n2 0 vk) := by
  intro f hf
  simp only [L_uppgt, List.mem_cons, List.not_mem_nil, or_false] at hf
  rcases hf with rfl | rfl | rfl | rfl | rfl | rfl
  · exact ⟨rfl, cmp_neq_f (by simp (disch := omega) only [IE.ev, rd_2, rd_12, hiI_pos] <;> omega)⟩
  · exact ⟨rfl, cmp_lss_f (by simp (disch := omega) only [IE.ev, rd_3, rd_13, loI] <;> omega)⟩
  · exact ⟨rfl, cmp_neq_f (by simp (disch := omega) only [IE.ev, rd_2, rd_12, hiI_pos] <;> omega)⟩
  · exact ⟨rfl, cmp_lss_t (by simp (disch := omega) only [IE.ev, rd_3, rd_13, loI] <;> omega)⟩
  · exact ⟨rfl, cmp_lss_f (by simp (disch := omega) only [IE.ev, rd_0, rd_10] <;> omega)⟩
  · exact ⟨rfl, cmp_lss_t (by simp (disch := omega) only [IE.ev, rd_0, rd_10] <;> omega)⟩
theorem run_uppgt_0 : RunE L_uppgt [] (UM 0) [(9, [ag0 0, ag1 0], .v (.tuple #[.int .i64 1, .int .i64 0])), (13, [ag0 0, ag1 0], .v (.int .i64 1))] := fun W C ρ aR aS => by unfold runE; kernel_rfl
theorem run_uppgt_1 : RunE L_uppgt [] (UM 1) [(9, [ag0 1, ag1 1], .v (.tuple #[.int .i64 1, .int .i64 0])), (13, [ag0 1, ag1 1], .v (.int .i64 1))] := fun W C ρ aR aS => by unfold runE; kernel_rfl
theorem run_uppgt_2 : RunE L_uppgt [] (UM 2) [(9, [ag0 2, ag1 2], .v (.tuple #[.int .i64 1, .int .i64 0])), (13, [ag0 2, ag1 2], .v (.int .i64 1))] := fun W C ρ aR aS => by unfold runE; kernel_rfl
theorem run_uppgt_3 : RunE L_uppgt [] (UM 3) [(9, [ag0 3, ag1 3], .v (.tuple #[.int .i64 1, .int .i64 0])), (13, [ag0 3, ag1 3], .v (.int .i64 1))] := fun W C ρ aR aS => by unfold runE; kernel_rfl
theorem run_uppgt_4 : RunE L_uppgt [] (UM 4) [(9, [ag0 4, ag1 4], .v (.tuple #[.int .i64 1, .int .i64 0])), (13, [ag0 4, ag1 4], .v (.int .i64 1))] := fun W C ρ aR aS => by unfold runE; kernel_rfl
def L_spplt : List CF := [⟨.neq, .var 2, .var 12, false⟩, ⟨.lss, .var 3, .var 13, true⟩, ⟨.lss, .var 4, .var 14, true⟩]
theorem ok_spplt (b n b2 n2 : Int) (r0 : -9223372036854775808 ≤ n) (r1 : n < 9223372036854775808) (r2 : -9223372036854775808 ≤ n2) (r3 : n2 < 9223372036854775808) (s0 : 0 ≤ n) (s1 : 0 ≤ n2) (o : n < n2) (vk : Int) : ∀ f ∈ L_spplt, f.ok (rd b n 0 vk b2 n2 0 vk) := by
  intro f hf
  simp only [L_spplt, List.mem_cons, List.not_mem_nil, or_false] at hf
  rcases hf with rfl | rfl | rfl
  · exact ⟨rfl, cmp_neq_f (by simp (disch := omega) only [IE.ev, rd_2, rd_12, hiI_pos] <;> omega)⟩
  · exact ⟨rfl, cmp_lss_t (by simp (disch := omega) only [IE.ev, rd_3, rd_13, loI] <;> omega)⟩
  · exact ⟨rfl, cmp_lss_t (by simp (disch := omega) only [IE.ev, rd_4, rd_14, wrap_i64] <;> omega)⟩
theorem run_spplt_5 : RunE L_spplt [] (UM 5) [(9, [ag0 5, ag1 5], .v (.tuple #[.int .i64 (-1), .int .i64 0])), (13, [ag0 5, ag1 5], .v (.int .i64 (-1)))] := fun W C ρ aR aS => by unfold runE; kernel_rfl
theorem run_spplt_6 : RunE L_spplt [] (UM 6) [(9, [ag0 6, ag1 6], .v (.tuple #[.int .i64 (-1), .int .i64 0])), (13, [ag0 6, ag1 6], .v (.int .i64 (-1)))] := fun W C ρ aR aS => by unfold runE; kernel_rfl
theorem run_spplt_7 : RunE L_spplt [] (UM 7) [(9, [ag0 7, ag1 7], .v (.tuple #[.int .i64 (-1), .int .i64 0])), (13, [ag0 7, ag1 7], .v (.int .i64 (-1)))] := fun W C ρ aR aS => by unfold runE; kernel_rfl
theorem run_spplt_8 : RunE L_spplt [] (UM 8) [(9, [ag0 8, ag1 8], .v (.tuple #[.int .i64 (-1), .int .i64 0])), (13, [ag0 8, ag1 8], .v (.int .i64 (-1)))] := fun W C ρ aR aS => by unfold runE; kernel_rfl
def L_sppeq : List CF := [⟨.neq, .var 2, .var 12, false⟩, ⟨.lss, .var 3, .var 13, false⟩, ⟨.neq, .var 12, .var 2, false⟩, ⟨.lss, .var 13, .var 3, false⟩, ⟨.lss, .var 4, .var 14, false⟩, ⟨.lss, .var 14, .var 4, false⟩]
theorem ok_sppeq (b n b2 n2 : Int) (_ : -9223372036854775808 ≤ n) (_ : n < 9223372036854775808) (_ : -9223372036854775808 ≤ n2) (_ : n2 < 9223372036854775808) (s0 : 0 ≤ n) (s1 : 0 ≤ n2) (o : n = n2) (vk : Int) : ∀ f ∈ L_sppeq, f.ok (rd b n 0 vk b2 n2 0 vk) := by
  intro f hf
  simp only [L_sppeq, List.mem_cons, List.not_mem_nil, or_false] at hf
  rcases hf with rfl | rfl | rfl | rfl | rfl | rfl
  · exact ⟨rfl, cmp_neq_f (by simp (disch := omega) only [IE.ev, rd_2, rd_12, hiI_pos] <;> omega)⟩
  · exact ⟨rfl, cmp_lss_f (by simp (disch := omega) only [IE.ev, rd_3, rd_13, loI] <;> omega)⟩
  · exact ⟨rfl, cmp_neq_f (by simp (disch := omega) only [IE.ev, rd_2, rd_12, hiI_pos] <;> omega)⟩
  · exact ⟨rfl, cmp_lss_f (by simp (disch := omega) only [IE.ev, rd_3, rd_13, loI] <;> omega)⟩
  · exact ⟨rfl, cmp_lss_f (by simp (disch := omega) only [IE.ev, rd_4, rd_14, wrap_i64] <;> omega)⟩
  · exact ⟨rfl, cmp_lss_f (by simp (disch := omega) only [IE.ev, rd_4, rd_14, wrap_i64] <;> omega)⟩
theorem run_sppeq_5 : RunE L_sppeq [] (UM 5) [(9, [ag0 5, ag1 5], .v (.tuple #[.int .i64 0, .int .i64 0])), (13, [ag0 5, ag1 5], .v (.int .i64 0))] := fun W C ρ aR aS => by unfold runE; kernel_rfl
theorem run_sppeq_6 : RunE L_sppeq [] (UM 6) [(9, [ag0 6, ag1 6], .v (.tuple #[.int .i64 0, .int .i64 0])), (13, [ag0 6, ag1 6], .v (.int .i64 0))] := fun W C ρ aR aS => by unfold runE; kernel_rfl
theorem run_sppeq_7 : RunE L_sppeq [] (UM 7) [(9, [ag0 7, ag1 7], .v (.tuple #[.int .i64 0, .int .i64 0])), (13, [ag0 7, ag1 7], .v (.int .i64 0))] := fun W C ρ aR aS => by unfold runE; kernel_rfl
theorem run_sppeq_8 : RunE L_sppeq [] (UM 8) [(9, [ag0 8, ag1 8], .v (.tuple #[.int .i64 0, .int .i64 0])), (13, [ag0 8, ag1 8], .v (.int .i64 0))] := fun W C ρ aR aS => by unfold runE; kernel_rfl
def L_sppgt : List CF := [⟨.neq, .var 2, .var 12, false⟩, ⟨.lss, .var 3, .var 13, false⟩, ⟨.neq, .var 12, .var 2, false⟩, ⟨.lss, .var 13, .var 3, true⟩, ⟨.lss, .var 4, .var 14, false⟩, ⟨.lss, .var 14, .var 4, true⟩]
theorem ok_sppgt (b n b2 n2 : Int) (r0 : -9223372036854775808 ≤ n) (r1 : n < 9223372036854775808) (r2 : -9223372036854775808 ≤ n2) (r3 : n2 < 9223372036854775808) (s0 : 0 ≤ n) (s1 : 0 ≤ n2) (o : n2 < n) (vk : Int) : ∀ f ∈ L_sppgt, f.ok (rd b n 0 vk b2 n2 0 vk) := by
  intro f hf
  simp only [L_sppgt, List.mem_cons, List.not_mem_nil, or_false] at hf
  rcases hf with rfl | rfl | rfl | rfl | rfl | rfl
  · exact ⟨rfl, cmp_neq_f (by simp (disch := omega) only [IE.ev, rd_2, rd_12, hiI_pos] <;> omega)⟩
  · exact ⟨rfl, cmp_lss_f (by simp (disch := omega) only [IE.ev, rd_3, rd_13, loI] <;> omega)⟩
  · exact ⟨rfl, cmp_neq_f (by simp (disch := omega) only [IE.ev, rd_2, rd_12, hiI_pos] <;> omega)⟩
  · exact ⟨rfl, cmp_lss_t (by simp (disch := omega) only [IE.ev, rd_3, rd_13, loI] <;> omega)⟩
  · exact ⟨rfl, cmp_lss_f (by simp (disch := omega) only [IE.ev, rd_4, rd_14, wrap_i64] <;> omega)⟩
  · exact ⟨rfl, cmp_lss_t (by simp (disch := omega) only [IE.ev, rd_4, rd_14, wrap_i64] <;> omega)⟩
theorem run_sppgt_5 : RunE L_sppgt [] (UM 5) [(9, [ag0 5, ag1 5], .v (.tuple #[.int .i64 1, .int .i64 0])), (13, [ag0 5, ag1 5], .v (.int .i64 1))] := fun W C ρ aR aS => by unfold runE; kernel_rfl
theorem run_sppgt_6 : RunE L_sppgt [] (UM 6) [(9, [ag0 6, ag1 6], .v (.tuple #[.int .i64 1, .int .i64 0])), (13, [ag0 6, ag1 6], .v (.int .i64 1))] := fun W C ρ aR aS => by unfold runE; kernel_rfl
theorem run_sppgt_7 : RunE L_sppgt [] (UM 7) [(9, [ag0 7, ag1 7], .v (.tuple #[.int .i64 1, .int .i64 0])), (13, [ag0 7, ag1 7], .v (.int .i64 1))] := fun W C ρ aR aS => by unfold runE; kernel_rfl
theorem run_sppgt_8 : RunE L_sppgt [] (UM 8) [(9, [ag0 8, ag1 8], .v (.tuple #[.int .i64 1, .int .i64 0])), (13, [ag0 8, ag1 8], .v (.int .i64 1))] := fun W C ρ aR aS => by unfold runE; kernel_rfl
def L_smmlt : List CF := [⟨.neq, .var 2, .var 12, false⟩, ⟨.lss, .var 3, .var 13, true⟩, ⟨.lss, .var 4, .var 14, true⟩]
theorem ok_smmlt (b n b2 n2 : Int) (r0 : -9223372036854775808 ≤ n) (r1 : n < 9223372036854775808) (r2 : -9223372036854775808 ≤ n2) (r3 : n2 < 9223372036854775808) (s0 : n < 0) (s1 : n2 < 0) (o : n < n2) (vk : Int) : ∀ f ∈ L_smmlt, f.ok (rd b n 0 vk b2 n2 0 vk) := by
  intro f hf
  simp only [L_smmlt, List.mem_cons, List.not_mem_nil, or_false] at hf
  rcases hf with rfl | rfl | rfl
  · exact ⟨rfl, cmp_neq_f (by simp (disch := omega) only [IE.ev, rd_2, rd_12, hiI_neg] <;> omega)⟩
  · exact ⟨rfl, cmp_lss_t (by simp (disch := omega) only [IE.ev, rd_3, rd_13, loI] <;> omega)⟩
  · exact ⟨rfl, cmp_lss_t (by simp (disch := omega) only [IE.ev, rd_4, rd_14, wrap_i64] <;> omega)⟩
theorem run_smmlt_5 : RunE L_smmlt [] (UM 5) [(9, [ag0 5, ag1 5], .v (.tuple #[.int .i64 (-1), .int .i64 0])), (13, [ag0 5, ag1 5], .v (.int .i64 (-1)))] := fun W C ρ aR aS => by unfold runE; kernel_rfl
theorem run_smmlt_6 : RunE L_smmlt [] (UM 6) [(9, [ag0 6, ag1 6], .v (.tuple #[.int .i64 (-1), .int .i64 0])), (13, [ag0 6, ag1 6], .v (.int .i64 (-1)))] := fun W C ρ aR aS => by unfold runE; kernel_rfl
theorem run_smmlt_7 : RunE L_smmlt [] (UM 7) [(9, [ag0 7, ag1 7], .v (.tuple #[.int .i64 (-1), .int .i64 0])), (13, [ag0 7, ag1 7], .v (.int .i64 (-1)))] := fun W C ρ aR aS => by unfold runE; kernel_rfl
theorem run_smmlt_8 : RunE L_smmlt [] (UM 8) [(9, [ag0 8, ag1 8], .v (.tuple #[.int .i64 (-1), .int .i64 0])), (13, [ag0 8, ag1 8], .v (.int .i64 (-1)))] := fun W C ρ aR aS => by unfold runE; kernel_rfl
def L_smmeq : List CF := [⟨.neq, .var 2, .var 12, false⟩, ⟨.lss, .var 3, .var 13, false⟩, ⟨.neq, .var 12, .var 2, false⟩, ⟨.lss, .var 13, .var 3, false⟩, ⟨.lss, .var 4, .var 14, false⟩, ⟨.lss, .var 14, .var 4, false⟩]
theorem ok_smmeq (b n b2 n2 : Int) (_ : -9223372036854775808 ≤ n) (_ : n < 9223372036854775808) (_ : -9223372036854775808 ≤ n2) (_ : n2 < 9223372036854775808) (s0 : n < 0) (s1 : n2 < 0) (o : n = n2) (vk : Int) : ∀ f ∈ L_smmeq, f.ok (rd b n 0 vk b2 n2 0 vk) := by
  intro f hf
  simp only [L_smmeq, List.mem_cons, List.not_mem_nil, or_false] at hf
  rcases hf with rfl | rfl | rfl | rfl | rfl | rfl
  · exact ⟨rfl, cmp_neq_f (by simp (disch := omega) only [IE.ev, rd_2, rd_12, hiI_neg] <;> omega)⟩
  · exact ⟨rfl, cmp_lss_f (by simp (disch := omega) only [IE.ev, rd_3, rd_13, loI] <;> omega)⟩
  · exact ⟨rfl, cmp_neq_f (by simp (disch := omega) only [IE.ev, rd_2, rd_12, hiI_neg] <;> omega)⟩
  · exact ⟨rfl, cmp_lss_f (by simp (disch := omega) only [IE.ev, rd_3, rd_13, loI] <;> omega)⟩
  · exact ⟨rfl, cmp_lss_f (by simp (disch := omega) only [IE.ev, rd_4, rd_14, wrap_i64] <;> omega)⟩
  · exact ⟨rfl, cmp_lss_f (by simp (disch := omega) only [IE.ev, rd_4, rd_14, wrap_i64] <;> omega)⟩
theorem run_smmeq_5 : RunE L_smmeq [] (UM 5) [(9, [ag0 5, ag1 5], .v (.tuple #[.int .i64 0, .int .i64 0])), (13, [ag0 5, ag1 5], .v (.int .i64 0))] := fun W C ρ aR aS => by unfold runE; kernel_rfl
theorem run_smmeq_6 : RunE L_smmeq [] (UM 6) [(9, [ag0 6, ag1 6], .v (.tuple #[.int .i64 0, .int .i64 0])), (13, [ag0 6, ag1 6], .v (.int .i64 0))] := fun W C ρ aR aS => by unfold runE; kernel_rfl
theorem run_smmeq_7 : RunE L_smmeq [] (UM 7) [(9, [ag0 7, ag1 7], .v (.tuple #[.int .i64 0, .int .i64 0])), (13, [ag0 7, ag1 7], .v (.int .i64 0))] := fun W C ρ aR aS => by unfold runE; kernel_rfl
theorem run_smmeq_8 : RunE L_smmeq [] (UM 8) [(9, [ag0 8, ag1 8], .v (.tuple #[.int .i64 0, .int .i64 0])), (13, [ag0 8, ag1 8], .v (.int .i64 0))] := fun W C ρ aR aS => by unfold runE; kernel_rfl
def L_smmgt : List CF := [⟨.neq, .var 2, .var 12, false⟩, ⟨.lss, .var 3, .var 13, false⟩, ⟨.neq, .var 12, .var 2, false⟩, ⟨.lss, .var 13, .var 3, true⟩, ⟨.lss, .var 4, .var 14, false⟩, ⟨.lss, .var 14, .var 4, true⟩]
theorem ok_smmgt (b n b2 n2 : Int) (r0 : -9223372036854775808 ≤ n) (r1 : n < 9223372036854775808) (r2 : -9223372036854775808 ≤ n2) (r3 : n2 < 9223372036854775808) (s0 : n < 0) (s1 : n2 < 0) (o : n2 < n) (vk : Int) : ∀ f ∈ L_smmgt, f.ok (rd b n 0 vk b2 n2 0 vk) := by
  intro f hf
  simp only [L_smmgt, List.mem_cons, List.not_mem_nil, or_false] at hf
  rcases hf with rfl | rfl | rfl | rfl | rfl | rfl
  · exact ⟨rfl, cmp_neq_f (by simp (disch := omega) only [IE.ev, rd_2, rd_12, hiI_neg] <;> omega)⟩
  · exact ⟨rfl, cmp_lss_f (by simp (disch := omega) only [IE.ev, rd_3, rd_13, loI] <;> omega)⟩
  · exact ⟨rfl, cmp_neq_f (by simp (disch := omega) only [IE.ev, rd_2, rd_12, hiI_neg] <;> omega)⟩
  · exact ⟨rfl, cmp_lss_t (by simp (disch := omega) only [IE.ev, rd_3, rd_13, loI] <;> omega)⟩
  · exact ⟨rfl, cmp_lss_f (by simp (disch := omega) only [IE.ev, rd_4, rd_14, wrap_i64] <;> omega)⟩
  · exact ⟨rfl, cmp_lss_t (by simp (disch := omega) only [IE.ev, rd_4, rd_14, wrap_i64] <;> omega)⟩
theorem run_smmgt_5 : RunE L_smmgt [] (UM 5) [(9, [ag0 5, ag1 5], .v (.tuple #[.int .i64 1, .int .i64 0])), (13, [ag0 5, ag1 5], .v (.int .i64 1))] := fun W C ρ aR aS => by unfold runE; kernel_rfl
theorem run_smmgt_6 : RunE L_smmgt [] (UM 6) [(9, [ag0 6, ag1 6], .v (.tuple #[.int .i64 1, .int .i64 0])), (13, [ag0 6, ag1 6], .v (.int .i64 1))] := fun W C ρ aR aS => by unfold runE; kernel_rfl
theorem run_smmgt_7 : RunE L_smmgt [] (UM 7) [(9, [ag0 7, ag1 7], .v (.tuple #[.int .i64 1, .int .i64 0])), (13, [ag0 7, ag1 7], .v (.int .i64 1))] := fun W C ρ aR aS => by unfold runE; kernel_rfl
theorem run_smmgt_8 : RunE L_smmgt [] (UM 8) [(9, [ag0 8, ag1 8], .v (.tuple #[.int .i64 1, .int .i64 0])), (13, [ag0 8, ag1 8], .v (.int .i64 1))] := fun W C ρ aR aS => by unfold runE; kernel_rfl
def L_spm : List CF := [⟨.neq, .var 2, .var 12, true⟩, ⟨.lss, (.cv .i64 (.var 2)), (.cv .i64 (.var 12)), false⟩, ⟨.neq, .var 12, .var 2, true⟩, ⟨.lss, (.cv .i64 (.var 12)), (.cv .i64 (.var 2)), true⟩, ⟨.lss, .var 4, .var 14, false⟩, ⟨.lss, .var 14, .var 4, true⟩]
theorem ok_spm (b n b2 n2 : Int) (r0 : -9223372036854775808 ≤ n) (r1 : n < 9223372036854775808) (r2 : -9223372036854775808 ≤ n2) (r3 : n2 < 9223372036854775808) (s0 : 0 ≤ n) (s1 : n2 < 0) (o : n2 < n) (vk : Int) : ∀ f ∈ L_spm, f.ok (rd b n 0 vk b2 n2 0 vk) := by
  intro f hf
  simp only [L_spm, List.mem_cons, List.not_mem_nil, or_false] at hf
  rcases hf with rfl | rfl | rfl | rfl | rfl | rfl
  · exact ⟨rfl, cmp_neq_t (by simp (disch := omega) only [IE.ev, rd_2, rd_12, hiI_neg, hiI_pos] <;> omega)⟩
  · exact ⟨rfl, cmp_lss_f (by simp (disch := omega) only [IE.ev, rd_2, rd_12, hiI_neg, hiI_pos, wrap_i64] <;> omega)⟩
  · exact ⟨rfl, cmp_neq_t (by simp (disch := omega) only [IE.ev, rd_2, rd_12, hiI_neg, hiI_pos] <;> omega)⟩
  · exact ⟨rfl, cmp_lss_t (by simp (disch := omega) only [IE.ev, rd_2, rd_12, hiI_neg, hiI_pos, wrap_i64] <;> omega)⟩
  · exact ⟨rfl, cmp_lss_f (by simp (disch := omega) only [IE.ev, rd_4, rd_14, wrap_i64] <;> omega)⟩
  · exact ⟨rfl, cmp_lss_t (by simp (disch := omega) only [IE.ev, rd_4, rd_14, wrap_i64] <;> omega)⟩
theorem run_spm_5 : RunE L_spm [] (UM 5) [(9, [ag0 5, ag1 5], .v (.tuple #[.int .i64 1, .int .i64 0])), (13, [ag0 5, ag1 5], .v (.int .i64 1))] := fun W C ρ aR aS => by unfold runE; kernel_rfl
theorem run_spm_6 : RunE L_spm [] (UM 6) [(9, [ag0 6, ag1 6], .v (.tuple #[.int .i64 1, .int .i64 0])), (13, [ag0 6, ag1 6], .v (.int .i64 1))] := fun W C ρ aR aS => by unfold runE; kernel_rfl
theorem run_spm_7 : RunE L_spm [] (UM 7) [(9, [ag0 7, ag1 7], .v (.tuple #[.int .i64 1, .int .i64 0])), (13, [ag0 7, ag1 7], .v (.int .i64 1))] := fun W C ρ aR aS => by unfold runE; kernel_rfl
theorem run_spm_8 : RunE L_spm [] (UM 8) [(9, [ag0 8, ag1 8], .v (.tuple #[.int .i64 1, .int .i64 0])), (13, [ag0 8, ag1 8], .v (.int .i64 1))] := fun W C ρ aR aS => by unfold runE; kernel_rfl
def L_smp : List CF := [⟨.neq, .var 2, .var 12, true⟩, ⟨.lss, (.cv .i64 (.var 2)), (.cv .i64 (.var 12)), true⟩, ⟨.lss, .var 4, .var 14, true⟩]
theorem ok_smp (b n b2 n2 : Int) (r0 : -9223372036854775808 ≤ n) (r1 : n < 9223372036854775808) (r2 : -9223372036854775808 ≤ n2) (r3 : n2 < 9223372036854775808) (s0 : n < 0) (s1 : 0 ≤ n2) (_ : n < n2) (vk : Int) : ∀ f ∈ L_smp, f.ok (rd b n 0 vk b2 n2 0 vk) := by
  intro f hf
  simp only [L_smp, List.mem_cons, List.not_mem_nil, or_false] at hf
  rcases hf with rfl | rfl | rfl
  · exact ⟨rfl, cmp_neq_t (by simp (disch := omega) only [IE.ev, rd_2, rd_12, hiI_neg, hiI_pos] <;> omega)⟩
  · exact ⟨rfl, cmp_lss_t (by simp (disch := omega) only [IE.ev, rd_2, rd_12, hiI_neg, hiI_pos, wrap_i64] <;> omega)⟩
  · exact ⟨rfl, cmp_lss_t (by simp (disch := omega) only [IE.ev, rd_4, rd_14, wrap_i64] <;> omega)⟩
theorem run_smp_5 : RunE L_smp [] (UM 5) [(9, [ag0 5, ag1 5], .v (.tuple #[.int .i64 (-1), .int .i64 0])), (13, [ag0 5, ag1 5], .v (.int .i64 (-1)))] := fun W C ρ aR aS => by unfold runE; kernel_rfl
theorem run_smp_6 : RunE L_smp [] (UM 6) [(9, [ag0 6, ag1 6], .v (.tuple #[.int .i64 (-1), .int .i64 0])), (13, [ag0 6, ag1 6], .v (.int .i64 (-1)))] := fun W C ρ aR aS => by unfold runE; kernel_rfl
theorem run_smp_7 : RunE L_smp [] (UM 7) [(9, [ag0 7, ag1 7], .v (.tuple #[.int .i64 (-1), .int .i64 0])), (13, [ag0 7, ag1 7], .v (.int .i64 (-1)))] := fun W C ρ aR aS => by unfold runE; kernel_rfl
theorem run_smp_8 : RunE L_smp [] (UM 8) [(9, [ag0 8, ag1 8], .v (.tuple #[.int .i64 (-1), .int .i64 0])), (13, [ag0 8, ag1 8], .v (.int .i64 (-1)))] := fun W C ρ aR aS => by unfold runE; kernel_rfl
theorem cmp_0 {aR aS : Addr} {b n b2 n2 : Int} (hA : HN 0 b n) (hB : HN 0 b2 n2) (h1 : Chk aR aS 0 b 0) (h2 : Chk aR aS 0 b2 0) (i1 : IntV aR aS 0 b n) (i2 : IntV aR aS 0 b2 n2) : CmpV aR aS 0 b 0 b2 := by
  obtain ⟨a1, a2, a3, a4, a5⟩ := hA
  obtain ⟨c1, c2, c3, c4, c5⟩ := hB
  rcases Int.lt_trichotomy n n2 with o | o | o
  · exact ⟨(-1), fun w hG => pair_of (W := wF 0) (C := cF 0) (ρ := rd b n 0 0 b2 n2 0 0) (ok_upplt b n b2 n2 (by omega) (by omega) (by omega) (by omega) (by omega) (by omega) (by omega) 0) (fun _ h => by cases h) (UM_ok h1 h2 i1 i2) (run_upplt_0 _ _ _ aR aS) rfl rfl rfl (vs := [agV 0 b, agV 0 b2]) rfl rfl rfl w hG⟩
  · exact ⟨0, fun w hG => pair_of (W := wF 0) (C := cF 0) (ρ := rd b n 0 0 b2 n2 0 0) (ok_uppeq b n b2 n2 (by omega) (by omega) (by omega) (by omega) (by omega) (by omega) (by omega) 0) (fun _ h => by cases h) (UM_ok h1 h2 i1 i2) (run_uppeq_0 _ _ _ aR aS) rfl rfl rfl (vs := [agV 0 b, agV 0 b2]) rfl rfl rfl w hG⟩
  · exact ⟨1, fun w hG => pair_of (W := wF 0) (C := cF 0) (ρ := rd b n 0 0 b2 n2 0 0) (ok_uppgt b n b2 n2 (by omega) (by omega) (by omega) (by omega) (by omega) (by omega) (by omega) 0) (fun _ h => by cases h) (UM_ok h1 h2 i1 i2) (run_uppgt_0 _ _ _ aR aS) rfl rfl rfl (vs := [agV 0 b, agV 0 b2]) rfl rfl rfl w hG⟩
theorem cmp_1 {aR aS : Addr} {b n b2 n2 : Int} (hA : HN 1 b n) (hB : HN 1 b2 n2) (h1 : Chk aR aS 1 b 0) (h2 : Chk aR aS 1 b2 0) (i1 : IntV aR aS 1 b n) (i2 : IntV aR aS 1 b2 n2) : CmpV aR aS 1 b 1 b2 := by
  obtain ⟨a1, a2, a3, a4, a5⟩ := hA
  obtain ⟨c1, c2, c3, c4, c5⟩ := hB
  rcases Int.lt_trichotomy n n2 with o | o | o
  · exact ⟨(-1), fun w hG => pair_of (W := wF 0) (C := cF 0) (ρ := rd b n 0 1 b2 n2 0 1) (ok_upplt b n b2 n2 (by omega) (by omega) (by omega) (by omega) (by omega) (by omega) (by omega) 1) (fun _ h => by cases h) (UM_ok h1 h2 i1 i2) (run_upplt_1 _ _ _ aR aS) rfl rfl rfl (vs := [agV 1 b, agV 1 b2]) rfl rfl rfl w hG⟩
  · exact ⟨0, fun w hG => pair_of (W := wF 0) (C := cF 0) (ρ := rd b n 0 1 b2 n2 0 1) (ok_uppeq b n b2 n2 (by omega) (by omega) (by omega) (by omega) (by omega) (by omega) (by omega) 1) (fun _ h => by cases h) (UM_ok h1 h2 i1 i2) (run_uppeq_1 _ _ _ aR aS) rfl rfl rfl (vs := [agV 1 b, agV 1 b2]) rfl rfl rfl w hG⟩
  · exact ⟨1, fun w hG => pair_of (W := wF 0) (C := cF 0) (ρ := rd b n 0 1 b2 n2 0 1) (ok_uppgt b n b2 n2 (by omega) (by omega) (by omega) (by omega) (by omega) (by omega) (by omega) 1) (fun _ h => by cases h) (UM_ok h1 h2 i1 i2) (run_uppgt_1 _ _ _ aR aS) rfl rfl rfl (vs := [agV 1 b, agV 1 b2]) rfl rfl rfl w hG⟩
theorem cmp_2 {aR aS : Addr} {b n b2 n2 : Int} (hA : HN 2 b n) (hB : HN 2 b2 n2) (h1 : Chk aR aS 2 b 0) (h2 : Chk aR aS 2 b2 0) (i1 : IntV aR aS 2 b n) (i2 : IntV aR aS 2 b2 n2) : CmpV aR aS 2 b 2 b2 := by
  obtain ⟨a1, a2, a3, a4, a5⟩ := hA
  obtain ⟨c1, c2, c3, c4, c5⟩ := hB
  rcases Int.lt_trichotomy n n2 with o | o | o
  · exact ⟨(-1), fun w hG => pair_of (W := wF 0) (C := cF 0) (ρ := rd b n 0 2 b2 n2 0 2) (ok_upplt b n b2 n2 (by omega) (by omega) (by omega) (by omega) (by omega) (by omega) (by omega) 2) (fun _ h => by cases h) (UM_ok h1 h2 i1 i2) (run_upplt_2 _ _ _ aR aS) rfl rfl rfl (vs := [agV 2 b, agV 2 b2]) rfl rfl rfl w hG⟩
  · exact ⟨0, fun w hG => pair_of (W := wF 0) (C := cF 0) (ρ := rd b n 0 2 b2 n2 0 2) (ok_uppeq b n b2 n2 (by omega) (by omega) (by omega) (by omega) (by omega) (by omega) (by omega) 2) (fun _ h => by cases h) (UM_ok h1 h2 i1 i2) (run_uppeq_2 _ _ _ aR aS) rfl rfl rfl (vs := [agV 2 b, agV 2 b2]) rfl rfl rfl w hG⟩
  · exact ⟨1, fun w hG => pair_of (W := wF 0) (C := cF 0) (ρ := rd b n 0 2 b2 n2 0 2) (ok_uppgt b n b2 n2 (by omega) (by omega) (by omega) (by omega) (by omega) (by omega) (by omega) 2) (fun _ h => by cases h) (UM_ok h1 h2 i1 i2) (run_uppgt_2 _ _ _ aR aS) rfl rfl rfl (vs := [agV 2 b, agV 2 b2]) rfl rfl rfl w hG⟩
theorem cmp_3 {aR aS : Addr} {b n b2 n2 : Int} (hA : HN 3 b n) (hB : HN 3 b2 n2) (h1 : Chk aR aS 3 b 0) (h2 : Chk aR aS 3 b2 0) (i1 : IntV aR aS 3 b n) (i2 : IntV aR aS 3 b2 n2) : CmpV aR aS 3 b 3 b2 := by
  obtain ⟨a1, a2, a3, a4, a5⟩ := hA
  obtain ⟨c1, c2, c3, c4, c5⟩ := hB
  rcases Int.lt_trichotomy n n2 with o | o | o
  · exact ⟨(-1), fun w hG => pair_of (W := wF 0) (C := cF 0) (ρ := rd b n 0 3 b2 n2 0 3) (ok_upplt b n b2 n2 (by omega) (by omega) (by omega) (by omega) (by omega) (by omega) (by omega) 3) (fun _ h => by cases h) (UM_ok h1 h2 i1 i2) (run_upplt_3 _ _ _ aR aS) rfl rfl rfl (vs := [agV 3 b, agV 3 b2]) rfl rfl rfl w hG⟩
  · exact ⟨0, fun w hG => pair_of (W := wF 0) (C := cF 0) (ρ := rd b n 0 3 b2 n2 0 3) (ok_uppeq b n b2 n2 (by omega) (by omega) (by omega) (by omega) (by omega) (by omega) (by omega) 3) (fun _ h => by cases h) (UM_ok h1 h2 i1 i2) (run_uppeq_3 _ _ _ aR aS) rfl rfl rfl (vs := [agV 3 b, agV 3 b2]) rfl rfl rfl w hG⟩
  · exact ⟨1, fun w hG => pair_of (W := wF 0) (C := cF 0) (ρ := rd b n 0 3 b2 n2 0 3) (ok_uppgt b n b2 n2 (by omega) (by omega) (by omega) (by omega) (by omega) (by omega) (by omega) 3) (fun _ h => by cases h) (UM_ok h1 h2 i1 i2) (run_uppgt_3 _ _ _ aR aS) rfl rfl rfl (vs := [agV 3 b, agV 3 b2]) rfl rfl rfl w hG⟩
theorem cmp_4 {aR aS : Addr} {b n b2 n2 : Int} (hA : HN 4 b n) (hB : HN 4 b2 n2) (h1 : Chk aR aS 4 b 0) (h2 : Chk aR aS 4 b2 0) (i1 : IntV aR aS 4 b n) (i2 : IntV aR aS 4 b2 n2) : CmpV aR aS 4 b 4 b2 := by
  obtain ⟨a1, a2, a3, a4, a5⟩ := hA
  obtain ⟨c1, c2, c3, c4, c5⟩ := hB
  rcases Int.lt_trichotomy n n2 with o | o | o
  · exact ⟨(-1), fun w hG => pair_of (W := wF 0) (C := cF 0) (ρ := rd b n 0 4 b2 n2 0 4) (ok_upplt b n b2 n2 (by omega) (by omega) (by omega) (by omega) (by omega) (by omega) (by omega) 4) (fun _ h => by cases h) (UM_ok h1 h2 i1 i2) (run_upplt_4 _ _ _ aR aS) rfl rfl rfl (vs := [agV 4 b, agV 4 b2]) rfl rfl rfl w hG⟩
  · exact ⟨0, fun w hG => pair_of (W := wF 0) (C := cF 0) (ρ := rd b n 0 4 b2 n2 0 4) (ok_uppeq b n b2 n2 (by omega) (by omega) (by omega) (by omega) (by omega) (by omega) (by omega) 4) (fun _ h => by cases h) (UM_ok h1 h2 i1 i2) (run_uppeq_4 _ _ _ aR aS) rfl rfl rfl (vs := [agV 4 b, agV 4 b2]) rfl rfl rfl w hG⟩
  · exact ⟨1, fun w hG => pair_of (W := wF 0) (C := cF 0) (ρ := rd b n 0 4 b2 n2 0 4) (ok_uppgt b n b2 n2 (by omega) (by omega) (by omega) (by omega) (by omega) (by omega) (by omega) 4) (fun _ h => by cases h) (UM_ok h1 h2 i1 i2) (run_uppgt_4 _ _ _ aR aS) rfl rfl rfl (vs := [agV 4 b, agV 4 b2]) rfl rfl rfl w hG⟩
theorem cmp_5 {aR aS : Addr} {b n b2 n2 : Int} (hA : HN 5 b n) (hB : HN 5 b2 n2) (h1 : Chk aR aS 5 b 0) (h2 : Chk aR aS 5 b2 0) (i1 : IntV aR aS 5 b n) (i2 : IntV aR aS 5 b2 n2) : CmpV aR aS 5 b 5 b2 := by
  obtain ⟨a1, a2, a3, a4, a5⟩ := hA
  obtain ⟨c1, c2, c3, c4, c5⟩ := hB
  by_cases s0 : n < 0 <;> by_cases s1 : n2 < 0
  · rcases Int.lt_trichotomy n n2 with o | o | o
    · exact ⟨(-1), fun w hG => pair_of (W := wF 0) (C := cF 0) (ρ := rd b n 0 5 b2 n2 0 5) (ok_smmlt b n b2 n2 (by omega) (by omega) (by omega) (by omega) (by omega) (by omega) (by omega) 5) (fun _ h => by cases h) (UM_ok h1 h2 i1 i2) (run_smmlt_5 _ _ _ aR aS) rfl rfl rfl (vs := [agV 5 b, agV 5 b2]) rfl rfl rfl w hG⟩
    · exact ⟨0, fun w hG => pair_of (W := wF 0) (C := cF 0) (ρ := rd b n 0 5 b2 n2 0 5) (ok_smmeq b n b2 n2 (by omega) (by omega) (by omega) (by omega) (by omega) (by omega) (by omega) 5) (fun _ h => by cases h) (UM_ok h1 h2 i1 i2) (run_smmeq_5 _ _ _ aR aS) rfl rfl rfl (vs := [agV 5 b, agV 5 b2]) rfl rfl rfl w hG⟩
    · exact ⟨1, fun w hG => pair_of (W := wF 0) (C := cF 0) (ρ := rd b n 0 5 b2 n2 0 5) (ok_smmgt b n b2 n2 (by omega) (by omega) (by omega) (by omega) (by omega) (by omega) (by omega) 5) (fun _ h => by cases h) (UM_ok h1 h2 i1 i2) (run_smmgt_5 _ _ _ aR aS) rfl rfl rfl (vs := [agV 5 b, agV 5 b2]) rfl rfl rfl w hG⟩
  · exact ⟨(-1), fun w hG => pair_of (W := wF 0) (C := cF 0) (ρ := rd b n 0 5 b2 n2 0 5) (ok_smp b n b2 n2 (by omega) (by omega) (by omega) (by omega) (by omega) (by omega) (by omega) 5) (fun _ h => by cases h) (UM_ok h1 h2 i1 i2) (run_smp_5 _ _ _ aR aS) rfl rfl rfl (vs := [agV 5 b, agV 5 b2]) rfl rfl rfl w hG⟩
  · exact ⟨1, fun w hG => pair_of (W := wF 0) (C := cF 0) (ρ := rd b n 0 5 b2 n2 0 5) (ok_spm b n b2 n2 (by omega) (by omega) (by omega) (by omega) (by omega) (by omega) (by omega) 5) (fun _ h => by cases h) (UM_ok h1 h2 i1 i2) (run_spm_5 _ _ _ aR aS) rfl rfl rfl (vs := [agV 5 b, agV 5 b2]) rfl rfl rfl w hG⟩
  · rcases Int.lt_trichotomy n n2 with o | o | o
    · exact ⟨(-1), fun w hG => pair_of (W := wF 0) (C := cF 0) (ρ := rd b n 0 5 b2 n2 0 5) (ok_spplt b n b2 n2 (by omega) (by omega) (by omega) (by omega) (by omega) (by omega) (by omega) 5) (fun _ h => by cases h) (UM_ok h1 h2 i1 i2) (run_spplt_5 _ _ _ aR aS) rfl rfl rfl (vs := [agV 5 b, agV 5 b2]) rfl rfl rfl w hG⟩
    · exact ⟨0, fun w hG => pair_of (W := wF 0) (C := cF 0) (ρ := rd b n 0 5 b2 n2 0 5) (ok_sppeq b n b2 n2 (by omega) (by omega) (by omega) (by omega) (by omega) (by omega) (by omega) 5) (fun _ h => by cases h) (UM_ok h1 h2 i1 i2) (run_sppeq_5 _ _ _ aR aS) rfl rfl rfl (vs := [agV 5 b, agV 5 b2]) rfl rfl rfl w hG⟩
    · exact ⟨1, fun w hG => pair_of (W := wF 0) (C := cF 0) (ρ := rd b n 0 5 b2 n2 0 5) (ok_sppgt b n b2 n2 (by omega) (by omega) (by omega) (by omega) (by omega) (by omega) (by omega) 5) (fun _ h => by cases h) (UM_ok h1 h2 i1 i2) (run_sppgt_5 _ _ _ aR aS) rfl rfl rfl (vs := [agV 5 b, agV 5 b2]) rfl rfl rfl w hG⟩
theorem cmp_6 {aR aS : Addr} {b n b2 n2 : Int} (hA : HN 6 b n) (hB : HN 6 b2 n2) (h1 : Chk aR aS 6 b 0) (h2 : Chk aR aS 6 b2 0) (i1 : IntV aR aS 6 b n) (i2 : IntV aR aS 6 b2 n2) : CmpV aR aS 6 b 6 b2 := by
  obtain ⟨a1, a2, a3, a4, a5⟩ := hA
  obtain ⟨c1, c2, c3, c4, c5⟩ := hB
  by_cases s0 : n < 0 <;> by_cases s1 : n2 < 0
  · rcases Int.lt_trichotomy n n2 with o | o | o
    · exact ⟨(-1), fun w hG => pair_of (W := wF 0) (C := cF 0) (ρ := rd b n 0 6 b2 n2 0 6) (ok_smmlt b n b2 n2 (by omega) (by omega) (by omega) (by omega) (by omega) (by omega) (by omega) 6) (fun _ h => by cases h) (UM_ok h1 h2 i1 i2) (run_smmlt_6 _ _ _ aR aS) rfl rfl rfl (vs := [agV 6 b, agV 6 b2]) rfl rfl rfl w hG⟩
    · exact ⟨0, fun w hG => pair_of (W := wF 0) (C := cF 0) (ρ := rd b n 0 6 b2 n2 0 6) (ok_smmeq b n b2 n2 (by omega) (by omega) (by omega) (by omega) (by omega) (by omega) (by omega) 6) (fun _ h => by cases h) (UM_ok h1 h2 i1 i2) (run_smmeq_6 _ _ _ aR aS) rfl rfl rfl (vs := [agV 6 b, agV 6 b2]) rfl rfl rfl w hG⟩
    · exact ⟨1, fun w hG => pair_of (W := wF 0) (C := cF 0) (ρ := rd b n 0 6 b2 n2 0 6) (ok_smmgt b n b2 n2 (by omega) (by omega) (by omega) (by omega) (by omega) (by omega) (by omega) 6) (fun _ h => by cases h) (UM_ok h1 h2 i1 i2) (run_smmgt_6 _ _ _ aR aS) rfl rfl rfl (vs := [agV 6 b, agV 6 b2]) rfl rfl rfl w hG⟩
  · exact ⟨(-1), fun w hG => pair_of (W := wF 0) (C := cF 0) (ρ := rd b n 0 6 b2 n2 0 6) (ok_smp b n b2 n2 (by omega) (by omega) (by omega) (by omega) (by omega) (by omega) (by omega) 6) (fun _ h => by cases h) (UM_ok h1 h2 i1 i2) (run_smp_6 _ _ _ aR aS) rfl rfl rfl (vs := [agV 6 b, agV 6 b2]) rfl rfl rfl w hG⟩
  · exact ⟨1, fun w hG => pair_of (W := wF 0) (C := cF 0) (ρ := rd b n 0 6 b2 n2 0 6) (ok_spm b n b2 n2 (by omega) (by omega) (by omega) (by omega) (by omega) (by omega) (by omega) 6) (fun _ h => by cases h) (UM_ok h1 h2 i1 i2) (run_spm_6 _ _ _ aR aS) rfl rfl rfl (vs := [agV 6 b, agV 6 b2]) rfl rfl rfl w hG⟩
  · rcases Int.lt_trichotomy n n2 with o | o | o
    · exact ⟨(-1), fun w hG => pair_of (W := wF 0) (C := cF 0) (ρ := rd b n 0 6 b2 n2 0 6) (ok_spplt b n b2 n2 (by omega) (by omega) (by omega) (by omega) (by omega) (by omega) (by omega) 6) (fun _ h => by cases h) (UM_ok h1 h2 i1 i2) (run_spplt_6 _ _ _ aR aS) rfl rfl rfl (vs := [agV 6 b, agV 6 b2]) rfl rfl rfl w hG⟩
    · exact ⟨0, fun w hG => pair_of (W := wF 0) (C := cF 0) (ρ := rd b n 0 6 b2 n2 0 6) (ok_sppeq b n b2 n2 (by omega) (by omega) (by omega) (by omega) (by omega) (by omega) (by omega) 6) (fun _ h => by cases h) (UM_ok h1 h2 i1 i2) (run_sppeq_6 _ _ _ aR aS) rfl rfl rfl (vs := [agV 6 b, agV 6 b2]) rfl rfl rfl w hG⟩
    · exact ⟨1, fun w hG => pair_of (W := wF 0) (C := cF 0) (ρ := rd b n 0 6 b2 n2 0 6) (ok_sppgt b n b2 n2 (by omega) (by omega) (by omega) (by omega) (by omega) (by omega) (by omega) 6) (fun _ h => by cases h) (UM_ok h1 h2 i1 i2) (run_sppgt_6 _ _ _ aR aS) rfl rfl rfl (vs := [agV 6 b, agV 6 b2]) rfl rfl rfl w hG⟩
theorem cmp_7 {aR aS : Addr} {b n b2 n2 : Int} (hA : HN 7 b n) (hB : HN 7 b2 n2) (h1 : Chk aR aS 7 b 0) (h2 : Chk aR aS 7 b2 0) (i1 : IntV aR aS 7 b n) (i2 : IntV aR aS 7 b2 n2) : CmpV aR aS 7 b 7 b2 := by
  obtain ⟨a1, a2, a3, a4, a5⟩ := hA
  obtain ⟨c1, c2, c3, c4, c5⟩ := hB
  by_cases s0 : n < 0 <;> by_cases s1 : n2 < 0
  · rcases Int.lt_trichotomy n n2 with o | o | o
    · exact ⟨(-1), fun w hG => pair_of (W := wF 0) (C := cF 0) (ρ := rd b n 0 7 b2 n2 0 7) (ok_smmlt b n b2 n2 (by omega) (by omega) (by omega) (by omega) (by omega) (by omega) (by omega) 7) (fun _ h => by cases h) (UM_ok h1 h2 i1 i2) (run_smmlt_7 _ _ _ aR aS) rfl rfl rfl (vs := [agV 7 b, agV 7 b2]) rfl rfl rfl w hG⟩
    · exact ⟨0, fun w hG => pair_of (W := wF 0) (C := cF 0) (ρ := rd b n 0 7 b2 n2 0 7) (ok_smmeq b n b2 n2 (by omega) (by omega) (by omega) (by omega) (by omega) (by omega) (by omega) 7) (fun _ h => by cases h) (UM_ok h1 h2 i1 i2) (run_smmeq_7 _ _ _ aR aS) rfl rfl rfl (vs := [agV 7 b, agV 7 b2]) rfl rfl rfl w hG⟩
    · exact ⟨1, fun w hG => pair_of (W := wF 0) (C := cF 0) (ρ := rd b n 0 7 b2 n2 0 7) (ok_smmgt b n b2 n2 (by omega) (by omega) (by omega) (by omega) (by omega) (by omega) (by omega) 7) (fun _ h => by cases h) (UM_ok h1 h2 i1 i2) (run_smmgt_7 _ _ _ aR aS) rfl rfl rfl (vs := [agV 7 b, agV 7 b2]) rfl rfl rfl w hG⟩
  · exact ⟨(-1), fun w hG => pair_of (W := wF 0) (C := cF 0) (ρ := rd b n 0 7 b2 n2 0 7) (ok_smp b n b2 n2 (by omega) (by omega) (by omega) (by omega) (by omega) (by omega) (by omega) 7) (fun _ h => by cases h) (UM_ok h1 h2 i1 i2) (run_smp_7 _ _ _ aR aS) rfl rfl rfl (vs := [agV 7 b, agV 7 b2]) rfl rfl rfl w hG⟩
  · exact ⟨1, fun w hG => pair_of (W := wF 0) (C := cF 0) (ρ := rd b n 0 7 b2 n2 0 7) (ok_spm b n b2 n2 (by omega) (by omega) (by omega) (by omega) (by omega) (by omega) (by omega) 7) (fun _ h => by cases h) (UM_ok h1 h2 i1 i2) (run_spm_7 _ _ _ aR aS) rfl rfl rfl (vs := [agV 7 b, agV 7 b2]) rfl rfl rfl w hG⟩
  · rcases Int.lt_trichotomy n n2 with o | o | o
    · exact ⟨(-1), fun w hG => pair_of (W := wF 0) (C := cF 0) (ρ := rd b n 0 7 b2 n2 0 7) (ok_spplt b n b2 n2 (by omega) (by omega) (by omega) (by omega) (by omega) (by omega) (by omega) 7) (fun _ h => by cases h) (UM_ok h1 h2 i1 i2) (run_spplt_7 _ _ _ aR aS) rfl rfl rfl (vs := [agV 7 b, agV 7 b2]) rfl rfl rfl w hG⟩
    · exact ⟨0, fun w hG => pair_of (W := wF 0) (C := cF 0) (ρ := rd b n 0 7 b2 n2 0 7) (ok_sppeq b n b2 n2 (by omega) (by omega) (by omega) (by omega) (by omega) (by omega) (by omega) 7) (fun _ h => by cases h) (UM_ok h1 h2 i1 i2) (run_sppeq_7 _ _ _ aR aS) rfl rfl rfl (vs := [agV 7 b, agV 7 b2]) rfl rfl rfl w hG⟩
    · exact ⟨1, fun w hG => pair_of (W := wF 0) (C := cF 0) (ρ := rd b n 0 7 b2 n2 0 7) (ok_sppgt b n b2 n2 (by omega) (by omega) (by omega) (by omega) (by omega) (by omega) (by omega) 7) (fun _ h => by cases h) (UM_ok h1 h2 i1 i2) (run_sppgt_7 _ _ _ aR aS) rfl rfl rfl (vs := [agV 7 b, agV 7 b2]) rfl rfl rfl w hG⟩
theorem cmp_8 {aR aS : Addr} {b n b2 n2 : Int} (hA : HN 8 b n) (hB : HN 8 b2 n2) (h1 : Chk aR aS 8 b 0) (h2 : Chk aR aS 8 b2 0) (i1 : IntV aR aS 8 b n) (i2 : IntV aR aS 8 b2 n2) : CmpV aR aS 8 b 8 b2 := by
  obtain ⟨a1, a2, a3, a4, a5⟩ := hA
  obtain ⟨c1, c2, c3, c4, c5⟩ := hB
  by_cases s0 : n < 0 <;> by_cases s1 : n2 < 0
  · rcases Int.lt_trichotomy n n2 with o | o | o
    · exact ⟨(-1), fun w hG => pair_of (W := wF 0) (C := cF 0) (ρ := rd b n 0 8 b2 n2 0 8) (ok_smmlt b n b2 n2 (by omega) (by omega) (by omega) (by omega) (by omega) (by omega) (by omega) 8) (fun _ h => by cases h) (UM_ok h1 h2 i1 i2) (run_smmlt_8 _ _ _ aR aS) rfl rfl rfl (vs := [agV 8 b, agV 8 b2]) rfl rfl rfl w hG⟩
    · exact ⟨0, fun w hG => pair_of (W := wF 0) (C := cF 0) (ρ := rd b n 0 8 b2 n2 0 8) (ok_smmeq b n b2 n2 (by omega) (by omega) (by omega) (by omega) (by omega) (by omega) (by omega) 8) (fun _ h => by cases h) (UM_ok h1 h2 i1 i2) (run_smmeq_8 _ _ _ aR aS) rfl rfl rfl (vs := [agV 8 b, agV 8 b2]) rfl rfl rfl w hG⟩
    · exact ⟨1, fun w hG => pair_of (W := wF 0) (C := cF 0) (ρ := rd b n 0 8 b2 n2 0 8) (ok_smmgt b n b2 n2 (by omega) (by omega) (by omega) (by omega) (by omega) (by omega) (by omega) 8) (fun _ h => by cases h) (UM_ok h1 h2 i1 i2) (run_smmgt_8 _ _ _ aR aS) rfl rfl rfl (vs := [agV 8 b, agV 8 b2]) rfl rfl rfl w hG⟩
  · exact ⟨(-1), fun w hG => pair_of (W := wF 0) (C := cF 0) (ρ := rd b n 0 8 b2 n2 0 8) (ok_smp b n b2 n2 (by omega) (by omega) (by omega) (by omega) (by omega) (by omega) (by omega) 8) (fun _ h => by cases h) (UM_ok h1 h2 i1 i2) (run_smp_8 _ _ _ aR aS) rfl rfl rfl (vs := [agV 8 b, agV 8 b2]) rfl rfl rfl w hG⟩
  · exact ⟨1, fun w hG => pair_of (W := wF 0) (C := cF 0) (ρ := rd b n 0 8 b2 n2 0 8) (ok_spm b n b2 n2 (by omega) (by omega) (by omega) (by omega) (by omega) (by omega) (by omega) 8) (fun _ h => by cases h) (UM_ok h1 h2 i1 i2) (run_spm_8 _ _ _ aR aS) rfl rfl rfl (vs := [agV 8 b, agV 8 b2]) rfl rfl rfl w hG⟩
  · rcases Int.lt_trichotomy n n2 with o | o | o
    · exact ⟨(-1), fun w hG => pair_of (W := wF 0) (C := cF 0) (ρ := rd b n 0 8 b2 n2 0 8) (ok_spplt b n b2 n2 (by omega) (by omega) (by omega) (by omega) (by omega) (by omega) (by omega) 8) (fun _ h => by cases h) (UM_ok h1 h2 i1 i2) (run_spplt_8 _ _ _ aR aS) rfl rfl rfl (vs := [agV 8 b, agV 8 b2]) rfl rfl rfl w hG⟩
    · exact ⟨0, fun w hG => pair_of (W := wF 0) (C := cF 0) (ρ := rd b n 0 8 b2 n2 0 8) (ok_sppeq b n b2 n2 (by omega) (by omega) (by omega) (by omega) (by omega) (by omega) (by omega) 8) (fun _ h => by cases h) (UM_ok h1 h2 i1 i2) (run_sppeq_8 _ _ _ aR aS) rfl rfl rfl (vs := [agV 8 b, agV 8 b2]) rfl rfl rfl w hG⟩
    · exact ⟨1, fun w hG => pair_of (W := wF 0) (C := cF 0) (ρ := rd b n 0 8 b2 n2 0 8) (ok_sppgt b n b2 n2 (by omega) (by omega) (by omega) (by omega) (by omega) (by omega) (by omega) 8) (fun _ h => by cases h) (UM_ok h1 h2 i1 i2) (run_sppgt_8 _ _ _ aR aS) rfl rfl rfl (vs := [agV 8 b, agV 8 b2]) rfl rfl rfl w hG⟩
noncomputable def T_g (p : Bool × Bool) : List XE := [(kVal, [.v (.func (.func 73) #[] #[]), .sym (.int .u32 (.cv .u32 (.var 0)))], .sym (.nm 0)), (kVal, [.v (.func (.func 73) #[] #[]), .sym (.int .u32 (.cv .u32 (.var 10)))], .sym (.nm 1)), (kBin .lss, [.sym (.nm 0), .sym (.nm 1)], .v (.bool p.1)), (kBin .lss, [.sym (.nm 1), .sym (.nm 0)], .v (.bool p.2))]
theorem tk_g {F G : Nat} (hF : HF F) (hG : HF G) {p : Bool × Bool} (h1 : decide (keyB F < keyB G) = p.1) (h2 : decide (keyB G < keyB F) = p.2) : XF (wG F G) (cF 0) (rd F 0 0 9 G 0 0 9) (T_g p) := by
  obtain ⟨f1, f2, f3⟩ := hF
  obtain ⟨g1, g2, g3⟩ := hG
  intro x hx
  simp only [T_g, List.mem_cons, List.not_mem_nil, or_false] at hx
  rcases hx with rfl | rfl | rfl | rfl
  · refine xok_from ext_from (e := .cv .u32 (.var 0)) (c := F) rfl rfl ?_
    show IntKind.wrap .u32 (F : Int) = _
    rw [wrap_u32]
    omega
  · refine xok_from ext_from (e := .cv .u32 (.var 10)) (c := G) rfl rfl ?_
    show IntKind.wrap .u32 (G : Int) = _
    rw [wrap_u32]
    omega
  · exact xok_cmp (a := F) (b := G) rfl rfl rfl (by rw [cmpF_key rfl ⟨f1, by omega⟩ ⟨g1, by omega⟩]; exact h1)
  · exact xok_cmp (a := G) (b := F) rfl rfl rfl (by rw [cmpF_key rfl ⟨g1, by omega⟩ ⟨f1, by omega⟩]; exact h2)
def mG (p : Bool × Bool) : Int := if p.1 then -1 else if p.2 then 1 else 0
theorem run_g (W : Nat → Nat) (C : Nat → Nat × Nat) (ρ : Nat → Int) (aR aS : Addr) : [(true, false), (false, true), (false, false)].map (fun p => [(9, [ag0 9, ag1 9], SVal.v (.tuple #[.int .i64 (mG p), .int .i64 0])), (13, [ag0 9, ag1 9], .v (.int .i64 (mG p)))].map fun e : SEntry => (@call (E W C ρ [] (T_g p)) Tryz.prog (glob aR aS) (tabS UG) 300 60 (.fn e.1) e.2.1 []).map fun r => nrm r.1) =
    [(true, false), (false, true), (false, false)].map fun p => [(9, [ag0 9, ag1 9], SVal.v (.tuple #[.int .i64 (mG p), .int .i64 0])), (13, [ag0 9, ag1 9], .v (.int .i64 (mG p)))].map fun e : SEntry => some e.2.2 := by kernel_rfl
theorem cmp_g {aR aS : Addr} {F G : Nat} (hF : HF F) (hG' : HF G) (h1 : Chk aR aS 9 F 0) (h2 : Chk aR aS 9 G 0) : CmpV aR aS 9 F 9 G := by
  have key : ∀ p ∈ [(true, false), (false, true), (false, false)], decide (keyB F < keyB G) = p.1 → decide (keyB G < keyB F) = p.2 → CmpV aR aS 9 F 9 G := fun p hp e1 e2 =>
    ⟨mG p, fun w hG => pair_of (W := wG F G) (C := cF 0) (ρ := rd F 0 0 9 G 0 0 9) (L := []) (fun _ h => by cases h) (tk_g hF hG' e1 e2) (UG_ok hF hG' h1 h2) (List.map_inj_left.1 (run_g _ _ _ aR aS) p hp) rfl rfl rfl (vs := [agV 9 F, agV 9 G]) rfl rfl rfl w hG⟩
  rcases Int.lt_trichotomy (keyB F) (keyB G) with o | o | o
  · exact key (true, false) (by simp) (decide_eq_true o) (decide_eq_false (by omega))
  · exact key (false, false) (by simp) (decide_eq_false (by omega)) (decide_eq_false (by omega))
  · exact key (false, true) (by simp) (decide_eq_false (by omega)) (decide_eq_true o)
def agA : SVal := .agg [.sym (.int .i64 (.var 7)), .sym (.int .u64 (.var 0))]
def agB : SVal := .agg [.sym (.int .i64 (.var 17)), .sym (.int .u64 (.var 10))]
def UE2 (e1 e2 : SVal) : List SEntry := [(21, [agA], e1), (21, [agB], e2)]
def s6 : SVal := .sym (.int .i64 (.var 6))
def s16 : SVal := .sym (.int .i64 (.var 16))
def z0 : SVal := .v (.int .i64 0)
def L_ea (r : Bool) : List CF := [⟨.neq, .var 17, .var 7, r⟩, ⟨.neq, .var 6, .lit 0, true⟩]
def L_eb (r : Bool) : List CF := [⟨.neq, .var 17, .var 7, r⟩, ⟨.neq, .var 16, .lit 0, true⟩]
def L_ek : List CF := [⟨.neq, .var 17, .var 7, true⟩]
def L_ec : List CF := [⟨.neq, .var 17, .var 7, false⟩, ⟨.eql, .var 7, .lit 10, true⟩]
theorem run_ea (W : Nat → Nat) (C : Nat → Nat × Nat) (ρ : Nat → Int) (aR aS : Addr) (r : Bool) : runE W C ρ aR aS (L_ea r) [] (UE2 s6 s16) [(9, [agA, agB], .tuple [z0, s6])] := by
  unfold runE
  cases r
  · kernel_rfl
  · kernel_rfl
theorem run_eb (W : Nat → Nat) (C : Nat → Nat × Nat) (ρ : Nat → Int) (aR aS : Addr) (r : Bool) : runE W C ρ aR aS (L_eb r) [] (UE2 z0 s16) [(9, [agA, agB], .tuple [z0, s16])] := by
  unfold runE
  cases r
  · kernel_rfl
  · kernel_rfl
theorem run_ek : RunE L_ek [] (UE2 z0 z0) [(9, [agA, agB], .v (.tuple #[.int .i64 0, .int .i64 12]))] := fun W C ρ aR aS => by unfold runE; kernel_rfl
theorem run_ec : RunE L_ec [] (UE2 z0 z0) [(9, [agA, agB], .v (.tuple #[.int .i64 0, .int .i64 12]))] := fun W C ρ aR aS => by unfold runE; kernel_rfl
def CmpE (aR aS : Addr) (ka a kb b x : Int) : Prop := ∀ w, (glob aR aS).holds w → Calls Tryz.prog 9 #[agV ka a, agV kb b] w (Ret (.tuple #[.int .i64 0, .int .i64 x]) w)
section
variable {aR aS : Addr} {ka a kb b e e2 : Int}
theorem UE2_ok {L : List CF} {T : List XE} {W : Nat → Nat} {C : Nat → Nat × Nat} {x y : SVal} (h1 : Chk aR aS ka a e) (h2 : Chk aR aS kb b e2) (n1 : nf x = true) (n2 : nf y = true) (d1 : @den (E W C (rd a 0 e ka b 0 e2 kb) L T) (fun _ => none) x = some (.int .i64 e)) (d2 : @den (E W C (rd a 0 e ka b 0 e2 kb) L T) (fun _ => none) y = some (.int .i64 e2)) :
    ∀ z ∈ UE2 x y, @SOk (E W C (rd a 0 e ka b 0 e2 kb) L T) Tryz.prog (glob aR aS) z := fun z hz => by
  simp only [UE2, List.mem_cons, List.not_mem_nil, or_false] at hz
  rcases hz with rfl | rfl
  · exact sokE (vs := [agV ka a]) (v := .int .i64 e) rfl n1 rfl d1 fun w hG => (h1 w hG).2
  · exact sokE (vs := [agV kb b]) (v := .int .i64 e2) rfl n2 rfl d2 fun w hG => (h2 w hG).2
theorem err_a (h1 : Chk aR aS ka a e) (h2 : Chk aR aS kb b e2) (h : e ≠ 0) : CmpE aR aS ka a kb b e := fun w hG => by
  have hL : ∀ f ∈ L_ea (kb != ka), f.ok (rd a 0 e ka b 0 e2 kb) := fun f hf => by
    simp only [L_ea, List.mem_cons, List.not_mem_nil, or_false] at hf
    rcases hf with rfl | rfl
    · exact ⟨rfl, rfl⟩
    · exact ⟨rfl, bne_iff_ne.2 h⟩
  exact calls_symF (W := wF 0) (C := cF 0) (ρ := rd a 0 e ka b 0 e2 kb) (T := []) hL (fun _ h => by cases h) (UE2_ok h1 h2 rfl rfl rfl rfl) (run_ea _ _ _ aR aS _) List.mem_cons_self rfl rfl (vs := [agV ka a, agV kb b]) rfl rfl hG
theorem err_b (h1 : Chk aR aS ka a 0) (h2 : Chk aR aS kb b e2) (h : e2 ≠ 0) : CmpE aR aS ka a kb b e2 := fun w hG => by
  have hL : ∀ f ∈ L_eb (kb != ka), f.ok (rd a 0 0 ka b 0 e2 kb) := fun f hf => by
    simp only [L_eb, List.mem_cons, List.not_mem_nil, or_false] at hf
    rcases hf with rfl | rfl
    · exact ⟨rfl, rfl⟩
    · exact ⟨rfl, bne_iff_ne.2 h⟩
  exact calls_symF (W := wF 0) (C := cF 0) (ρ := rd a 0 0 ka b 0 e2 kb) (T := []) hL (fun _ h => by cases h) (UE2_ok h1 h2 rfl rfl rfl rfl) (run_eb _ _ _ aR aS _) List.mem_cons_self rfl rfl (vs := [agV ka a, agV kb b]) rfl rfl hG
theorem err_k (h1 : Chk aR aS ka a 0) (h2 : Chk aR aS kb b 0) (h : kb ≠ ka) : CmpE aR aS ka a kb b 12 := fun w hG => by
  have hL : ∀ f ∈ L_ek, f.ok (rd a 0 0 ka b 0 0 kb) := fun f hf => by
    obtain rfl := List.mem_singleton.1 hf
    exact ⟨rfl, bne_iff_ne.2 h⟩
  exact calls_symF (W := wF 0) (C := cF 0) (ρ := rd a 0 0 ka b 0 0 kb) (T := []) hL (fun _ h => by cases h) (UE2_ok h1 h2 rfl rfl rfl rfl) (run_ek _ _ _ aR aS) List.mem_cons_self rfl rfl (vs := [agV ka a, agV kb b]) rfl rfl hG
theorem err_c (h1 : Chk aR aS 10 a 0) (h2 : Chk aR aS 10 b 0) : CmpE aR aS 10 a 10 b 12 := fun w hG => by
  have hL : ∀ f ∈ L_ec, f.ok (rd a 0 0 10 b 0 0 10) := fun f hf => by
    simp only [L_ec, List.mem_cons, List.not_mem_nil, or_false] at hf
    rcases hf with rfl | rfl
    · exact ⟨rfl, rfl⟩
    · exact ⟨rfl, rfl⟩
  exact calls_symF (W := wF 0) (C := cF 0) (ρ := rd a 0 0 10 b 0 0 10) (T := []) hL (fun _ h => by cases h) (UE2_ok h1 h2 rfl rfl rfl rfl) (run_ec _ _ _ aR aS) List.mem_cons_self rfl rfl (vs := [agV 10 a, agV 10 b]) rfl rfl hG
end
end
end Go.Proofs.YtbhhdjlmbmeiaaaGreatDoor
