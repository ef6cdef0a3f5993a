import Derived.Test.YtonkcpmefnddaaaGreatDoorHM
import Derived.Test.YtonkcpmefnddaaaGreatDoorRXM
namespace Go.Proofs.YtonkcpmefnddaaaGreatDoor
noncomputable section
open Go Go.RX
open Go.RowKit (Below)
set_option maxRecDepth 1000000
set_option maxHeartbeats 4000000

/-! ### A float that is made a value -/
def MadeV (aR aS : Addr) (b n : Nat) : Prop := ∀ w, (glob aR aS).holds w → Calls Tryz.prog 88 #[.float .f32 b] w (Ret (.float .f32 n) w) ∧ Calls Tryz.prog 129 #[.float .f32 b] w (Ret (.float .f32 n) w)
def Jm (r : SVal) : List SEntry := [(88, [.sym (.nm 0)], r), (129, [.sym (.nm 0)], r)]
theorem run_mz (W : Nat → Nat) (ρ : Nat → Int) (aR aS : Addr) : runE W c0 ρ aR aS [] (tM false false true) UE (Jm zeroF) := by unfold runE; kernel_rfl
theorem run_mp (W : Nat → Nat) (ρ : Nat → Int) (aR aS : Addr) : runE W c0 ρ aR aS [] (tM true false false) UE (Jm maxF) := by unfold runE; kernel_rfl
theorem run_mn (W : Nat → Nat) (ρ : Nat → Int) (aR aS : Addr) : runE W c0 ρ aR aS [] (tM false true false) UE (Jm minF) := by unfold runE; kernel_rfl
theorem run_mf (W : Nat → Nat) (ρ : Nat → Int) (aR aS : Addr) : runE W c0 ρ aR aS [] (tM false false false) UE (Jm (.sym (.nm 0))) := by unfold runE; kernel_rfl
theorem made_of {aR aS : Addr} {b n : Nat} {T : List XE} {r : SVal} (hT : XF (w4 b 0 0 0) c0 (rho b 0 0 0 0 0) T) (h : runE (w4 b 0 0 0) c0 (rho b 0 0 0 0 0) aR aS [] T UE (Jm r)) (hn : nf r = true) (hd : @den (E (w4 b 0 0 0) c0 (rho b 0 0 0 0 0) [] T) (fun _ => none) r = some (.float .f32 n)) : MadeV aR aS b n := fun w hG =>
  pair_of (W := w4 b 0 0 0) (C := c0) (ρ := rho b 0 0 0 0 0) (fun _ h => by cases h) hT (UE_ok aR aS) h rfl hn hn (vs := [.float .f32 b]) rfl hd hd w hG
theorem made_calls (aR aS : Addr) (b : Nat) (hb : Num b) : MadeV aR aS b (normW b) := by
  obtain ⟨h1, h2⟩ := hb
  by_cases hz : b % 2147483648 = 0
  · have e : normW b = 0 := by unfold normW; rw [if_pos hz]
    rw [e]
    have hk : keyB b = 0 := by unfold keyB; split <;> omega
    exact made_of (tM_ok ⟨h1, h2⟩ (by rw [hk]; rfl) (by rw [hk]; rfl) (by rw [hk]; rfl)) (run_mz _ _ aR aS) rfl rfl
  by_cases hp : b = 2139095040
  · subst hp
    exact made_of (tM_ok ⟨h1, h2⟩ (by decide) (by decide) (by decide)) (run_mp _ _ aR aS) rfl rfl
  by_cases hn : b = 4286578688
  · subst hn
    exact made_of (tM_ok ⟨h1, h2⟩ (by decide) (by decide) (by decide)) (run_mn _ _ aR aS) rfl rfl
  have e : normW b = b := by unfold normW; rw [if_neg hz, if_neg hp, if_neg hn]
  rw [e]
  have hk : (keyB b > 2139095039) = False ∧ (keyB b < -2139095039) = False ∧ keyB b ≠ 0 := by
    unfold keyB
    split <;> refine ⟨eq_false (by omega), eq_false (by omega), by omega⟩
  exact made_of (tM_ok ⟨h1, h2⟩ (by simp only [hk.1]; rfl) (by simp only [hk.2.1]; rfl) (by simpa using hk.2.2)) (run_mf _ _ aR aS) rfl rfl
theorem normW_fin {b : Nat} (hb : Num b) : Fin32 (normW b) ∧ normW b ≠ 2147483648 := by
  obtain ⟨h1, h2⟩ := hb
  unfold normW Fin32
  (repeat' split) <;> omega
theorem normW_idem {b : Nat} (hb : Num b) : normW (normW b) = normW b :=
  normW_right (normW_fin hb).1.2 (normW_fin hb).2 (normW_fin hb).1.1
theorem fin_num {b : Nat} (h : Fin32 b) : Num b := ⟨h.1, Nat.le_of_lt h.2⟩

/-! ### Floats -/
/-- What both say of two values. -/
def ApV (aR aS : Addr) (op ka a kb b : Int) : Prop := ∃ K B e : Int, ∀ w, (glob aR aS).holds w → Calls Tryz.prog 7 #[.int .i64 op, agV ka a, agV kb b] w (Ret (.tuple #[agV K B, .int .i64 e]) w) ∧ Calls Tryz.prog 8 #[.int .i64 op, agV ka a, agV kb b] w (Ret (.tuple #[agV K B, .int .i64 e]) w)
def wA (F G S : Nat) : Nat → Nat := fun i => match i with
  | 0 => F
  | 1 => G
  | 2 => S
  | _ => normW S
def rg (b b2 B B2 : Int) : Nat → Int := fun i => match i with
  | 0 => b
  | 10 => b2
  | 24 => B
  | 25 => B2
  | _ => 0
def oB (o : Nat) : BinOp := match o with
  | 0 => .add
  | 1 => .sub
  | 2 => .mul
  | _ => .quo
def agN9 : SVal := .agg [.v (.int .i64 9), .sym (.int .u64 (.var 24))]
def UV4 (k : Int) : List SEntry := [(25, [ag0 k], .v (.int .i64 0)), (25, [ag1 k], .v (.int .i64 0)), (35, [ag0 k], .v (.int .i64 0)), (35, [ag1 k], .v (.int .i64 0))]
def UG2 : List SEntry := UV4 9 ++ [(95, [.sym (.int .u64 (.var 0))], .sym (.nm 0)), (95, [.sym (.int .u64 (.var 10))], .sym (.nm 1))]
noncomputable def TG : List XE := [(kVal, [.v (.func (.func 89) #[] #[]), .sym (.int .u32 (.cv .u32 (.var 0)))], .sym (.nm 0)), (kVal, [.v (.func (.func 89) #[] #[]), .sym (.int .u32 (.cv .u32 (.var 10)))], .sym (.nm 1))]
theorem UV4_ok {W : Nat → Nat} {C : Nat → Nat × Nat} {k b b2 B B2 : Int} {L : List CF} {T : List XE} {aR aS : Addr} (h1 : Chk aR aS k b 0) (h2 : Chk aR aS k b2 0) : ∀ x ∈ UV4 k, @SOk (E W C (rg b b2 B B2) L T) Tryz.prog (glob aR aS) x := fun x hx => by
  simp only [UV4, List.mem_cons, List.not_mem_nil, or_false] at hx
  rcases hx with rfl | rfl | rfl | rfl
  · exact sokE (vs := [agV k b]) (v := .int .i64 0) rfl rfl rfl rfl fun w hG => (h1 w hG).2
  · exact sokE (vs := [agV k b2]) (v := .int .i64 0) rfl rfl rfl rfl fun w hG => (h2 w hG).2
  · exact sokE (vs := [agV k b]) (v := .int .i64 0) rfl rfl rfl rfl fun w hG => (h1 w hG).1
  · exact sokE (vs := [agV k b2]) (v := .int .i64 0) rfl rfl rfl rfl fun w hG => (h2 w hG).1
theorem UG2_ok {F G S : Nat} {B B2 : Int} {L : List CF} {T : List XE} {aR aS : Addr} (hF : HF F) (hG' : HF G) (h1 : Chk aR aS 9 F 0) (h2 : Chk aR aS 9 G 0) : ∀ x ∈ UG2, @SOk (E (wA F G S) c0 (rg F G B B2) L T) Tryz.prog (glob aR aS) x := fun x hx => by
  rcases List.mem_append.1 hx with h | h
  · exact UV4_ok h1 h2 x h
  simp only [List.mem_cons, List.not_mem_nil, or_false] at h
  rcases h with rfl | rfl
  · exact sokE (vs := [.int .u64 F]) (v := .float .f32 F) rfl rfl rfl rfl fun w hG => float_calls aR aS F hF.1 hF.2.1 hF.2.2 w hG
  · exact sokE (vs := [.int .u64 G]) (v := .float .f32 G) rfl rfl rfl rfl fun w hG => float_calls aR aS G hG'.1 hG'.2.1 hG'.2.2 w hG
theorem TG_ok {F G S : Nat} {B B2 : Int} (hF : HF F) (hG' : HF G) : XF (wA F G S) c0 (rg F G B B2) TG := fun x hx => by
  obtain ⟨a, _⟩ := hF
  obtain ⟨c, _⟩ := hG'
  simp only [TG, List.mem_cons, List.not_mem_nil, or_false] at hx
  rcases hx with rfl | rfl
  · exact xok_from ext_from (e := .cv .u32 (.var 0)) (c := F) rfl rfl (by show IntKind.wrap .u32 (F : Int) = F; rw [wrap_u32]; omega)
  · exact xok_from ext_from (e := .cv .u32 (.var 10)) (c := G) rfl rfl (by show IntKind.wrap .u32 (G : Int) = G; rw [wrap_u32]; omega)
theorem xf_app {W : Nat → Nat} {C : Nat → Nat × Nat} {ρ : Nat → Int} {T U : List XE} (h1 : XF W C ρ T) (h2 : XF W C ρ U) : XF W C ρ (T ++ U) := fun x hx => (List.mem_append.1 hx).elim (h1 x) (h2 x)
theorem sok_app {e : Env} {G : Glob} {T U : List SEntry} (h1 : ∀ x ∈ T, @SOk e Tryz.prog G x) (h2 : ∀ x ∈ U, @SOk e Tryz.prog G x) : ∀ x ∈ T ++ U, @SOk e Tryz.prog G x := fun x hx => (List.mem_append.1 hx).elim (h1 x) (h2 x)
/-- A sum, a difference, a product, a quotient. -/
noncomputable def Tar (o : Nat) : List XE := TG ++ ((kBin (oB o), [.sym (.nm 0), .sym (.nm 1)], .sym (.nm 2)) :: if o = 3 then [(kBin .eql, [.sym (.nm 1), zeroF], .v (.bool false))] else [])
def Uar : List SEntry := UG2 ++ [(88, [.sym (.nm 2)], .sym (.nm 3)), (29, [.sym (.nm 3)], agN9), (127, [.sym (.nm 2)], agN9)]
def Jar (o : Nat) : List SEntry := [(7, [.v (.int .i64 ((o + 6 : Nat) : Int)), ag0 9, ag1 9], .tuple [agN9, .v (.int .i64 0)]), (8, [.v (.int .i64 ((o + 6 : Nat) : Int)), ag0 9, ag1 9], .tuple [agN9, .v (.int .i64 0)])]
theorem run_ar0 (W : Nat → Nat) (C : Nat → Nat × Nat) (ρ : Nat → Int) (aR aS : Addr) : runE W C ρ aR aS [] (Tar 0) Uar (Jar 0) := by unfold runE; kernel_rfl
theorem run_ar1 (W : Nat → Nat) (C : Nat → Nat × Nat) (ρ : Nat → Int) (aR aS : Addr) : runE W C ρ aR aS [] (Tar 1) Uar (Jar 1) := by unfold runE; kernel_rfl
theorem run_ar2 (W : Nat → Nat) (C : Nat → Nat × Nat) (ρ : Nat → Int) (aR aS : Addr) : runE W C ρ aR aS [] (Tar 2) Uar (Jar 2) := by unfold runE; kernel_rfl
theorem run_ar3 (W : Nat → Nat) (C : Nat → Nat × Nat) (ρ : Nat → Int) (aR aS : Addr) : runE W C ρ aR aS [] (Tar 3) Uar (Jar 3) := by unfold runE; kernel_rfl
theorem ar_of {F G : Nat} {aR aS : Addr} (hF : HF F) (hG' : HF G) (h1 : Chk aR aS 9 F 0) (h2 : Chk aR aS 9 G 0) {o : Nat} (ho : oB o = .add ∨ oB o = .sub ∨ oB o = .mul ∨ (oB o = .quo ∧ G % 2147483648 ≠ 0)) (hz : o = 3 → G % 2147483648 ≠ 0) (h : ∀ W ρ, runE W c0 ρ aR aS [] (Tar o) Uar (Jar o)) : ApV aR aS ((o + 6 : Nat) : Int) 9 F 9 G := by
  obtain ⟨S, hS, hN⟩ := ar_num (a := F) (b := G) ⟨hF.1, hF.2.1⟩ ⟨hG'.1, hG'.2.1⟩ ho
  refine ⟨9, normW S, 0, fun w hG => pair_of (W := wA F G S) (C := c0) (ρ := rg F G (normW S) 0) (fun _ h => by cases h) (xf_app (TG_ok hF hG') fun x hx => ?_) (sok_app (UG2_ok hF hG' h1 h2) fun x hx => ?_) (h _ _) rfl rfl rfl (vs := [.int .i64 ((o + 6 : Nat) : Int), agV 9 F, agV 9 G]) rfl rfl rfl w hG⟩
  · rcases List.mem_cons.1 hx with rfl | hx
    · exact xok_ar (a := F) (b := G) (c := S) rfl rfl rfl hS
    · split at hx
      case isFalse => cases hx
      rename_i h3
      obtain rfl := List.mem_singleton.1 hx
      refine xok_cmp (a := G) (b := 0) rfl rfl rfl ?_
      rw [cmpF_key rfl (fin_num ⟨hG'.1, hG'.2.1⟩) num_0]
      have := hz h3
      show (keyB G == keyB 0) = false
      refine beq_false_of_ne fun he => ?_
      unfold keyB at he
      split at he <;> simp at he <;> omega
  · simp only [List.mem_cons, List.not_mem_nil, or_false] at hx
    rcases hx with rfl | rfl | rfl
    · exact sokE (vs := [.float .f32 S]) (v := .float .f32 (normW S)) rfl rfl rfl rfl fun w hG => (made_calls aR aS S hN w hG).1
    · refine sokE (vs := [.float .f32 (normW S)]) (v := agV 9 (normW S)) rfl rfl rfl rfl fun w hG => ?_
      have := (from_calls aR aS (normW S) (fin_num (normW_fin hN).1) w hG).1
      rw [normW_idem hN] at this
      exact this
    · exact sokE (vs := [.float .f32 S]) (v := agV 9 (normW S)) rfl rfl rfl rfl fun w hG => (from_calls aR aS S hN w hG).2
/-- A quotient by 0. -/
noncomputable def Tz : List XE := TG ++ [(kBin .eql, [.sym (.nm 1), zeroF], .v (.bool true))]
def Uz : List SEntry := UG2 ++ [(29, [zeroF], .v (agV 9 0)), (127, [zeroF], .v (agV 9 0))]
def Jz : List SEntry := [(7, [.v (.int .i64 9), ag0 9, ag1 9], .v (.tuple #[agV 9 0, .int .i64 0])), (8, [.v (.int .i64 9), ag0 9, ag1 9], .v (.tuple #[agV 9 0, .int .i64 0]))]
theorem run_z3 (W : Nat → Nat) (C : Nat → Nat × Nat) (ρ : Nat → Int) (aR aS : Addr) : runE W C ρ aR aS [] Tz Uz Jz := by unfold runE; kernel_rfl
theorem quo_z {F G : Nat} {aR aS : Addr} (hF : HF F) (hG' : HF G) (h1 : Chk aR aS 9 F 0) (h2 : Chk aR aS 9 G 0) (hz : G = 0) : ApV aR aS 9 9 F 9 G := by
  refine ⟨9, 0, 0, fun w hG => pair_of (W := wA F G 0) (C := c0) (ρ := rg F G 0 0) (fun _ h => by cases h) (xf_app (TG_ok hF hG') fun x hx => ?_) (sok_app (UG2_ok hF hG' h1 h2) fun x hx => ?_) (run_z3 _ _ _ aR aS) rfl rfl rfl (vs := [.int .i64 9, agV 9 F, agV 9 G]) rfl rfl rfl w hG⟩
  · obtain rfl := List.mem_singleton.1 hx
    refine xok_cmp (a := G) (b := 0) rfl rfl rfl ?_
    rw [cmpF_key rfl (fin_num ⟨hG'.1, hG'.2.1⟩) num_0, hz]
    rfl
  · have hc := from_calls aR aS 0 num_0
    simp only [List.mem_cons, List.not_mem_nil, or_false] at hx
    rcases hx with rfl | rfl
    · exact sokE (vs := [.float .f32 0]) (v := agV 9 0) rfl rfl rfl rfl fun w hG => (hc w hG).1
    · exact sokE (vs := [.float .f32 0]) (v := agV 9 0) rfl rfl rfl rfl fun w hG => (hc w hG).2
/-- The lesser, the greater one. -/
noncomputable def Tm (mx r : Bool) : List XE := TG ++ [(if mx then kMax else kMin, [.sym (.nm 0), .sym (.nm 1)], .sym (.nm 2)), (kBin .lss, if mx then [.sym (.nm 0), .sym (.nm 1)] else [.sym (.nm 1), .sym (.nm 0)], .v (.bool r))]
def Umm : List SEntry := UG2 ++ [(29, [.sym (.nm 2)], agN9)]
def opM (mx : Bool) : Int := if mx then 12 else 11
def Jmm (mx r : Bool) : List SEntry := [(7, [.v (.int .i64 (opM mx)), ag0 9, ag1 9], .tuple [agN9, .v (.int .i64 0)]), (8, [.v (.int .i64 (opM mx)), ag0 9, ag1 9], .tuple [.agg [.v (.int .i64 9), .sym (.int .u64 (.var (if r then 10 else 0)))], .v (.int .i64 0)])]
theorem run_mm (W : Nat → Nat) (C : Nat → Nat × Nat) (ρ : Nat → Int) (aR aS : Addr) (mx r : Bool) : runE W C ρ aR aS [] (Tm mx r) Umm (Jmm mx r) := by
  unfold runE
  cases mx <;> cases r
  · kernel_rfl
  · kernel_rfl
  · kernel_rfl
  · kernel_rfl
theorem mm_of {F G : Nat} {aR aS : Addr} (hF : HF F) (hG' : HF G) (h1 : Chk aR aS 9 F 0) (h2 : Chk aR aS 9 G 0) (mx r : Bool) (hr : (if mx then decide (keyB F < keyB G) else decide (keyB G < keyB F)) = r) : ApV aR aS (opM mx) 9 F 9 G := by
  have hS : HF (if r then G else F) := by cases r <;> assumption
  have nF := fin_num ⟨hF.1, hF.2.1⟩
  have nG := fin_num ⟨hG'.1, hG'.2.1⟩
  refine ⟨9, ((if r then G else F : Nat) : Int), 0, fun w hG => pair_of (W := wA F G (if r then G else F)) (C := c0) (ρ := rg F G ((if r then G else F : Nat) : Int) 0) (fun _ h => by cases h) (xf_app (TG_ok hF hG') fun x hx => ?_) (sok_app (UG2_ok hF hG' h1 h2) fun x hx => ?_) (run_mm _ _ _ aR aS mx r) rfl rfl (by cases r <;> rfl) (vs := [.int .i64 (opM mx), agV 9 F, agV 9 G]) rfl rfl (by cases r <;> rfl) w hG⟩
  · simp only [List.mem_cons, List.not_mem_nil, or_false] at hx
    rcases hx with rfl | rfl
    · cases mx
      · simp only [Bool.false_eq_true, if_false] at hr ⊢
        refine xok_min (a := F) (b := G) ⟨hF.1, hF.2.1⟩ ⟨hG'.1, hG'.2.1⟩ hF.2.2 hG'.2.2 rfl rfl ?_
        show Value.float .f32 (if r then G else F) = _
        rw [← hr]
        by_cases h : keyB G < keyB F <;> simp [h]
      · simp only [if_true] at hr ⊢
        refine xok_max (a := F) (b := G) ⟨hF.1, hF.2.1⟩ ⟨hG'.1, hG'.2.1⟩ hF.2.2 hG'.2.2 rfl rfl ?_
        show Value.float .f32 (if r then G else F) = _
        rw [← hr]
        by_cases h : keyB F < keyB G <;> simp [h]
    · cases mx
      · simp only [Bool.false_eq_true, if_false] at hr ⊢
        exact xok_cmp (a := G) (b := F) rfl rfl rfl (by rw [cmpF_key rfl nG nF]; exact hr)
      · simp only [if_true] at hr ⊢
        exact xok_cmp (a := F) (b := G) rfl rfl rfl (by rw [cmpF_key rfl nF nG]; exact hr)
  · obtain rfl := List.mem_singleton.1 hx
    refine sokE (vs := [.float .f32 (if r then G else F)]) (v := agV 9 ((if r then G else F : Nat) : Int)) rfl rfl rfl rfl fun w hG => ?_
    have := (from_calls aR aS _ (fin_num ⟨hS.1, hS.2.1⟩) w hG).1
    rw [normW_right hS.2.1 hS.2.2 hS.1] at this
    exact this
/-- Which one is less, and at most. -/
noncomputable def Tl (r s : Bool) : List XE := TG ++ [(kBin .lss, [.sym (.nm 0), .sym (.nm 1)], .v (.bool r)), (kBin .lss, [.sym (.nm 1), .sym (.nm 0)], .v (.bool s))]
def tr (b : Bool) : SVal := .v (.tuple #[agV 0 (if b then 1 else 0), .int .i64 0])
def Jl (r s : Bool) : List SEntry := [(7, [.v (.int .i64 24), ag0 9, ag1 9], tr r), (8, [.v (.int .i64 24), ag0 9, ag1 9], tr r), (7, [.v (.int .i64 25), ag0 9, ag1 9], tr (!s)), (8, [.v (.int .i64 25), ag0 9, ag1 9], tr (!s))]
theorem run_l (W : Nat → Nat) (C : Nat → Nat × Nat) (ρ : Nat → Int) (aR aS : Addr) (r s : Bool) : runE W C ρ aR aS [] (Tl r s) UG2 (Jl r s) := by
  unfold runE
  cases r <;> cases s
  · kernel_rfl
  · kernel_rfl
  · kernel_rfl
  · kernel_rfl
theorem lss_of {F G : Nat} {aR aS : Addr} (hF : HF F) (hG' : HF G) (h1 : Chk aR aS 9 F 0) (h2 : Chk aR aS 9 G 0) : ApV aR aS 24 9 F 9 G ∧ ApV aR aS 25 9 F 9 G := by
  have nF := fin_num ⟨hF.1, hF.2.1⟩
  have nG := fin_num ⟨hG'.1, hG'.2.1⟩
  have hT : XF (wA F G 0) c0 (rg F G 0 0) (Tl (decide (keyB F < keyB G)) (decide (keyB G < keyB F))) := xf_app (TG_ok hF hG') fun x hx => by
    simp only [List.mem_cons, List.not_mem_nil, or_false] at hx
    rcases hx with rfl | rfl
    · exact xok_cmp (a := F) (b := G) rfl rfl rfl (by rw [cmpF_key rfl nF nG]; rfl)
    · exact xok_cmp (a := G) (b := F) rfl rfl rfl (by rw [cmpF_key rfl nG nF]; rfl)
  have go : ∀ {e : SEntry}, e ∈ Jl (decide (keyB F < keyB G)) (decide (keyB G < keyB F)) → ∀ {op x : Int}, e.2.1 = [.v (.int .i64 op), ag0 9, ag1 9] → e.2.2 = .v (.tuple #[agV 0 x, .int .i64 0]) → ∀ w, (glob aR aS).holds w → Calls Tryz.prog e.1 #[.int .i64 op, agV 9 F, agV 9 G] w (Ret (.tuple #[agV 0 x, .int .i64 0]) w) := fun {e} he {op x} h3 h4 w hG =>
    calls_symF (W := wA F G 0) (C := c0) (ρ := rg F G 0 0) (L := []) (fun _ h => by cases h) hT (UG2_ok hF hG' h1 h2) (run_l _ _ _ aR aS _ _) he (by rw [h3]; rfl) (by rw [h4]; rfl) (vs := [.int .i64 op, agV 9 F, agV 9 G]) (by rw [h3]; rfl) (by rw [h4]; rfl) hG
  exact ⟨⟨0, _, 0, fun w hG => ⟨go (e := (7, _, _)) (List.mem_cons_self) rfl rfl w hG, go (e := (8, _, _)) (List.mem_cons_of_mem _ List.mem_cons_self) rfl rfl w hG⟩⟩, ⟨0, _, 0, fun w hG => ⟨go (e := (7, _, _)) (List.mem_cons_of_mem _ (List.mem_cons_of_mem _ List.mem_cons_self)) rfl rfl w hG, go (e := (8, _, _)) (List.mem_cons_of_mem _ (List.mem_cons_of_mem _ (List.mem_cons_of_mem _ List.mem_cons_self))) rfl rfl w hG⟩⟩⟩
/-- Equal, not equal: of any kind. -/
def Leq (r : Bool) : List CF := [⟨.eql, .var 0, .var 10, r⟩]
def Jeq (k : Int) (r : Bool) : List SEntry := [(7, [.v (.int .i64 22), ag0 k, ag1 k], tr r), (8, [.v (.int .i64 22), ag0 k, ag1 k], tr r), (7, [.v (.int .i64 23), ag0 k, ag1 k], tr (!r)), (8, [.v (.int .i64 23), ag0 k, ag1 k], tr (!r))]
def k11 : List Nat := [0, 1, 2, 3, 4, 5, 6, 7, 8, 9, 10]
noncomputable def runQ (W : Nat → Nat) (C : Nat → Nat × Nat) (ρ : Nat → Int) (aR aS : Addr) (r : Bool) (k : Nat) : List (Option SVal) := (Jeq k r).map (fun e => (@call (E W C ρ (Leq r) []) Tryz.prog (glob aR aS) (tabS (UV4 k)) 300 60 (.fn e.1) e.2.1 []).map fun r => nrm r.1)
theorem run_qt (W : Nat → Nat) (C : Nat → Nat × Nat) (ρ : Nat → Int) (aR aS : Addr) : k11.map (runQ W C ρ aR aS true) = k11.map fun (k : Nat) => (Jeq k true).map fun e => some e.2.2 := by kernel_rfl
theorem run_qf (W : Nat → Nat) (C : Nat → Nat × Nat) (ρ : Nat → Int) (aR aS : Addr) : k11.map (runQ W C ρ aR aS false) = k11.map fun (k : Nat) => (Jeq k false).map fun e => some e.2.2 := by kernel_rfl
theorem eq_of {aR aS : Addr} {k : Nat} (hk : k ∈ k11) {b b2 : Int} (h1 : Chk aR aS k b 0) (h2 : Chk aR aS k b2 0) : ApV aR aS 22 k b k b2 ∧ ApV aR aS 23 k b k b2 := by
  have hr : ∀ W C ρ (r : Bool), runE W C ρ aR aS (Leq r) [] (UV4 k) (Jeq k r) := fun W C ρ r => by
    cases r
    · exact List.map_inj_left.1 (run_qf W C ρ aR aS) k hk
    · exact List.map_inj_left.1 (run_qt W C ρ aR aS) k hk
  have hL : ∀ f ∈ Leq (b == b2), f.ok (rg b b2 0 0) := fun f hf => by
    obtain rfl := List.mem_singleton.1 hf
    exact ⟨rfl, rfl⟩
  have go : ∀ {e : SEntry}, e ∈ Jeq k (b == b2) → ∀ {op x : Int}, e.2.1 = [.v (.int .i64 op), ag0 k, ag1 k] → e.2.2 = .v (.tuple #[agV 0 x, .int .i64 0]) → ∀ w, (glob aR aS).holds w → Calls Tryz.prog e.1 #[.int .i64 op, agV k b, agV k b2] w (Ret (.tuple #[agV 0 x, .int .i64 0]) w) := fun {e} he {op x} h3 h4 w hG =>
    calls_symF (W := wF 0) (C := c0) (ρ := rg b b2 0 0) (T := []) hL (fun _ h => by cases h) (UV4_ok h1 h2) (hr _ _ _ _) he (by rw [h3]; rfl) (by rw [h4]; rfl) (vs := [.int .i64 op, agV k b, agV k b2]) (by rw [h3]; rfl) (by rw [h4]; rfl) hG
  exact ⟨⟨0, _, 0, fun w hG => ⟨go (e := (7, _, _)) (List.mem_cons_self) rfl rfl w hG, go (e := (8, _, _)) (List.mem_cons_of_mem _ List.mem_cons_self) rfl rfl w hG⟩⟩, ⟨0, _, 0, fun w hG => ⟨go (e := (7, _, _)) (List.mem_cons_of_mem _ (List.mem_cons_of_mem _ List.mem_cons_self)) rfl rfl w hG, go (e := (8, _, _)) (List.mem_cons_of_mem _ (List.mem_cons_of_mem _ (List.mem_cons_of_mem _ List.mem_cons_self))) rfl rfl w hG⟩⟩⟩
/-- All of floats. -/
theorem float_all {F G : Nat} {aR aS : Addr} (hF : HF F) (hG' : HF G) (h1 : Chk aR aS 9 F 0) (h2 : Chk aR aS 9 G 0) : ApV aR aS 6 9 F 9 G ∧ ApV aR aS 7 9 F 9 G ∧ ApV aR aS 8 9 F 9 G ∧ ApV aR aS 9 9 F 9 G ∧ ApV aR aS 11 9 F 9 G ∧ ApV aR aS 12 9 F 9 G ∧ ApV aR aS 24 9 F 9 G ∧ ApV aR aS 25 9 F 9 G := by
  refine ⟨ar_of hF hG' h1 h2 (o := 0) (.inl rfl) (fun h => by cases h) (fun W ρ => run_ar0 _ _ _ aR aS), ar_of hF hG' h1 h2 (o := 1) (.inr (.inl rfl)) (fun h => by cases h) (fun W ρ => run_ar1 _ _ _ aR aS), ar_of hF hG' h1 h2 (o := 2) (.inr (.inr (.inl rfl))) (fun h => by cases h) (fun W ρ => run_ar2 _ _ _ aR aS), ?_, mm_of hF hG' h1 h2 false _ rfl, mm_of hF hG' h1 h2 true _ rfl, (lss_of hF hG' h1 h2).1, (lss_of hF hG' h1 h2).2⟩
  by_cases hz : G % 2147483648 = 0
  · exact quo_z hF hG' h1 h2 (by obtain ⟨a, _, c⟩ := hG'; omega)
  · exact ar_of hF hG' h1 h2 (o := 3) (.inr (.inr (.inr ⟨rfl, hz⟩))) (fun _ => hz) (fun W ρ => run_ar3 _ _ _ aR aS)
end
end Go.Proofs.YtonkcpmefnddaaaGreatDoor

namespace Go.Proofs.YtonkcpmefnddaaaGreatDoor
noncomputable section
open Go Go.RX
open Go.RowKit (Below)
set_option maxRecDepth 1000000
set_option maxHeartbeats 4000000

/-! ### Complex numbers -/
theorem or_words {X Y : Nat} (hX : X < 4294967296) (hY : Y < 4294967296) : binI .or .u64 (X : Int) (shI .shl .u64 (Y : Int) 32) = binI .add .u64 (X : Int) (binI .mul .u64 (Y : Int) 4294967296) := by
  have e1 : shI .shl .u64 (Y : Int) 32 = ((Y * 4294967296 : Nat) : Int) := by
    rw [shl_u64_32, wrap_u64]
    omega
  have e2 : binI .mul .u64 (Y : Int) 4294967296 = ((Y * 4294967296 : Nat) : Int) := by
    show IntKind.wrap .u64 ((Y : Int) * 4294967296) = _
    rw [wrap_u64]
    omega
  have e3 : X ||| Y * 4294967296 = X + Y * 4294967296 := or_pow (s := 32) (by omega)
  rw [e1, e2, or_nat (by omega) (by omega), e3]
  show _ = IntKind.wrap .u64 _
  rw [wrap_u64]
  omega
def wC (l : List Nat) : Nat → Nat := fun i => l.getD i 0
def cC (a b c d e f : Nat) : Nat → Nat × Nat := fun i => match i with
  | 20 => (a, b)
  | 21 => (c, d)
  | _ => (e, f)
def agM9 : SVal := .agg [.v (.int .i64 9), .sym (.int .u64 (.var 25))]
def n_ (i : Nat) : SVal := .sym (.nm i)
noncomputable def fr (e : IE) (i : Nat) : XE := (kVal, [.v (.func (.func 89) #[] #[]), .sym (.int .u32 (.cv .u32 e))], .sym (.nm i))
noncomputable def TC0 : List XE := [fr (.var 0) 0, fr (.sh .shr .u64 (.var 0) (.lit 32)) 1, fr (.var 10) 2, fr (.sh .shr .u64 (.var 10) (.lit 32)) 3, (kCall .complex, [n_ 0, n_ 1], n_ 20), (kCall .complex, [n_ 2, n_ 3], n_ 21), (kCall .real, [n_ 20], n_ 0), (kCall .imag, [n_ 20], n_ 1), (kCall .real, [n_ 21], n_ 2), (kCall .imag, [n_ 21], n_ 3)]
def lo32 (i : Nat) : SVal := .sym (.int .u64 (.bin .rem .u64 (.var i) (.lit 4294967296)))
def hi32 (i : Nat) : SVal := .sym (.int .u64 (.bin .quo .u64 (.var i) (.lit 4294967296)))
def UC0 : List SEntry := UV4 10 ++ [(95, [lo32 0], n_ 0), (95, [hi32 0], n_ 1), (95, [lo32 10], n_ 2), (95, [hi32 10], n_ 3)]
/-- A right complex number, by its words. -/
def HC (b : Int) (F G : Nat) : Prop := HF F ∧ HF G ∧ (F : Int) = b % 4294967296 ∧ (G : Int) = b / 4294967296 ∧ 0 ≤ b ∧ b < 18446744073709551616
theorem fr_ok {W : Nat → Nat} {C : Nat → Nat × Nat} {ρ : Nat → Int} {e : IE} {i F : Nat} (hw : Word (nmF W C) (.sym (.nm i)) F) (he : e.ev ρ % 4294967296 = F) : XOk Tryz.prog (nmF W C) (nmF_flat W C) ρ (fr e i) :=
  xok_from ext_from (e := .cv .u32 e) (c := F) rfl hw (by show IntKind.wrap .u32 (e.ev ρ) = F; rw [wrap_u32, he])
theorem TC0_ok {b b2 B B2 : Int} {F0 F1 G0 G1 e f : Nat} {l : List Nat} (hA : HC b F0 F1) (hB : HC b2 G0 G1) : XF (wC (F0 :: F1 :: G0 :: G1 :: l)) (cC F0 F1 G0 G1 e f) (rg b b2 B B2) TC0 := fun x hx => by
  obtain ⟨a1, a2, a3, a4, a5, a6⟩ := hA
  obtain ⟨c1, c2, c3, c4, c5, c6⟩ := hB
  simp only [TC0, List.mem_cons, List.not_mem_nil, or_false] at hx
  rcases hx with rfl | rfl | rfl | rfl | rfl | rfl | rfl | rfl | rfl | rfl
  · exact fr_ok (F := F0) rfl a3.symm
  · refine fr_ok (F := F1) rfl ?_
    show shI .shr .u64 b 32 % 4294967296 = F1
    rw [shr_u64_32]
    omega
  · exact fr_ok (F := G0) rfl c3.symm
  · refine fr_ok (F := G1) rfl ?_
    show shI .shr .u64 b2 32 % 4294967296 = G1
    rw [shr_u64_32]
    omega
  · exact xok_complex (a := F0) (b := F1) rfl rfl rfl
  · exact xok_complex (a := G0) (b := G1) rfl rfl rfl
  · exact xok_real (a := F0) (b := F1) rfl rfl
  · exact xok_imag (a := F0) (b := F1) rfl rfl
  · exact xok_real (a := G0) (b := G1) rfl rfl
  · exact xok_imag (a := G0) (b := G1) rfl rfl
theorem lo_ev {b : Int} {F : Nat} (h0 : 0 ≤ b) (h : (F : Int) = b % 4294967296) : binI .rem .u64 b 4294967296 = F := by
  show b.tmod 4294967296 = _
  rw [Int.tmod_eq_emod_of_nonneg h0, h]
theorem hi_ev {b : Int} {F : Nat} (h0 : 0 ≤ b) (h1 : b < 18446744073709551616) (h : (F : Int) = b / 4294967296) : binI .quo .u64 b 4294967296 = F := by
  show IntKind.wrap .u64 (b.tdiv 4294967296) = _
  rw [Int.tdiv_eq_ediv_of_nonneg h0, wrap_u64, h]
  omega
theorem flo_ok {W : Nat → Nat} {C : Nat → Nat × Nat} {ρ : Nat → Int} {L : List CF} {T : List XE} {aR aS : Addr} {e : IE} {i F : Nat} (hF : HF F) (hw : nmF W C i = .float .f32 F) (he : e.ev ρ = F) : @SOk (E W C ρ L T) Tryz.prog (glob aR aS) (95, [.sym (.int .u64 e)], .sym (.nm i)) :=
  sokE (vs := [.int .u64 (F : Int)]) (v := .float .f32 F) rfl rfl (by show some [Value.int .u64 (e.ev ρ)] = _; rw [he]) (by show some (nmF W C i) = _; rw [hw]) fun w hG => float_calls aR aS F hF.1 hF.2.1 hF.2.2 w hG
theorem UC0_ok {b b2 B B2 : Int} {F0 F1 G0 G1 e f : Nat} {l : List Nat} {L : List CF} {T : List XE} {aR aS : Addr} (hA : HC b F0 F1) (hB : HC b2 G0 G1) (h1 : Chk aR aS 10 b 0) (h2 : Chk aR aS 10 b2 0) : ∀ x ∈ UC0, @SOk (E (wC (F0 :: F1 :: G0 :: G1 :: l)) (cC F0 F1 G0 G1 e f) (rg b b2 B B2) L T) Tryz.prog (glob aR aS) x := fun x hx => by
  obtain ⟨a1, a2, a3, a4, a5, a6⟩ := hA
  obtain ⟨c1, c2, c3, c4, c5, c6⟩ := hB
  rcases List.mem_append.1 hx with h | h
  · exact UV4_ok h1 h2 x h
  simp only [List.mem_cons, List.not_mem_nil, or_false] at h
  rcases h with rfl | rfl | rfl | rfl
  · exact flo_ok (F := F0) a1 rfl (lo_ev a5 a3)
  · exact flo_ok (F := F1) a2 rfl (hi_ev a5 a6 a4)
  · exact flo_ok (F := G0) c1 rfl (lo_ev c5 c3)
  · exact flo_ok (F := G1) c2 rfl (hi_ev c5 c6 c4)
/-- What is made of floats. -/
def mdU (i j : Nat) : List SEntry := [(88, [n_ i], n_ j), (129, [n_ i], n_ j)]
theorem mdU_ok {W : Nat → Nat} {C : Nat → Nat × Nat} {ρ : Nat → Int} {L : List CF} {T : List XE} {aR aS : Addr} {i j S : Nat} (hS : Num S) (hi : nmF W C i = .float .f32 S) (hj : nmF W C j = .float .f32 (normW S)) : ∀ x ∈ mdU i j, @SOk (E W C ρ L T) Tryz.prog (glob aR aS) x := fun x hx => by
  simp only [mdU, List.mem_cons, List.not_mem_nil, or_false] at hx
  rcases hx with rfl | rfl
  · exact sokE (vs := [.float .f32 S]) (v := .float .f32 (normW S)) rfl rfl (by show some [nmF W C i] = _; rw [hi]) (by show some (nmF W C j) = _; rw [hj]) fun w hG => (made_calls aR aS S hS w hG).1
  · exact sokE (vs := [.float .f32 S]) (v := .float .f32 (normW S)) rfl rfl (by show some [nmF W C i] = _; rw [hi]) (by show some (nmF W C j) = _; rw [hj]) fun w hG => (made_calls aR aS S hS w hG).2
def fvU (i : Nat) (r : SVal) : List SEntry := [(29, [n_ i], r), (127, [n_ i], r)]
theorem fvU_ok {W : Nat → Nat} {C : Nat → Nat × Nat} {ρ : Nat → Int} {L : List CF} {T : List XE} {aR aS : Addr} {i j S : Nat} (hS : Num S) (hi : nmF W C i = .float .f32 (normW S)) (hj : ρ j = (normW S : Nat)) : ∀ x ∈ fvU i (.agg [.v (.int .i64 9), .sym (.int .u64 (.var j))]), @SOk (E W C ρ L T) Tryz.prog (glob aR aS) x := fun x hx => by
  have hc := from_calls aR aS (normW S) (fin_num (normW_fin hS).1)
  rw [normW_idem hS] at hc
  simp only [fvU, List.mem_cons, List.not_mem_nil, or_false] at hx
  rcases hx with rfl | rfl
  · exact sokE (vs := [.float .f32 (normW S)]) (v := agV 9 (normW S : Nat)) rfl rfl (by show some [nmF W C i] = _; rw [hi]) (by show some (Value.agg #[.int .i64 9, .int .u64 (ρ j)]) = _; rw [hj]) fun w hG => (hc w hG).1
  · exact sokE (vs := [.float .f32 (normW S)]) (v := agV 9 (normW S : Nat)) rfl rfl (by show some [nmF W C i] = _; rw [hi]) (by show some (Value.agg #[.int .i64 9, .int .u64 (ρ j)]) = _; rw [hj]) fun w hG => (hc w hG).2
def cpx (i j : Nat) : List XE := [(kCall .complex, [n_ i, n_ j], n_ 22), (kCall .real, [n_ 22], n_ i), (kCall .imag, [n_ 22], n_ j)]
theorem cpx_ok {W : Nat → Nat} {C : Nat → Nat × Nat} {ρ : Nat → Int} {i j X Y : Nat} (hi : Word (nmF W C) (n_ i) X) (hj : Word (nmF W C) (n_ j) Y) (hc : Words (nmF W C) (n_ 22) X Y) : XF W C ρ (cpx i j) := fun x hx => by
  simp only [cpx, List.mem_cons, List.not_mem_nil, or_false] at hx
  rcases hx with rfl | rfl | rfl
  · exact xok_complex hi hj hc
  · exact xok_real hc hi
  · exact xok_imag hc hj
def cRp : SVal := .tuple [.agg [.v (.int .i64 10), .sym (.int .u64 (.bin .or .u64 (.var 24) (.sh .shl .u64 (.var 25) (.lit 32))))], .v (.int .i64 0)]
def cRr : SVal := .tuple [.agg [.v (.int .i64 10), .sym (.int .u64 (.bin .add .u64 (.var 24) (.bin .mul .u64 (.var 25) (.lit 4294967296))))], .v (.int .i64 0)]
def JC2 (o : Nat) : List SEntry := [(7, [.v (.int .i64 ((o + 6 : Nat) : Int)), ag0 10, ag1 10], cRp), (8, [.v (.int .i64 ((o + 6 : Nat) : Int)), ag0 10, ag1 10], cRr)]
/-- Sums and differences. -/
noncomputable def Tas (o : Nat) : List XE := TC0 ++ ([(kBin (oB o), [n_ 0, n_ 2], n_ 4), (kBin (oB o), [n_ 1, n_ 3], n_ 5)] ++ cpx 6 7)
def Uas : List SEntry := UC0 ++ (mdU 4 6 ++ (mdU 5 7 ++ (fvU 6 agN9 ++ fvU 7 agM9)))
theorem run_as0 (W : Nat → Nat) (C : Nat → Nat × Nat) (ρ : Nat → Int) (aR aS : Addr) : runE W C ρ aR aS [] (Tas 0) Uas (JC2 0) := by unfold runE; kernel_rfl
theorem run_as1 (W : Nat → Nat) (C : Nat → Nat × Nat) (ρ : Nat → Int) (aR aS : Addr) : runE W C ρ aR aS [] (Tas 1) Uas (JC2 1) := by unfold runE; kernel_rfl
theorem cEnd {x y : Int} (h : x = y) : some (Value.tuple #[agV 10 x, .int .i64 0]) = some (Value.tuple #[agV 10 y, .int .i64 0]) := by rw [h]
theorem as_of {b b2 : Int} {F0 F1 G0 G1 : Nat} {aR aS : Addr} (hA : HC b F0 F1) (hB : HC b2 G0 G1) (h1 : Chk aR aS 10 b 0) (h2 : Chk aR aS 10 b2 0) {o : Nat} (ho : oB o = .add ∨ oB o = .sub) (h : ∀ W C ρ, runE W C ρ aR aS [] (Tas o) Uas (JC2 o)) : ApV aR aS ((o + 6 : Nat) : Int) 10 b 10 b2 := by
  have fF0 : Fin32 F0 := ⟨hA.1.1, hA.1.2.1⟩
  have fF1 : Fin32 F1 := ⟨hA.2.1.1, hA.2.1.2.1⟩
  have fG0 : Fin32 G0 := ⟨hB.1.1, hB.1.2.1⟩
  have fG1 : Fin32 G1 := ⟨hB.2.1.1, hB.2.1.2.1⟩
  have ho' : oB o = .add ∨ oB o = .sub ∨ oB o = .mul ∨ (oB o = .quo ∧ G0 % 2147483648 ≠ 0) := ho.elim .inl fun h => .inr (.inl h)
  have ho2 : oB o = .add ∨ oB o = .sub ∨ oB o = .mul ∨ (oB o = .quo ∧ G1 % 2147483648 ≠ 0) := ho.elim .inl fun h => .inr (.inl h)
  obtain ⟨S0, hS0, hN0⟩ := ar_num fF0 fG0 ho'
  obtain ⟨S1, hS1, hN1⟩ := ar_num fF1 fG1 ho2
  have e := or_words (X := normW S0) (Y := normW S1) (normW_fin hN0).1.1 (normW_fin hN1).1.1
  refine ⟨10, binI .or .u64 (normW S0 : Nat) (shI .shl .u64 (normW S1 : Nat) 32), 0, fun w hG => pair_of (W := wC [F0, F1, G0, G1, S0, S1, normW S0, normW S1]) (C := cC F0 F1 G0 G1 (normW S0) (normW S1)) (ρ := rg b b2 (normW S0 : Nat) (normW S1 : Nat)) (fun _ h => by cases h)
    (xf_app (TC0_ok hA hB) (xf_app (fun x hx => ?_) (cpx_ok (i := 6) (j := 7) (X := normW S0) (Y := normW S1) rfl rfl rfl)))
    (sok_app (UC0_ok hA hB h1 h2) (sok_app (mdU_ok hN0 rfl rfl) (sok_app (mdU_ok hN1 rfl rfl) (sok_app (fvU_ok hN0 rfl rfl) (fvU_ok hN1 rfl rfl))))) (h _ _ _) rfl rfl rfl (vs := [.int .i64 ((o + 6 : Nat) : Int), agV 10 b, agV 10 b2]) rfl rfl (cEnd e.symm) w hG⟩
  simp only [List.mem_cons, List.not_mem_nil, or_false] at hx
  rcases hx with rfl | rfl
  · exact xok_ar (a := F0) (b := G0) (c := S0) rfl rfl rfl hS0
  · exact xok_ar (a := F1) (b := G1) (c := S1) rfl rfl rfl hS1
/-- Products. -/
noncomputable def Tmu : List XE := TC0 ++ ([(kBin .mul, [n_ 0, n_ 2], n_ 4), (kBin .mul, [n_ 1, n_ 3], n_ 5), (kBin .mul, [n_ 0, n_ 3], n_ 6), (kBin .mul, [n_ 1, n_ 2], n_ 7), (kBin .sub, [n_ 8, n_ 9], n_ 12), (kBin .add, [n_ 10, n_ 11], n_ 13)] ++ cpx 14 15)
def Umu : List SEntry := UC0 ++ (mdU 4 8 ++ (mdU 5 9 ++ (mdU 6 10 ++ (mdU 7 11 ++ (mdU 12 14 ++ (mdU 13 15 ++ (fvU 14 agN9 ++ fvU 15 agM9)))))))
theorem run_mu (W : Nat → Nat) (C : Nat → Nat × Nat) (ρ : Nat → Int) (aR aS : Addr) : runE W C ρ aR aS [] Tmu Umu (JC2 2) := by unfold runE; kernel_rfl
theorem mu_of {b b2 : Int} {F0 F1 G0 G1 : Nat} {aR aS : Addr} (hA : HC b F0 F1) (hB : HC b2 G0 G1) (h1 : Chk aR aS 10 b 0) (h2 : Chk aR aS 10 b2 0) : ApV aR aS 8 10 b 10 b2 := by
  have fF0 : Fin32 F0 := ⟨hA.1.1, hA.1.2.1⟩
  have fF1 : Fin32 F1 := ⟨hA.2.1.1, hA.2.1.2.1⟩
  have fG0 : Fin32 G0 := ⟨hB.1.1, hB.1.2.1⟩
  have fG1 : Fin32 G1 := ⟨hB.2.1.1, hB.2.1.2.1⟩
  obtain ⟨P0, hP0, hQ0⟩ := ar_num (op := .mul) fF0 fG0 (.inr (.inr (.inl rfl)))
  obtain ⟨P1, hP1, hQ1⟩ := ar_num (op := .mul) fF1 fG1 (.inr (.inr (.inl rfl)))
  obtain ⟨P2, hP2, hQ2⟩ := ar_num (op := .mul) fF0 fG1 (.inr (.inr (.inl rfl)))
  obtain ⟨P3, hP3, hQ3⟩ := ar_num (op := .mul) fF1 fG0 (.inr (.inr (.inl rfl)))
  obtain ⟨S0, hS0, hN0⟩ := ar_num (op := .sub) (normW_fin hQ0).1 (normW_fin hQ1).1 (.inr (.inl rfl))
  obtain ⟨S1, hS1, hN1⟩ := ar_num (op := .add) (normW_fin hQ2).1 (normW_fin hQ3).1 (.inl rfl)
  have e := or_words (X := normW S0) (Y := normW S1) (normW_fin hN0).1.1 (normW_fin hN1).1.1
  refine ⟨10, binI .or .u64 (normW S0 : Nat) (shI .shl .u64 (normW S1 : Nat) 32), 0, fun w hG => pair_of (W := wC [F0, F1, G0, G1, P0, P1, P2, P3, normW P0, normW P1, normW P2, normW P3, S0, S1, normW S0, normW S1]) (C := cC F0 F1 G0 G1 (normW S0) (normW S1)) (ρ := rg b b2 (normW S0 : Nat) (normW S1 : Nat)) (fun _ h => by cases h)
    (xf_app (TC0_ok hA hB) (xf_app (fun x hx => ?_) (cpx_ok (i := 14) (j := 15) (X := normW S0) (Y := normW S1) rfl rfl rfl)))
    (sok_app (UC0_ok hA hB h1 h2) (sok_app (mdU_ok hQ0 rfl rfl) (sok_app (mdU_ok hQ1 rfl rfl) (sok_app (mdU_ok hQ2 rfl rfl) (sok_app (mdU_ok hQ3 rfl rfl) (sok_app (mdU_ok hN0 rfl rfl) (sok_app (mdU_ok hN1 rfl rfl) (sok_app (fvU_ok hN0 rfl rfl) (fvU_ok hN1 rfl rfl))))))))) (run_mu _ _ _ aR aS) rfl rfl rfl (vs := [.int .i64 8, agV 10 b, agV 10 b2]) rfl rfl (cEnd e.symm) w hG⟩
  simp only [List.mem_cons, List.not_mem_nil, or_false] at hx
  rcases hx with rfl | rfl | rfl | rfl | rfl | rfl
  · exact xok_ar (a := F0) (b := G0) (c := P0) rfl rfl rfl hP0
  · exact xok_ar (a := F1) (b := G1) (c := P1) rfl rfl rfl hP1
  · exact xok_ar (a := F0) (b := G1) (c := P2) rfl rfl rfl hP2
  · exact xok_ar (a := F1) (b := G0) (c := P3) rfl rfl rfl hP3
  · exact xok_ar (a := normW P0) (b := normW P1) (c := S0) rfl rfl rfl hS0
  · exact xok_ar (a := normW P2) (b := normW P3) (c := S1) rfl rfl rfl hS1
theorem complex_all {b b2 : Int} {F0 F1 G0 G1 : Nat} {aR aS : Addr} (hA : HC b F0 F1) (hB : HC b2 G0 G1) (h1 : Chk aR aS 10 b 0) (h2 : Chk aR aS 10 b2 0) : ApV aR aS 6 10 b 10 b2 ∧ ApV aR aS 7 10 b 10 b2 ∧ ApV aR aS 8 10 b 10 b2 :=
  ⟨as_of hA hB h1 h2 (o := 0) (.inl rfl) (fun _ _ _ => run_as0 _ _ _ aR aS), as_of hA hB h1 h2 (o := 1) (.inr rfl) (fun _ _ _ => run_as1 _ _ _ aR aS), mu_of hA hB h1 h2⟩
end
end Go.Proofs.YtonkcpmefnddaaaGreatDoor
