import Derived.Test.YtgecchiocfkpkaaGreatDoorLQ
import Derived.Test.YtgecchiocfkpkaaGreatDoorKS13
namespace Go.Proofs.YtgecchiocfkpkaaGreatDoor
noncomputable section
open Go Go.RX
open Go.RowKit (Below)
set_option maxRecDepth 1000000
set_option maxHeartbeats 4000000
/-! ### The law -/
def xsA : SVal := .agg [sy 3, sy 4]
def xsB : SVal := .agg [sy 5, sy 6]
def gL (e x y : Nat) (f : Bool) : List CF := [⟨.eql, .var e, .lit 0, !f⟩, ⟨.neq, .var e, .lit 0, f⟩] ++ if f then [⟨.eql, .var x, .lit 0, true⟩, ⟨.eql, .var y, .lit 0, true⟩] else []
theorem gL_ok {ρ : Nat → Int} {e x y : Nat} (h : ρ e ≠ 0 → ρ x = 0 ∧ ρ y = 0) : ∀ c ∈ gL e x y (ρ e != 0), c.ok ρ := fun c hc => by
  rcases List.mem_append.1 hc with hc | hc
  · simp only [List.mem_cons, List.not_mem_nil, or_false] at hc
    rcases hc with rfl | rfl
    · exact ⟨rfl, show (ρ e == 0) = !(ρ e != 0) by simp [bne]⟩
    · exact ⟨rfl, rfl⟩
  · split at hc
    · rename_i hb
      obtain ⟨h1, h2⟩ := h (bne_iff_ne.1 hb)
      simp only [List.mem_cons, List.not_mem_nil, or_false] at hc
      rcases hc with rfl | rfl
      · exact ⟨rfl, beq_iff_eq.2 h1⟩
      · exact ⟨rfl, beq_iff_eq.2 h2⟩
    · cases hc
def L_law (f1 f2 f3 f4 f5 : Bool) : List CF := gL 9 7 8 f1 ++ (gL 12 10 11 f2 ++ (gL 15 13 14 f3 ++ (gL 18 16 17 f4 ++ gL 21 19 20 f5)))
def U1 (f : Bool) : List SEntry := [(5, [sy 0, sy 1, xsA, xsB], .tuple [.agg [sy 7, sy 8], sy 9]), (7, [sy 0, sy 1, xsA, xsB], sy 9)] ++ if f then [] else [(8, [sy 0, sy 1, xsA, xsB], .agg [sy 7, sy 8])]
def U2 (f : Bool) : List SEntry := [(9, [sy 1, xsA], .tuple [.agg [sy 10, sy 11], sy 12]), (10, [sy 1, xsA], sy 12)] ++ if f then [] else [(11, [sy 1, xsA], .agg [sy 10, sy 11])]
def U3 (o : SVal) (x y e : Nat) (f : Bool) : List SEntry := [(12, [o, sy 1, sy 2, xsA], .tuple [.agg [sy x, sy y], sy e]), (13, [o, sy 1, sy 2, xsA], sy e)] ++ if f then [] else [(14, [o, sy 2, xsA], .agg [sy x, sy y])]
def U_law (f1 f2 f3 f4 f5 : Bool) : List SEntry := (4, [], .v (.bool true)) :: (U1 f1 ++ (U2 f2 ++ (U3 (.v (.int .i64 27)) 13 14 15 f3 ++ (U3 (.v (.int .i64 28)) 16 17 18 f4 ++ U3 (sy 0) 19 20 21 f5))))
def xsL : List SVal := [sy 0, .agg [sy 1, sy 2], xsA, xsB]
theorem run_l00 (ρ : Nat → Int) (aR aS : Addr) (f3 f4 f5 : Bool) : runE ρ aR aS (L_law false false f3 f4 f5) (U_law false false f3 f4 f5) [(3, xsL, .v (.bool true))] := by
  unfold runE
  cases f3 <;> cases f4 <;> cases f5 <;> kernel_rfl
theorem run_l01 (ρ : Nat → Int) (aR aS : Addr) (f3 f4 f5 : Bool) : runE ρ aR aS (L_law false true f3 f4 f5) (U_law false true f3 f4 f5) [(3, xsL, .v (.bool true))] := by
  unfold runE
  cases f3 <;> cases f4 <;> cases f5 <;> kernel_rfl
theorem run_l10 (ρ : Nat → Int) (aR aS : Addr) (f3 f4 f5 : Bool) : runE ρ aR aS (L_law true false f3 f4 f5) (U_law true false f3 f4 f5) [(3, xsL, .v (.bool true))] := by
  unfold runE
  cases f3 <;> cases f4 <;> cases f5 <;> kernel_rfl
theorem run_l11 (ρ : Nat → Int) (aR aS : Addr) (f3 f4 f5 : Bool) : runE ρ aR aS (L_law true true f3 f4 f5) (U_law true true f3 f4 f5) [(3, xsL, .v (.bool true))] := by
  unfold runE
  cases f3 <;> cases f4 <;> cases f5 <;> kernel_rfl
theorem run_law (ρ : Nat → Int) (aR aS : Addr) (f1 f2 f3 f4 f5 : Bool) : runE ρ aR aS (L_law f1 f2 f3 f4 f5) (U_law f1 f2 f3 f4 f5) [(3, xsL, .v (.bool true))] := by
  cases f1 <;> cases f2
  · exact run_l00 ρ aR aS f3 f4 f5
  · exact run_l01 ρ aR aS f3 f4 f5
  · exact run_l10 ρ aR aS f3 f4 f5
  · exact run_l11 ρ aR aS f3 f4 f5
theorem spanApplies_ok (aR aS : Addr) (op k t al ah bl bh : Int) : ∀ w, (glob aR aS).holds w → Calls Tryz.prog 3 #[.int .i64 op, .agg #[.int .i64 k, .int .i64 t], spV al ah, spV bl bh] w (Ret (.bool true) w) := fun w hG => by
  obtain ⟨l1, h1, e1, p1, q1, z1⟩ := ap_all aR aS op k al ah bl bh
  obtain ⟨l2, h2, e2, p2, q2, z2⟩ := nt_all aR aS k al ah
  obtain ⟨l3, h3, e3, p3, q3, z3⟩ := cv_all aR aS 27 k t al ah
  obtain ⟨l4, h4, e4, p4, q4, z4⟩ := cv_all aR aS 28 k t al ah
  obtain ⟨l5, h5, e5, p5, q5, z5⟩ := cv_all aR aS op k t al ah
  generalize hρ : mL [op, k, t, al, ah, bl, bh, l1, h1, e1, l2, h2, e2, l3, h3, e3, l4, h4, e4, l5, h5, e5] = ρ
  refine calls_sym (ρ := ρ) (L := L_law (e1 != 0) (e2 != 0) (e3 != 0) (e4 != 0) (e5 != 0)) (U := U_law (e1 != 0) (e2 != 0) (e3 != 0) (e4 != 0) (e5 != 0)) (fun f hf => ?_) (fun u hu => ?_) (run_law ρ aR aS _ _ _ _ _) List.mem_cons_self rfl rfl (vs := [.int .i64 op, .agg #[.int .i64 k, .int .i64 t], spV al ah, spV bl bh]) (by subst hρ; rfl) rfl hG
  · subst hρ
    rcases List.mem_append.1 hf with hf | hf
    · exact gL_ok (e := 9) (x := 7) (y := 8) z1 f hf
    rcases List.mem_append.1 hf with hf | hf
    · exact gL_ok (e := 12) (x := 10) (y := 11) z2 f hf
    rcases List.mem_append.1 hf with hf | hf
    · exact gL_ok (e := 15) (x := 13) (y := 14) z3 f hf
    rcases List.mem_append.1 hf with hf | hf
    · exact gL_ok (e := 18) (x := 16) (y := 17) z4 f hf
    · exact gL_ok (e := 21) (x := 19) (y := 20) z5 f hf
  · subst hρ
    rcases List.mem_cons.1 hu with rfl | hu
    · exact sokE rfl rfl (vs := []) (v := .bool true) rfl rfl (awake_ok aR aS)
    rcases List.mem_append.1 hu with hu | hu
    · rcases List.mem_append.1 hu with hu | hu
      · simp only [List.mem_cons, List.not_mem_nil, or_false] at hu
        rcases hu with rfl | rfl
        · exact sokE rfl rfl (vs := [.int .i64 op, .int .i64 k, spV al ah, spV bl bh]) (v := .tuple #[spV l1 h1, .int .i64 e1]) rfl rfl fun w hG => (p1 w hG).1
        · exact sokE rfl rfl (vs := [.int .i64 op, .int .i64 k, spV al ah, spV bl bh]) (v := .int .i64 e1) rfl rfl fun w hG => (p1 w hG).2
      · split at hu
        · cases hu
        · rename_i hb
          obtain rfl := List.mem_singleton.1 hu
          exact sokE rfl rfl (vs := [.int .i64 op, .int .i64 k, spV al ah, spV bl bh]) (v := spV l1 h1) rfl rfl (q1 (by simpa using hb))
    rcases List.mem_append.1 hu with hu | hu
    · rcases List.mem_append.1 hu with hu | hu
      · simp only [List.mem_cons, List.not_mem_nil, or_false] at hu
        rcases hu with rfl | rfl
        · exact sokE rfl rfl (vs := [.int .i64 k, spV al ah]) (v := .tuple #[spV l2 h2, .int .i64 e2]) rfl rfl fun w hG => (p2 w hG).1
        · exact sokE rfl rfl (vs := [.int .i64 k, spV al ah]) (v := .int .i64 e2) rfl rfl fun w hG => (p2 w hG).2
      · split at hu
        · cases hu
        · rename_i hb
          obtain rfl := List.mem_singleton.1 hu
          exact sokE rfl rfl (vs := [.int .i64 k, spV al ah]) (v := spV l2 h2) rfl rfl (q2 (by simpa using hb))
    rcases List.mem_append.1 hu with hu | hu
    · rcases List.mem_append.1 hu with hu | hu
      · simp only [List.mem_cons, List.not_mem_nil, or_false] at hu
        rcases hu with rfl | rfl
        · exact sokE rfl rfl (vs := [.int .i64 27, .int .i64 k, .int .i64 t, spV al ah]) (v := .tuple #[spV l3 h3, .int .i64 e3]) rfl rfl fun w hG => (p3 w hG).1
        · exact sokE rfl rfl (vs := [.int .i64 27, .int .i64 k, .int .i64 t, spV al ah]) (v := .int .i64 e3) rfl rfl fun w hG => (p3 w hG).2
      · split at hu
        · cases hu
        · rename_i hb
          obtain rfl := List.mem_singleton.1 hu
          exact sokE rfl rfl (vs := [.int .i64 27, .int .i64 t, spV al ah]) (v := spV l3 h3) rfl rfl (q3 (by simpa using hb))
    rcases List.mem_append.1 hu with hu | hu
    · rcases List.mem_append.1 hu with hu | hu
      · simp only [List.mem_cons, List.not_mem_nil, or_false] at hu
        rcases hu with rfl | rfl
        · exact sokE rfl rfl (vs := [.int .i64 28, .int .i64 k, .int .i64 t, spV al ah]) (v := .tuple #[spV l4 h4, .int .i64 e4]) rfl rfl fun w hG => (p4 w hG).1
        · exact sokE rfl rfl (vs := [.int .i64 28, .int .i64 k, .int .i64 t, spV al ah]) (v := .int .i64 e4) rfl rfl fun w hG => (p4 w hG).2
      · split at hu
        · cases hu
        · rename_i hb
          obtain rfl := List.mem_singleton.1 hu
          exact sokE rfl rfl (vs := [.int .i64 28, .int .i64 t, spV al ah]) (v := spV l4 h4) rfl rfl (q4 (by simpa using hb))
    · rcases List.mem_append.1 hu with hu | hu
      · simp only [List.mem_cons, List.not_mem_nil, or_false] at hu
        rcases hu with rfl | rfl
        · exact sokE rfl rfl (vs := [.int .i64 op, .int .i64 k, .int .i64 t, spV al ah]) (v := .tuple #[spV l5 h5, .int .i64 e5]) rfl rfl fun w hG => (p5 w hG).1
        · exact sokE rfl rfl (vs := [.int .i64 op, .int .i64 k, .int .i64 t, spV al ah]) (v := .int .i64 e5) rfl rfl fun w hG => (p5 w hG).2
      · split at hu
        · cases hu
        · rename_i hb
          obtain rfl := List.mem_singleton.1 hu
          exact sokE rfl rfl (vs := [.int .i64 op, .int .i64 t, spV al ah]) (v := spV l5 h5) rfl rfl (q5 (by simpa using hb))
end
end Go.Proofs.YtgecchiocfkpkaaGreatDoor
