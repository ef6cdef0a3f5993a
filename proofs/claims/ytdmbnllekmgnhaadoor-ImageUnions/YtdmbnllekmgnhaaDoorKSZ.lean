import Derived.Test.YtdmbnllekmgnhaaDoorKS2
import Derived.Test.YtdmbnllekmgnhaaDoorKS8
import Derived.Test.YtdmbnllekmgnhaaDoorKS9
import Derived.Test.YtdmbnllekmgnhaaDoorKS10
import Derived.Test.YtdmbnllekmgnhaaDoorKS11
import Derived.Test.YtdmbnllekmgnhaaDoorKS14
import Derived.Test.YtdmbnllekmgnhaaDoorKS17
import Derived.Test.YtdmbnllekmgnhaaDoorKS18
namespace Go.Proofs.YtdmbnllekmgnhaaDoor
open Go Go.RX
set_option maxRecDepth 1000000
noncomputable section
theorem end_ks (aR aS : Addr) : (@endR env0 Tryd.prog (glob aR aS) Tryd.f5 (run_ks aR aS ((segs c_ks).drop 18) s_ks18)).map (fun r => nrm r.1) = some (.v (.bool true)) := by unfold run_ks; kernel_rfl
theorem whole_ks (aR aS : Addr) : (@call env0 Tryd.prog (glob aR aS) O_ks 300 60 (.fn 5) [] []).map (fun r => nrm r.1) = some (.v (.bool true)) := by
  have hb : Tryd.f5.body = some c_ks := (Option.some_get body_ks).symm
  rw [@call_segs env0 Tryd.prog (glob aR aS) O_ks 300 59 5 Tryd.f5 c_ks [] [] (by kernel_rfl) Tryd.func5 hb]
  have e0 : (([] : List SVal) ++ List.replicate (Tryd.f5.ntmps - ([] : List SVal).length) (.v undef), ([] : SHeap)) = s_ks0.1 := by kernel_rfl
  have h0 : @runSegs env0 Tryd.prog (glob aR aS) (@call env0 Tryd.prog (glob aR aS) O_ks 300 59) 300 none (segs c_ks) ((([] : List SVal) ++ List.replicate (Tryd.f5.ntmps - ([] : List SVal).length) (.v undef), []), []) = run_ks aR aS ((segs c_ks).drop 0) s_ks0 := by
    rw [e0]; rfl
  rw [h0]
  rw [show run_ks aR aS ((segs c_ks).drop 0) s_ks0 = run_ks aR aS ((segs c_ks).drop 2) s_ks2 from by
    have h := @runSegs_split env0 _ _ _ _ _ _ _ _ 2 (seg_ks2 aR aS)
    rw [List.drop_drop] at h
    exact h]
  rw [show run_ks aR aS ((segs c_ks).drop 2) s_ks2 = run_ks aR aS ((segs c_ks).drop 4) s_ks4 from by
    have h := @runSegs_split env0 _ _ _ _ _ _ _ _ 2 (seg_ks4 aR aS)
    rw [List.drop_drop] at h
    exact h]
  rw [show run_ks aR aS ((segs c_ks).drop 4) s_ks4 = run_ks aR aS ((segs c_ks).drop 6) s_ks6 from by
    have h := @runSegs_split env0 _ _ _ _ _ _ _ _ 2 (seg_ks6 aR aS)
    rw [List.drop_drop] at h
    exact h]
  rw [show run_ks aR aS ((segs c_ks).drop 6) s_ks6 = run_ks aR aS ((segs c_ks).drop 8) s_ks8 from by
    have h := @runSegs_split env0 _ _ _ _ _ _ _ _ 2 (seg_ks8 aR aS)
    rw [List.drop_drop] at h
    exact h]
  rw [show run_ks aR aS ((segs c_ks).drop 8) s_ks8 = run_ks aR aS ((segs c_ks).drop 9) s_ks9 from by
    have h := @runSegs_split env0 _ _ _ _ _ _ _ _ 1 (seg_ks9 aR aS)
    rw [List.drop_drop] at h
    exact h]
  rw [show run_ks aR aS ((segs c_ks).drop 9) s_ks9 = run_ks aR aS ((segs c_ks).drop 10) s_ks10 from by
    have h := @runSegs_split env0 _ _ _ _ _ _ _ _ 1 (seg_ks10 aR aS)
    rw [List.drop_drop] at h
    exact h]
  rw [show run_ks aR aS ((segs c_ks).drop 10) s_ks10 = run_ks aR aS ((segs c_ks).drop 11) s_ks11 from by
    have h := @runSegs_split env0 _ _ _ _ _ _ _ _ 1 (seg_ks11 aR aS)
    rw [List.drop_drop] at h
    exact h]
  rw [show run_ks aR aS ((segs c_ks).drop 11) s_ks11 = run_ks aR aS ((segs c_ks).drop 12) s_ks12 from by
    have h := @runSegs_split env0 _ _ _ _ _ _ _ _ 1 (seg_ks12 aR aS)
    rw [List.drop_drop] at h
    exact h]
  rw [show run_ks aR aS ((segs c_ks).drop 12) s_ks12 = run_ks aR aS ((segs c_ks).drop 13) s_ks13 from by
    have h := @runSegs_split env0 _ _ _ _ _ _ _ _ 1 (seg_ks13 aR aS)
    rw [List.drop_drop] at h
    exact h]
  rw [show run_ks aR aS ((segs c_ks).drop 13) s_ks13 = run_ks aR aS ((segs c_ks).drop 14) s_ks14 from by
    have h := @runSegs_split env0 _ _ _ _ _ _ _ _ 1 (seg_ks14 aR aS)
    rw [List.drop_drop] at h
    exact h]
  rw [show run_ks aR aS ((segs c_ks).drop 14) s_ks14 = run_ks aR aS ((segs c_ks).drop 15) s_ks15 from by
    have h := @runSegs_split env0 _ _ _ _ _ _ _ _ 1 (seg_ks15 aR aS)
    rw [List.drop_drop] at h
    exact h]
  rw [show run_ks aR aS ((segs c_ks).drop 15) s_ks15 = run_ks aR aS ((segs c_ks).drop 16) s_ks16 from by
    have h := @runSegs_split env0 _ _ _ _ _ _ _ _ 1 (seg_ks16 aR aS)
    rw [List.drop_drop] at h
    exact h]
  rw [show run_ks aR aS ((segs c_ks).drop 16) s_ks16 = run_ks aR aS ((segs c_ks).drop 17) s_ks17 from by
    have h := @runSegs_split env0 _ _ _ _ _ _ _ _ 1 (seg_ks17 aR aS)
    rw [List.drop_drop] at h
    exact h]
  rw [show run_ks aR aS ((segs c_ks).drop 17) s_ks17 = run_ks aR aS ((segs c_ks).drop 18) s_ks18 from by
    have h := @runSegs_split env0 _ _ _ _ _ _ _ _ 1 (seg_ks18 aR aS)
    rw [List.drop_drop] at h
    exact h]
  exact end_ks aR aS
theorem awake_ok (aR aS : Addr) (w : World) (hG : (glob aR aS).holds w) : Calls Tryd.prog 5 #[] w fun r w' => r = .returned (.bool true) ∧ Go.RowKit.Below w.heap.size w w' := by
  have h : ([(5, [], .bool true)] : List Entry).map (fun e => (@call env0 Tryd.prog (glob aR aS) O_ks 300 60 (.fn e.1) (e.2.1.map .v) []).map fun r => nrm r.1) = ([(5, [], .bool true)] : List Entry).map fun e => some (.v e.2.2) := congrArg (fun x => [x]) (whole_ks aR aS)
  exact @tabOk_of_run env0 _ _ _ (@tabO_holds env0 _ _ _ (ok_kt1 aR aS)) namesOk0 mixed _ _ _ h ro0 _ (List.mem_singleton.2 rfl) w hG
end
end Go.Proofs.YtdmbnllekmgnhaaDoor
