import Derived.Test.YthlbienfimdkbaaGreatDoorKHY
namespace Go.Proofs.YthlbienfimdkbaaGreatDoor
open Go Go.RX
set_option maxRecDepth 1000000
noncomputable section
theorem seg_kh4 (aR aS : Addr) : run_kh aR aS (((segs c_kh).drop 0).take 4) s_kh0 = some (.normal, s_kh4) := by unfold run_kh; kernel_rfl
end
end Go.Proofs.YthlbienfimdkbaaGreatDoor

namespace Go.Proofs.YthlbienfimdkbaaGreatDoor
open Go Go.RX
set_option maxRecDepth 1000000
noncomputable section
theorem seg_kh10 (aR aS : Addr) : run_kh aR aS (((segs c_kh).drop 4).take 6) s_kh4 = some (.normal, s_kh10) := by unfold run_kh; kernel_rfl
end
end Go.Proofs.YthlbienfimdkbaaGreatDoor

namespace Go.Proofs.YthlbienfimdkbaaGreatDoor
open Go Go.RX
set_option maxRecDepth 1000000
noncomputable section
theorem seg_kh14 (aR aS : Addr) : run_kh aR aS (((segs c_kh).drop 10).take 4) s_kh10 = some (.normal, s_kh14) := by unfold run_kh; kernel_rfl
end
end Go.Proofs.YthlbienfimdkbaaGreatDoor

namespace Go.Proofs.YthlbienfimdkbaaGreatDoor
open Go Go.RX
set_option maxRecDepth 1000000
noncomputable section
theorem seg_kh18 (aR aS : Addr) : run_kh aR aS (((segs c_kh).drop 14).take 4) s_kh14 = some (.normal, s_kh18) := by unfold run_kh; kernel_rfl
end
end Go.Proofs.YthlbienfimdkbaaGreatDoor

namespace Go.Proofs.YthlbienfimdkbaaGreatDoor
open Go Go.RX
set_option maxRecDepth 1000000
noncomputable section
theorem end_kh (aR aS : Addr) : (endR Tryz.prog (glob aR aS) Tryz.f4 (run_kh aR aS ((segs c_kh).drop 18) s_kh18)).map (fun r => nrm r.1) = some (.v (.bool true)) := by unfold run_kh; kernel_rfl
end
end Go.Proofs.YthlbienfimdkbaaGreatDoor

namespace Go.Proofs.YthlbienfimdkbaaGreatDoor
open Go Go.RX
set_option maxRecDepth 1000000
noncomputable section
theorem whole_kh (aR aS : Addr) : (@call env0 Tryz.prog (glob aR aS) OL_kh 300 60 (.fn 4) [] []).map (fun r => nrm r.1) = some (.v (.bool true)) := by
  have hb : Tryz.f4.body = some c_kh := (Option.some_get body_kh).symm
  rw [@call_segs env0 Tryz.prog (glob aR aS) OL_kh 300 59 4 Tryz.f4 c_kh [] [] (by kernel_rfl) Tryz.func4 hb]
  have e0 : (([] : List SVal) ++ List.replicate (Tryz.f4.ntmps - ([] : List SVal).length) (.v undef), ([] : SHeap)) = s_kh0.1 := by kernel_rfl
  have h0 : @runSegs env0 Tryz.prog (glob aR aS) (@call env0 Tryz.prog (glob aR aS) OL_kh 300 59) 300 none (segs c_kh) ((([] : List SVal) ++ List.replicate (Tryz.f4.ntmps - ([] : List SVal).length) (.v undef), []), []) = run_kh aR aS ((segs c_kh).drop 0) s_kh0 := by
    rw [e0]; rfl
  rw [h0]
  rw [show run_kh aR aS ((segs c_kh).drop 0) s_kh0 = run_kh aR aS ((segs c_kh).drop 4) s_kh4 from by
    have h := @runSegs_split env0 _ _ _ _ _ _ _ _ 4 (seg_kh4 aR aS)
    rw [List.drop_drop] at h
    exact h]
  rw [show run_kh aR aS ((segs c_kh).drop 4) s_kh4 = run_kh aR aS ((segs c_kh).drop 10) s_kh10 from by
    have h := @runSegs_split env0 _ _ _ _ _ _ _ _ 6 (seg_kh10 aR aS)
    rw [List.drop_drop] at h
    exact h]
  rw [show run_kh aR aS ((segs c_kh).drop 10) s_kh10 = run_kh aR aS ((segs c_kh).drop 14) s_kh14 from by
    have h := @runSegs_split env0 _ _ _ _ _ _ _ _ 4 (seg_kh14 aR aS)
    rw [List.drop_drop] at h
    exact h]
  rw [show run_kh aR aS ((segs c_kh).drop 14) s_kh14 = run_kh aR aS ((segs c_kh).drop 18) s_kh18 from by
    have h := @runSegs_split env0 _ _ _ _ _ _ _ _ 4 (seg_kh18 aR aS)
    rw [List.drop_drop] at h
    exact h]
  exact end_kh aR aS
/-- The examples of the chapter stand. -/
theorem awake_ok (aR aS : Addr) (w : World) (hG : (glob aR aS).holds w) : Calls Tryz.prog 4 #[] w fun r w' => r = .returned (.bool true) ∧ Go.RowKit.Below w.heap.size w w' := by
  have h : ([(4, [], .bool true)] : List Entry).map (fun e => (@call env0 Tryz.prog (glob aR aS) OL_kh 300 60 (.fn e.1) (e.2.1.map .v) []).map fun r => nrm r.1) = ([(4, [], .bool true)] : List Entry).map fun e => some (.v e.2.2) := congrArg (fun x => [x]) (whole_kh aR aS)
  exact @tabOk_of_run env0 _ _ _ (OLh_kh aR aS) namesOk0 mixed _ _ _ h _ (List.mem_singleton.2 rfl) w hG
end
end Go.Proofs.YthlbienfimdkbaaGreatDoor
