import Derived.Test.YtgecchiocfkpkaaGreatDoorKL
import Derived.Test.YtgecchiocfkpkaaGreatDoorRXL
namespace Go.Proofs.YtgecchiocfkpkaaGreatDoor
noncomputable section
open Go Go.RX
set_option maxRecDepth 1000000
@[reducible] def env0 : Env := noEnv
theorem names0 : Tryz.prog.funcs.all (fun fn => !(fn.name == "runtime.NumGoroutine") || fn.body.isNone) = true := by kernel_rfl
theorem mixed : Tryz.prog.follows .mixedOrders = true := by kernel_rfl
theorem names1 (f : FuncId) (fn : Func) (hf : Tryz.prog.funcs[f]? = some fn) (hb : fn.body.isSome = true) : (fn.name == "runtime.NumGoroutine") = false := by
  have h := Array.all_eq_true_iff_forall_mem.1 names0 fn (Array.mem_of_getElem? hf)
  have hn : fn.body.isNone = false := by cases hh : fn.body <;> simp_all
  rw [hn, Bool.or_false] at h
  simpa using h
theorem namesOk0 : @NamesOk env0 Tryz.prog := namesOk_noEnv names1
end
end Go.Proofs.YtgecchiocfkpkaaGreatDoor
