import Derived.Test.YtdmbnllekmgnhaaDoorRXD
import Derived.Test.YtdmbnllekmgnhaaDoorRXL
import Derived.Test.YtdmbnllekmgnhaaDoorRows
import Derived.KernelRfl
namespace Go.Proofs.YtdmbnllekmgnhaaDoor
open Go Go.RX
set_option maxRecDepth 100000
/-! What the row's condition gives: the cells of the variables (klgen.py). -/
theorem u9 : Tryd.prog.underlying 9 = some .string := by kernel_rfl
theorem g0 : Tryd.prog.globalNamed "halation/num.kindTable" = some 0 := by kernel_rfl
theorem t0 : (Tryd.prog.globals[0]?).map (·.type) = some 135 := by kernel_rfl
def c0 : List Value := [.string ⟨#[98,111,111,108]⟩, .int .i64 1, .int .i64 1, .bool false, .int .u64 0, .int .u64 1, .string ⟨#[117,56]⟩, .int .i64 2, .int .i64 8, .bool false, .int .u64 0, .int .u64 255, .string ⟨#[117,49,54]⟩, .int .i64 2, .int .i64 16, .bool false, .int .u64 0, .int .u64 65535, .string ⟨#[117,51,50]⟩, .int .i64 2, .int .i64 32, .bool false, .int .u64 0, .int .u64 4294967295, .string ⟨#[117,54,52]⟩, .int .i64 2, .int .i64 64, .bool false, .int .u64 0, .int .u64 18446744073709551615, .string ⟨#[105,56]⟩, .int .i64 2, .int .i64 8, .bool true, .int .u64 128, .int .u64 127, .string ⟨#[105,49,54]⟩, .int .i64 2, .int .i64 16, .bool true, .int .u64 32768, .int .u64 32767, .string ⟨#[105,51,50]⟩, .int .i64 2, .int .i64 32, .bool true, .int .u64 2147483648, .int .u64 2147483647, .string ⟨#[105,54,52]⟩, .int .i64 2, .int .i64 64, .bool true, .int .u64 9223372036854775808, .int .u64 9223372036854775807, .string ⟨#[102,51,50]⟩, .int .i64 4, .int .i64 32, .bool false, .int .u64 4286578687, .int .u64 2139095039, .string ⟨#[99,54,52]⟩, .int .i64 8, .int .i64 64, .bool false, .int .u64 0, .int .u64 0]
theorem d0 : datCells Tryd.prog 9 135 (Rows.laid_halation_num_kindTable (H := Unit)) = some c0 := by kernel_rfl
/-- What the variables hold; errors are pointers that nobody knows. -/
def glob (_ : Addr) (_ : Addr) : Glob := fun g => match g with
  | 0 => some c0
  | _ => none
theorem glob_of_laid {W : World} (h : laidMetH Tryd.prog Rows.imageUnionsRow.laid W) : ∃ a0 a1, (glob a0 a1).holds W := by
  obtain ⟨ps, hl0, _, hrows⟩ : laidMet Tryd.prog Rows.imageUnionsRow.laid W := h
  have s0 : ∀ m ∈ ps, m ∈ ps := fun m hm => hm
  obtain ⟨h0, q1, hl1, r1⟩ := laid_cells hl0 g0 t0 d0
  have s1 : ∀ m ∈ q1, m ∈ ps := fun m hm => s0 m (r1 m hm)
  refine ⟨default, default, fun g l hg k v hk => ?_⟩
  unfold glob at hg
  split at hg
  · cases hg; exact h0 k v hk
  · cases hg
end Go.Proofs.YtdmbnllekmgnhaaDoor

namespace Go.Proofs.YtdmbnllekmgnhaaDoor
open Go Go.RX
set_option maxRecDepth 1000000
@[reducible] def env0 : Env := noEnv
theorem names0 : Tryd.prog.funcs.all (fun fn => !(fn.name == "runtime.NumGoroutine") || fn.body.isNone) = true := by kernel_rfl
theorem mixed : Tryd.prog.follows .mixedOrders = true := by kernel_rfl
theorem names1 (f : FuncId) (fn : Func) (hf : Tryd.prog.funcs[f]? = some fn) (hb : fn.body.isSome = true) : (fn.name == "runtime.NumGoroutine") = false := by
  have h := Array.all_eq_true_iff_forall_mem.1 names0 fn (Array.mem_of_getElem? hf)
  have hn : fn.body.isNone = false := by cases hh : fn.body <;> simp_all
  rw [hn, Bool.or_false] at h
  simpa using h
theorem ro0 : ∀ w, @RoHolds env0 w := fun w => @RoHolds.of_none env0 (fun _ => rfl) (fun _ => rfl) w
theorem namesOk0 : @NamesOk env0 Tryd.prog := namesOk_noEnv names1
end Go.Proofs.YtdmbnllekmgnhaaDoor
