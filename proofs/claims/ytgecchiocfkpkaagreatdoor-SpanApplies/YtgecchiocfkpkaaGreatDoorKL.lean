import Derived.Test.YtgecchiocfkpkaaGreatDoorRXD
import Derived.Test.YtgecchiocfkpkaaGreatDoorRXL
import Derived.Test.YtgecchiocfkpkaaGreatDoorRows
import Derived.KernelRfl
namespace Go.Proofs.YtgecchiocfkpkaaGreatDoor
noncomputable section
open Go Go.RX
set_option maxRecDepth 100000
/-! What the row's condition gives: the cells of the variable. -/
theorem gKind : Tryz.prog.globalNamed "halation/num.kindTable" = some 0 := by kernel_rfl
theorem tKind : (Tryz.prog.globals[0]?).map (·.type) = some 184 := by kernel_rfl
def kindCells : List Value := [.string ⟨#[98,111,111,108]⟩, .int .i64 1, .int .i64 1, .bool false, .int .u64 0, .int .u64 1, .string ⟨#[117,56]⟩, .int .i64 2, .int .i64 8, .bool false, .int .u64 0, .int .u64 255, .string ⟨#[117,49,54]⟩, .int .i64 2, .int .i64 16, .bool false, .int .u64 0, .int .u64 65535, .string ⟨#[117,51,50]⟩, .int .i64 2, .int .i64 32, .bool false, .int .u64 0, .int .u64 4294967295, .string ⟨#[117,54,52]⟩, .int .i64 2, .int .i64 64, .bool false, .int .u64 0, .int .u64 18446744073709551615, .string ⟨#[105,56]⟩, .int .i64 2, .int .i64 8, .bool true, .int .u64 128, .int .u64 127, .string ⟨#[105,49,54]⟩, .int .i64 2, .int .i64 16, .bool true, .int .u64 32768, .int .u64 32767, .string ⟨#[105,51,50]⟩, .int .i64 2, .int .i64 32, .bool true, .int .u64 2147483648, .int .u64 2147483647, .string ⟨#[105,54,52]⟩, .int .i64 2, .int .i64 64, .bool true, .int .u64 9223372036854775808, .int .u64 9223372036854775807, .string ⟨#[102,51,50]⟩, .int .i64 4, .int .i64 32, .bool false, .int .u64 4286578687, .int .u64 2139095039, .string ⟨#[99,54,52]⟩, .int .i64 8, .int .i64 64, .bool false, .int .u64 0, .int .u64 0]
theorem cKind : datCells Tryz.prog 9 184 (Rows.laid_halation_num_kindTable (H := Unit)) = some kindCells := by kernel_rfl
/-- What the variables hold. -/
def glob (_ _ : Addr) : Glob := fun g => match g with
  | 0 => some kindCells
  | _ => none
theorem glob_of_laid {W : World} (h : laidMetH Tryz.prog Rows.spanAppliesRow.laid W) : ∃ aRng aSyn, (glob aRng aSyn).holds W := by
  obtain ⟨ps, hl, _, hrows⟩ : laidMet Tryz.prog Rows.spanAppliesRow.laid W := h
  obtain ⟨h6, _⟩ := laid_cells hl gKind tKind cKind
  refine ⟨default, default, fun g l hg k v hk => ?_⟩
  unfold glob at hg
  split at hg
  · cases hg; exact h6 k v hk
  · cases hg
end
end Go.Proofs.YtgecchiocfkpkaaGreatDoor
