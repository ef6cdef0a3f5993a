import Derived.Test.YtonkcpmefnddaaaGreatDoorRX1
import Derived.Test.YtonkcpmefnddaaaGreatDoorRXL
import Derived.Test.YtonkcpmefnddaaaGreatDoorRows
import Derived.KernelRfl
namespace Go.Proofs.YtonkcpmefnddaaaGreatDoor
noncomputable section
open Go Go.RX
set_option maxRecDepth 100000
/-! What the row's condition gives: the cells of the variables. -/
theorem gKind : Tryz.prog.globalNamed "halation/num.kindTable" = some 0 := by kernel_rfl
theorem gPow : Tryz.prog.globalNamed "internal/strconv.uint64pow10" = some 4 := by kernel_rfl
theorem gSyn : Tryz.prog.globalNamed "strconv.ErrSyntax" = some 2 := by kernel_rfl
theorem gRng : Tryz.prog.globalNamed "strconv.ErrRange" = some 3 := by kernel_rfl
theorem gD32 : Tryz.prog.globalNamed "math/bits.deBruijn32tab" = some 5 := by kernel_rfl
theorem gD64 : Tryz.prog.globalNamed "math/bits.deBruijn64tab" = some 6 := by kernel_rfl
theorem tKind : (Tryz.prog.globals[0]?).map (·.type) = some 101 := by kernel_rfl
theorem tPow : (Tryz.prog.globals[4]?).map (·.type) = some 184 := by kernel_rfl
theorem tSyn : (Tryz.prog.globals[2]?).map (·.type) = some 120 := by kernel_rfl
theorem tRng : (Tryz.prog.globals[3]?).map (·.type) = some 120 := by kernel_rfl
theorem tD32 : (Tryz.prog.globals[5]?).map (·.type) = some 193 := by kernel_rfl
theorem tD64 : (Tryz.prog.globals[6]?).map (·.type) = some 194 := by kernel_rfl
theorem uErr : Tryz.prog.underlying 189 = some (.pointer 191) := by kernel_rfl
theorem u9 : Tryz.prog.underlying 9 = some .string := by kernel_rfl
theorem star : "*errors.errorString" = "*" ++ "errors.errorString" := by decide
theorem errRow (u : TypeId) (h : Tryz.prog.typeName? 3 u = some "*errors.errorString") : u = 189 :=
  typeName_ptr_named (nm := "errors.errorString") (by rw [← star]; kernel_rfl) (by kernel_rfl) (by decide) u (by rw [← star]; exact h)

def kindCells : List Value := [.string ⟨#[98,111,111,108]⟩, .int .i64 1, .int .i64 1, .bool false, .int .u64 0, .int .u64 1, .string ⟨#[117,56]⟩, .int .i64 2, .int .i64 8, .bool false, .int .u64 0, .int .u64 255, .string ⟨#[117,49,54]⟩, .int .i64 2, .int .i64 16, .bool false, .int .u64 0, .int .u64 65535, .string ⟨#[117,51,50]⟩, .int .i64 2, .int .i64 32, .bool false, .int .u64 0, .int .u64 4294967295, .string ⟨#[117,54,52]⟩, .int .i64 2, .int .i64 64, .bool false, .int .u64 0, .int .u64 18446744073709551615, .string ⟨#[105,56]⟩, .int .i64 2, .int .i64 8, .bool true, .int .u64 128, .int .u64 127, .string ⟨#[105,49,54]⟩, .int .i64 2, .int .i64 16, .bool true, .int .u64 32768, .int .u64 32767, .string ⟨#[105,51,50]⟩, .int .i64 2, .int .i64 32, .bool true, .int .u64 2147483648, .int .u64 2147483647, .string ⟨#[105,54,52]⟩, .int .i64 2, .int .i64 64, .bool true, .int .u64 9223372036854775808, .int .u64 9223372036854775807, .string ⟨#[102,51,50]⟩, .int .i64 4, .int .i64 32, .bool false, .int .u64 4286578687, .int .u64 2139095039, .string ⟨#[99,54,52]⟩, .int .i64 8, .int .i64 64, .bool false, .int .u64 0, .int .u64 0]
def powCells : List Value := [.int .u64 1, .int .u64 10, .int .u64 100, .int .u64 1000, .int .u64 10000, .int .u64 100000, .int .u64 1000000, .int .u64 10000000, .int .u64 100000000, .int .u64 1000000000, .int .u64 10000000000, .int .u64 100000000000, .int .u64 1000000000000, .int .u64 10000000000000, .int .u64 100000000000000, .int .u64 1000000000000000, .int .u64 10000000000000000, .int .u64 100000000000000000, .int .u64 1000000000000000000, .int .u64 10000000000000000000]
def d32Cells : List Value := [.int .u8 0, .int .u8 1, .int .u8 28, .int .u8 2, .int .u8 29, .int .u8 14, .int .u8 24, .int .u8 3, .int .u8 30, .int .u8 22, .int .u8 20, .int .u8 15, .int .u8 25, .int .u8 17, .int .u8 4, .int .u8 8, .int .u8 31, .int .u8 27, .int .u8 13, .int .u8 23, .int .u8 21, .int .u8 19, .int .u8 16, .int .u8 7, .int .u8 26, .int .u8 12, .int .u8 18, .int .u8 6, .int .u8 11, .int .u8 5, .int .u8 10, .int .u8 9]
def d64Cells : List Value := [.int .u8 0, .int .u8 1, .int .u8 56, .int .u8 2, .int .u8 57, .int .u8 49, .int .u8 28, .int .u8 3, .int .u8 61, .int .u8 58, .int .u8 42, .int .u8 50, .int .u8 38, .int .u8 29, .int .u8 17, .int .u8 4, .int .u8 62, .int .u8 47, .int .u8 59, .int .u8 36, .int .u8 45, .int .u8 43, .int .u8 51, .int .u8 22, .int .u8 53, .int .u8 39, .int .u8 33, .int .u8 30, .int .u8 24, .int .u8 18, .int .u8 12, .int .u8 5, .int .u8 63, .int .u8 55, .int .u8 48, .int .u8 27, .int .u8 60, .int .u8 41, .int .u8 37, .int .u8 16, .int .u8 46, .int .u8 35, .int .u8 44, .int .u8 21, .int .u8 52, .int .u8 32, .int .u8 23, .int .u8 11, .int .u8 54, .int .u8 26, .int .u8 40, .int .u8 15, .int .u8 34, .int .u8 20, .int .u8 31, .int .u8 10, .int .u8 25, .int .u8 14, .int .u8 19, .int .u8 9, .int .u8 13, .int .u8 8, .int .u8 7, .int .u8 6]
theorem cKind : datCells Tryz.prog 9 101 (Rows.laid_halation_num_kindTable (H := Unit)) = some kindCells := by kernel_rfl
theorem cPow : datCells Tryz.prog 9 184 (Rows.laid_internal_strconv_uint64pow10 (H := Unit)) = some powCells := by kernel_rfl
theorem cD32 : datCells Tryz.prog 9 193 (Rows.laid_math_bits_deBruijn32tab (H := Unit)) = some d32Cells := by kernel_rfl
theorem cD64 : datCells Tryz.prog 9 194 (Rows.laid_math_bits_deBruijn64tab (H := Unit)) = some d64Cells := by kernel_rfl

/-- What the variables hold; the two errors are pointers that nobody knows. -/
def glob (aRng aSyn : Addr) : Glob := fun g => match g with
  | 0 => some kindCells
  | 4 => some powCells
  | 2 => some [.iface 189 (.pointer (some aSyn))]
  | 3 => some [.iface 189 (.pointer (some aRng))]
  | 5 => some d32Cells
  | 6 => some d64Cells
  | _ => none

theorem glob_of_laid {W : World} (h : laidMetH Tryz.prog Rows.numAppliesRow.laid W) : ∃ aRng aSyn, (glob aRng aSyn).holds W := by
  obtain ⟨ps, hl, _, hrows⟩ : laidMet Tryz.prog Rows.numAppliesRow.laid W := h
  obtain ⟨h1, q1, hl1, s1⟩ := laid_cells hl gD32 tD32 cD32
  obtain ⟨h2, q2, hl2, s2⟩ := laid_cells hl1 gD64 tD64 cD64
  obtain ⟨h3, q3, hl3, s3⟩ := laid_cells hl2 gPow tPow cPow
  obtain ⟨⟨aR, h4⟩, q4, hl4, s4⟩ := laid_sentinel hl3 (fun b off hm => (hrows b off (s1 _ (s2 _ (s3 _ hm)))).2) gRng tRng Tryz.underlying120 errRow Tryz.underlying189 Tryz.underlying191 rfl rfl Tryz.underlying9 (by kernel_rfl) (by kernel_rfl)
  obtain ⟨⟨aS, h5⟩, q5, hl5, s5⟩ := laid_sentinel hl4 (fun b off hm => (hrows b off (s1 _ (s2 _ (s3 _ (s4 _ hm))))).2) gSyn tSyn Tryz.underlying120 errRow Tryz.underlying189 Tryz.underlying191 rfl rfl Tryz.underlying9 (by kernel_rfl) (by kernel_rfl)
  obtain ⟨h6, _⟩ := laid_cells hl5 gKind tKind cKind
  refine ⟨aR, aS, fun g l hg k v hk => ?_⟩
  unfold glob at hg
  split at hg
  · cases hg; exact h6 k v hk
  · cases hg; exact h3 k v hk
  · cases hg
    cases k with
    | zero => simp only [List.getElem?_cons_zero, Option.some.injEq] at hk; subst hk; exact h5
    | succ k => simp at hk
  · cases hg
    cases k with
    | zero => simp only [List.getElem?_cons_zero, Option.some.injEq] at hk; subst hk; exact h4
    | succ k => simp at hk
  · cases hg; exact h1 k v hk
  · cases hg; exact h2 k v hk
  · cases hg
end
end Go.Proofs.YtonkcpmefnddaaaGreatDoor
