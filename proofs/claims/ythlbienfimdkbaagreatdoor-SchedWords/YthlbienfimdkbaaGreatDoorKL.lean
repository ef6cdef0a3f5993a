import Derived.Test.YthlbienfimdkbaaGreatDoorRXD
import Derived.Test.YthlbienfimdkbaaGreatDoorRXL
import Derived.Test.YthlbienfimdkbaaGreatDoorRows
import Derived.KernelRfl
namespace Go.Proofs.YthlbienfimdkbaaGreatDoor
open Go Go.RX
set_option maxRecDepth 100000
/-! What the row's condition gives: the cells of the variables (klgen.py). -/
theorem u9 : Tryz.prog.underlying 9 = some .string := by kernel_rfl
theorem star : "*errors.errorString" = "*" ++ "errors.errorString" := by decide
theorem errRow (u : TypeId) (h : Tryz.prog.typeName? 3 u = some "*errors.errorString") : u = 317 :=
  typeName_ptr_named (nm := "errors.errorString") (by rw [← star]; kernel_rfl) (by kernel_rfl) (by decide) u (by rw [← star]; exact h)
theorem g0 : Tryz.prog.globalNamed "math/bits.deBruijn32tab" = some 7 := by kernel_rfl
theorem t0 : (Tryz.prog.globals[7]?).map (·.type) = some 307 := by kernel_rfl
def c0 : List Value := [.int .u8 0, .int .u8 1, .int .u8 28, .int .u8 2, .int .u8 29, .int .u8 14, .int .u8 24, .int .u8 3, .int .u8 30, .int .u8 22, .int .u8 20, .int .u8 15, .int .u8 25, .int .u8 17, .int .u8 4, .int .u8 8, .int .u8 31, .int .u8 27, .int .u8 13, .int .u8 23, .int .u8 21, .int .u8 19, .int .u8 16, .int .u8 7, .int .u8 26, .int .u8 12, .int .u8 18, .int .u8 6, .int .u8 11, .int .u8 5, .int .u8 10, .int .u8 9]
theorem d0 : datCells Tryz.prog 9 307 (Rows.laid_math_bits_deBruijn32tab (H := Unit)) = some c0 := by kernel_rfl
theorem g1 : Tryz.prog.globalNamed "math/bits.deBruijn64tab" = some 8 := by kernel_rfl
theorem t1 : (Tryz.prog.globals[8]?).map (·.type) = some 308 := by kernel_rfl
def c1 : List Value := [.int .u8 0, .int .u8 1, .int .u8 56, .int .u8 2, .int .u8 57, .int .u8 49, .int .u8 28, .int .u8 3, .int .u8 61, .int .u8 58, .int .u8 42, .int .u8 50, .int .u8 38, .int .u8 29, .int .u8 17, .int .u8 4, .int .u8 62, .int .u8 47, .int .u8 59, .int .u8 36, .int .u8 45, .int .u8 43, .int .u8 51, .int .u8 22, .int .u8 53, .int .u8 39, .int .u8 33, .int .u8 30, .int .u8 24, .int .u8 18, .int .u8 12, .int .u8 5, .int .u8 63, .int .u8 55, .int .u8 48, .int .u8 27, .int .u8 60, .int .u8 41, .int .u8 37, .int .u8 16, .int .u8 46, .int .u8 35, .int .u8 44, .int .u8 21, .int .u8 52, .int .u8 32, .int .u8 23, .int .u8 11, .int .u8 54, .int .u8 26, .int .u8 40, .int .u8 15, .int .u8 34, .int .u8 20, .int .u8 31, .int .u8 10, .int .u8 25, .int .u8 14, .int .u8 19, .int .u8 9, .int .u8 13, .int .u8 8, .int .u8 7, .int .u8 6]
theorem d1 : datCells Tryz.prog 9 308 (Rows.laid_math_bits_deBruijn64tab (H := Unit)) = some c1 := by kernel_rfl
theorem g2 : Tryz.prog.globalNamed "internal/strconv.uint64pow10" = some 4 := by kernel_rfl
theorem t2 : (Tryz.prog.globals[4]?).map (·.type) = some 264 := by kernel_rfl
def c2 : List Value := [.int .u64 1, .int .u64 10, .int .u64 100, .int .u64 1000, .int .u64 10000, .int .u64 100000, .int .u64 1000000, .int .u64 10000000, .int .u64 100000000, .int .u64 1000000000, .int .u64 10000000000, .int .u64 100000000000, .int .u64 1000000000000, .int .u64 10000000000000, .int .u64 100000000000000, .int .u64 1000000000000000, .int .u64 10000000000000000, .int .u64 100000000000000000, .int .u64 1000000000000000000, .int .u64 10000000000000000000]
theorem d2 : datCells Tryz.prog 9 264 (Rows.laid_internal_strconv_uint64pow10 (H := Unit)) = some c2 := by kernel_rfl
theorem g3 : Tryz.prog.globalNamed "unicode/utf8.acceptRanges" = some 10 := by kernel_rfl
theorem t3 : (Tryz.prog.globals[10]?).map (·.type) = some 323 := by kernel_rfl
def c3 : List Value := [.int .u8 128, .int .u8 191, .int .u8 160, .int .u8 191, .int .u8 128, .int .u8 159, .int .u8 144, .int .u8 191, .int .u8 128, .int .u8 143, .int .u8 0, .int .u8 0, .int .u8 0, .int .u8 0, .int .u8 0, .int .u8 0, .int .u8 0, .int .u8 0, .int .u8 0, .int .u8 0, .int .u8 0, .int .u8 0, .int .u8 0, .int .u8 0, .int .u8 0, .int .u8 0, .int .u8 0, .int .u8 0, .int .u8 0, .int .u8 0, .int .u8 0, .int .u8 0]
theorem d3 : datCells Tryz.prog 9 323 (Rows.laid_unicode_utf8_acceptRanges (H := Unit)) = some c3 := by kernel_rfl
theorem g4 : Tryz.prog.globalNamed "strconv.ErrRange" = some 6 := by kernel_rfl
theorem t4 : (Tryz.prog.globals[6]?).map (·.type) = some 99 := by kernel_rfl
theorem g5 : Tryz.prog.globalNamed "strconv.ErrSyntax" = some 5 := by kernel_rfl
theorem t5 : (Tryz.prog.globals[5]?).map (·.type) = some 99 := by kernel_rfl
theorem g6 : Tryz.prog.globalNamed "halation/num.kindTable" = some 11 := by kernel_rfl
theorem t6 : (Tryz.prog.globals[11]?).map (·.type) = some 345 := by kernel_rfl
def c6 : List Value := [.string ⟨#[98,111,111,108]⟩, .int .i64 1, .int .i64 1, .bool false, .int .u64 0, .int .u64 1, .string ⟨#[117,56]⟩, .int .i64 2, .int .i64 8, .bool false, .int .u64 0, .int .u64 255, .string ⟨#[117,49,54]⟩, .int .i64 2, .int .i64 16, .bool false, .int .u64 0, .int .u64 65535, .string ⟨#[117,51,50]⟩, .int .i64 2, .int .i64 32, .bool false, .int .u64 0, .int .u64 4294967295, .string ⟨#[117,54,52]⟩, .int .i64 2, .int .i64 64, .bool false, .int .u64 0, .int .u64 18446744073709551615, .string ⟨#[105,56]⟩, .int .i64 2, .int .i64 8, .bool true, .int .u64 128, .int .u64 127, .string ⟨#[105,49,54]⟩, .int .i64 2, .int .i64 16, .bool true, .int .u64 32768, .int .u64 32767, .string ⟨#[105,51,50]⟩, .int .i64 2, .int .i64 32, .bool true, .int .u64 2147483648, .int .u64 2147483647, .string ⟨#[105,54,52]⟩, .int .i64 2, .int .i64 64, .bool true, .int .u64 9223372036854775808, .int .u64 9223372036854775807, .string ⟨#[102,51,50]⟩, .int .i64 4, .int .i64 32, .bool false, .int .u64 4286578687, .int .u64 2139095039, .string ⟨#[99,54,52]⟩, .int .i64 8, .int .i64 64, .bool false, .int .u64 0, .int .u64 0]
theorem d6 : datCells Tryz.prog 9 345 (Rows.laid_halation_num_kindTable (H := Unit)) = some c6 := by kernel_rfl
theorem g7 : Tryz.prog.globalNamed "halation/pipe.bounds" = some 2 := by kernel_rfl
theorem t7 : (Tryz.prog.globals[2]?).map (·.type) = some 231 := by kernel_rfl
def c7 : List Value := [.int .i64 0, .int .i64 1, .int .i64 0, .int .i64 255, .int .i64 0, .int .i64 65535, .int .i64 0, .int .i64 4294967295, .int .i64 0, .int .i64 9223372036854775807, .int .i64 (-128), .int .i64 127, .int .i64 (-32768), .int .i64 32767, .int .i64 (-2147483648), .int .i64 2147483647, .int .i64 (-9223372036854775808), .int .i64 9223372036854775807, .int .i64 (-16777216), .int .i64 16777216, .int .i64 0, .int .i64 0]
theorem d7 : datCells Tryz.prog 9 231 (Rows.laid_halation_pipe_bounds (H := Unit)) = some c7 := by kernel_rfl
theorem g8 : Tryz.prog.globalNamed "halation/sched.stages" = some 1 := by kernel_rfl
theorem t8 : (Tryz.prog.globals[1]?).map (·.type) = some 78 := by kernel_rfl
def c8 : List Value := [.int .i64 0, .int .i64 3]
theorem d8 : datCells Tryz.prog 9 78 (Rows.laid_halation_sched_stages (H := Unit)) = some c8 := by kernel_rfl
theorem g9 : Tryz.prog.globalNamed "halation/sched.tailWords" = some 0 := by kernel_rfl
theorem t9 : (Tryz.prog.globals[0]?).map (·.type) = some 86 := by kernel_rfl
def c9 : List Value := [.string ⟨#[114,111,117,110,100,95,117,112]⟩, .string ⟨#[103,117,97,114,100]⟩, .string ⟨#[115,104,105,102,116]⟩, .string ⟨#[101,120,97,99,116]⟩]
theorem d9 : datCells Tryz.prog 9 86 (Rows.laid_halation_sched_tailWords (H := Unit)) = some c9 := by kernel_rfl
/-- What the variables hold; errors are pointers that nobody knows. -/
def glob (a0 : Addr) (a1 : Addr) : Glob := fun g => match g with
  | 7 => some c0
  | 8 => some c1
  | 4 => some c2
  | 10 => some c3
  | 6 => some [.iface 317 (.pointer (some a0))]
  | 5 => some [.iface 317 (.pointer (some a1))]
  | 11 => some c6
  | 2 => some c7
  | 1 => some c8
  | 0 => some c9
  | _ => none
theorem glob_of_laid {W : World} (h : laidMetH Tryz.prog Rows.schedWordsRow.laid W) : ∃ a0 a1, (glob a0 a1).holds W := by
  obtain ⟨ps, hl0, _, hrows⟩ : laidMet Tryz.prog Rows.schedWordsRow.laid W := h
  have s0 : ∀ m ∈ ps, m ∈ ps := fun m hm => hm
  obtain ⟨h0, q1, hl1, r1⟩ := laid_cells hl0 g0 t0 d0
  have s1 : ∀ m ∈ q1, m ∈ ps := fun m hm => s0 m (r1 m hm)
  obtain ⟨h1, q2, hl2, r2⟩ := laid_cells hl1 g1 t1 d1
  have s2 : ∀ m ∈ q2, m ∈ ps := fun m hm => s1 m (r2 m hm)
  obtain ⟨h2, q3, hl3, r3⟩ := laid_cells hl2 g2 t2 d2
  have s3 : ∀ m ∈ q3, m ∈ ps := fun m hm => s2 m (r3 m hm)
  obtain ⟨h3, q4, hl4, r4⟩ := laid_cells hl3 g3 t3 d3
  have s4 : ∀ m ∈ q4, m ∈ ps := fun m hm => s3 m (r4 m hm)
  obtain ⟨⟨a0, h4⟩, q5, hl5, r5⟩ := laid_sentinel hl4 (fun b off hm => (hrows b off (s4 _ hm)).2) g4 t4 Tryz.underlying99 errRow Tryz.underlying317 Tryz.underlying319 rfl rfl Tryz.underlying9 (by kernel_rfl) (by kernel_rfl)
  have s5 : ∀ m ∈ q5, m ∈ ps := fun m hm => s4 m (r5 m hm)
  obtain ⟨⟨a1, h5⟩, q6, hl6, r6⟩ := laid_sentinel hl5 (fun b off hm => (hrows b off (s5 _ hm)).2) g5 t5 Tryz.underlying99 errRow Tryz.underlying317 Tryz.underlying319 rfl rfl Tryz.underlying9 (by kernel_rfl) (by kernel_rfl)
  have s6 : ∀ m ∈ q6, m ∈ ps := fun m hm => s5 m (r6 m hm)
  obtain ⟨h6, q7, hl7, r7⟩ := laid_cells hl6 g6 t6 d6
  have s7 : ∀ m ∈ q7, m ∈ ps := fun m hm => s6 m (r7 m hm)
  obtain ⟨h7, q8, hl8, r8⟩ := laid_cells hl7 g7 t7 d7
  have s8 : ∀ m ∈ q8, m ∈ ps := fun m hm => s7 m (r8 m hm)
  obtain ⟨h8, q9, hl9, r9⟩ := laid_cells hl8 g8 t8 d8
  have s9 : ∀ m ∈ q9, m ∈ ps := fun m hm => s8 m (r9 m hm)
  obtain ⟨h9, q10, hl10, r10⟩ := laid_cells hl9 g9 t9 d9
  have s10 : ∀ m ∈ q10, m ∈ ps := fun m hm => s9 m (r10 m hm)
  refine ⟨a0, a1, fun g l hg k v hk => ?_⟩
  unfold glob at hg
  split at hg
  · cases hg; exact h0 k v hk
  · cases hg; exact h1 k v hk
  · cases hg; exact h2 k v hk
  · cases hg; exact h3 k v hk
  · cases hg
    cases k with
    | zero => simp only [List.getElem?_cons_zero, Option.some.injEq] at hk; subst hk; exact h4
    | succ k => simp at hk
  · cases hg
    cases k with
    | zero => simp only [List.getElem?_cons_zero, Option.some.injEq] at hk; subst hk; exact h5
    | succ k => simp at hk
  · cases hg; exact h6 k v hk
  · cases hg; exact h7 k v hk
  · cases hg; exact h8 k v hk
  · cases hg; exact h9 k v hk
  · cases hg
end Go.Proofs.YthlbienfimdkbaaGreatDoor

namespace Go.Proofs.YthlbienfimdkbaaGreatDoor
open Go Go.RX
set_option maxRecDepth 1000000
@[reducible] def env0 : Env := noEnv
theorem names0 : Tryz.prog.funcs.all (fun fn => !(fn.name == "runtime.NumGoroutine") || fn.body.isNone) = true := by kernel_rfl
theorem mixed : Tryz.prog.follows .mixedOrders = true := by kernel_rfl
theorem names1 (f : FuncId) (fn : Func) (hf : Tryz.prog.funcs[f]? = some fn) (hb : fn.body.isSome = true) : (fn.name == "runtime.NumGoroutine") = false := by
  have h := Array.all_eq_true_iff_forall_mem.1 names0 fn (Array.mem_of_getElem? hf)
  have hn : fn.body.isNone = false := by cases hh : fn.body <;> simp_all
  rw [hn, Bool.or_false] at h
  simpa using h
theorem namesOk0 : @NamesOk env0 Tryz.prog := namesOk_noEnv names1
end Go.Proofs.YthlbienfimdkbaaGreatDoor
