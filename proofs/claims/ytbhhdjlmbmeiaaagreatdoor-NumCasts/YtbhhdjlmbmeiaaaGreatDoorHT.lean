import Derived.Test.YtbhhdjlmbmeiaaaGreatDoorHB
namespace Go.Proofs.YtbhhdjlmbmeiaaaGreatDoor
noncomputable section
open Go Go.RX
open Go.RowKit (Below)
set_option maxRecDepth 1000000
set_option maxHeartbeats 4000000
noncomputable def T_C1_0 : List XE := [(kToF Tryz.prog, [(.sym (.int .u64 (.var 0)))], (.sym (.nm 0)))]
theorem tk_C1_0 {k : Int} (b n : Int) (h : HN 0 b n)  : XF (wF (FloatKind.nearest .f32 n)) (cF (FloatKind.nearest .f32 n)) (ri b n 0 k) T_C1_0 := by
  obtain ⟨hb0, hb1, hn, l0, l1⟩ := h
  intro x hx
  simp only [T_C1_0, List.mem_cons, List.not_mem_nil, or_false] at hx
  subst hx
  · refine xok_toF (k := .u64) (e := (.var 0)) (c := FloatKind.nearest .f32 n) rfl rfl ?_
    rw [show IE.ev (ri b n 0 k) (.var 0) = n from by simp (disch := omega) only [IE.ev, ri, rc_0] <;> omega]
noncomputable def T_C9_0p : List XE := [(kToF Tryz.prog, [(.sym (.int .u64 (.var 3)))], (.sym (.nm 0))),
  (kToF Tryz.prog, [(.sym (.int .u64 (.var 0)))], (.sym (.nm 0)))]
theorem tk_C9_0p {k : Int} (b n : Int) (h : HN 0 b n) (h0 : 0 ≤ n) : XF (wF (FloatKind.nearest .f32 n)) (cF (FloatKind.nearest .f32 n)) (ri b n 0 k) T_C9_0p := by
  obtain ⟨hb0, hb1, hn, l0, l1⟩ := h
  intro x hx
  simp only [T_C9_0p, List.mem_cons, List.not_mem_nil, or_false] at hx
  rcases hx with rfl | rfl
  · refine xok_toF (k := .u64) (e := (.var 3)) (c := FloatKind.nearest .f32 n) rfl rfl ?_
    rw [show IE.ev (ri b n 0 k) (.var 3) = n from by simp (disch := omega) only [IE.ev, ri, rc_3, loI] <;> omega]
  · refine xok_toF (k := .u64) (e := (.var 0)) (c := FloatKind.nearest .f32 n) rfl rfl ?_
    rw [show IE.ev (ri b n 0 k) (.var 0) = n from by simp (disch := omega) only [IE.ev, ri, rc_0] <;> omega]
noncomputable def T_C10_0p : List XE := [(kToF Tryz.prog, [(.sym (.int .u64 (.var 3)))], (.sym (.nm 0))),
  (kCall .complex, [(.sym (.nm 0)), (.v (.float .f32 0))], (.sym (.nm 20))),
  (kCall .real, [(.sym (.nm 20))], (.sym (.nm 0))),
  (kCall .imag, [(.sym (.nm 20))], (.v (.float .f32 0))),
  (kToF Tryz.prog, [(.sym (.int .u64 (.var 0)))], (.sym (.nm 0)))]
theorem tk_C10_0p {k : Int} (b n : Int) (h : HN 0 b n) (h0 : 0 ≤ n) : XF (wF (FloatKind.nearest .f32 n)) (cF (FloatKind.nearest .f32 n)) (ri b n 0 k) T_C10_0p := by
  obtain ⟨hb0, hb1, hn, l0, l1⟩ := h
  intro x hx
  simp only [T_C10_0p, List.mem_cons, List.not_mem_nil, or_false] at hx
  rcases hx with rfl | rfl | rfl | rfl | rfl
  · refine xok_toF (k := .u64) (e := (.var 3)) (c := FloatKind.nearest .f32 n) rfl rfl ?_
    rw [show IE.ev (ri b n 0 k) (.var 3) = n from by simp (disch := omega) only [IE.ev, ri, rc_3, loI] <;> omega]
  · exact xok_complex (a := FloatKind.nearest .f32 n) (b := 0) rfl rfl rfl
  · exact xok_real (a := FloatKind.nearest .f32 n) (b := 0) rfl rfl
  · exact xok_imag (a := FloatKind.nearest .f32 n) (b := 0) rfl rfl
  · refine xok_toF (k := .u64) (e := (.var 0)) (c := FloatKind.nearest .f32 n) rfl rfl ?_
    rw [show IE.ev (ri b n 0 k) (.var 0) = n from by simp (disch := omega) only [IE.ev, ri, rc_0] <;> omega]
noncomputable def T_C1_1 : List XE := [(kToF Tryz.prog, [(.sym (.int .u64 (.var 0)))], (.sym (.nm 0)))]
theorem tk_C1_1 {k : Int} (b n : Int) (h : HN 1 b n)  : XF (wF (FloatKind.nearest .f32 n)) (cF (FloatKind.nearest .f32 n)) (ri b n 1 k) T_C1_1 := by
  obtain ⟨hb0, hb1, hn, l0, l1⟩ := h
  intro x hx
  simp only [T_C1_1, List.mem_cons, List.not_mem_nil, or_false] at hx
  subst hx
  · refine xok_toF (k := .u64) (e := (.var 0)) (c := FloatKind.nearest .f32 n) rfl rfl ?_
    rw [show IE.ev (ri b n 1 k) (.var 0) = n from by simp (disch := omega) only [IE.ev, ri, rc_0] <;> omega]
noncomputable def T_C9_1p : List XE := [(kToF Tryz.prog, [(.sym (.int .u64 (.var 3)))], (.sym (.nm 0))),
  (kToF Tryz.prog, [(.sym (.int .u64 (.var 0)))], (.sym (.nm 0)))]
theorem tk_C9_1p {k : Int} (b n : Int) (h : HN 1 b n) (h0 : 0 ≤ n) : XF (wF (FloatKind.nearest .f32 n)) (cF (FloatKind.nearest .f32 n)) (ri b n 1 k) T_C9_1p := by
  obtain ⟨hb0, hb1, hn, l0, l1⟩ := h
  intro x hx
  simp only [T_C9_1p, List.mem_cons, List.not_mem_nil, or_false] at hx
  rcases hx with rfl | rfl
  · refine xok_toF (k := .u64) (e := (.var 3)) (c := FloatKind.nearest .f32 n) rfl rfl ?_
    rw [show IE.ev (ri b n 1 k) (.var 3) = n from by simp (disch := omega) only [IE.ev, ri, rc_3, loI] <;> omega]
  · refine xok_toF (k := .u64) (e := (.var 0)) (c := FloatKind.nearest .f32 n) rfl rfl ?_
    rw [show IE.ev (ri b n 1 k) (.var 0) = n from by simp (disch := omega) only [IE.ev, ri, rc_0] <;> omega]
noncomputable def T_C10_1p : List XE := [(kToF Tryz.prog, [(.sym (.int .u64 (.var 3)))], (.sym (.nm 0))),
  (kCall .complex, [(.sym (.nm 0)), (.v (.float .f32 0))], (.sym (.nm 20))),
  (kCall .real, [(.sym (.nm 20))], (.sym (.nm 0))),
  (kCall .imag, [(.sym (.nm 20))], (.v (.float .f32 0))),
  (kToF Tryz.prog, [(.sym (.int .u64 (.var 0)))], (.sym (.nm 0)))]
theorem tk_C10_1p {k : Int} (b n : Int) (h : HN 1 b n) (h0 : 0 ≤ n) : XF (wF (FloatKind.nearest .f32 n)) (cF (FloatKind.nearest .f32 n)) (ri b n 1 k) T_C10_1p := by
  obtain ⟨hb0, hb1, hn, l0, l1⟩ := h
  intro x hx
  simp only [T_C10_1p, List.mem_cons, List.not_mem_nil, or_false] at hx
  rcases hx with rfl | rfl | rfl | rfl | rfl
  · refine xok_toF (k := .u64) (e := (.var 3)) (c := FloatKind.nearest .f32 n) rfl rfl ?_
    rw [show IE.ev (ri b n 1 k) (.var 3) = n from by simp (disch := omega) only [IE.ev, ri, rc_3, loI] <;> omega]
  · exact xok_complex (a := FloatKind.nearest .f32 n) (b := 0) rfl rfl rfl
  · exact xok_real (a := FloatKind.nearest .f32 n) (b := 0) rfl rfl
  · exact xok_imag (a := FloatKind.nearest .f32 n) (b := 0) rfl rfl
  · refine xok_toF (k := .u64) (e := (.var 0)) (c := FloatKind.nearest .f32 n) rfl rfl ?_
    rw [show IE.ev (ri b n 1 k) (.var 0) = n from by simp (disch := omega) only [IE.ev, ri, rc_0] <;> omega]
noncomputable def T_C1_2 : List XE := [(kToF Tryz.prog, [(.sym (.int .u64 (.var 0)))], (.sym (.nm 0)))]
theorem tk_C1_2 {k : Int} (b n : Int) (h : HN 2 b n)  : XF (wF (FloatKind.nearest .f32 n)) (cF (FloatKind.nearest .f32 n)) (ri b n 2 k) T_C1_2 := by
  obtain ⟨hb0, hb1, hn, l0, l1⟩ := h
  intro x hx
  simp only [T_C1_2, List.mem_cons, List.not_mem_nil, or_false] at hx
  subst hx
  · refine xok_toF (k := .u64) (e := (.var 0)) (c := FloatKind.nearest .f32 n) rfl rfl ?_
    rw [show IE.ev (ri b n 2 k) (.var 0) = n from by simp (disch := omega) only [IE.ev, ri, rc_0] <;> omega]
noncomputable def T_C9_2p : List XE := [(kToF Tryz.prog, [(.sym (.int .u64 (.var 3)))], (.sym (.nm 0))),
  (kToF Tryz.prog, [(.sym (.int .u64 (.var 0)))], (.sym (.nm 0)))]
theorem tk_C9_2p {k : Int} (b n : Int) (h : HN 2 b n) (h0 : 0 ≤ n) : XF (wF (FloatKind.nearest .f32 n)) (cF (FloatKind.nearest .f32 n)) (ri b n 2 k) T_C9_2p := by
  obtain ⟨hb0, hb1, hn, l0, l1⟩ := h
  intro x hx
  simp only [T_C9_2p, List.mem_cons, List.not_mem_nil, or_false] at hx
  rcases hx with rfl | rfl
  · refine xok_toF (k := .u64) (e := (.var 3)) (c := FloatKind.nearest .f32 n) rfl rfl ?_
    rw [show IE.ev (ri b n 2 k) (.var 3) = n from by simp (disch := omega) only [IE.ev, ri, rc_3, loI] <;> omega]
  · refine xok_toF (k := .u64) (e := (.var 0)) (c := FloatKind.nearest .f32 n) rfl rfl ?_
    rw [show IE.ev (ri b n 2 k) (.var 0) = n from by simp (disch := omega) only [IE.ev, ri, rc_0] <;> omega]
noncomputable def T_C10_2p : List XE := [(kToF Tryz.prog, [(.sym (.int .u64 (.var 3)))], (.sym (.nm 0))),
  (kCall .complex, [(.sym (.nm 0)), (.v (.float .f32 0))], (.sym (.nm 20))),
  (kCall .real, [(.sym (.nm 20))], (.sym (.nm 0))),
  (kCall .imag, [(.sym (.nm 20))], (.v (.float .f32 0))),
  (kToF Tryz.prog, [(.sym (.int .u64 (.var 0)))], (.sym (.nm 0)))]
theorem tk_C10_2p {k : Int} (b n : Int) (h : HN 2 b n) (h0 : 0 ≤ n) : XF (wF (FloatKind.nearest .f32 n)) (cF (FloatKind.nearest .f32 n)) (ri b n 2 k) T_C10_2p := by
  obtain ⟨hb0, hb1, hn, l0, l1⟩ := h
  intro x hx
  simp only [T_C10_2p, List.mem_cons, List.not_mem_nil, or_false] at hx
  rcases hx with rfl | rfl | rfl | rfl | rfl
  · refine xok_toF (k := .u64) (e := (.var 3)) (c := FloatKind.nearest .f32 n) rfl rfl ?_
    rw [show IE.ev (ri b n 2 k) (.var 3) = n from by simp (disch := omega) only [IE.ev, ri, rc_3, loI] <;> omega]
  · exact xok_complex (a := FloatKind.nearest .f32 n) (b := 0) rfl rfl rfl
  · exact xok_real (a := FloatKind.nearest .f32 n) (b := 0) rfl rfl
  · exact xok_imag (a := FloatKind.nearest .f32 n) (b := 0) rfl rfl
  · refine xok_toF (k := .u64) (e := (.var 0)) (c := FloatKind.nearest .f32 n) rfl rfl ?_
    rw [show IE.ev (ri b n 2 k) (.var 0) = n from by simp (disch := omega) only [IE.ev, ri, rc_0] <;> omega]
noncomputable def T_C1_3 : List XE := [(kToF Tryz.prog, [(.sym (.int .u64 (.var 0)))], (.sym (.nm 0)))]
theorem tk_C1_3 {k : Int} (b n : Int) (h : HN 3 b n)  : XF (wF (FloatKind.nearest .f32 n)) (cF (FloatKind.nearest .f32 n)) (ri b n 3 k) T_C1_3 := by
  obtain ⟨hb0, hb1, hn, l0, l1⟩ := h
  intro x hx
  simp only [T_C1_3, List.mem_cons, List.not_mem_nil, or_false] at hx
  subst hx
  · refine xok_toF (k := .u64) (e := (.var 0)) (c := FloatKind.nearest .f32 n) rfl rfl ?_
    rw [show IE.ev (ri b n 3 k) (.var 0) = n from by simp (disch := omega) only [IE.ev, ri, rc_0] <;> omega]
noncomputable def T_C9_3p : List XE := [(kToF Tryz.prog, [(.sym (.int .u64 (.var 3)))], (.sym (.nm 0))),
  (kToF Tryz.prog, [(.sym (.int .u64 (.var 0)))], (.sym (.nm 0)))]
theorem tk_C9_3p {k : Int} (b n : Int) (h : HN 3 b n) (h0 : 0 ≤ n) : XF (wF (FloatKind.nearest .f32 n)) (cF (FloatKind.nearest .f32 n)) (ri b n 3 k) T_C9_3p := by
  obtain ⟨hb0, hb1, hn, l0, l1⟩ := h
  intro x hx
  simp only [T_C9_3p, List.mem_cons, List.not_mem_nil, or_false] at hx
  rcases hx with rfl | rfl
  · refine xok_toF (k := .u64) (e := (.var 3)) (c := FloatKind.nearest .f32 n) rfl rfl ?_
    rw [show IE.ev (ri b n 3 k) (.var 3) = n from by simp (disch := omega) only [IE.ev, ri, rc_3, loI] <;> omega]
  · refine xok_toF (k := .u64) (e := (.var 0)) (c := FloatKind.nearest .f32 n) rfl rfl ?_
    rw [show IE.ev (ri b n 3 k) (.var 0) = n from by simp (disch := omega) only [IE.ev, ri, rc_0] <;> omega]
noncomputable def T_C10_3p : List XE := [(kToF Tryz.prog, [(.sym (.int .u64 (.var 3)))], (.sym (.nm 0))),
  (kCall .complex, [(.sym (.nm 0)), (.v (.float .f32 0))], (.sym (.nm 20))),
  (kCall .real, [(.sym (.nm 20))], (.sym (.nm 0))),
  (kCall .imag, [(.sym (.nm 20))], (.v (.float .f32 0))),
  (kToF Tryz.prog, [(.sym (.int .u64 (.var 0)))], (.sym (.nm 0)))]
theorem tk_C10_3p {k : Int} (b n : Int) (h : HN 3 b n) (h0 : 0 ≤ n) : XF (wF (FloatKind.nearest .f32 n)) (cF (FloatKind.nearest .f32 n)) (ri b n 3 k) T_C10_3p := by
  obtain ⟨hb0, hb1, hn, l0, l1⟩ := h
  intro x hx
  simp only [T_C10_3p, List.mem_cons, List.not_mem_nil, or_false] at hx
  rcases hx with rfl | rfl | rfl | rfl | rfl
  · refine xok_toF (k := .u64) (e := (.var 3)) (c := FloatKind.nearest .f32 n) rfl rfl ?_
    rw [show IE.ev (ri b n 3 k) (.var 3) = n from by simp (disch := omega) only [IE.ev, ri, rc_3, loI] <;> omega]
  · exact xok_complex (a := FloatKind.nearest .f32 n) (b := 0) rfl rfl rfl
  · exact xok_real (a := FloatKind.nearest .f32 n) (b := 0) rfl rfl
  · exact xok_imag (a := FloatKind.nearest .f32 n) (b := 0) rfl rfl
  · refine xok_toF (k := .u64) (e := (.var 0)) (c := FloatKind.nearest .f32 n) rfl rfl ?_
    rw [show IE.ev (ri b n 3 k) (.var 0) = n from by simp (disch := omega) only [IE.ev, ri, rc_0] <;> omega]
noncomputable def T_C1_4 : List XE := [(kToF Tryz.prog, [(.sym (.int .u64 (.var 0)))], (.sym (.nm 0)))]
theorem tk_C1_4 {k : Int} (b n : Int) (h : HN 4 b n)  : XF (wF (FloatKind.nearest .f32 n)) (cF (FloatKind.nearest .f32 n)) (ri b n 4 k) T_C1_4 := by
  obtain ⟨hb0, hb1, hn, l0, l1⟩ := h
  intro x hx
  simp only [T_C1_4, List.mem_cons, List.not_mem_nil, or_false] at hx
  subst hx
  · refine xok_toF (k := .u64) (e := (.var 0)) (c := FloatKind.nearest .f32 n) rfl rfl ?_
    rw [show IE.ev (ri b n 4 k) (.var 0) = n from by simp (disch := omega) only [IE.ev, ri, rc_0] <;> omega]
noncomputable def T_C9_4p : List XE := [(kToF Tryz.prog, [(.sym (.int .u64 (.var 3)))], (.sym (.nm 0))),
  (kToF Tryz.prog, [(.sym (.int .u64 (.var 0)))], (.sym (.nm 0)))]
theorem tk_C9_4p {k : Int} (b n : Int) (h : HN 4 b n) (h0 : 0 ≤ n) : XF (wF (FloatKind.nearest .f32 n)) (cF (FloatKind.nearest .f32 n)) (ri b n 4 k) T_C9_4p := by
  obtain ⟨hb0, hb1, hn, l0, l1⟩ := h
  intro x hx
  simp only [T_C9_4p, List.mem_cons, List.not_mem_nil, or_false] at hx
  rcases hx with rfl | rfl
  · refine xok_toF (k := .u64) (e := (.var 3)) (c := FloatKind.nearest .f32 n) rfl rfl ?_
    rw [show IE.ev (ri b n 4 k) (.var 3) = n from by simp (disch := omega) only [IE.ev, ri, rc_3, loI] <;> omega]
  · refine xok_toF (k := .u64) (e := (.var 0)) (c := FloatKind.nearest .f32 n) rfl rfl ?_
    rw [show IE.ev (ri b n 4 k) (.var 0) = n from by simp (disch := omega) only [IE.ev, ri, rc_0] <;> omega]
noncomputable def T_C10_4p : List XE := [(kToF Tryz.prog, [(.sym (.int .u64 (.var 3)))], (.sym (.nm 0))),
  (kCall .complex, [(.sym (.nm 0)), (.v (.float .f32 0))], (.sym (.nm 20))),
  (kCall .real, [(.sym (.nm 20))], (.sym (.nm 0))),
  (kCall .imag, [(.sym (.nm 20))], (.v (.float .f32 0))),
  (kToF Tryz.prog, [(.sym (.int .u64 (.var 0)))], (.sym (.nm 0)))]
theorem tk_C10_4p {k : Int} (b n : Int) (h : HN 4 b n) (h0 : 0 ≤ n) : XF (wF (FloatKind.nearest .f32 n)) (cF (FloatKind.nearest .f32 n)) (ri b n 4 k) T_C10_4p := by
  obtain ⟨hb0, hb1, hn, l0, l1⟩ := h
  intro x hx
  simp only [T_C10_4p, List.mem_cons, List.not_mem_nil, or_false] at hx
  rcases hx with rfl | rfl | rfl | rfl | rfl
  · refine xok_toF (k := .u64) (e := (.var 3)) (c := FloatKind.nearest .f32 n) rfl rfl ?_
    rw [show IE.ev (ri b n 4 k) (.var 3) = n from by simp (disch := omega) only [IE.ev, ri, rc_3, loI] <;> omega]
  · exact xok_complex (a := FloatKind.nearest .f32 n) (b := 0) rfl rfl rfl
  · exact xok_real (a := FloatKind.nearest .f32 n) (b := 0) rfl rfl
  · exact xok_imag (a := FloatKind.nearest .f32 n) (b := 0) rfl rfl
  · refine xok_toF (k := .u64) (e := (.var 0)) (c := FloatKind.nearest .f32 n) rfl rfl ?_
    rw [show IE.ev (ri b n 4 k) (.var 0) = n from by simp (disch := omega) only [IE.ev, ri, rc_0] <;> omega]
noncomputable def T_C1_5 : List XE := [(kToF Tryz.prog, [(.sym (.int .i64 (.var 4)))], (.sym (.nm 0)))]
theorem tk_C1_5 {k : Int} (b n : Int) (h : HN 5 b n)  : XF (wF (FloatKind.nearest .f32 n)) (cF (FloatKind.nearest .f32 n)) (ri b n 5 k) T_C1_5 := by
  obtain ⟨hb0, hb1, hn, l0, l1⟩ := h
  intro x hx
  simp only [T_C1_5, List.mem_cons, List.not_mem_nil, or_false] at hx
  subst hx
  · refine xok_toF (k := .i64) (e := (.var 4)) (c := FloatKind.nearest .f32 n) rfl rfl ?_
    rw [show IE.ev (ri b n 5 k) (.var 4) = n from by simp (disch := omega) only [IE.ev, ri, rc_4, wrap_i64] <;> omega]
noncomputable def T_C9_5p : List XE := [(kToF Tryz.prog, [(.sym (.int .u64 (.var 3)))], (.sym (.nm 0))),
  (kToF Tryz.prog, [(.sym (.int .i64 (.var 4)))], (.sym (.nm 0)))]
theorem tk_C9_5p {k : Int} (b n : Int) (h : HN 5 b n) (h0 : 0 ≤ n) : XF (wF (FloatKind.nearest .f32 n)) (cF (FloatKind.nearest .f32 n)) (ri b n 5 k) T_C9_5p := by
  obtain ⟨hb0, hb1, hn, l0, l1⟩ := h
  intro x hx
  simp only [T_C9_5p, List.mem_cons, List.not_mem_nil, or_false] at hx
  rcases hx with rfl | rfl
  · refine xok_toF (k := .u64) (e := (.var 3)) (c := FloatKind.nearest .f32 n) rfl rfl ?_
    rw [show IE.ev (ri b n 5 k) (.var 3) = n from by simp (disch := omega) only [IE.ev, ri, rc_3, loI] <;> omega]
  · refine xok_toF (k := .i64) (e := (.var 4)) (c := FloatKind.nearest .f32 n) rfl rfl ?_
    rw [show IE.ev (ri b n 5 k) (.var 4) = n from by simp (disch := omega) only [IE.ev, ri, rc_4, wrap_i64] <;> omega]
noncomputable def T_C9_5m : List XE := [(kToF Tryz.prog, [(.sym (.int .i64 (.cv .i64 (.var 3))))], (.sym (.nm 0))),
  (kToF Tryz.prog, [(.sym (.int .i64 (.var 4)))], (.sym (.nm 0)))]
theorem tk_C9_5m {k : Int} (b n : Int) (h : HN 5 b n) (h0 : n < 0) : XF (wF (FloatKind.nearest .f32 n)) (cF (FloatKind.nearest .f32 n)) (ri b n 5 k) T_C9_5m := by
  obtain ⟨hb0, hb1, hn, l0, l1⟩ := h
  intro x hx
  simp only [T_C9_5m, List.mem_cons, List.not_mem_nil, or_false] at hx
  rcases hx with rfl | rfl
  · refine xok_toF (k := .i64) (e := (.cv .i64 (.var 3))) (c := FloatKind.nearest .f32 n) rfl rfl ?_
    rw [show IE.ev (ri b n 5 k) (.cv .i64 (.var 3)) = n from by simp (disch := omega) only [IE.ev, ri, rc_3, loI, wrap_i64] <;> omega]
  · refine xok_toF (k := .i64) (e := (.var 4)) (c := FloatKind.nearest .f32 n) rfl rfl ?_
    rw [show IE.ev (ri b n 5 k) (.var 4) = n from by simp (disch := omega) only [IE.ev, ri, rc_4, wrap_i64] <;> omega]
noncomputable def T_C10_5p : List XE := [(kToF Tryz.prog, [(.sym (.int .u64 (.var 3)))], (.sym (.nm 0))),
  (kCall .complex, [(.sym (.nm 0)), (.v (.float .f32 0))], (.sym (.nm 20))),
  (kCall .real, [(.sym (.nm 20))], (.sym (.nm 0))),
  (kCall .imag, [(.sym (.nm 20))], (.v (.float .f32 0))),
  (kToF Tryz.prog, [(.sym (.int .i64 (.var 4)))], (.sym (.nm 0)))]
theorem tk_C10_5p {k : Int} (b n : Int) (h : HN 5 b n) (h0 : 0 ≤ n) : XF (wF (FloatKind.nearest .f32 n)) (cF (FloatKind.nearest .f32 n)) (ri b n 5 k) T_C10_5p := by
  obtain ⟨hb0, hb1, hn, l0, l1⟩ := h
  intro x hx
  simp only [T_C10_5p, List.mem_cons, List.not_mem_nil, or_false] at hx
  rcases hx with rfl | rfl | rfl | rfl | rfl
  · refine xok_toF (k := .u64) (e := (.var 3)) (c := FloatKind.nearest .f32 n) rfl rfl ?_
    rw [show IE.ev (ri b n 5 k) (.var 3) = n from by simp (disch := omega) only [IE.ev, ri, rc_3, loI] <;> omega]
  · exact xok_complex (a := FloatKind.nearest .f32 n) (b := 0) rfl rfl rfl
  · exact xok_real (a := FloatKind.nearest .f32 n) (b := 0) rfl rfl
  · exact xok_imag (a := FloatKind.nearest .f32 n) (b := 0) rfl rfl
  · refine xok_toF (k := .i64) (e := (.var 4)) (c := FloatKind.nearest .f32 n) rfl rfl ?_
    rw [show IE.ev (ri b n 5 k) (.var 4) = n from by simp (disch := omega) only [IE.ev, ri, rc_4, wrap_i64] <;> omega]
noncomputable def T_C10_5m : List XE := [(kToF Tryz.prog, [(.sym (.int .i64 (.cv .i64 (.var 3))))], (.sym (.nm 0))),
  (kCall .complex, [(.sym (.nm 0)), (.v (.float .f32 0))], (.sym (.nm 20))),
  (kCall .real, [(.sym (.nm 20))], (.sym (.nm 0))),
  (kCall .imag, [(.sym (.nm 20))], (.v (.float .f32 0))),
  (kToF Tryz.prog, [(.sym (.int .i64 (.var 4)))], (.sym (.nm 0)))]
theorem tk_C10_5m {k : Int} (b n : Int) (h : HN 5 b n) (h0 : n < 0) : XF (wF (FloatKind.nearest .f32 n)) (cF (FloatKind.nearest .f32 n)) (ri b n 5 k) T_C10_5m := by
  obtain ⟨hb0, hb1, hn, l0, l1⟩ := h
  intro x hx
  simp only [T_C10_5m, List.mem_cons, List.not_mem_nil, or_false] at hx
  rcases hx with rfl | rfl | rfl | rfl | rfl
  · refine xok_toF (k := .i64) (e := (.cv .i64 (.var 3))) (c := FloatKind.nearest .f32 n) rfl rfl ?_
    rw [show IE.ev (ri b n 5 k) (.cv .i64 (.var 3)) = n from by simp (disch := omega) only [IE.ev, ri, rc_3, loI, wrap_i64] <;> omega]
  · exact xok_complex (a := FloatKind.nearest .f32 n) (b := 0) rfl rfl rfl
  · exact xok_real (a := FloatKind.nearest .f32 n) (b := 0) rfl rfl
  · exact xok_imag (a := FloatKind.nearest .f32 n) (b := 0) rfl rfl
  · refine xok_toF (k := .i64) (e := (.var 4)) (c := FloatKind.nearest .f32 n) rfl rfl ?_
    rw [show IE.ev (ri b n 5 k) (.var 4) = n from by simp (disch := omega) only [IE.ev, ri, rc_4, wrap_i64] <;> omega]
noncomputable def T_C1_6 : List XE := [(kToF Tryz.prog, [(.sym (.int .i64 (.var 4)))], (.sym (.nm 0)))]
theorem tk_C1_6 {k : Int} (b n : Int) (h : HN 6 b n)  : XF (wF (FloatKind.nearest .f32 n)) (cF (FloatKind.nearest .f32 n)) (ri b n 6 k) T_C1_6 := by
  obtain ⟨hb0, hb1, hn, l0, l1⟩ := h
  intro x hx
  simp only [T_C1_6, List.mem_cons, List.not_mem_nil, or_false] at hx
  subst hx
  · refine xok_toF (k := .i64) (e := (.var 4)) (c := FloatKind.nearest .f32 n) rfl rfl ?_
    rw [show IE.ev (ri b n 6 k) (.var 4) = n from by simp (disch := omega) only [IE.ev, ri, rc_4, wrap_i64] <;> omega]
noncomputable def T_C9_6p : List XE := [(kToF Tryz.prog, [(.sym (.int .u64 (.var 3)))], (.sym (.nm 0))),
  (kToF Tryz.prog, [(.sym (.int .i64 (.var 4)))], (.sym (.nm 0)))]
theorem tk_C9_6p {k : Int} (b n : Int) (h : HN 6 b n) (h0 : 0 ≤ n) : XF (wF (FloatKind.nearest .f32 n)) (cF (FloatKind.nearest .f32 n)) (ri b n 6 k) T_C9_6p := by
  obtain ⟨hb0, hb1, hn, l0, l1⟩ := h
  intro x hx
  simp only [T_C9_6p, List.mem_cons, List.not_mem_nil, or_false] at hx
  rcases hx with rfl | rfl
  · refine xok_toF (k := .u64) (e := (.var 3)) (c := FloatKind.nearest .f32 n) rfl rfl ?_
    rw [show IE.ev (ri b n 6 k) (.var 3) = n from by simp (disch := omega) only [IE.ev, ri, rc_3, loI] <;> omega]
  · refine xok_toF (k := .i64) (e := (.var 4)) (c := FloatKind.nearest .f32 n) rfl rfl ?_
    rw [show IE.ev (ri b n 6 k) (.var 4) = n from by simp (disch := omega) only [IE.ev, ri, rc_4, wrap_i64] <;> omega]
noncomputable def T_C9_6m : List XE := [(kToF Tryz.prog, [(.sym (.int .i64 (.cv .i64 (.var 3))))], (.sym (.nm 0))),
  (kToF Tryz.prog, [(.sym (.int .i64 (.var 4)))], (.sym (.nm 0)))]
theorem tk_C9_6m {k : Int} (b n : Int) (h : HN 6 b n) (h0 : n < 0) : XF (wF (FloatKind.nearest .f32 n)) (cF (FloatKind.nearest .f32 n)) (ri b n 6 k) T_C9_6m := by
  obtain ⟨hb0, hb1, hn, l0, l1⟩ := h
  intro x hx
  simp only [T_C9_6m, List.mem_cons, List.not_mem_nil, or_false] at hx
  rcases hx with rfl | rfl
  · refine xok_toF (k := .i64) (e := (.cv .i64 (.var 3))) (c := FloatKind.nearest .f32 n) rfl rfl ?_
    rw [show IE.ev (ri b n 6 k) (.cv .i64 (.var 3)) = n from by simp (disch := omega) only [IE.ev, ri, rc_3, loI, wrap_i64] <;> omega]
  · refine xok_toF (k := .i64) (e := (.var 4)) (c := FloatKind.nearest .f32 n) rfl rfl ?_
    rw [show IE.ev (ri b n 6 k) (.var 4) = n from by simp (disch := omega) only [IE.ev, ri, rc_4, wrap_i64] <;> omega]
noncomputable def T_C10_6p : List XE := [(kToF Tryz.prog, [(.sym (.int .u64 (.var 3)))], (.sym (.nm 0))),
  (kCall .complex, [(.sym (.nm 0)), (.v (.float .f32 0))], (.sym (.nm 20))),
  (kCall .real, [(.sym (.nm 20))], (.sym (.nm 0))),
  (kCall .imag, [(.sym (.nm 20))], (.v (.float .f32 0))),
  (kToF Tryz.prog, [(.sym (.int .i64 (.var 4)))], (.sym (.nm 0)))]
theorem tk_C10_6p {k : Int} (b n : Int) (h : HN 6 b n) (h0 : 0 ≤ n) : XF (wF (FloatKind.nearest .f32 n)) (cF (FloatKind.nearest .f32 n)) (ri b n 6 k) T_C10_6p := by
  obtain ⟨hb0, hb1, hn, l0, l1⟩ := h
  intro x hx
  simp only [T_C10_6p, List.mem_cons, List.not_mem_nil, or_false] at hx
  rcases hx with rfl | rfl | rfl | rfl | rfl
  · refine xok_toF (k := .u64) (e := (.var 3)) (c := FloatKind.nearest .f32 n) rfl rfl ?_
    rw [show IE.ev (ri b n 6 k) (.var 3) = n from by simp (disch := omega) only [IE.ev, ri, rc_3, loI] <;> omega]
  · exact xok_complex (a := FloatKind.nearest .f32 n) (b := 0) rfl rfl rfl
  · exact xok_real (a := FloatKind.nearest .f32 n) (b := 0) rfl rfl
  · exact xok_imag (a := FloatKind.nearest .f32 n) (b := 0) rfl rfl
  · refine xok_toF (k := .i64) (e := (.var 4)) (c := FloatKind.nearest .f32 n) rfl rfl ?_
    rw [show IE.ev (ri b n 6 k) (.var 4) = n from by simp (disch := omega) only [IE.ev, ri, rc_4, wrap_i64] <;> omega]
noncomputable def T_C10_6m : List XE := [(kToF Tryz.prog, [(.sym (.int .i64 (.cv .i64 (.var 3))))], (.sym (.nm 0))),
  (kCall .complex, [(.sym (.nm 0)), (.v (.float .f32 0))], (.sym (.nm 20))),
  (kCall .real, [(.sym (.nm 20))], (.sym (.nm 0))),
  (kCall .imag, [(.sym (.nm 20))], (.v (.float .f32 0))),
  (kToF Tryz.prog, [(.sym (.int .i64 (.var 4)))], (.sym (.nm 0)))]
theorem tk_C10_6m {k : Int} (b n : Int) (h : HN 6 b n) (h0 : n < 0) : XF (wF (FloatKind.nearest .f32 n)) (cF (FloatKind.nearest .f32 n)) (ri b n 6 k) T_C10_6m := by
  obtain ⟨hb0, hb1, hn, l0, l1⟩ := h
  intro x hx
  simp only [T_C10_6m, List.mem_cons, List.not_mem_nil, or_false] at hx
  rcases hx with rfl | rfl | rfl | rfl | rfl
  · refine xok_toF (k := .i64) (e := (.cv .i64 (.var 3))) (c := FloatKind.nearest .f32 n) rfl rfl ?_
    rw [show IE.ev (ri b n 6 k) (.cv .i64 (.var 3)) = n from by simp (disch := omega) only [IE.ev, ri, rc_3, loI, wrap_i64] <;> omega]
  · exact xok_complex (a := FloatKind.nearest .f32 n) (b := 0) rfl rfl rfl
  · exact xok_real (a := FloatKind.nearest .f32 n) (b := 0) rfl rfl
  · exact xok_imag (a := FloatKind.nearest .f32 n) (b := 0) rfl rfl
  · refine xok_toF (k := .i64) (e := (.var 4)) (c := FloatKind.nearest .f32 n) rfl rfl ?_
    rw [show IE.ev (ri b n 6 k) (.var 4) = n from by simp (disch := omega) only [IE.ev, ri, rc_4, wrap_i64] <;> omega]
noncomputable def T_C1_7 : List XE := [(kToF Tryz.prog, [(.sym (.int .i64 (.var 4)))], (.sym (.nm 0)))]
theorem tk_C1_7 {k : Int} (b n : Int) (h : HN 7 b n)  : XF (wF (FloatKind.nearest .f32 n)) (cF (FloatKind.nearest .f32 n)) (ri b n 7 k) T_C1_7 := by
  obtain ⟨hb0, hb1, hn, l0, l1⟩ := h
  intro x hx
  simp only [T_C1_7, List.mem_cons, List.not_mem_nil, or_false] at hx
  subst hx
  · refine xok_toF (k := .i64) (e := (.var 4)) (c := FloatKind.nearest .f32 n) rfl rfl ?_
    rw [show IE.ev (ri b n 7 k) (.var 4) = n from by simp (disch := omega) only [IE.ev, ri, rc_4, wrap_i64] <;> omega]
noncomputable def T_C9_7p : List XE := [(kToF Tryz.prog, [(.sym (.int .u64 (.var 3)))], (.sym (.nm 0))),
  (kToF Tryz.prog, [(.sym (.int .i64 (.var 4)))], (.sym (.nm 0)))]
theorem tk_C9_7p {k : Int} (b n : Int) (h : HN 7 b n) (h0 : 0 ≤ n) : XF (wF (FloatKind.nearest .f32 n)) (cF (FloatKind.nearest .f32 n)) (ri b n 7 k) T_C9_7p := by
  obtain ⟨hb0, hb1, hn, l0, l1⟩ := h
  intro x hx
  simp only [T_C9_7p, List.mem_cons, List.not_mem_nil, or_false] at hx
  rcases hx with rfl | rfl
  · refine xok_toF (k := .u64) (e := (.var 3)) (c := FloatKind.nearest .f32 n) rfl rfl ?_
    rw [show IE.ev (ri b n 7 k) (.var 3) = n from by simp (disch := omega) only [IE.ev, ri, rc_3, loI] <;> omega]
  · refine xok_toF (k := .i64) (e := (.var 4)) (c := FloatKind.nearest .f32 n) rfl rfl ?_
    rw [show IE.ev (ri b n 7 k) (.var 4) = n from by simp (disch := omega) only [IE.ev, ri, rc_4, wrap_i64] <;> omega]
noncomputable def T_C9_7m : List XE := [(kToF Tryz.prog, [(.sym (.int .i64 (.cv .i64 (.var 3))))], (.sym (.nm 0))),
  (kToF Tryz.prog, [(.sym (.int .i64 (.var 4)))], (.sym (.nm 0)))]
theorem tk_C9_7m {k : Int} (b n : Int) (h : HN 7 b n) (h0 : n < 0) : XF (wF (FloatKind.nearest .f32 n)) (cF (FloatKind.nearest .f32 n)) (ri b n 7 k) T_C9_7m := by
  obtain ⟨hb0, hb1, hn, l0, l1⟩ := h
  intro x hx
  simp only [T_C9_7m, List.mem_cons, List.not_mem_nil, or_false] at hx
  rcases hx with rfl | rfl
  · refine xok_toF (k := .i64) (e := (.cv .i64 (.var 3))) (c := FloatKind.nearest .f32 n) rfl rfl ?_
    rw [show IE.ev (ri b n 7 k) (.cv .i64 (.var 3)) = n from by simp (disch := omega) only [IE.ev, ri, rc_3, loI, wrap_i64] <;> omega]
  · refine xok_toF (k := .i64) (e := (.var 4)) (c := FloatKind.nearest .f32 n) rfl rfl ?_
    rw [show IE.ev (ri b n 7 k) (.var 4) = n from by simp (disch := omega) only [IE.ev, ri, rc_4, wrap_i64] <;> omega]
noncomputable def T_C10_7p : List XE := [(kToF Tryz.prog, [(.sym (.int .u64 (.var 3)))], (.sym (.nm 0))),
  (kCall .complex, [(.sym (.nm 0)), (.v (.float .f32 0))], (.sym (.nm 20))),
  (kCall .real, [(.sym (.nm 20))], (.sym (.nm 0))),
  (kCall .imag, [(.sym (.nm 20))], (.v (.float .f32 0))),
  (kToF Tryz.prog, [(.sym (.int .i64 (.var 4)))], (.sym (.nm 0)))]
theorem tk_C10_7p {k : Int} (b n : Int) (h : HN 7 b n) (h0 : 0 ≤ n) : XF (wF (FloatKind.nearest .f32 n)) (cF (FloatKind.nearest .f32 n)) (ri b n 7 k) T_C10_7p := by
  obtain ⟨hb0, hb1, hn, l0, l1⟩ := h
  intro x hx
  simp only [T_C10_7p, List.mem_cons, List.not_mem_nil, or_false] at hx
  rcases hx with rfl | rfl | rfl | rfl | rfl
  · refine xok_toF (k := .u64) (e := (.var 3)) (c := FloatKind.nearest .f32 n) rfl rfl ?_
    rw [show IE.ev (ri b n 7 k) (.var 3) = n from by simp (disch := omega) only [IE.ev, ri, rc_3, loI] <;> omega]
  · exact xok_complex (a := FloatKind.nearest .f32 n) (b := 0) rfl rfl rfl
  · exact xok_real (a := FloatKind.nearest .f32 n) (b := 0) rfl rfl
  · exact xok_imag (a := FloatKind.nearest .f32 n) (b := 0) rfl rfl
  · refine xok_toF (k := .i64) (e := (.var 4)) (c := FloatKind.nearest .f32 n) rfl rfl ?_
    rw [show IE.ev (ri b n 7 k) (.var 4) = n from by simp (disch := omega) only [IE.ev, ri, rc_4, wrap_i64] <;> omega]
noncomputable def T_C10_7m : List XE := [(kToF Tryz.prog, [(.sym (.int .i64 (.cv .i64 (.var 3))))], (.sym (.nm 0))),
  (kCall .complex, [(.sym (.nm 0)), (.v (.float .f32 0))], (.sym (.nm 20))),
  (kCall .real, [(.sym (.nm 20))], (.sym (.nm 0))),
  (kCall .imag, [(.sym (.nm 20))], (.v (.float .f32 0))),
  (kToF Tryz.prog, [(.sym (.int .i64 (.var 4)))], (.sym (.nm 0)))]
theorem tk_C10_7m {k : Int} (b n : Int) (h : HN 7 b n) (h0 : n < 0) : XF (wF (FloatKind.nearest .f32 n)) (cF (FloatKind.nearest .f32 n)) (ri b n 7 k) T_C10_7m := by
  obtain ⟨hb0, hb1, hn, l0, l1⟩ := h
  intro x hx
  simp only [T_C10_7m, List.mem_cons, List.not_mem_nil, or_false] at hx
  rcases hx with rfl | rfl | rfl | rfl | rfl
  · refine xok_toF (k := .i64) (e := (.cv .i64 (.var 3))) (c := FloatKind.nearest .f32 n) rfl rfl ?_
    rw [show IE.ev (ri b n 7 k) (.cv .i64 (.var 3)) = n from by simp (disch := omega) only [IE.ev, ri, rc_3, loI, wrap_i64] <;> omega]
  · exact xok_complex (a := FloatKind.nearest .f32 n) (b := 0) rfl rfl rfl
  · exact xok_real (a := FloatKind.nearest .f32 n) (b := 0) rfl rfl
  · exact xok_imag (a := FloatKind.nearest .f32 n) (b := 0) rfl rfl
  · refine xok_toF (k := .i64) (e := (.var 4)) (c := FloatKind.nearest .f32 n) rfl rfl ?_
    rw [show IE.ev (ri b n 7 k) (.var 4) = n from by simp (disch := omega) only [IE.ev, ri, rc_4, wrap_i64] <;> omega]
noncomputable def T_C1_8 : List XE := [(kToF Tryz.prog, [(.sym (.int .i64 (.var 4)))], (.sym (.nm 0)))]
theorem tk_C1_8 {k : Int} (b n : Int) (h : HN 8 b n)  : XF (wF (FloatKind.nearest .f32 n)) (cF (FloatKind.nearest .f32 n)) (ri b n 8 k) T_C1_8 := by
  obtain ⟨hb0, hb1, hn, l0, l1⟩ := h
  intro x hx
  simp only [T_C1_8, List.mem_cons, List.not_mem_nil, or_false] at hx
  subst hx
  · refine xok_toF (k := .i64) (e := (.var 4)) (c := FloatKind.nearest .f32 n) rfl rfl ?_
    rw [show IE.ev (ri b n 8 k) (.var 4) = n from by simp (disch := omega) only [IE.ev, ri, rc_4, wrap_i64] <;> omega]
noncomputable def T_C9_8p : List XE := [(kToF Tryz.prog, [(.sym (.int .u64 (.var 3)))], (.sym (.nm 0))),
  (kToF Tryz.prog, [(.sym (.int .i64 (.var 4)))], (.sym (.nm 0)))]
theorem tk_C9_8p {k : Int} (b n : Int) (h : HN 8 b n) (h0 : 0 ≤ n) : XF (wF (FloatKind.nearest .f32 n)) (cF (FloatKind.nearest .f32 n)) (ri b n 8 k) T_C9_8p := by
  obtain ⟨hb0, hb1, hn, l0, l1⟩ := h
  intro x hx
  simp only [T_C9_8p, List.mem_cons, List.not_mem_nil, or_false] at hx
  rcases hx with rfl | rfl
  · refine xok_toF (k := .u64) (e := (.var 3)) (c := FloatKind.nearest .f32 n) rfl rfl ?_
    rw [show IE.ev (ri b n 8 k) (.var 3) = n from by simp (disch := omega) only [IE.ev, ri, rc_3, loI] <;> omega]
  · refine xok_toF (k := .i64) (e := (.var 4)) (c := FloatKind.nearest .f32 n) rfl rfl ?_
    rw [show IE.ev (ri b n 8 k) (.var 4) = n from by simp (disch := omega) only [IE.ev, ri, rc_4, wrap_i64] <;> omega]
noncomputable def T_C9_8m : List XE := [(kToF Tryz.prog, [(.sym (.int .i64 (.cv .i64 (.var 3))))], (.sym (.nm 0))),
  (kToF Tryz.prog, [(.sym (.int .i64 (.var 4)))], (.sym (.nm 0)))]
theorem tk_C9_8m {k : Int} (b n : Int) (h : HN 8 b n) (h0 : n < 0) : XF (wF (FloatKind.nearest .f32 n)) (cF (FloatKind.nearest .f32 n)) (ri b n 8 k) T_C9_8m := by
  obtain ⟨hb0, hb1, hn, l0, l1⟩ := h
  intro x hx
  simp only [T_C9_8m, List.mem_cons, List.not_mem_nil, or_false] at hx
  rcases hx with rfl | rfl
  · refine xok_toF (k := .i64) (e := (.cv .i64 (.var 3))) (c := FloatKind.nearest .f32 n) rfl rfl ?_
    rw [show IE.ev (ri b n 8 k) (.cv .i64 (.var 3)) = n from by simp (disch := omega) only [IE.ev, ri, rc_3, loI, wrap_i64] <;> omega]
  · refine xok_toF (k := .i64) (e := (.var 4)) (c := FloatKind.nearest .f32 n) rfl rfl ?_
    rw [show IE.ev (ri b n 8 k) (.var 4) = n from by simp (disch := omega) only [IE.ev, ri, rc_4, wrap_i64] <;> omega]
noncomputable def T_C10_8p : List XE := [(kToF Tryz.prog, [(.sym (.int .u64 (.var 3)))], (.sym (.nm 0))),
  (kCall .complex, [(.sym (.nm 0)), (.v (.float .f32 0))], (.sym (.nm 20))),
  (kCall .real, [(.sym (.nm 20))], (.sym (.nm 0))),
  (kCall .imag, [(.sym (.nm 20))], (.v (.float .f32 0))),
  (kToF Tryz.prog, [(.sym (.int .i64 (.var 4)))], (.sym (.nm 0)))]
theorem tk_C10_8p {k : Int} (b n : Int) (h : HN 8 b n) (h0 : 0 ≤ n) : XF (wF (FloatKind.nearest .f32 n)) (cF (FloatKind.nearest .f32 n)) (ri b n 8 k) T_C10_8p := by
  obtain ⟨hb0, hb1, hn, l0, l1⟩ := h
  intro x hx
  simp only [T_C10_8p, List.mem_cons, List.not_mem_nil, or_false] at hx
  rcases hx with rfl | rfl | rfl | rfl | rfl
  · refine xok_toF (k := .u64) (e := (.var 3)) (c := FloatKind.nearest .f32 n) rfl rfl ?_
    rw [show IE.ev (ri b n 8 k) (.var 3) = n from by simp (disch := omega) only [IE.ev, ri, rc_3, loI] <;> omega]
  · exact xok_complex (a := FloatKind.nearest .f32 n) (b := 0) rfl rfl rfl
  · exact xok_real (a := FloatKind.nearest .f32 n) (b := 0) rfl rfl
  · exact xok_imag (a := FloatKind.nearest .f32 n) (b := 0) rfl rfl
  · refine xok_toF (k := .i64) (e := (.var 4)) (c := FloatKind.nearest .f32 n) rfl rfl ?_
    rw [show IE.ev (ri b n 8 k) (.var 4) = n from by simp (disch := omega) only [IE.ev, ri, rc_4, wrap_i64] <;> omega]
noncomputable def T_C10_8m : List XE := [(kToF Tryz.prog, [(.sym (.int .i64 (.cv .i64 (.var 3))))], (.sym (.nm 0))),
  (kCall .complex, [(.sym (.nm 0)), (.v (.float .f32 0))], (.sym (.nm 20))),
  (kCall .real, [(.sym (.nm 20))], (.sym (.nm 0))),
  (kCall .imag, [(.sym (.nm 20))], (.v (.float .f32 0))),
  (kToF Tryz.prog, [(.sym (.int .i64 (.var 4)))], (.sym (.nm 0)))]
theorem tk_C10_8m {k : Int} (b n : Int) (h : HN 8 b n) (h0 : n < 0) : XF (wF (FloatKind.nearest .f32 n)) (cF (FloatKind.nearest .f32 n)) (ri b n 8 k) T_C10_8m := by
  obtain ⟨hb0, hb1, hn, l0, l1⟩ := h
  intro x hx
  simp only [T_C10_8m, List.mem_cons, List.not_mem_nil, or_false] at hx
  rcases hx with rfl | rfl | rfl | rfl | rfl
  · refine xok_toF (k := .i64) (e := (.cv .i64 (.var 3))) (c := FloatKind.nearest .f32 n) rfl rfl ?_
    rw [show IE.ev (ri b n 8 k) (.cv .i64 (.var 3)) = n from by simp (disch := omega) only [IE.ev, ri, rc_3, loI, wrap_i64] <;> omega]
  · exact xok_complex (a := FloatKind.nearest .f32 n) (b := 0) rfl rfl rfl
  · exact xok_real (a := FloatKind.nearest .f32 n) (b := 0) rfl rfl
  · exact xok_imag (a := FloatKind.nearest .f32 n) (b := 0) rfl rfl
  · refine xok_toF (k := .i64) (e := (.var 4)) (c := FloatKind.nearest .f32 n) rfl rfl ?_
    rw [show IE.ev (ri b n 8 k) (.var 4) = n from by simp (disch := omega) only [IE.ev, ri, rc_4, wrap_i64] <;> omega]
noncomputable def T_C1_9bb : List XE := [(kVal, [(.v (.func (.func 73) #[] #[])), (.sym (.int .u32 (.cv .u32 (.var 0))))], (.sym (.nm 0))),
  (kToD Tryz.prog, [(.sym (.nm 0))], (.sym (.nm 40))),
  (kVal, [(.v (.func (.func 121) #[] #[])), (.sym (.nm 40))], (.sym (.nm 41))),
  (kBin .lss, [(.sym (.nm 41)), (.v (.float .f64 0))], (.v (.bool true))),
  (kBin .leq, [(.sym (.nm 0)), (.v (.float .f32 0))], (.v (.bool true)))]
theorem tk_C1_9bb {k : Int} (F : Nat) (h : HF F) (h0 : tB F < 0) (h1 : keyB F ≤ 0) : XF (wF F) (cF F) (rf F k) T_C1_9bb := by
  obtain ⟨hF, hr, hz⟩ := h
  intro x hx
  simp only [T_C1_9bb, List.mem_cons, List.not_mem_nil, or_false] at hx
  rcases hx with rfl | rfl | rfl | rfl | rfl
  · refine xok_from ext_from (e := .cv .u32 (.var 0)) (c := F) rfl rfl ?_
    show IntKind.wrap .u32 (F : Int) = _
    rw [wrap_u32]
    omega
  · exact xok_toD hF hr rfl rfl
  · exact xok_trunc ext_trunc (b := F) hr rfl rfl
  · exact xok_dcmp (n := tB F) (k := 0) rfl rfl rfl (is64_trunc hr) is64_0 (decide_eq_true (show  (tB F < 0) by omega))
  · refine xok_cmp (a := F) (b := 0) rfl rfl rfl ?_
    rw [cmpF_key rfl ⟨hF, by omega⟩ (by unfold Num; omega), show keyB 0 = 0 from by decide]
    exact decide_eq_true (show  (keyB F ≤ 0) by omega)
noncomputable def T_C1_9ib : List XE := [(kVal, [(.v (.func (.func 73) #[] #[])), (.sym (.int .u32 (.cv .u32 (.var 0))))], (.sym (.nm 0))),
  (kToD Tryz.prog, [(.sym (.nm 0))], (.sym (.nm 40))),
  (kVal, [(.v (.func (.func 121) #[] #[])), (.sym (.nm 40))], (.sym (.nm 41))),
  (kBin .lss, [(.sym (.nm 41)), (.v (.float .f64 0))], (.v (.bool false))),
  (kBin .geq, [(.sym (.nm 41)), (.v (.float .f64 4643211215818981376))], (.v (.bool false))),
  (kDToI Tryz.prog .u64, [(.sym (.nm 41))], (.sym (.int .u64 (.var 8)))),
  (kBin .leq, [(.sym (.nm 0)), (.v (.float .f32 0))], (.v (.bool true)))]
theorem tk_C1_9ib {k : Int} (F : Nat) (h : HF F) (h0 : tB F = 0) (h1 : keyB F ≤ 0) : XF (wF F) (cF F) (rf F k) T_C1_9ib := by
  obtain ⟨hF, hr, hz⟩ := h
  intro x hx
  simp only [T_C1_9ib, List.mem_cons, List.not_mem_nil, or_false] at hx
  rcases hx with rfl | rfl | rfl | rfl | rfl | rfl | rfl
  · refine xok_from ext_from (e := .cv .u32 (.var 0)) (c := F) rfl rfl ?_
    show IntKind.wrap .u32 (F : Int) = _
    rw [wrap_u32]
    omega
  · exact xok_toD hF hr rfl rfl
  · exact xok_trunc ext_trunc (b := F) hr rfl rfl
  · exact xok_dcmp (n := tB F) (k := 0) rfl rfl rfl (is64_trunc hr) is64_0 (decide_eq_false (show ¬ (tB F < 0) by omega))
  · exact xok_dcmp (n := tB F) (k := 256) rfl rfl rfl (is64_trunc hr) (is64_pow false 4643211215818981376 8 (by decide)) (decide_eq_false (show ¬ (tB F ≥ 256) by omega))
  · exact xok_dtoI (k := .u64) (e := .var 8) (n := tB F) rfl (is64_trunc hr) rfl rfl (show (0 : Int) ≤ tB F by omega) (show tB F ≤ 18446744073709551615 by omega)
  · refine xok_cmp (a := F) (b := 0) rfl rfl rfl ?_
    rw [cmpF_key rfl ⟨hF, by omega⟩ (by unfold Num; omega), show keyB 0 = 0 from by decide]
    exact decide_eq_true (show  (keyB F ≤ 0) by omega)
noncomputable def T_C1_9ii : List XE := [(kVal, [(.v (.func (.func 73) #[] #[])), (.sym (.int .u32 (.cv .u32 (.var 0))))], (.sym (.nm 0))),
  (kToD Tryz.prog, [(.sym (.nm 0))], (.sym (.nm 40))),
  (kVal, [(.v (.func (.func 121) #[] #[])), (.sym (.nm 40))], (.sym (.nm 41))),
  (kBin .lss, [(.sym (.nm 41)), (.v (.float .f64 0))], (.v (.bool false))),
  (kBin .geq, [(.sym (.nm 41)), (.v (.float .f64 4643211215818981376))], (.v (.bool false))),
  (kDToI Tryz.prog .u64, [(.sym (.nm 41))], (.sym (.int .u64 (.var 8)))),
  (kBin .leq, [(.sym (.nm 0)), (.v (.float .f32 0))], (.v (.bool false))),
  (kBin .geq, [(.sym (.nm 0)), (.v (.float .f32 1132396544))], (.v (.bool false))),
  (kToI Tryz.prog .u64, [(.sym (.nm 0))], (.sym (.int .u64 (.var 8))))]
theorem tk_C1_9ii {k : Int} (F : Nat) (h : HF F) (h0 : 0 ≤ tB F) (h1 : tB F < 256) (h2 : 0 < keyB F) (h3 : keyB F < 1132396544) : XF (wF F) (cF F) (rf F k) T_C1_9ii := by
  obtain ⟨hF, hr, hz⟩ := h
  intro x hx
  simp only [T_C1_9ii, List.mem_cons, List.not_mem_nil, or_false] at hx
  rcases hx with rfl | rfl | rfl | rfl | rfl | rfl | rfl | rfl | rfl
  · refine xok_from ext_from (e := .cv .u32 (.var 0)) (c := F) rfl rfl ?_
    show IntKind.wrap .u32 (F : Int) = _
    rw [wrap_u32]
    omega
  · exact xok_toD hF hr rfl rfl
  · exact xok_trunc ext_trunc (b := F) hr rfl rfl
  · exact xok_dcmp (n := tB F) (k := 0) rfl rfl rfl (is64_trunc hr) is64_0 (decide_eq_false (show ¬ (tB F < 0) by omega))
  · exact xok_dcmp (n := tB F) (k := 256) rfl rfl rfl (is64_trunc hr) (is64_pow false 4643211215818981376 8 (by decide)) (decide_eq_false (show ¬ (tB F ≥ 256) by omega))
  · exact xok_dtoI (k := .u64) (e := .var 8) (n := tB F) rfl (is64_trunc hr) rfl rfl (show (0 : Int) ≤ tB F by omega) (show tB F ≤ 18446744073709551615 by omega)
  · refine xok_cmp (a := F) (b := 0) rfl rfl rfl ?_
    rw [cmpF_key rfl ⟨hF, by omega⟩ (by unfold Num; omega), show keyB 0 = 0 from by decide]
    exact decide_eq_false (show ¬ (keyB F ≤ 0) by omega)
  · refine xok_cmp (a := F) (b := 1132396544) rfl rfl rfl ?_
    rw [cmpF_key rfl ⟨hF, by omega⟩ (by unfold Num; omega), show keyB 1132396544 = 1132396544 from by decide]
    exact decide_eq_false (show ¬ (keyB F ≥ 1132396544) by omega)
  · exact xok_toI (k := .u64) (a := F) (e := .var 8) rfl rfl (toInt_tB hF hr) (show (0 : Int) ≤ tB F by omega) (show tB F ≤ 18446744073709551615 by omega)
noncomputable def T_C1_9ia : List XE := [(kVal, [(.v (.func (.func 73) #[] #[])), (.sym (.int .u32 (.cv .u32 (.var 0))))], (.sym (.nm 0))),
  (kToD Tryz.prog, [(.sym (.nm 0))], (.sym (.nm 40))),
  (kVal, [(.v (.func (.func 121) #[] #[])), (.sym (.nm 40))], (.sym (.nm 41))),
  (kBin .lss, [(.sym (.nm 41)), (.v (.float .f64 0))], (.v (.bool false))),
  (kBin .geq, [(.sym (.nm 41)), (.v (.float .f64 4643211215818981376))], (.v (.bool false))),
  (kDToI Tryz.prog .u64, [(.sym (.nm 41))], (.sym (.int .u64 (.var 8)))),
  (kBin .leq, [(.sym (.nm 0)), (.v (.float .f32 0))], (.v (.bool false))),
  (kBin .geq, [(.sym (.nm 0)), (.v (.float .f32 1132396544))], (.v (.bool true)))]
theorem tk_C1_9ia {k : Int} (F : Nat) (h : HF F) (h0 : tB F = 255) (_ : 0 < keyB F) (h2 : 1132396544 ≤ keyB F) : XF (wF F) (cF F) (rf F k) T_C1_9ia := by
  obtain ⟨hF, hr, hz⟩ := h
  intro x hx
  simp only [T_C1_9ia, List.mem_cons, List.not_mem_nil, or_false] at hx
  rcases hx with rfl | rfl | rfl | rfl | rfl | rfl | rfl | rfl
  · refine xok_from ext_from (e := .cv .u32 (.var 0)) (c := F) rfl rfl ?_
    show IntKind.wrap .u32 (F : Int) = _
    rw [wrap_u32]
    omega
  · exact xok_toD hF hr rfl rfl
  · exact xok_trunc ext_trunc (b := F) hr rfl rfl
  · exact xok_dcmp (n := tB F) (k := 0) rfl rfl rfl (is64_trunc hr) is64_0 (decide_eq_false (show ¬ (tB F < 0) by omega))
  · exact xok_dcmp (n := tB F) (k := 256) rfl rfl rfl (is64_trunc hr) (is64_pow false 4643211215818981376 8 (by decide)) (decide_eq_false (show ¬ (tB F ≥ 256) by omega))
  · exact xok_dtoI (k := .u64) (e := .var 8) (n := tB F) rfl (is64_trunc hr) rfl rfl (show (0 : Int) ≤ tB F by omega) (show tB F ≤ 18446744073709551615 by omega)
  · refine xok_cmp (a := F) (b := 0) rfl rfl rfl ?_
    rw [cmpF_key rfl ⟨hF, by omega⟩ (by unfold Num; omega), show keyB 0 = 0 from by decide]
    exact decide_eq_false (show ¬ (keyB F ≤ 0) by omega)
  · refine xok_cmp (a := F) (b := 1132396544) rfl rfl rfl ?_
    rw [cmpF_key rfl ⟨hF, by omega⟩ (by unfold Num; omega), show keyB 1132396544 = 1132396544 from by decide]
    exact decide_eq_true (show  (keyB F ≥ 1132396544) by omega)
noncomputable def T_C1_9aa : List XE := [(kVal, [(.v (.func (.func 73) #[] #[])), (.sym (.int .u32 (.cv .u32 (.var 0))))], (.sym (.nm 0))),
  (kToD Tryz.prog, [(.sym (.nm 0))], (.sym (.nm 40))),
  (kVal, [(.v (.func (.func 121) #[] #[])), (.sym (.nm 40))], (.sym (.nm 41))),
  (kBin .lss, [(.sym (.nm 41)), (.v (.float .f64 0))], (.v (.bool false))),
  (kBin .geq, [(.sym (.nm 41)), (.v (.float .f64 4643211215818981376))], (.v (.bool true))),
  (kBin .leq, [(.sym (.nm 0)), (.v (.float .f32 0))], (.v (.bool false))),
  (kBin .geq, [(.sym (.nm 0)), (.v (.float .f32 1132396544))], (.v (.bool true)))]
theorem tk_C1_9aa {k : Int} (F : Nat) (h : HF F) (h0 : 256 ≤ tB F) (h1 : 1132396544 ≤ keyB F) : XF (wF F) (cF F) (rf F k) T_C1_9aa := by
  obtain ⟨hF, hr, hz⟩ := h
  intro x hx
  simp only [T_C1_9aa, List.mem_cons, List.not_mem_nil, or_false] at hx
  rcases hx with rfl | rfl | rfl | rfl | rfl | rfl | rfl
  · refine xok_from ext_from (e := .cv .u32 (.var 0)) (c := F) rfl rfl ?_
    show IntKind.wrap .u32 (F : Int) = _
    rw [wrap_u32]
    omega
  · exact xok_toD hF hr rfl rfl
  · exact xok_trunc ext_trunc (b := F) hr rfl rfl
  · exact xok_dcmp (n := tB F) (k := 0) rfl rfl rfl (is64_trunc hr) is64_0 (decide_eq_false (show ¬ (tB F < 0) by omega))
  · exact xok_dcmp (n := tB F) (k := 256) rfl rfl rfl (is64_trunc hr) (is64_pow false 4643211215818981376 8 (by decide)) (decide_eq_true (show  (tB F ≥ 256) by omega))
  · refine xok_cmp (a := F) (b := 0) rfl rfl rfl ?_
    rw [cmpF_key rfl ⟨hF, by omega⟩ (by unfold Num; omega), show keyB 0 = 0 from by decide]
    exact decide_eq_false (show ¬ (keyB F ≤ 0) by omega)
  · refine xok_cmp (a := F) (b := 1132396544) rfl rfl rfl ?_
    rw [cmpF_key rfl ⟨hF, by omega⟩ (by unfold Num; omega), show keyB 1132396544 = 1132396544 from by decide]
    exact decide_eq_true (show  (keyB F ≥ 1132396544) by omega)
noncomputable def T_C2_9ib : List XE := [(kVal, [(.v (.func (.func 73) #[] #[])), (.sym (.int .u32 (.cv .u32 (.var 0))))], (.sym (.nm 0))),
  (kToD Tryz.prog, [(.sym (.nm 0))], (.sym (.nm 40))),
  (kVal, [(.v (.func (.func 121) #[] #[])), (.sym (.nm 40))], (.sym (.nm 41))),
  (kBin .lss, [(.sym (.nm 41)), (.v (.float .f64 0))], (.v (.bool false))),
  (kBin .geq, [(.sym (.nm 41)), (.v (.float .f64 4679240012837945344))], (.v (.bool false))),
  (kDToI Tryz.prog .u64, [(.sym (.nm 41))], (.sym (.int .u64 (.var 8)))),
  (kBin .leq, [(.sym (.nm 0)), (.v (.float .f32 0))], (.v (.bool true)))]
theorem tk_C2_9ib {k : Int} (F : Nat) (h : HF F) (h0 : tB F = 0) (h1 : keyB F ≤ 0) : XF (wF F) (cF F) (rf F k) T_C2_9ib := by
  obtain ⟨hF, hr, hz⟩ := h
  intro x hx
  simp only [T_C2_9ib, List.mem_cons, List.not_mem_nil, or_false] at hx
  rcases hx with rfl | rfl | rfl | rfl | rfl | rfl | rfl
  · refine xok_from ext_from (e := .cv .u32 (.var 0)) (c := F) rfl rfl ?_
    show IntKind.wrap .u32 (F : Int) = _
    rw [wrap_u32]
    omega
  · exact xok_toD hF hr rfl rfl
  · exact xok_trunc ext_trunc (b := F) hr rfl rfl
  · exact xok_dcmp (n := tB F) (k := 0) rfl rfl rfl (is64_trunc hr) is64_0 (decide_eq_false (show ¬ (tB F < 0) by omega))
  · exact xok_dcmp (n := tB F) (k := 65536) rfl rfl rfl (is64_trunc hr) (is64_pow false 4679240012837945344 16 (by decide)) (decide_eq_false (show ¬ (tB F ≥ 65536) by omega))
  · exact xok_dtoI (k := .u64) (e := .var 8) (n := tB F) rfl (is64_trunc hr) rfl rfl (show (0 : Int) ≤ tB F by omega) (show tB F ≤ 18446744073709551615 by omega)
  · refine xok_cmp (a := F) (b := 0) rfl rfl rfl ?_
    rw [cmpF_key rfl ⟨hF, by omega⟩ (by unfold Num; omega), show keyB 0 = 0 from by decide]
    exact decide_eq_true (show  (keyB F ≤ 0) by omega)
noncomputable def T_C2_9ii : List XE := [(kVal, [(.v (.func (.func 73) #[] #[])), (.sym (.int .u32 (.cv .u32 (.var 0))))], (.sym (.nm 0))),
  (kToD Tryz.prog, [(.sym (.nm 0))], (.sym (.nm 40))),
  (kVal, [(.v (.func (.func 121) #[] #[])), (.sym (.nm 40))], (.sym (.nm 41))),
  (kBin .lss, [(.sym (.nm 41)), (.v (.float .f64 0))], (.v (.bool false))),
  (kBin .geq, [(.sym (.nm 41)), (.v (.float .f64 4679240012837945344))], (.v (.bool false))),
  (kDToI Tryz.prog .u64, [(.sym (.nm 41))], (.sym (.int .u64 (.var 8)))),
  (kBin .leq, [(.sym (.nm 0)), (.v (.float .f32 0))], (.v (.bool false))),
  (kBin .geq, [(.sym (.nm 0)), (.v (.float .f32 1199570688))], (.v (.bool false))),
  (kToI Tryz.prog .u64, [(.sym (.nm 0))], (.sym (.int .u64 (.var 8))))]
theorem tk_C2_9ii {k : Int} (F : Nat) (h : HF F) (h0 : 0 ≤ tB F) (h1 : tB F < 65536) (h2 : 0 < keyB F) (h3 : keyB F < 1199570688) : XF (wF F) (cF F) (rf F k) T_C2_9ii := by
  obtain ⟨hF, hr, hz⟩ := h
  intro x hx
  simp only [T_C2_9ii, List.mem_cons, List.not_mem_nil, or_false] at hx
  rcases hx with rfl | rfl | rfl | rfl | rfl | rfl | rfl | rfl | rfl
  · refine xok_from ext_from (e := .cv .u32 (.var 0)) (c := F) rfl rfl ?_
    show IntKind.wrap .u32 (F : Int) = _
    rw [wrap_u32]
    omega
  · exact xok_toD hF hr rfl rfl
  · exact xok_trunc ext_trunc (b := F) hr rfl rfl
  · exact xok_dcmp (n := tB F) (k := 0) rfl rfl rfl (is64_trunc hr) is64_0 (decide_eq_false (show ¬ (tB F < 0) by omega))
  · exact xok_dcmp (n := tB F) (k := 65536) rfl rfl rfl (is64_trunc hr) (is64_pow false 4679240012837945344 16 (by decide)) (decide_eq_false (show ¬ (tB F ≥ 65536) by omega))
  · exact xok_dtoI (k := .u64) (e := .var 8) (n := tB F) rfl (is64_trunc hr) rfl rfl (show (0 : Int) ≤ tB F by omega) (show tB F ≤ 18446744073709551615 by omega)
  · refine xok_cmp (a := F) (b := 0) rfl rfl rfl ?_
    rw [cmpF_key rfl ⟨hF, by omega⟩ (by unfold Num; omega), show keyB 0 = 0 from by decide]
    exact decide_eq_false (show ¬ (keyB F ≤ 0) by omega)
  · refine xok_cmp (a := F) (b := 1199570688) rfl rfl rfl ?_
    rw [cmpF_key rfl ⟨hF, by omega⟩ (by unfold Num; omega), show keyB 1199570688 = 1199570688 from by decide]
    exact decide_eq_false (show ¬ (keyB F ≥ 1199570688) by omega)
  · exact xok_toI (k := .u64) (a := F) (e := .var 8) rfl rfl (toInt_tB hF hr) (show (0 : Int) ≤ tB F by omega) (show tB F ≤ 18446744073709551615 by omega)
noncomputable def T_C2_9ia : List XE := [(kVal, [(.v (.func (.func 73) #[] #[])), (.sym (.int .u32 (.cv .u32 (.var 0))))], (.sym (.nm 0))),
  (kToD Tryz.prog, [(.sym (.nm 0))], (.sym (.nm 40))),
  (kVal, [(.v (.func (.func 121) #[] #[])), (.sym (.nm 40))], (.sym (.nm 41))),
  (kBin .lss, [(.sym (.nm 41)), (.v (.float .f64 0))], (.v (.bool false))),
  (kBin .geq, [(.sym (.nm 41)), (.v (.float .f64 4679240012837945344))], (.v (.bool false))),
  (kDToI Tryz.prog .u64, [(.sym (.nm 41))], (.sym (.int .u64 (.var 8)))),
  (kBin .leq, [(.sym (.nm 0)), (.v (.float .f32 0))], (.v (.bool false))),
  (kBin .geq, [(.sym (.nm 0)), (.v (.float .f32 1199570688))], (.v (.bool true)))]
theorem tk_C2_9ia {k : Int} (F : Nat) (h : HF F) (h0 : tB F = 65535) (_ : 0 < keyB F) (h2 : 1199570688 ≤ keyB F) : XF (wF F) (cF F) (rf F k) T_C2_9ia := by
  obtain ⟨hF, hr, hz⟩ := h
  intro x hx
  simp only [T_C2_9ia, List.mem_cons, List.not_mem_nil, or_false] at hx
  rcases hx with rfl | rfl | rfl | rfl | rfl | rfl | rfl | rfl
  · refine xok_from ext_from (e := .cv .u32 (.var 0)) (c := F) rfl rfl ?_
    show IntKind.wrap .u32 (F : Int) = _
    rw [wrap_u32]
    omega
  · exact xok_toD hF hr rfl rfl
  · exact xok_trunc ext_trunc (b := F) hr rfl rfl
  · exact xok_dcmp (n := tB F) (k := 0) rfl rfl rfl (is64_trunc hr) is64_0 (decide_eq_false (show ¬ (tB F < 0) by omega))
  · exact xok_dcmp (n := tB F) (k := 65536) rfl rfl rfl (is64_trunc hr) (is64_pow false 4679240012837945344 16 (by decide)) (decide_eq_false (show ¬ (tB F ≥ 65536) by omega))
  · exact xok_dtoI (k := .u64) (e := .var 8) (n := tB F) rfl (is64_trunc hr) rfl rfl (show (0 : Int) ≤ tB F by omega) (show tB F ≤ 18446744073709551615 by omega)
  · refine xok_cmp (a := F) (b := 0) rfl rfl rfl ?_
    rw [cmpF_key rfl ⟨hF, by omega⟩ (by unfold Num; omega), show keyB 0 = 0 from by decide]
    exact decide_eq_false (show ¬ (keyB F ≤ 0) by omega)
  · refine xok_cmp (a := F) (b := 1199570688) rfl rfl rfl ?_
    rw [cmpF_key rfl ⟨hF, by omega⟩ (by unfold Num; omega), show keyB 1199570688 = 1199570688 from by decide]
    exact decide_eq_true (show  (keyB F ≥ 1199570688) by omega)
noncomputable def T_C2_9aa : List XE := [(kVal, [(.v (.func (.func 73) #[] #[])), (.sym (.int .u32 (.cv .u32 (.var 0))))], (.sym (.nm 0))),
  (kToD Tryz.prog, [(.sym (.nm 0))], (.sym (.nm 40))),
  (kVal, [(.v (.func (.func 121) #[] #[])), (.sym (.nm 40))], (.sym (.nm 41))),
  (kBin .lss, [(.sym (.nm 41)), (.v (.float .f64 0))], (.v (.bool false))),
  (kBin .geq, [(.sym (.nm 41)), (.v (.float .f64 4679240012837945344))], (.v (.bool true))),
  (kBin .leq, [(.sym (.nm 0)), (.v (.float .f32 0))], (.v (.bool false))),
  (kBin .geq, [(.sym (.nm 0)), (.v (.float .f32 1199570688))], (.v (.bool true)))]
theorem tk_C2_9aa {k : Int} (F : Nat) (h : HF F) (h0 : 65536 ≤ tB F) (h1 : 1199570688 ≤ keyB F) : XF (wF F) (cF F) (rf F k) T_C2_9aa := by
  obtain ⟨hF, hr, hz⟩ := h
  intro x hx
  simp only [T_C2_9aa, List.mem_cons, List.not_mem_nil, or_false] at hx
  rcases hx with rfl | rfl | rfl | rfl | rfl | rfl | rfl
  · refine xok_from ext_from (e := .cv .u32 (.var 0)) (c := F) rfl rfl ?_
    show IntKind.wrap .u32 (F : Int) = _
    rw [wrap_u32]
    omega
  · exact xok_toD hF hr rfl rfl
  · exact xok_trunc ext_trunc (b := F) hr rfl rfl
  · exact xok_dcmp (n := tB F) (k := 0) rfl rfl rfl (is64_trunc hr) is64_0 (decide_eq_false (show ¬ (tB F < 0) by omega))
  · exact xok_dcmp (n := tB F) (k := 65536) rfl rfl rfl (is64_trunc hr) (is64_pow false 4679240012837945344 16 (by decide)) (decide_eq_true (show  (tB F ≥ 65536) by omega))
  · refine xok_cmp (a := F) (b := 0) rfl rfl rfl ?_
    rw [cmpF_key rfl ⟨hF, by omega⟩ (by unfold Num; omega), show keyB 0 = 0 from by decide]
    exact decide_eq_false (show ¬ (keyB F ≤ 0) by omega)
  · refine xok_cmp (a := F) (b := 1199570688) rfl rfl rfl ?_
    rw [cmpF_key rfl ⟨hF, by omega⟩ (by unfold Num; omega), show keyB 1199570688 = 1199570688 from by decide]
    exact decide_eq_true (show  (keyB F ≥ 1199570688) by omega)
noncomputable def T_C3_9ib : List XE := [(kVal, [(.v (.func (.func 73) #[] #[])), (.sym (.int .u32 (.cv .u32 (.var 0))))], (.sym (.nm 0))),
  (kToD Tryz.prog, [(.sym (.nm 0))], (.sym (.nm 40))),
  (kVal, [(.v (.func (.func 121) #[] #[])), (.sym (.nm 40))], (.sym (.nm 41))),
  (kBin .lss, [(.sym (.nm 41)), (.v (.float .f64 0))], (.v (.bool false))),
  (kBin .geq, [(.sym (.nm 41)), (.v (.float .f64 4751297606875873280))], (.v (.bool false))),
  (kDToI Tryz.prog .u64, [(.sym (.nm 41))], (.sym (.int .u64 (.var 8)))),
  (kBin .leq, [(.sym (.nm 0)), (.v (.float .f32 0))], (.v (.bool true)))]
theorem tk_C3_9ib {k : Int} (F : Nat) (h : HF F) (h0 : tB F = 0) (h1 : keyB F ≤ 0) : XF (wF F) (cF F) (rf F k) T_C3_9ib := by
  obtain ⟨hF, hr, hz⟩ := h
  intro x hx
  simp only [T_C3_9ib, List.mem_cons, List.not_mem_nil, or_false] at hx
  rcases hx with rfl | rfl | rfl | rfl | rfl | rfl | rfl
  · refine xok_from ext_from (e := .cv .u32 (.var 0)) (c := F) rfl rfl ?_
    show IntKind.wrap .u32 (F : Int) = _
    rw [wrap_u32]
    omega
  · exact xok_toD hF hr rfl rfl
  · exact xok_trunc ext_trunc (b := F) hr rfl rfl
  · exact xok_dcmp (n := tB F) (k := 0) rfl rfl rfl (is64_trunc hr) is64_0 (decide_eq_false (show ¬ (tB F < 0) by omega))
  · exact xok_dcmp (n := tB F) (k := 4294967296) rfl rfl rfl (is64_trunc hr) (is64_pow false 4751297606875873280 32 (by decide)) (decide_eq_false (show ¬ (tB F ≥ 4294967296) by omega))
  · exact xok_dtoI (k := .u64) (e := .var 8) (n := tB F) rfl (is64_trunc hr) rfl rfl (show (0 : Int) ≤ tB F by omega) (show tB F ≤ 18446744073709551615 by omega)
  · refine xok_cmp (a := F) (b := 0) rfl rfl rfl ?_
    rw [cmpF_key rfl ⟨hF, by omega⟩ (by unfold Num; omega), show keyB 0 = 0 from by decide]
    exact decide_eq_true (show  (keyB F ≤ 0) by omega)
noncomputable def T_C3_9ii : List XE := [(kVal, [(.v (.func (.func 73) #[] #[])), (.sym (.int .u32 (.cv .u32 (.var 0))))], (.sym (.nm 0))),
  (kToD Tryz.prog, [(.sym (.nm 0))], (.sym (.nm 40))),
  (kVal, [(.v (.func (.func 121) #[] #[])), (.sym (.nm 40))], (.sym (.nm 41))),
  (kBin .lss, [(.sym (.nm 41)), (.v (.float .f64 0))], (.v (.bool false))),
  (kBin .geq, [(.sym (.nm 41)), (.v (.float .f64 4751297606875873280))], (.v (.bool false))),
  (kDToI Tryz.prog .u64, [(.sym (.nm 41))], (.sym (.int .u64 (.var 8)))),
  (kBin .leq, [(.sym (.nm 0)), (.v (.float .f32 0))], (.v (.bool false))),
  (kBin .geq, [(.sym (.nm 0)), (.v (.float .f32 1333788672))], (.v (.bool false))),
  (kToI Tryz.prog .u64, [(.sym (.nm 0))], (.sym (.int .u64 (.var 8))))]
theorem tk_C3_9ii {k : Int} (F : Nat) (h : HF F) (h0 : 0 ≤ tB F) (h1 : tB F < 4294967296) (h2 : 0 < keyB F) (h3 : keyB F < 1333788672) : XF (wF F) (cF F) (rf F k) T_C3_9ii := by
  obtain ⟨hF, hr, hz⟩ := h
  intro x hx
  simp only [T_C3_9ii, List.mem_cons, List.not_mem_nil, or_false] at hx
  rcases hx with rfl | rfl | rfl | rfl | rfl | rfl | rfl | rfl | rfl
  · refine xok_from ext_from (e := .cv .u32 (.var 0)) (c := F) rfl rfl ?_
    show IntKind.wrap .u32 (F : Int) = _
    rw [wrap_u32]
    omega
  · exact xok_toD hF hr rfl rfl
  · exact xok_trunc ext_trunc (b := F) hr rfl rfl
  · exact xok_dcmp (n := tB F) (k := 0) rfl rfl rfl (is64_trunc hr) is64_0 (decide_eq_false (show ¬ (tB F < 0) by omega))
  · exact xok_dcmp (n := tB F) (k := 4294967296) rfl rfl rfl (is64_trunc hr) (is64_pow false 4751297606875873280 32 (by decide)) (decide_eq_false (show ¬ (tB F ≥ 4294967296) by omega))
  · exact xok_dtoI (k := .u64) (e := .var 8) (n := tB F) rfl (is64_trunc hr) rfl rfl (show (0 : Int) ≤ tB F by omega) (show tB F ≤ 18446744073709551615 by omega)
  · refine xok_cmp (a := F) (b := 0) rfl rfl rfl ?_
    rw [cmpF_key rfl ⟨hF, by omega⟩ (by unfold Num; omega), show keyB 0 = 0 from by decide]
    exact decide_eq_false (show ¬ (keyB F ≤ 0) by omega)
  · refine xok_cmp (a := F) (b := 1333788672) rfl rfl rfl ?_
    rw [cmpF_key rfl ⟨hF, by omega⟩ (by unfold Num; omega), show keyB 1333788672 = 1333788672 from by decide]
    exact decide_eq_false (show ¬ (keyB F ≥ 1333788672) by omega)
  · exact xok_toI (k := .u64) (a := F) (e := .var 8) rfl rfl (toInt_tB hF hr) (show (0 : Int) ≤ tB F by omega) (show tB F ≤ 18446744073709551615 by omega)
noncomputable def T_C3_9aa : List XE := [(kVal, [(.v (.func (.func 73) #[] #[])), (.sym (.int .u32 (.cv .u32 (.var 0))))], (.sym (.nm 0))),
  (kToD Tryz.prog, [(.sym (.nm 0))], (.sym (.nm 40))),
  (kVal, [(.v (.func (.func 121) #[] #[])), (.sym (.nm 40))], (.sym (.nm 41))),
  (kBin .lss, [(.sym (.nm 41)), (.v (.float .f64 0))], (.v (.bool false))),
  (kBin .geq, [(.sym (.nm 41)), (.v (.float .f64 4751297606875873280))], (.v (.bool true))),
  (kBin .leq, [(.sym (.nm 0)), (.v (.float .f32 0))], (.v (.bool false))),
  (kBin .geq, [(.sym (.nm 0)), (.v (.float .f32 1333788672))], (.v (.bool true)))]
theorem tk_C3_9aa {k : Int} (F : Nat) (h : HF F) (h0 : 4294967296 ≤ tB F) (h1 : 1333788672 ≤ keyB F) : XF (wF F) (cF F) (rf F k) T_C3_9aa := by
  obtain ⟨hF, hr, hz⟩ := h
  intro x hx
  simp only [T_C3_9aa, List.mem_cons, List.not_mem_nil, or_false] at hx
  rcases hx with rfl | rfl | rfl | rfl | rfl | rfl | rfl
  · refine xok_from ext_from (e := .cv .u32 (.var 0)) (c := F) rfl rfl ?_
    show IntKind.wrap .u32 (F : Int) = _
    rw [wrap_u32]
    omega
  · exact xok_toD hF hr rfl rfl
  · exact xok_trunc ext_trunc (b := F) hr rfl rfl
  · exact xok_dcmp (n := tB F) (k := 0) rfl rfl rfl (is64_trunc hr) is64_0 (decide_eq_false (show ¬ (tB F < 0) by omega))
  · exact xok_dcmp (n := tB F) (k := 4294967296) rfl rfl rfl (is64_trunc hr) (is64_pow false 4751297606875873280 32 (by decide)) (decide_eq_true (show  (tB F ≥ 4294967296) by omega))
  · refine xok_cmp (a := F) (b := 0) rfl rfl rfl ?_
    rw [cmpF_key rfl ⟨hF, by omega⟩ (by unfold Num; omega), show keyB 0 = 0 from by decide]
    exact decide_eq_false (show ¬ (keyB F ≤ 0) by omega)
  · refine xok_cmp (a := F) (b := 1333788672) rfl rfl rfl ?_
    rw [cmpF_key rfl ⟨hF, by omega⟩ (by unfold Num; omega), show keyB 1333788672 = 1333788672 from by decide]
    exact decide_eq_true (show  (keyB F ≥ 1333788672) by omega)
noncomputable def T_C4_9ib : List XE := [(kVal, [(.v (.func (.func 73) #[] #[])), (.sym (.int .u32 (.cv .u32 (.var 0))))], (.sym (.nm 0))),
  (kToD Tryz.prog, [(.sym (.nm 0))], (.sym (.nm 40))),
  (kVal, [(.v (.func (.func 121) #[] #[])), (.sym (.nm 40))], (.sym (.nm 41))),
  (kBin .lss, [(.sym (.nm 41)), (.v (.float .f64 0))], (.v (.bool false))),
  (kBin .geq, [(.sym (.nm 41)), (.v (.float .f64 4895412794951729152))], (.v (.bool false))),
  (kDToI Tryz.prog .u64, [(.sym (.nm 41))], (.sym (.int .u64 (.var 8)))),
  (kBin .leq, [(.sym (.nm 0)), (.v (.float .f32 0))], (.v (.bool true)))]
theorem tk_C4_9ib {k : Int} (F : Nat) (h : HF F) (h0 : tB F = 0) (h1 : keyB F ≤ 0) : XF (wF F) (cF F) (rf F k) T_C4_9ib := by
  obtain ⟨hF, hr, hz⟩ := h
  intro x hx
  simp only [T_C4_9ib, List.mem_cons, List.not_mem_nil, or_false] at hx
  rcases hx with rfl | rfl | rfl | rfl | rfl | rfl | rfl
  · refine xok_from ext_from (e := .cv .u32 (.var 0)) (c := F) rfl rfl ?_
    show IntKind.wrap .u32 (F : Int) = _
    rw [wrap_u32]
    omega
  · exact xok_toD hF hr rfl rfl
  · exact xok_trunc ext_trunc (b := F) hr rfl rfl
  · exact xok_dcmp (n := tB F) (k := 0) rfl rfl rfl (is64_trunc hr) is64_0 (decide_eq_false (show ¬ (tB F < 0) by omega))
  · exact xok_dcmp (n := tB F) (k := 18446744073709551616) rfl rfl rfl (is64_trunc hr) (is64_pow false 4895412794951729152 64 (by decide)) (decide_eq_false (show ¬ (tB F ≥ 18446744073709551616) by omega))
  · exact xok_dtoI (k := .u64) (e := .var 8) (n := tB F) rfl (is64_trunc hr) rfl rfl (show (0 : Int) ≤ tB F by omega) (show tB F ≤ 18446744073709551615 by omega)
  · refine xok_cmp (a := F) (b := 0) rfl rfl rfl ?_
    rw [cmpF_key rfl ⟨hF, by omega⟩ (by unfold Num; omega), show keyB 0 = 0 from by decide]
    exact decide_eq_true (show  (keyB F ≤ 0) by omega)
noncomputable def T_C4_9ii : List XE := [(kVal, [(.v (.func (.func 73) #[] #[])), (.sym (.int .u32 (.cv .u32 (.var 0))))], (.sym (.nm 0))),
  (kToD Tryz.prog, [(.sym (.nm 0))], (.sym (.nm 40))),
  (kVal, [(.v (.func (.func 121) #[] #[])), (.sym (.nm 40))], (.sym (.nm 41))),
  (kBin .lss, [(.sym (.nm 41)), (.v (.float .f64 0))], (.v (.bool false))),
  (kBin .geq, [(.sym (.nm 41)), (.v (.float .f64 4895412794951729152))], (.v (.bool false))),
  (kDToI Tryz.prog .u64, [(.sym (.nm 41))], (.sym (.int .u64 (.var 8)))),
  (kBin .leq, [(.sym (.nm 0)), (.v (.float .f32 0))], (.v (.bool false))),
  (kBin .geq, [(.sym (.nm 0)), (.v (.float .f32 1602224128))], (.v (.bool false))),
  (kToI Tryz.prog .u64, [(.sym (.nm 0))], (.sym (.int .u64 (.var 8))))]
theorem tk_C4_9ii {k : Int} (F : Nat) (h : HF F) (h0 : 0 ≤ tB F) (h1 : tB F < 18446744073709551616) (h2 : 0 < keyB F) (h3 : keyB F < 1602224128) : XF (wF F) (cF F) (rf F k) T_C4_9ii := by
  obtain ⟨hF, hr, hz⟩ := h
  intro x hx
  simp only [T_C4_9ii, List.mem_cons, List.not_mem_nil, or_false] at hx
  rcases hx with rfl | rfl | rfl | rfl | rfl | rfl | rfl | rfl | rfl
  · refine xok_from ext_from (e := .cv .u32 (.var 0)) (c := F) rfl rfl ?_
    show IntKind.wrap .u32 (F : Int) = _
    rw [wrap_u32]
    omega
  · exact xok_toD hF hr rfl rfl
  · exact xok_trunc ext_trunc (b := F) hr rfl rfl
  · exact xok_dcmp (n := tB F) (k := 0) rfl rfl rfl (is64_trunc hr) is64_0 (decide_eq_false (show ¬ (tB F < 0) by omega))
  · exact xok_dcmp (n := tB F) (k := 18446744073709551616) rfl rfl rfl (is64_trunc hr) (is64_pow false 4895412794951729152 64 (by decide)) (decide_eq_false (show ¬ (tB F ≥ 18446744073709551616) by omega))
  · exact xok_dtoI (k := .u64) (e := .var 8) (n := tB F) rfl (is64_trunc hr) rfl rfl (show (0 : Int) ≤ tB F by omega) (show tB F ≤ 18446744073709551615 by omega)
  · refine xok_cmp (a := F) (b := 0) rfl rfl rfl ?_
    rw [cmpF_key rfl ⟨hF, by omega⟩ (by unfold Num; omega), show keyB 0 = 0 from by decide]
    exact decide_eq_false (show ¬ (keyB F ≤ 0) by omega)
  · refine xok_cmp (a := F) (b := 1602224128) rfl rfl rfl ?_
    rw [cmpF_key rfl ⟨hF, by omega⟩ (by unfold Num; omega), show keyB 1602224128 = 1602224128 from by decide]
    exact decide_eq_false (show ¬ (keyB F ≥ 1602224128) by omega)
  · exact xok_toI (k := .u64) (a := F) (e := .var 8) rfl rfl (toInt_tB hF hr) (show (0 : Int) ≤ tB F by omega) (show tB F ≤ 18446744073709551615 by omega)
noncomputable def T_C4_9aa : List XE := [(kVal, [(.v (.func (.func 73) #[] #[])), (.sym (.int .u32 (.cv .u32 (.var 0))))], (.sym (.nm 0))),
  (kToD Tryz.prog, [(.sym (.nm 0))], (.sym (.nm 40))),
  (kVal, [(.v (.func (.func 121) #[] #[])), (.sym (.nm 40))], (.sym (.nm 41))),
  (kBin .lss, [(.sym (.nm 41)), (.v (.float .f64 0))], (.v (.bool false))),
  (kBin .geq, [(.sym (.nm 41)), (.v (.float .f64 4895412794951729152))], (.v (.bool true))),
  (kBin .leq, [(.sym (.nm 0)), (.v (.float .f32 0))], (.v (.bool false))),
  (kBin .geq, [(.sym (.nm 0)), (.v (.float .f32 1602224128))], (.v (.bool true)))]
theorem tk_C4_9aa {k : Int} (F : Nat) (h : HF F) (h0 : 18446744073709551616 ≤ tB F) (h1 : 1602224128 ≤ keyB F) : XF (wF F) (cF F) (rf F k) T_C4_9aa := by
  obtain ⟨hF, hr, hz⟩ := h
  intro x hx
  simp only [T_C4_9aa, List.mem_cons, List.not_mem_nil, or_false] at hx
  rcases hx with rfl | rfl | rfl | rfl | rfl | rfl | rfl
  · refine xok_from ext_from (e := .cv .u32 (.var 0)) (c := F) rfl rfl ?_
    show IntKind.wrap .u32 (F : Int) = _
    rw [wrap_u32]
    omega
  · exact xok_toD hF hr rfl rfl
  · exact xok_trunc ext_trunc (b := F) hr rfl rfl
  · exact xok_dcmp (n := tB F) (k := 0) rfl rfl rfl (is64_trunc hr) is64_0 (decide_eq_false (show ¬ (tB F < 0) by omega))
  · exact xok_dcmp (n := tB F) (k := 18446744073709551616) rfl rfl rfl (is64_trunc hr) (is64_pow false 4895412794951729152 64 (by decide)) (decide_eq_true (show  (tB F ≥ 18446744073709551616) by omega))
  · refine xok_cmp (a := F) (b := 0) rfl rfl rfl ?_
    rw [cmpF_key rfl ⟨hF, by omega⟩ (by unfold Num; omega), show keyB 0 = 0 from by decide]
    exact decide_eq_false (show ¬ (keyB F ≤ 0) by omega)
  · refine xok_cmp (a := F) (b := 1602224128) rfl rfl rfl ?_
    rw [cmpF_key rfl ⟨hF, by omega⟩ (by unfold Num; omega), show keyB 1602224128 = 1602224128 from by decide]
    exact decide_eq_true (show  (keyB F ≥ 1602224128) by omega)
noncomputable def T_C5_9bb : List XE := [(kVal, [(.v (.func (.func 73) #[] #[])), (.sym (.int .u32 (.cv .u32 (.var 0))))], (.sym (.nm 0))),
  (kToD Tryz.prog, [(.sym (.nm 0))], (.sym (.nm 40))),
  (kVal, [(.v (.func (.func 121) #[] #[])), (.sym (.nm 40))], (.sym (.nm 41))),
  (kBin .lss, [(.sym (.nm 41)), (.v (.float .f64 13862079653046386688))], (.v (.bool true))),
  (kBin .leq, [(.sym (.nm 0)), (.v (.float .f32 3271557120))], (.v (.bool true)))]
theorem tk_C5_9bb {k : Int} (F : Nat) (h : HF F) (h0 : tB F < -128) (h1 : keyB F ≤ -1124073472) : XF (wF F) (cF F) (rf F k) T_C5_9bb := by
  obtain ⟨hF, hr, hz⟩ := h
  intro x hx
  simp only [T_C5_9bb, List.mem_cons, List.not_mem_nil, or_false] at hx
  rcases hx with rfl | rfl | rfl | rfl | rfl
  · refine xok_from ext_from (e := .cv .u32 (.var 0)) (c := F) rfl rfl ?_
    show IntKind.wrap .u32 (F : Int) = _
    rw [wrap_u32]
    omega
  · exact xok_toD hF hr rfl rfl
  · exact xok_trunc ext_trunc (b := F) hr rfl rfl
  · exact xok_dcmp (n := tB F) (k := (-128)) rfl rfl rfl (is64_trunc hr) (is64_pow true 13862079653046386688 7 (by decide)) (decide_eq_true (show  (tB F < (-128)) by omega))
  · refine xok_cmp (a := F) (b := 3271557120) rfl rfl rfl ?_
    rw [cmpF_key rfl ⟨hF, by omega⟩ (by unfold Num; omega), show keyB 3271557120 = (-1124073472) from by decide]
    exact decide_eq_true (show  (keyB F ≤ (-1124073472)) by omega)
noncomputable def T_C5_9ib : List XE := [(kVal, [(.v (.func (.func 73) #[] #[])), (.sym (.int .u32 (.cv .u32 (.var 0))))], (.sym (.nm 0))),
  (kToD Tryz.prog, [(.sym (.nm 0))], (.sym (.nm 40))),
  (kVal, [(.v (.func (.func 121) #[] #[])), (.sym (.nm 40))], (.sym (.nm 41))),
  (kBin .lss, [(.sym (.nm 41)), (.v (.float .f64 13862079653046386688))], (.v (.bool false))),
  (kBin .geq, [(.sym (.nm 41)), (.v (.float .f64 4638707616191610880))], (.v (.bool false))),
  (kDToI Tryz.prog .i64, [(.sym (.nm 41))], (.sym (.int .i64 (.var 8)))),
  (kBin .leq, [(.sym (.nm 0)), (.v (.float .f32 3271557120))], (.v (.bool true)))]
theorem tk_C5_9ib {k : Int} (F : Nat) (h : HF F) (h0 : tB F = (-128)) (h1 : keyB F ≤ -1124073472) : XF (wF F) (cF F) (rf F k) T_C5_9ib := by
  obtain ⟨hF, hr, hz⟩ := h
  intro x hx
  simp only [T_C5_9ib, List.mem_cons, List.not_mem_nil, or_false] at hx
  rcases hx with rfl | rfl | rfl | rfl | rfl | rfl | rfl
  · refine xok_from ext_from (e := .cv .u32 (.var 0)) (c := F) rfl rfl ?_
    show IntKind.wrap .u32 (F : Int) = _
    rw [wrap_u32]
    omega
  · exact xok_toD hF hr rfl rfl
  · exact xok_trunc ext_trunc (b := F) hr rfl rfl
  · exact xok_dcmp (n := tB F) (k := (-128)) rfl rfl rfl (is64_trunc hr) (is64_pow true 13862079653046386688 7 (by decide)) (decide_eq_false (show ¬ (tB F < (-128)) by omega))
  · exact xok_dcmp (n := tB F) (k := 128) rfl rfl rfl (is64_trunc hr) (is64_pow false 4638707616191610880 7 (by decide)) (decide_eq_false (show ¬ (tB F ≥ 128) by omega))
  · exact xok_dtoI (k := .i64) (e := .var 8) (n := tB F) rfl (is64_trunc hr) rfl rfl (show (-9223372036854775808 : Int) ≤ tB F by omega) (show tB F ≤ 9223372036854775807 by omega)
  · refine xok_cmp (a := F) (b := 3271557120) rfl rfl rfl ?_
    rw [cmpF_key rfl ⟨hF, by omega⟩ (by unfold Num; omega), show keyB 3271557120 = (-1124073472) from by decide]
    exact decide_eq_true (show  (keyB F ≤ (-1124073472)) by omega)
noncomputable def T_C5_9ii : List XE := [(kVal, [(.v (.func (.func 73) #[] #[])), (.sym (.int .u32 (.cv .u32 (.var 0))))], (.sym (.nm 0))),
  (kToD Tryz.prog, [(.sym (.nm 0))], (.sym (.nm 40))),
  (kVal, [(.v (.func (.func 121) #[] #[])), (.sym (.nm 40))], (.sym (.nm 41))),
  (kBin .lss, [(.sym (.nm 41)), (.v (.float .f64 13862079653046386688))], (.v (.bool false))),
  (kBin .geq, [(.sym (.nm 41)), (.v (.float .f64 4638707616191610880))], (.v (.bool false))),
  (kDToI Tryz.prog .i64, [(.sym (.nm 41))], (.sym (.int .i64 (.var 8)))),
  (kBin .leq, [(.sym (.nm 0)), (.v (.float .f32 3271557120))], (.v (.bool false))),
  (kBin .geq, [(.sym (.nm 0)), (.v (.float .f32 1123942400))], (.v (.bool false))),
  (kToI Tryz.prog .i64, [(.sym (.nm 0))], (.sym (.int .i64 (.var 8))))]
theorem tk_C5_9ii {k : Int} (F : Nat) (h : HF F) (h0 : -128 ≤ tB F) (h1 : tB F < 128) (h2 : -1124073472 < keyB F) (h3 : keyB F < 1123942400) : XF (wF F) (cF F) (rf F k) T_C5_9ii := by
  obtain ⟨hF, hr, hz⟩ := h
  intro x hx
  simp only [T_C5_9ii, List.mem_cons, List.not_mem_nil, or_false] at hx
  rcases hx with rfl | rfl | rfl | rfl | rfl | rfl | rfl | rfl | rfl
  · refine xok_from ext_from (e := .cv .u32 (.var 0)) (c := F) rfl rfl ?_
    show IntKind.wrap .u32 (F : Int) = _
    rw [wrap_u32]
    omega
  · exact xok_toD hF hr rfl rfl
  · exact xok_trunc ext_trunc (b := F) hr rfl rfl
  · exact xok_dcmp (n := tB F) (k := (-128)) rfl rfl rfl (is64_trunc hr) (is64_pow true 13862079653046386688 7 (by decide)) (decide_eq_false (show ¬ (tB F < (-128)) by omega))
  · exact xok_dcmp (n := tB F) (k := 128) rfl rfl rfl (is64_trunc hr) (is64_pow false 4638707616191610880 7 (by decide)) (decide_eq_false (show ¬ (tB F ≥ 128) by omega))
  · exact xok_dtoI (k := .i64) (e := .var 8) (n := tB F) rfl (is64_trunc hr) rfl rfl (show (-9223372036854775808 : Int) ≤ tB F by omega) (show tB F ≤ 9223372036854775807 by omega)
  · refine xok_cmp (a := F) (b := 3271557120) rfl rfl rfl ?_
    rw [cmpF_key rfl ⟨hF, by omega⟩ (by unfold Num; omega), show keyB 3271557120 = (-1124073472) from by decide]
    exact decide_eq_false (show ¬ (keyB F ≤ (-1124073472)) by omega)
  · refine xok_cmp (a := F) (b := 1123942400) rfl rfl rfl ?_
    rw [cmpF_key rfl ⟨hF, by omega⟩ (by unfold Num; omega), show keyB 1123942400 = 1123942400 from by decide]
    exact decide_eq_false (show ¬ (keyB F ≥ 1123942400) by omega)
  · exact xok_toI (k := .i64) (a := F) (e := .var 8) rfl rfl (toInt_tB hF hr) (show (-9223372036854775808 : Int) ≤ tB F by omega) (show tB F ≤ 9223372036854775807 by omega)
noncomputable def T_C5_9ia : List XE := [(kVal, [(.v (.func (.func 73) #[] #[])), (.sym (.int .u32 (.cv .u32 (.var 0))))], (.sym (.nm 0))),
  (kToD Tryz.prog, [(.sym (.nm 0))], (.sym (.nm 40))),
  (kVal, [(.v (.func (.func 121) #[] #[])), (.sym (.nm 40))], (.sym (.nm 41))),
  (kBin .lss, [(.sym (.nm 41)), (.v (.float .f64 13862079653046386688))], (.v (.bool false))),
  (kBin .geq, [(.sym (.nm 41)), (.v (.float .f64 4638707616191610880))], (.v (.bool false))),
  (kDToI Tryz.prog .i64, [(.sym (.nm 41))], (.sym (.int .i64 (.var 8)))),
  (kBin .leq, [(.sym (.nm 0)), (.v (.float .f32 3271557120))], (.v (.bool false))),
  (kBin .geq, [(.sym (.nm 0)), (.v (.float .f32 1123942400))], (.v (.bool true)))]
theorem tk_C5_9ia {k : Int} (F : Nat) (h : HF F) (h0 : tB F = 127) (_ : -1124073472 < keyB F) (h2 : 1123942400 ≤ keyB F) : XF (wF F) (cF F) (rf F k) T_C5_9ia := by
  obtain ⟨hF, hr, hz⟩ := h
  intro x hx
  simp only [T_C5_9ia, List.mem_cons, List.not_mem_nil, or_false] at hx
  rcases hx with rfl | rfl | rfl | rfl | rfl | rfl | rfl | rfl
  · refine xok_from ext_from (e := .cv .u32 (.var 0)) (c := F) rfl rfl ?_
    show IntKind.wrap .u32 (F : Int) = _
    rw [wrap_u32]
    omega
  · exact xok_toD hF hr rfl rfl
  · exact xok_trunc ext_trunc (b := F) hr rfl rfl
  · exact xok_dcmp (n := tB F) (k := (-128)) rfl rfl rfl (is64_trunc hr) (is64_pow true 13862079653046386688 7 (by decide)) (decide_eq_false (show ¬ (tB F < (-128)) by omega))
  · exact xok_dcmp (n := tB F) (k := 128) rfl rfl rfl (is64_trunc hr) (is64_pow false 4638707616191610880 7 (by decide)) (decide_eq_false (show ¬ (tB F ≥ 128) by omega))
  · exact xok_dtoI (k := .i64) (e := .var 8) (n := tB F) rfl (is64_trunc hr) rfl rfl (show (-9223372036854775808 : Int) ≤ tB F by omega) (show tB F ≤ 9223372036854775807 by omega)
  · refine xok_cmp (a := F) (b := 3271557120) rfl rfl rfl ?_
    rw [cmpF_key rfl ⟨hF, by omega⟩ (by unfold Num; omega), show keyB 3271557120 = (-1124073472) from by decide]
    exact decide_eq_false (show ¬ (keyB F ≤ (-1124073472)) by omega)
  · refine xok_cmp (a := F) (b := 1123942400) rfl rfl rfl ?_
    rw [cmpF_key rfl ⟨hF, by omega⟩ (by unfold Num; omega), show keyB 1123942400 = 1123942400 from by decide]
    exact decide_eq_true (show  (keyB F ≥ 1123942400) by omega)
noncomputable def T_C5_9aa : List XE := [(kVal, [(.v (.func (.func 73) #[] #[])), (.sym (.int .u32 (.cv .u32 (.var 0))))], (.sym (.nm 0))),
  (kToD Tryz.prog, [(.sym (.nm 0))], (.sym (.nm 40))),
  (kVal, [(.v (.func (.func 121) #[] #[])), (.sym (.nm 40))], (.sym (.nm 41))),
  (kBin .lss, [(.sym (.nm 41)), (.v (.float .f64 13862079653046386688))], (.v (.bool false))),
  (kBin .geq, [(.sym (.nm 41)), (.v (.float .f64 4638707616191610880))], (.v (.bool true))),
  (kBin .leq, [(.sym (.nm 0)), (.v (.float .f32 3271557120))], (.v (.bool false))),
  (kBin .geq, [(.sym (.nm 0)), (.v (.float .f32 1123942400))], (.v (.bool true)))]
theorem tk_C5_9aa {k : Int} (F : Nat) (h : HF F) (h0 : 128 ≤ tB F) (h1 : 1123942400 ≤ keyB F) : XF (wF F) (cF F) (rf F k) T_C5_9aa := by
  obtain ⟨hF, hr, hz⟩ := h
  intro x hx
  simp only [T_C5_9aa, List.mem_cons, List.not_mem_nil, or_false] at hx
  rcases hx with rfl | rfl | rfl | rfl | rfl | rfl | rfl
  · refine xok_from ext_from (e := .cv .u32 (.var 0)) (c := F) rfl rfl ?_
    show IntKind.wrap .u32 (F : Int) = _
    rw [wrap_u32]
    omega
  · exact xok_toD hF hr rfl rfl
  · exact xok_trunc ext_trunc (b := F) hr rfl rfl
  · exact xok_dcmp (n := tB F) (k := (-128)) rfl rfl rfl (is64_trunc hr) (is64_pow true 13862079653046386688 7 (by decide)) (decide_eq_false (show ¬ (tB F < (-128)) by omega))
  · exact xok_dcmp (n := tB F) (k := 128) rfl rfl rfl (is64_trunc hr) (is64_pow false 4638707616191610880 7 (by decide)) (decide_eq_true (show  (tB F ≥ 128) by omega))
  · refine xok_cmp (a := F) (b := 3271557120) rfl rfl rfl ?_
    rw [cmpF_key rfl ⟨hF, by omega⟩ (by unfold Num; omega), show keyB 3271557120 = (-1124073472) from by decide]
    exact decide_eq_false (show ¬ (keyB F ≤ (-1124073472)) by omega)
  · refine xok_cmp (a := F) (b := 1123942400) rfl rfl rfl ?_
    rw [cmpF_key rfl ⟨hF, by omega⟩ (by unfold Num; omega), show keyB 1123942400 = 1123942400 from by decide]
    exact decide_eq_true (show  (keyB F ≥ 1123942400) by omega)
noncomputable def T_C6_9bb : List XE := [(kVal, [(.v (.func (.func 73) #[] #[])), (.sym (.int .u32 (.cv .u32 (.var 0))))], (.sym (.nm 0))),
  (kToD Tryz.prog, [(.sym (.nm 0))], (.sym (.nm 40))),
  (kVal, [(.v (.func (.func 121) #[] #[])), (.sym (.nm 40))], (.sym (.nm 41))),
  (kBin .lss, [(.sym (.nm 41)), (.v (.float .f64 13898108450065350656))], (.v (.bool true))),
  (kBin .leq, [(.sym (.nm 0)), (.v (.float .f32 3338665984))], (.v (.bool true)))]
theorem tk_C6_9bb {k : Int} (F : Nat) (h : HF F) (h0 : tB F < -32768) (h1 : keyB F ≤ -1191182336) : XF (wF F) (cF F) (rf F k) T_C6_9bb := by
  obtain ⟨hF, hr, hz⟩ := h
  intro x hx
  simp only [T_C6_9bb, List.mem_cons, List.not_mem_nil, or_false] at hx
  rcases hx with rfl | rfl | rfl | rfl | rfl
  · refine xok_from ext_from (e := .cv .u32 (.var 0)) (c := F) rfl rfl ?_
    show IntKind.wrap .u32 (F : Int) = _
    rw [wrap_u32]
    omega
  · exact xok_toD hF hr rfl rfl
  · exact xok_trunc ext_trunc (b := F) hr rfl rfl
  · exact xok_dcmp (n := tB F) (k := (-32768)) rfl rfl rfl (is64_trunc hr) (is64_pow true 13898108450065350656 15 (by decide)) (decide_eq_true (show  (tB F < (-32768)) by omega))
  · refine xok_cmp (a := F) (b := 3338665984) rfl rfl rfl ?_
    rw [cmpF_key rfl ⟨hF, by omega⟩ (by unfold Num; omega), show keyB 3338665984 = (-1191182336) from by decide]
    exact decide_eq_true (show  (keyB F ≤ (-1191182336)) by omega)
noncomputable def T_C6_9ib : List XE := [(kVal, [(.v (.func (.func 73) #[] #[])), (.sym (.int .u32 (.cv .u32 (.var 0))))], (.sym (.nm 0))),
  (kToD Tryz.prog, [(.sym (.nm 0))], (.sym (.nm 40))),
  (kVal, [(.v (.func (.func 121) #[] #[])), (.sym (.nm 40))], (.sym (.nm 41))),
  (kBin .lss, [(.sym (.nm 41)), (.v (.float .f64 13898108450065350656))], (.v (.bool false))),
  (kBin .geq, [(.sym (.nm 41)), (.v (.float .f64 4674736413210574848))], (.v (.bool false))),
  (kDToI Tryz.prog .i64, [(.sym (.nm 41))], (.sym (.int .i64 (.var 8)))),
  (kBin .leq, [(.sym (.nm 0)), (.v (.float .f32 3338665984))], (.v (.bool true)))]
theorem tk_C6_9ib {k : Int} (F : Nat) (h : HF F) (h0 : tB F = (-32768)) (h1 : keyB F ≤ -1191182336) : XF (wF F) (cF F) (rf F k) T_C6_9ib := by
  obtain ⟨hF, hr, hz⟩ := h
  intro x hx
  simp only [T_C6_9ib, List.mem_cons, List.not_mem_nil, or_false] at hx
  rcases hx with rfl | rfl | rfl | rfl | rfl | rfl | rfl
  · refine xok_from ext_from (e := .cv .u32 (.var 0)) (c := F) rfl rfl ?_
    show IntKind.wrap .u32 (F : Int) = _
    rw [wrap_u32]
    omega
  · exact xok_toD hF hr rfl rfl
  · exact xok_trunc ext_trunc (b := F) hr rfl rfl
  · exact xok_dcmp (n := tB F) (k := (-32768)) rfl rfl rfl (is64_trunc hr) (is64_pow true 13898108450065350656 15 (by decide)) (decide_eq_false (show ¬ (tB F < (-32768)) by omega))
  · exact xok_dcmp (n := tB F) (k := 32768) rfl rfl rfl (is64_trunc hr) (is64_pow false 4674736413210574848 15 (by decide)) (decide_eq_false (show ¬ (tB F ≥ 32768) by omega))
  · exact xok_dtoI (k := .i64) (e := .var 8) (n := tB F) rfl (is64_trunc hr) rfl rfl (show (-9223372036854775808 : Int) ≤ tB F by omega) (show tB F ≤ 9223372036854775807 by omega)
  · refine xok_cmp (a := F) (b := 3338665984) rfl rfl rfl ?_
    rw [cmpF_key rfl ⟨hF, by omega⟩ (by unfold Num; omega), show keyB 3338665984 = (-1191182336) from by decide]
    exact decide_eq_true (show  (keyB F ≤ (-1191182336)) by omega)
noncomputable def T_C6_9ii : List XE := [(kVal, [(.v (.func (.func 73) #[] #[])), (.sym (.int .u32 (.cv .u32 (.var 0))))], (.sym (.nm 0))),
  (kToD Tryz.prog, [(.sym (.nm 0))], (.sym (.nm 40))),
  (kVal, [(.v (.func (.func 121) #[] #[])), (.sym (.nm 40))], (.sym (.nm 41))),
  (kBin .lss, [(.sym (.nm 41)), (.v (.float .f64 13898108450065350656))], (.v (.bool false))),
  (kBin .geq, [(.sym (.nm 41)), (.v (.float .f64 4674736413210574848))], (.v (.bool false))),
  (kDToI Tryz.prog .i64, [(.sym (.nm 41))], (.sym (.int .i64 (.var 8)))),
  (kBin .leq, [(.sym (.nm 0)), (.v (.float .f32 3338665984))], (.v (.bool false))),
  (kBin .geq, [(.sym (.nm 0)), (.v (.float .f32 1191181824))], (.v (.bool false))),
  (kToI Tryz.prog .i64, [(.sym (.nm 0))], (.sym (.int .i64 (.var 8))))]
theorem tk_C6_9ii {k : Int} (F : Nat) (h : HF F) (h0 : -32768 ≤ tB F) (h1 : tB F < 32768) (h2 : -1191182336 < keyB F) (h3 : keyB F < 1191181824) : XF (wF F) (cF F) (rf F k) T_C6_9ii := by
  obtain ⟨hF, hr, hz⟩ := h
  intro x hx
  simp only [T_C6_9ii, List.mem_cons, List.not_mem_nil, or_false] at hx
  rcases hx with rfl | rfl | rfl | rfl | rfl | rfl | rfl | rfl | rfl
  · refine xok_from ext_from (e := .cv .u32 (.var 0)) (c := F) rfl rfl ?_
    show IntKind.wrap .u32 (F : Int) = _
    rw [wrap_u32]
    omega
  · exact xok_toD hF hr rfl rfl
  · exact xok_trunc ext_trunc (b := F) hr rfl rfl
  · exact xok_dcmp (n := tB F) (k := (-32768)) rfl rfl rfl (is64_trunc hr) (is64_pow true 13898108450065350656 15 (by decide)) (decide_eq_false (show ¬ (tB F < (-32768)) by omega))
  · exact xok_dcmp (n := tB F) (k := 32768) rfl rfl rfl (is64_trunc hr) (is64_pow false 4674736413210574848 15 (by decide)) (decide_eq_false (show ¬ (tB F ≥ 32768) by omega))
  · exact xok_dtoI (k := .i64) (e := .var 8) (n := tB F) rfl (is64_trunc hr) rfl rfl (show (-9223372036854775808 : Int) ≤ tB F by omega) (show tB F ≤ 9223372036854775807 by omega)
  · refine xok_cmp (a := F) (b := 3338665984) rfl rfl rfl ?_
    rw [cmpF_key rfl ⟨hF, by omega⟩ (by unfold Num; omega), show keyB 3338665984 = (-1191182336) from by decide]
    exact decide_eq_false (show ¬ (keyB F ≤ (-1191182336)) by omega)
  · refine xok_cmp (a := F) (b := 1191181824) rfl rfl rfl ?_
    rw [cmpF_key rfl ⟨hF, by omega⟩ (by unfold Num; omega), show keyB 1191181824 = 1191181824 from by decide]
    exact decide_eq_false (show ¬ (keyB F ≥ 1191181824) by omega)
  · exact xok_toI (k := .i64) (a := F) (e := .var 8) rfl rfl (toInt_tB hF hr) (show (-9223372036854775808 : Int) ≤ tB F by omega) (show tB F ≤ 9223372036854775807 by omega)
noncomputable def T_C6_9ia : List XE := [(kVal, [(.v (.func (.func 73) #[] #[])), (.sym (.int .u32 (.cv .u32 (.var 0))))], (.sym (.nm 0))),
  (kToD Tryz.prog, [(.sym (.nm 0))], (.sym (.nm 40))),
  (kVal, [(.v (.func (.func 121) #[] #[])), (.sym (.nm 40))], (.sym (.nm 41))),
  (kBin .lss, [(.sym (.nm 41)), (.v (.float .f64 13898108450065350656))], (.v (.bool false))),
  (kBin .geq, [(.sym (.nm 41)), (.v (.float .f64 4674736413210574848))], (.v (.bool false))),
  (kDToI Tryz.prog .i64, [(.sym (.nm 41))], (.sym (.int .i64 (.var 8)))),
  (kBin .leq, [(.sym (.nm 0)), (.v (.float .f32 3338665984))], (.v (.bool false))),
  (kBin .geq, [(.sym (.nm 0)), (.v (.float .f32 1191181824))], (.v (.bool true)))]
theorem tk_C6_9ia {k : Int} (F : Nat) (h : HF F) (h0 : tB F = 32767) (_ : -1191182336 < keyB F) (h2 : 1191181824 ≤ keyB F) : XF (wF F) (cF F) (rf F k) T_C6_9ia := by
  obtain ⟨hF, hr, hz⟩ := h
  intro x hx
  simp only [T_C6_9ia, List.mem_cons, List.not_mem_nil, or_false] at hx
  rcases hx with rfl | rfl | rfl | rfl | rfl | rfl | rfl | rfl
  · refine xok_from ext_from (e := .cv .u32 (.var 0)) (c := F) rfl rfl ?_
    show IntKind.wrap .u32 (F : Int) = _
    rw [wrap_u32]
    omega
  · exact xok_toD hF hr rfl rfl
  · exact xok_trunc ext_trunc (b := F) hr rfl rfl
  · exact xok_dcmp (n := tB F) (k := (-32768)) rfl rfl rfl (is64_trunc hr) (is64_pow true 13898108450065350656 15 (by decide)) (decide_eq_false (show ¬ (tB F < (-32768)) by omega))
  · exact xok_dcmp (n := tB F) (k := 32768) rfl rfl rfl (is64_trunc hr) (is64_pow false 4674736413210574848 15 (by decide)) (decide_eq_false (show ¬ (tB F ≥ 32768) by omega))
  · exact xok_dtoI (k := .i64) (e := .var 8) (n := tB F) rfl (is64_trunc hr) rfl rfl (show (-9223372036854775808 : Int) ≤ tB F by omega) (show tB F ≤ 9223372036854775807 by omega)
  · refine xok_cmp (a := F) (b := 3338665984) rfl rfl rfl ?_
    rw [cmpF_key rfl ⟨hF, by omega⟩ (by unfold Num; omega), show keyB 3338665984 = (-1191182336) from by decide]
    exact decide_eq_false (show ¬ (keyB F ≤ (-1191182336)) by omega)
  · refine xok_cmp (a := F) (b := 1191181824) rfl rfl rfl ?_
    rw [cmpF_key rfl ⟨hF, by omega⟩ (by unfold Num; omega), show keyB 1191181824 = 1191181824 from by decide]
    exact decide_eq_true (show  (keyB F ≥ 1191181824) by omega)
noncomputable def T_C6_9aa : List XE := [(kVal, [(.v (.func (.func 73) #[] #[])), (.sym (.int .u32 (.cv .u32 (.var 0))))], (.sym (.nm 0))),
  (kToD Tryz.prog, [(.sym (.nm 0))], (.sym (.nm 40))),
  (kVal, [(.v (.func (.func 121) #[] #[])), (.sym (.nm 40))], (.sym (.nm 41))),
  (kBin .lss, [(.sym (.nm 41)), (.v (.float .f64 13898108450065350656))], (.v (.bool false))),
  (kBin .geq, [(.sym (.nm 41)), (.v (.float .f64 4674736413210574848))], (.v (.bool true))),
  (kBin .leq, [(.sym (.nm 0)), (.v (.float .f32 3338665984))], (.v (.bool false))),
  (kBin .geq, [(.sym (.nm 0)), (.v (.float .f32 1191181824))], (.v (.bool true)))]
theorem tk_C6_9aa {k : Int} (F : Nat) (h : HF F) (h0 : 32768 ≤ tB F) (h1 : 1191181824 ≤ keyB F) : XF (wF F) (cF F) (rf F k) T_C6_9aa := by
  obtain ⟨hF, hr, hz⟩ := h
  intro x hx
  simp only [T_C6_9aa, List.mem_cons, List.not_mem_nil, or_false] at hx
  rcases hx with rfl | rfl | rfl | rfl | rfl | rfl | rfl
  · refine xok_from ext_from (e := .cv .u32 (.var 0)) (c := F) rfl rfl ?_
    show IntKind.wrap .u32 (F : Int) = _
    rw [wrap_u32]
    omega
  · exact xok_toD hF hr rfl rfl
  · exact xok_trunc ext_trunc (b := F) hr rfl rfl
  · exact xok_dcmp (n := tB F) (k := (-32768)) rfl rfl rfl (is64_trunc hr) (is64_pow true 13898108450065350656 15 (by decide)) (decide_eq_false (show ¬ (tB F < (-32768)) by omega))
  · exact xok_dcmp (n := tB F) (k := 32768) rfl rfl rfl (is64_trunc hr) (is64_pow false 4674736413210574848 15 (by decide)) (decide_eq_true (show  (tB F ≥ 32768) by omega))
  · refine xok_cmp (a := F) (b := 3338665984) rfl rfl rfl ?_
    rw [cmpF_key rfl ⟨hF, by omega⟩ (by unfold Num; omega), show keyB 3338665984 = (-1191182336) from by decide]
    exact decide_eq_false (show ¬ (keyB F ≤ (-1191182336)) by omega)
  · refine xok_cmp (a := F) (b := 1191181824) rfl rfl rfl ?_
    rw [cmpF_key rfl ⟨hF, by omega⟩ (by unfold Num; omega), show keyB 1191181824 = 1191181824 from by decide]
    exact decide_eq_true (show  (keyB F ≥ 1191181824) by omega)
noncomputable def T_C7_9bb : List XE := [(kVal, [(.v (.func (.func 73) #[] #[])), (.sym (.int .u32 (.cv .u32 (.var 0))))], (.sym (.nm 0))),
  (kToD Tryz.prog, [(.sym (.nm 0))], (.sym (.nm 40))),
  (kVal, [(.v (.func (.func 121) #[] #[])), (.sym (.nm 40))], (.sym (.nm 41))),
  (kBin .lss, [(.sym (.nm 41)), (.v (.float .f64 13970166044103278592))], (.v (.bool true))),
  (kBin .leq, [(.sym (.nm 0)), (.v (.float .f32 3472883712))], (.v (.bool true)))]
theorem tk_C7_9bb {k : Int} (F : Nat) (h : HF F) (h0 : tB F < -2147483648) (h1 : keyB F ≤ -1325400064) : XF (wF F) (cF F) (rf F k) T_C7_9bb := by
  obtain ⟨hF, hr, hz⟩ := h
  intro x hx
  simp only [T_C7_9bb, List.mem_cons, List.not_mem_nil, or_false] at hx
  rcases hx with rfl | rfl | rfl | rfl | rfl
  · refine xok_from ext_from (e := .cv .u32 (.var 0)) (c := F) rfl rfl ?_
    show IntKind.wrap .u32 (F : Int) = _
    rw [wrap_u32]
    omega
  · exact xok_toD hF hr rfl rfl
  · exact xok_trunc ext_trunc (b := F) hr rfl rfl
  · exact xok_dcmp (n := tB F) (k := (-2147483648)) rfl rfl rfl (is64_trunc hr) (is64_pow true 13970166044103278592 31 (by decide)) (decide_eq_true (show  (tB F < (-2147483648)) by omega))
  · refine xok_cmp (a := F) (b := 3472883712) rfl rfl rfl ?_
    rw [cmpF_key rfl ⟨hF, by omega⟩ (by unfold Num; omega), show keyB 3472883712 = (-1325400064) from by decide]
    exact decide_eq_true (show  (keyB F ≤ (-1325400064)) by omega)
noncomputable def T_C7_9ib : List XE := [(kVal, [(.v (.func (.func 73) #[] #[])), (.sym (.int .u32 (.cv .u32 (.var 0))))], (.sym (.nm 0))),
  (kToD Tryz.prog, [(.sym (.nm 0))], (.sym (.nm 40))),
  (kVal, [(.v (.func (.func 121) #[] #[])), (.sym (.nm 40))], (.sym (.nm 41))),
  (kBin .lss, [(.sym (.nm 41)), (.v (.float .f64 13970166044103278592))], (.v (.bool false))),
  (kBin .geq, [(.sym (.nm 41)), (.v (.float .f64 4746794007248502784))], (.v (.bool false))),
  (kDToI Tryz.prog .i64, [(.sym (.nm 41))], (.sym (.int .i64 (.var 8)))),
  (kBin .leq, [(.sym (.nm 0)), (.v (.float .f32 3472883712))], (.v (.bool true)))]
theorem tk_C7_9ib {k : Int} (F : Nat) (h : HF F) (h0 : tB F = (-2147483648)) (h1 : keyB F ≤ -1325400064) : XF (wF F) (cF F) (rf F k) T_C7_9ib := by
  obtain ⟨hF, hr, hz⟩ := h
  intro x hx
  simp only [T_C7_9ib, List.mem_cons, List.not_mem_nil, or_false] at hx
  rcases hx with rfl | rfl | rfl | rfl | rfl | rfl | rfl
  · refine xok_from ext_from (e := .cv .u32 (.var 0)) (c := F) rfl rfl ?_
    show IntKind.wrap .u32 (F : Int) = _
    rw [wrap_u32]
    omega
  · exact xok_toD hF hr rfl rfl
  · exact xok_trunc ext_trunc (b := F) hr rfl rfl
  · exact xok_dcmp (n := tB F) (k := (-2147483648)) rfl rfl rfl (is64_trunc hr) (is64_pow true 13970166044103278592 31 (by decide)) (decide_eq_false (show ¬ (tB F < (-2147483648)) by omega))
  · exact xok_dcmp (n := tB F) (k := 2147483648) rfl rfl rfl (is64_trunc hr) (is64_pow false 4746794007248502784 31 (by decide)) (decide_eq_false (show ¬ (tB F ≥ 2147483648) by omega))
  · exact xok_dtoI (k := .i64) (e := .var 8) (n := tB F) rfl (is64_trunc hr) rfl rfl (show (-9223372036854775808 : Int) ≤ tB F by omega) (show tB F ≤ 9223372036854775807 by omega)
  · refine xok_cmp (a := F) (b := 3472883712) rfl rfl rfl ?_
    rw [cmpF_key rfl ⟨hF, by omega⟩ (by unfold Num; omega), show keyB 3472883712 = (-1325400064) from by decide]
    exact decide_eq_true (show  (keyB F ≤ (-1325400064)) by omega)
noncomputable def T_C7_9ii : List XE := [(kVal, [(.v (.func (.func 73) #[] #[])), (.sym (.int .u32 (.cv .u32 (.var 0))))], (.sym (.nm 0))),
  (kToD Tryz.prog, [(.sym (.nm 0))], (.sym (.nm 40))),
  (kVal, [(.v (.func (.func 121) #[] #[])), (.sym (.nm 40))], (.sym (.nm 41))),
  (kBin .lss, [(.sym (.nm 41)), (.v (.float .f64 13970166044103278592))], (.v (.bool false))),
  (kBin .geq, [(.sym (.nm 41)), (.v (.float .f64 4746794007248502784))], (.v (.bool false))),
  (kDToI Tryz.prog .i64, [(.sym (.nm 41))], (.sym (.int .i64 (.var 8)))),
  (kBin .leq, [(.sym (.nm 0)), (.v (.float .f32 3472883712))], (.v (.bool false))),
  (kBin .geq, [(.sym (.nm 0)), (.v (.float .f32 1325400064))], (.v (.bool false))),
  (kToI Tryz.prog .i64, [(.sym (.nm 0))], (.sym (.int .i64 (.var 8))))]
theorem tk_C7_9ii {k : Int} (F : Nat) (h : HF F) (h0 : -2147483648 ≤ tB F) (h1 : tB F < 2147483648) (h2 : -1325400064 < keyB F) (h3 : keyB F < 1325400064) : XF (wF F) (cF F) (rf F k) T_C7_9ii := by
  obtain ⟨hF, hr, hz⟩ := h
  intro x hx
  simp only [T_C7_9ii, List.mem_cons, List.not_mem_nil, or_false] at hx
  rcases hx with rfl | rfl | rfl | rfl | rfl | rfl | rfl | rfl | rfl
  · refine xok_from ext_from (e := .cv .u32 (.var 0)) (c := F) rfl rfl ?_
    show IntKind.wrap .u32 (F : Int) = _
    rw [wrap_u32]
    omega
  · exact xok_toD hF hr rfl rfl
  · exact xok_trunc ext_trunc (b := F) hr rfl rfl
  · exact xok_dcmp (n := tB F) (k := (-2147483648)) rfl rfl rfl (is64_trunc hr) (is64_pow true 13970166044103278592 31 (by decide)) (decide_eq_false (show ¬ (tB F < (-2147483648)) by omega))
  · exact xok_dcmp (n := tB F) (k := 2147483648) rfl rfl rfl (is64_trunc hr) (is64_pow false 4746794007248502784 31 (by decide)) (decide_eq_false (show ¬ (tB F ≥ 2147483648) by omega))
  · exact xok_dtoI (k := .i64) (e := .var 8) (n := tB F) rfl (is64_trunc hr) rfl rfl (show (-9223372036854775808 : Int) ≤ tB F by omega) (show tB F ≤ 9223372036854775807 by omega)
  · refine xok_cmp (a := F) (b := 3472883712) rfl rfl rfl ?_
    rw [cmpF_key rfl ⟨hF, by omega⟩ (by unfold Num; omega), show keyB 3472883712 = (-1325400064) from by decide]
    exact decide_eq_false (show ¬ (keyB F ≤ (-1325400064)) by omega)
  · refine xok_cmp (a := F) (b := 1325400064) rfl rfl rfl ?_
    rw [cmpF_key rfl ⟨hF, by omega⟩ (by unfold Num; omega), show keyB 1325400064 = 1325400064 from by decide]
    exact decide_eq_false (show ¬ (keyB F ≥ 1325400064) by omega)
  · exact xok_toI (k := .i64) (a := F) (e := .var 8) rfl rfl (toInt_tB hF hr) (show (-9223372036854775808 : Int) ≤ tB F by omega) (show tB F ≤ 9223372036854775807 by omega)
noncomputable def T_C7_9aa : List XE := [(kVal, [(.v (.func (.func 73) #[] #[])), (.sym (.int .u32 (.cv .u32 (.var 0))))], (.sym (.nm 0))),
  (kToD Tryz.prog, [(.sym (.nm 0))], (.sym (.nm 40))),
  (kVal, [(.v (.func (.func 121) #[] #[])), (.sym (.nm 40))], (.sym (.nm 41))),
  (kBin .lss, [(.sym (.nm 41)), (.v (.float .f64 13970166044103278592))], (.v (.bool false))),
  (kBin .geq, [(.sym (.nm 41)), (.v (.float .f64 4746794007248502784))], (.v (.bool true))),
  (kBin .leq, [(.sym (.nm 0)), (.v (.float .f32 3472883712))], (.v (.bool false))),
  (kBin .geq, [(.sym (.nm 0)), (.v (.float .f32 1325400064))], (.v (.bool true)))]
theorem tk_C7_9aa {k : Int} (F : Nat) (h : HF F) (h0 : 2147483648 ≤ tB F) (h1 : 1325400064 ≤ keyB F) : XF (wF F) (cF F) (rf F k) T_C7_9aa := by
  obtain ⟨hF, hr, hz⟩ := h
  intro x hx
  simp only [T_C7_9aa, List.mem_cons, List.not_mem_nil, or_false] at hx
  rcases hx with rfl | rfl | rfl | rfl | rfl | rfl | rfl
  · refine xok_from ext_from (e := .cv .u32 (.var 0)) (c := F) rfl rfl ?_
    show IntKind.wrap .u32 (F : Int) = _
    rw [wrap_u32]
    omega
  · exact xok_toD hF hr rfl rfl
  · exact xok_trunc ext_trunc (b := F) hr rfl rfl
  · exact xok_dcmp (n := tB F) (k := (-2147483648)) rfl rfl rfl (is64_trunc hr) (is64_pow true 13970166044103278592 31 (by decide)) (decide_eq_false (show ¬ (tB F < (-2147483648)) by omega))
  · exact xok_dcmp (n := tB F) (k := 2147483648) rfl rfl rfl (is64_trunc hr) (is64_pow false 4746794007248502784 31 (by decide)) (decide_eq_true (show  (tB F ≥ 2147483648) by omega))
  · refine xok_cmp (a := F) (b := 3472883712) rfl rfl rfl ?_
    rw [cmpF_key rfl ⟨hF, by omega⟩ (by unfold Num; omega), show keyB 3472883712 = (-1325400064) from by decide]
    exact decide_eq_false (show ¬ (keyB F ≤ (-1325400064)) by omega)
  · refine xok_cmp (a := F) (b := 1325400064) rfl rfl rfl ?_
    rw [cmpF_key rfl ⟨hF, by omega⟩ (by unfold Num; omega), show keyB 1325400064 = 1325400064 from by decide]
    exact decide_eq_true (show  (keyB F ≥ 1325400064) by omega)
noncomputable def T_C8_9bb : List XE := [(kVal, [(.v (.func (.func 73) #[] #[])), (.sym (.int .u32 (.cv .u32 (.var 0))))], (.sym (.nm 0))),
  (kToD Tryz.prog, [(.sym (.nm 0))], (.sym (.nm 40))),
  (kVal, [(.v (.func (.func 121) #[] #[])), (.sym (.nm 40))], (.sym (.nm 41))),
  (kBin .lss, [(.sym (.nm 41)), (.v (.float .f64 14114281232179134464))], (.v (.bool true))),
  (kBin .leq, [(.sym (.nm 0)), (.v (.float .f32 3741319168))], (.v (.bool true)))]
theorem tk_C8_9bb {k : Int} (F : Nat) (h : HF F) (h0 : tB F < -9223372036854775808) (h1 : keyB F ≤ -1593835520) : XF (wF F) (cF F) (rf F k) T_C8_9bb := by
  obtain ⟨hF, hr, hz⟩ := h
  intro x hx
  simp only [T_C8_9bb, List.mem_cons, List.not_mem_nil, or_false] at hx
  rcases hx with rfl | rfl | rfl | rfl | rfl
  · refine xok_from ext_from (e := .cv .u32 (.var 0)) (c := F) rfl rfl ?_
    show IntKind.wrap .u32 (F : Int) = _
    rw [wrap_u32]
    omega
  · exact xok_toD hF hr rfl rfl
  · exact xok_trunc ext_trunc (b := F) hr rfl rfl
  · exact xok_dcmp (n := tB F) (k := (-9223372036854775808)) rfl rfl rfl (is64_trunc hr) (is64_pow true 14114281232179134464 63 (by decide)) (decide_eq_true (show  (tB F < (-9223372036854775808)) by omega))
  · refine xok_cmp (a := F) (b := 3741319168) rfl rfl rfl ?_
    rw [cmpF_key rfl ⟨hF, by omega⟩ (by unfold Num; omega), show keyB 3741319168 = (-1593835520) from by decide]
    exact decide_eq_true (show  (keyB F ≤ (-1593835520)) by omega)
noncomputable def T_C8_9ib : List XE := [(kVal, [(.v (.func (.func 73) #[] #[])), (.sym (.int .u32 (.cv .u32 (.var 0))))], (.sym (.nm 0))),
  (kToD Tryz.prog, [(.sym (.nm 0))], (.sym (.nm 40))),
  (kVal, [(.v (.func (.func 121) #[] #[])), (.sym (.nm 40))], (.sym (.nm 41))),
  (kBin .lss, [(.sym (.nm 41)), (.v (.float .f64 14114281232179134464))], (.v (.bool false))),
  (kBin .geq, [(.sym (.nm 41)), (.v (.float .f64 4890909195324358656))], (.v (.bool false))),
  (kDToI Tryz.prog .i64, [(.sym (.nm 41))], (.sym (.int .i64 (.var 8)))),
  (kBin .leq, [(.sym (.nm 0)), (.v (.float .f32 3741319168))], (.v (.bool true)))]
theorem tk_C8_9ib {k : Int} (F : Nat) (h : HF F) (h0 : tB F = (-9223372036854775808)) (h1 : keyB F ≤ -1593835520) : XF (wF F) (cF F) (rf F k) T_C8_9ib := by
  obtain ⟨hF, hr, hz⟩ := h
  intro x hx
  simp only [T_C8_9ib, List.mem_cons, List.not_mem_nil, or_false] at hx
  rcases hx with rfl | rfl | rfl | rfl | rfl | rfl | rfl
  · refine xok_from ext_from (e := .cv .u32 (.var 0)) (c := F) rfl rfl ?_
    show IntKind.wrap .u32 (F : Int) = _
    rw [wrap_u32]
    omega
  · exact xok_toD hF hr rfl rfl
  · exact xok_trunc ext_trunc (b := F) hr rfl rfl
  · exact xok_dcmp (n := tB F) (k := (-9223372036854775808)) rfl rfl rfl (is64_trunc hr) (is64_pow true 14114281232179134464 63 (by decide)) (decide_eq_false (show ¬ (tB F < (-9223372036854775808)) by omega))
  · exact xok_dcmp (n := tB F) (k := 9223372036854775808) rfl rfl rfl (is64_trunc hr) (is64_pow false 4890909195324358656 63 (by decide)) (decide_eq_false (show ¬ (tB F ≥ 9223372036854775808) by omega))
  · exact xok_dtoI (k := .i64) (e := .var 8) (n := tB F) rfl (is64_trunc hr) rfl rfl (show (-9223372036854775808 : Int) ≤ tB F by omega) (show tB F ≤ 9223372036854775807 by omega)
  · refine xok_cmp (a := F) (b := 3741319168) rfl rfl rfl ?_
    rw [cmpF_key rfl ⟨hF, by omega⟩ (by unfold Num; omega), show keyB 3741319168 = (-1593835520) from by decide]
    exact decide_eq_true (show  (keyB F ≤ (-1593835520)) by omega)
noncomputable def T_C8_9ii : List XE := [(kVal, [(.v (.func (.func 73) #[] #[])), (.sym (.int .u32 (.cv .u32 (.var 0))))], (.sym (.nm 0))),
  (kToD Tryz.prog, [(.sym (.nm 0))], (.sym (.nm 40))),
  (kVal, [(.v (.func (.func 121) #[] #[])), (.sym (.nm 40))], (.sym (.nm 41))),
  (kBin .lss, [(.sym (.nm 41)), (.v (.float .f64 14114281232179134464))], (.v (.bool false))),
  (kBin .geq, [(.sym (.nm 41)), (.v (.float .f64 4890909195324358656))], (.v (.bool false))),
  (kDToI Tryz.prog .i64, [(.sym (.nm 41))], (.sym (.int .i64 (.var 8)))),
  (kBin .leq, [(.sym (.nm 0)), (.v (.float .f32 3741319168))], (.v (.bool false))),
  (kBin .geq, [(.sym (.nm 0)), (.v (.float .f32 1593835520))], (.v (.bool false))),
  (kToI Tryz.prog .i64, [(.sym (.nm 0))], (.sym (.int .i64 (.var 8))))]
theorem tk_C8_9ii {k : Int} (F : Nat) (h : HF F) (h0 : -9223372036854775808 ≤ tB F) (h1 : tB F < 9223372036854775808) (h2 : -1593835520 < keyB F) (h3 : keyB F < 1593835520) : XF (wF F) (cF F) (rf F k) T_C8_9ii := by
  obtain ⟨hF, hr, hz⟩ := h
  intro x hx
  simp only [T_C8_9ii, List.mem_cons, List.not_mem_nil, or_false] at hx
  rcases hx with rfl | rfl | rfl | rfl | rfl | rfl | rfl | rfl | rfl
  · refine xok_from ext_from (e := .cv .u32 (.var 0)) (c := F) rfl rfl ?_
    show IntKind.wrap .u32 (F : Int) = _
    rw [wrap_u32]
    omega
  · exact xok_toD hF hr rfl rfl
  · exact xok_trunc ext_trunc (b := F) hr rfl rfl
  · exact xok_dcmp (n := tB F) (k := (-9223372036854775808)) rfl rfl rfl (is64_trunc hr) (is64_pow true 14114281232179134464 63 (by decide)) (decide_eq_false (show ¬ (tB F < (-9223372036854775808)) by omega))
  · exact xok_dcmp (n := tB F) (k := 9223372036854775808) rfl rfl rfl (is64_trunc hr) (is64_pow false 4890909195324358656 63 (by decide)) (decide_eq_false (show ¬ (tB F ≥ 9223372036854775808) by omega))
  · exact xok_dtoI (k := .i64) (e := .var 8) (n := tB F) rfl (is64_trunc hr) rfl rfl (show (-9223372036854775808 : Int) ≤ tB F by omega) (show tB F ≤ 9223372036854775807 by omega)
  · refine xok_cmp (a := F) (b := 3741319168) rfl rfl rfl ?_
    rw [cmpF_key rfl ⟨hF, by omega⟩ (by unfold Num; omega), show keyB 3741319168 = (-1593835520) from by decide]
    exact decide_eq_false (show ¬ (keyB F ≤ (-1593835520)) by omega)
  · refine xok_cmp (a := F) (b := 1593835520) rfl rfl rfl ?_
    rw [cmpF_key rfl ⟨hF, by omega⟩ (by unfold Num; omega), show keyB 1593835520 = 1593835520 from by decide]
    exact decide_eq_false (show ¬ (keyB F ≥ 1593835520) by omega)
  · exact xok_toI (k := .i64) (a := F) (e := .var 8) rfl rfl (toInt_tB hF hr) (show (-9223372036854775808 : Int) ≤ tB F by omega) (show tB F ≤ 9223372036854775807 by omega)
noncomputable def T_C8_9aa : List XE := [(kVal, [(.v (.func (.func 73) #[] #[])), (.sym (.int .u32 (.cv .u32 (.var 0))))], (.sym (.nm 0))),
  (kToD Tryz.prog, [(.sym (.nm 0))], (.sym (.nm 40))),
  (kVal, [(.v (.func (.func 121) #[] #[])), (.sym (.nm 40))], (.sym (.nm 41))),
  (kBin .lss, [(.sym (.nm 41)), (.v (.float .f64 14114281232179134464))], (.v (.bool false))),
  (kBin .geq, [(.sym (.nm 41)), (.v (.float .f64 4890909195324358656))], (.v (.bool true))),
  (kBin .leq, [(.sym (.nm 0)), (.v (.float .f32 3741319168))], (.v (.bool false))),
  (kBin .geq, [(.sym (.nm 0)), (.v (.float .f32 1593835520))], (.v (.bool true)))]
theorem tk_C8_9aa {k : Int} (F : Nat) (h : HF F) (h0 : 9223372036854775808 ≤ tB F) (h1 : 1593835520 ≤ keyB F) : XF (wF F) (cF F) (rf F k) T_C8_9aa := by
  obtain ⟨hF, hr, hz⟩ := h
  intro x hx
  simp only [T_C8_9aa, List.mem_cons, List.not_mem_nil, or_false] at hx
  rcases hx with rfl | rfl | rfl | rfl | rfl | rfl | rfl
  · refine xok_from ext_from (e := .cv .u32 (.var 0)) (c := F) rfl rfl ?_
    show IntKind.wrap .u32 (F : Int) = _
    rw [wrap_u32]
    omega
  · exact xok_toD hF hr rfl rfl
  · exact xok_trunc ext_trunc (b := F) hr rfl rfl
  · exact xok_dcmp (n := tB F) (k := (-9223372036854775808)) rfl rfl rfl (is64_trunc hr) (is64_pow true 14114281232179134464 63 (by decide)) (decide_eq_false (show ¬ (tB F < (-9223372036854775808)) by omega))
  · exact xok_dcmp (n := tB F) (k := 9223372036854775808) rfl rfl rfl (is64_trunc hr) (is64_pow false 4890909195324358656 63 (by decide)) (decide_eq_true (show  (tB F ≥ 9223372036854775808) by omega))
  · refine xok_cmp (a := F) (b := 3741319168) rfl rfl rfl ?_
    rw [cmpF_key rfl ⟨hF, by omega⟩ (by unfold Num; omega), show keyB 3741319168 = (-1593835520) from by decide]
    exact decide_eq_false (show ¬ (keyB F ≤ (-1593835520)) by omega)
  · refine xok_cmp (a := F) (b := 1593835520) rfl rfl rfl ?_
    rw [cmpF_key rfl ⟨hF, by omega⟩ (by unfold Num; omega), show keyB 1593835520 = 1593835520 from by decide]
    exact decide_eq_true (show  (keyB F ≥ 1593835520) by omega)
noncomputable def T_C10_9 : List XE := [(kVal, [(.v (.func (.func 73) #[] #[])), (.sym (.int .u32 (.cv .u32 (.var 0))))], (.sym (.nm 0))),
  (kCall .complex, [(.sym (.nm 0)), (.v (.float .f32 0))], (.sym (.nm 20))),
  (kCall .real, [(.sym (.nm 20))], (.sym (.nm 0))),
  (kCall .imag, [(.sym (.nm 20))], (.v (.float .f32 0)))]
theorem tk_C10_9 {k : Int} (F : Nat) (h : HF F)  : XF (wF F) (cF F) (rf F k) T_C10_9 := by
  obtain ⟨hF, hr, hz⟩ := h
  intro x hx
  simp only [T_C10_9, List.mem_cons, List.not_mem_nil, or_false] at hx
  rcases hx with rfl | rfl | rfl | rfl
  · refine xok_from ext_from (e := .cv .u32 (.var 0)) (c := F) rfl rfl ?_
    show IntKind.wrap .u32 (F : Int) = _
    rw [wrap_u32]
    omega
  · exact xok_complex (a := F) (b := 0) rfl rfl rfl
  · exact xok_real (a := F) (b := 0) rfl rfl
  · exact xok_imag (a := F) (b := 0) rfl rfl
end
end Go.Proofs.YtbhhdjlmbmeiaaaGreatDoor
