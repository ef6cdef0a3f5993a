import Derived.Test.YtgecchiocfkpkaaGreatDoorKA0
import Derived.Test.YtgecchiocfkpkaaGreatDoorRXB
import Derived.Test.YtgecchiocfkpkaaGreatDoorRXA
namespace Go.Proofs.YtgecchiocfkpkaaGreatDoor
noncomputable section
open Go Go.RX
open Go.RowKit (Below)
set_option maxRecDepth 1000000
set_option maxHeartbeats 4000000

def nm0 : Nat → Value := fun _ => .bool false
theorem nm0_flat : ∀ i, Flat (nm0 i) := fun _ => trivial
/-- Symbols with facts L. -/
@[reducible] noncomputable def E (ρ : Nat → Int) (L : List CF) : Env := envV Tryz.prog nm0 nm0_flat ρ (knowL L) (extraY Tryz.prog [] (knowL L)) []
theorem namesE {ρ : Nat → Int} {L : List CF} (h : ∀ f ∈ L, f.ok ρ) : @NamesOk (E ρ L) Tryz.prog :=
  namesOkV (namesOkS _ _ _ _ _ _ names1 (knowL_ok h) (extraY_ok _ _ _ _ _ _ (knowL_ok h) (fun _ h => by cases h))) (fun _ h => by cases h)
def Ret (v : Value) (w : World) : Ending → World → Prop := fun r w' => r = .returned v ∧ Below w.heap.size w w'
theorem calls_sym {ρ : Nat → Int} {L : List CF} (hL : ∀ f ∈ L, f.ok ρ) {aR aS : Addr} {U : List SEntry} (hU : ∀ e ∈ U, @SOk (E ρ L) Tryz.prog (glob aR aS) e) {J : List SEntry}
    (h : J.map (fun e => (@call (E ρ L) Tryz.prog (glob aR aS) (tabS U) 300 60 (.fn e.1) e.2.1 []).map fun r => nrm r.1) = J.map fun e => some e.2.2) {e : SEntry} (he : e ∈ J) (hx : nfL e.2.1 = true) (hy : nf e.2.2 = true)
    {vs : List Value} {v : Value} (hv : @denL (E ρ L) (fun _ => none) e.2.1 = some vs) (hd : @den (E ρ L) (fun _ => none) e.2.2 = some v) {w : World} (hG : (glob aR aS).holds w) : Calls Tryz.prog e.1 vs.toArray w (Ret v w) := by
  have h1 := List.map_inj_left.1 h e he
  obtain ⟨v', h2, h3⟩ := @calls_of_run (E ρ L) Tryz.prog (glob aR aS) (tabS U) (@tabS_holds (E ρ L) _ _ _ hU) (namesE hL) mixed 300 60 e.1 e.2.1 e.2.2 h1 hy (fun _ => none) vs.toArray hx (by simpa using hv) w hG
  rw [hd] at h2
  cases h2
  exact h3
theorem sokE {ρ : Nat → Int} {L : List CF} {aR aS : Addr} {e : SEntry} {vs : List Value} {v : Value} (h1 : nfL e.2.1 = true) (h2 : nf e.2.2 = true) (h3 : @denL (E ρ L) (fun _ => none) e.2.1 = some vs) (h4 : @den (E ρ L) (fun _ => none) e.2.2 = some v)
    (h : ∀ w, (glob aR aS).holds w → Calls Tryz.prog e.1 vs.toArray w (Ret v w)) : @SOk (E ρ L) Tryz.prog (glob aR aS) e := ⟨h1, h2, vs, v, h3, h4, h⟩
abbrev runE (ρ : Nat → Int) (aR aS : Addr) (L : List CF) (U : List SEntry) (J : List SEntry) : Prop := J.map (fun e => (@call (E ρ L) Tryz.prog (glob aR aS) (tabS U) 300 60 (.fn e.1) e.2.1 []).map fun r => nrm r.1) = J.map fun e => some e.2.2
/-- Two functions, run at the same symbols. -/
theorem pair_of {ρ : Nat → Int} {L : List CF} (hL : ∀ f ∈ L, f.ok ρ) {aR aS : Addr} {U : List SEntry} (hU : ∀ e ∈ U, @SOk (E ρ L) Tryz.prog (glob aR aS) e) {f g : FuncId} {xs : List SVal} {r1 r2 : SVal}
    (h : runE ρ aR aS L U [(f, xs, r1), (g, xs, r2)]) (hx : nfL xs = true) (h1 : nf r1 = true) (h2 : nf r2 = true) {vs : List Value} {v v' : Value} (hv : @denL (E ρ L) (fun _ => none) xs = some vs)
    (d1 : @den (E ρ L) (fun _ => none) r1 = some v) (d2 : @den (E ρ L) (fun _ => none) r2 = some v') (w : World) (hG : (glob aR aS).holds w) : Calls Tryz.prog f vs.toArray w (Ret v w) ∧ Calls Tryz.prog g vs.toArray w (Ret v' w) :=
  ⟨calls_sym hL hU h List.mem_cons_self hx h1 hv d1 hG, calls_sym hL hU h (List.mem_cons_of_mem _ List.mem_cons_self) hx h2 hv d2 hG⟩

abbrev spV (l h : Int) : Value := .agg #[.int .i64 l, .int .i64 h]
/-- Symbols: 0 to 3 the ends of two spans, 4, 5 the whole span of the kind 7, 6 its width, 9, 10 the whole span of the kind 8, 11 to 18 more. -/
def rho (al ah bl bh lo hi wd k rk rl rh : Int) (m : Nat → Int) : Nat → Int := fun i => match i with
  | 0 => al
  | 1 => ah
  | 2 => bl
  | 3 => bh
  | 4 => lo
  | 5 => hi
  | 6 => wd
  | 7 => k
  | 8 => rk
  | 9 => rl
  | 10 => rh
  | n + 11 => m n

/-! ### Small kinds -/
/-- The whole span of a small kind, and its width. -/
def KdV (aR aS : Addr) (k lo hi wd : Int) : Prop := ∀ w, (glob aR aS).holds w → Calls Tryz.prog 48 #[.int .i64 k] w (Ret (spV lo hi) w) ∧ Calls Tryz.prog 34 #[.int .i64 k] w (Ret (spV lo hi) w) ∧
  Calls Tryz.prog 54 #[.int .i64 k] w (Ret (.tuple #[.int .i64 wd, .int .i64 0]) w) ∧ Calls Tryz.prog 33 #[.int .i64 k] w (Ret (.int .i64 wd) w)
def small : List (Int × Int × Int × Int) := [(0, 0, 1, 1), (1, 0, 255, 8), (2, 0, 65535, 16), (3, 0, 4294967295, 32), (5, -128, 127, 8), (6, -32768, 32767, 16), (7, -2147483648, 2147483647, 32)]
def jK (s : Int × Int × Int × Int) : List SEntry := [(48, [.v (.int .i64 s.1)], .v (spV s.2.1 s.2.2.1)), (34, [.v (.int .i64 s.1)], .v (spV s.2.1 s.2.2.1)), (54, [.v (.int .i64 s.1)], .v (.tuple #[.int .i64 s.2.2.2, .int .i64 0])), (33, [.v (.int .i64 s.1)], .v (.int .i64 s.2.2.2))]
theorem run_small (ρ : Nat → Int) (aR aS : Addr) : small.map (fun s => (jK s).map (fun e => (@call (E ρ []) Tryz.prog (glob aR aS) (tabS []) 300 60 (.fn e.1) e.2.1 []).map fun r => nrm r.1)) = small.map fun s => (jK s).map fun e => some e.2.2 := by kernel_rfl
theorem kd_small (aR aS : Addr) {s : Int × Int × Int × Int} (hs : s ∈ small) : KdV aR aS s.1 s.2.1 s.2.2.1 s.2.2.2 := fun w hG => by
  have h := List.map_inj_left.1 (run_small (fun _ => 0) aR aS) s hs
  have hU : ∀ e ∈ ([] : List SEntry), @SOk (E (fun _ => 0) []) Tryz.prog (glob aR aS) e := fun _ h => by cases h
  have hL : ∀ f ∈ ([] : List CF), f.ok (fun _ => 0) := fun _ h => by cases h
  refine ⟨?_, ?_, ?_, ?_⟩
  · exact calls_sym hL hU h List.mem_cons_self rfl rfl (vs := [.int .i64 s.1]) rfl rfl hG
  · exact calls_sym hL hU h (List.mem_cons_of_mem _ List.mem_cons_self) rfl rfl (vs := [.int .i64 s.1]) rfl rfl hG
  · exact calls_sym hL hU h (List.mem_cons_of_mem _ (List.mem_cons_of_mem _ List.mem_cons_self)) rfl rfl (vs := [.int .i64 s.1]) rfl rfl hG
  · exact calls_sym hL hU h (List.mem_cons_of_mem _ (List.mem_cons_of_mem _ (List.mem_cons_of_mem _ List.mem_cons_self))) rfl rfl (vs := [.int .i64 s.1]) rfl rfl hG
end
end Go.Proofs.YtgecchiocfkpkaaGreatDoor

namespace Go.Proofs.YtgecchiocfkpkaaGreatDoor
noncomputable section
open Go Go.RX
open Go.RowKit (Below)
set_option maxRecDepth 1000000
set_option maxHeartbeats 4000000

/-- The whole span of a kind, and its error. -/
def WhV (aR aS : Addr) (k lo hi e : Int) : Prop := ∀ w, (glob aR aS).holds w → Calls Tryz.prog 20 #[.int .i64 k] w (Ret (.tuple #[spV lo hi, .int .i64 e]) w) ∧ Calls Tryz.prog 26 #[.int .i64 k] w (Ret (.int .i64 e) w)
/-- Of all kinds: (the kind, its whole span, the error). -/
def kinds : List (Int × Int × Int × Int) := [(0, 0, 1, 0), (1, 0, 255, 0), (2, 0, 65535, 0), (3, 0, 4294967295, 0), (4, 0, 0, 12), (5, -128, 127, 0), (6, -32768, 32767, 0), (7, -2147483648, 2147483647, 0), (8, 0, 0, 12), (9, 0, 0, 12), (10, 0, 0, 12)]
def jW (s : Int × Int × Int × Int) : List SEntry := [(20, [.v (.int .i64 s.1)], .v (.tuple #[spV s.2.1 s.2.2.1, .int .i64 s.2.2.2])), (26, [.v (.int .i64 s.1)], .v (.int .i64 s.2.2.2))]
theorem run_kinds (ρ : Nat → Int) (aR aS : Addr) : kinds.map (fun s => (jW s).map (fun e => (@call (E ρ []) Tryz.prog (glob aR aS) (tabS []) 300 60 (.fn e.1) e.2.1 []).map fun r => nrm r.1)) = kinds.map fun s => (jW s).map fun e => some e.2.2 := by kernel_rfl
theorem wh_in (aR aS : Addr) {s : Int × Int × Int × Int} (hs : s ∈ kinds) : WhV aR aS s.1 s.2.1 s.2.2.1 s.2.2.2 := fun w hG => by
  have h := List.map_inj_left.1 (run_kinds (fun _ => 0) aR aS) s hs
  have hU : ∀ e ∈ ([] : List SEntry), @SOk (E (fun _ => 0) []) Tryz.prog (glob aR aS) e := fun _ h => by cases h
  have hL : ∀ f ∈ ([] : List CF), f.ok (fun _ => 0) := fun _ h => by cases h
  exact ⟨calls_sym hL hU h List.mem_cons_self rfl rfl (vs := [.int .i64 s.1]) rfl rfl hG, calls_sym hL hU h (List.mem_cons_of_mem _ List.mem_cons_self) rfl rfl (vs := [.int .i64 s.1]) rfl rfl hG⟩
def rK (k : Int) : Nat → Int := rho 0 0 0 0 0 0 0 k 0 0 0 fun _ => 0
def L_low : List CF := [⟨.lss, .var 7, .lit 0, true⟩, ⟨.eql, .var 7, .lit 0, false⟩, ⟨.geq, .var 7, .lit 0, false⟩, ⟨.geq, .var 7, .lit 5, false⟩]
def L_high : List CF := [⟨.lss, .var 7, .lit 0, false⟩, ⟨.geq, .var 7, .lit 11, true⟩, ⟨.eql, .var 7, .lit 0, false⟩, ⟨.geq, .var 7, .lit 0, true⟩, ⟨.leq, .var 7, .lit 3, false⟩, ⟨.geq, .var 7, .lit 5, true⟩, ⟨.leq, .var 7, .lit 7, false⟩]
def xK : List SVal := [.sym (.int .i64 (.var 7))]
def jO : List SEntry := [(20, xK, .v (.tuple #[spV 0 0, .int .i64 11])), (26, xK, .v (.int .i64 11))]
theorem run_low (ρ : Nat → Int) (aR aS : Addr) : runE ρ aR aS L_low [] jO := by
  unfold runE
  kernel_rfl
theorem run_high (ρ : Nat → Int) (aR aS : Addr) : runE ρ aR aS L_high [] jO := by
  unfold runE
  kernel_rfl
theorem wh_of {aR aS : Addr} {k : Int} {L : List CF} (hL : ∀ f ∈ L, f.ok (rK k)) (h : runE (rK k) aR aS L [] jO) : WhV aR aS k 0 0 11 := fun w hG =>
  pair_of hL (fun _ h => by cases h) h rfl rfl rfl (vs := [.int .i64 k]) (v := .tuple #[spV 0 0, .int .i64 11]) (v' := .int .i64 11) rfl rfl rfl w hG
/-- Whole. -/
theorem wh_all (aR aS : Addr) (k : Int) : (∃ s ∈ small, s.1 = k ∧ WhV aR aS k s.2.1 s.2.2.1 0) ∨ ∃ e, e ≠ 0 ∧ WhV aR aS k 0 0 e := by
  rcases Int.lt_or_le k 0 with h0 | h0
  · refine .inr ⟨11, by decide, wh_of (fun f hf => ?_) (run_low _ aR aS)⟩
    simp only [L_low, List.mem_cons, List.not_mem_nil, or_false] at hf
    rcases hf with rfl | rfl | rfl | rfl
    · exact ⟨rfl, decide_eq_true h0⟩
    · exact ⟨rfl, decide_eq_false (show ¬ k = 0 by omega)⟩
    · exact ⟨rfl, decide_eq_false (show ¬ k ≥ 0 by omega)⟩
    · exact ⟨rfl, decide_eq_false (show ¬ k ≥ 5 by omega)⟩
  rcases Int.lt_or_le k 11 with h1 | h1
  · have hk : k = 0 ∨ k = 1 ∨ k = 2 ∨ k = 3 ∨ k = 4 ∨ k = 5 ∨ k = 6 ∨ k = 7 ∨ k = 8 ∨ k = 9 ∨ k = 10 := by omega
    rcases hk with rfl | rfl | rfl | rfl | rfl | rfl | rfl | rfl | rfl | rfl | rfl
    · exact .inl ⟨(0, 0, 1, 1), by decide, rfl, wh_in aR aS (s := (0, 0, 1, 0)) (by decide)⟩
    · exact .inl ⟨(1, 0, 255, 8), by decide, rfl, wh_in aR aS (s := (1, 0, 255, 0)) (by decide)⟩
    · exact .inl ⟨(2, 0, 65535, 16), by decide, rfl, wh_in aR aS (s := (2, 0, 65535, 0)) (by decide)⟩
    · exact .inl ⟨(3, 0, 4294967295, 32), by decide, rfl, wh_in aR aS (s := (3, 0, 4294967295, 0)) (by decide)⟩
    · exact .inr ⟨12, by decide, wh_in aR aS (s := (4, 0, 0, 12)) (by decide)⟩
    · exact .inl ⟨(5, -128, 127, 8), by decide, rfl, wh_in aR aS (s := (5, -128, 127, 0)) (by decide)⟩
    · exact .inl ⟨(6, -32768, 32767, 16), by decide, rfl, wh_in aR aS (s := (6, -32768, 32767, 0)) (by decide)⟩
    · exact .inl ⟨(7, -2147483648, 2147483647, 32), by decide, rfl, wh_in aR aS (s := (7, -2147483648, 2147483647, 0)) (by decide)⟩
    · exact .inr ⟨12, by decide, wh_in aR aS (s := (8, 0, 0, 12)) (by decide)⟩
    · exact .inr ⟨12, by decide, wh_in aR aS (s := (9, 0, 0, 12)) (by decide)⟩
    · exact .inr ⟨12, by decide, wh_in aR aS (s := (10, 0, 0, 12)) (by decide)⟩
  · refine .inr ⟨11, by decide, wh_of (fun f hf => ?_) (run_high _ aR aS)⟩
    simp only [L_high, List.mem_cons, List.not_mem_nil, or_false] at hf
    rcases hf with rfl | rfl | rfl | rfl | rfl | rfl | rfl
    · exact ⟨rfl, decide_eq_false (show ¬ k < 0 by omega)⟩
    · exact ⟨rfl, decide_eq_true h1⟩
    · exact ⟨rfl, decide_eq_false (show ¬ k = 0 by omega)⟩
    · exact ⟨rfl, decide_eq_true h0⟩
    · exact ⟨rfl, decide_eq_false (show ¬ k ≤ 3 by omega)⟩
    · exact ⟨rfl, decide_eq_true (show k ≥ 5 by omega)⟩
    · exact ⟨rfl, decide_eq_false (show ¬ k ≤ 7 by omega)⟩

/-! ### Check -/
/-- The error of a span of a kind. -/
def ChkV (aR aS : Addr) (k l h e : Int) : Prop := ∀ w, (glob aR aS).holds w → Calls Tryz.prog 23 #[.int .i64 k, spV l h] w (Ret (.int .i64 e) w) ∧ Calls Tryz.prog 10 #[.int .i64 k, spV l h] w (Ret (.int .i64 e) w)
/-- 0, 1 the span, 4, 5 the whole one, 7 the kind, 11 an error. -/
def rC (l h lo hi k e : Int) : Nat → Int := rho l h 0 0 lo hi 0 k 0 0 0 fun _ => e
def xC : List SVal := [.sym (.int .i64 (.var 7)), .agg [.sym (.int .i64 (.var 0)), .sym (.int .i64 (.var 1))]]
abbrev s45 : SVal := .agg [.sym (.int .i64 (.var 4)), .sym (.int .i64 (.var 5))]
def U_sm : List SEntry := [(20, xK, .tuple [s45, .v (.int .i64 0)]), (26, xK, .v (.int .i64 0)), (34, xK, s45)]
def U_no : List SEntry := [(20, xK, .tuple [.v (spV 0 0), .sym (.int .i64 (.var 11))]), (26, xK, .sym (.int .i64 (.var 11)))]
def L_sm (p q r : Bool) : List CF := [⟨.gtr, .var 0, .var 1, p⟩, ⟨.leq, .var 4, .var 0, q⟩, ⟨.leq, .var 1, .var 5, r⟩, ⟨.geq, .var 0, .var 4, q⟩]
def L_no (p q r : Bool) : List CF := [⟨.gtr, .var 0, .var 1, p⟩, ⟨.leq, .lit 0, .var 0, q⟩, ⟨.leq, .var 1, .lit 0, r⟩, ⟨.neq, .var 11, .lit 0, true⟩]
def eC (p q r : Bool) : Int := if p then 9 else if q && r then 0 else 3
theorem run_sm (ρ : Nat → Int) (aR aS : Addr) (p q r : Bool) : runE ρ aR aS (L_sm p q r) U_sm [(23, xC, .v (.int .i64 (eC p q r))), (10, xC, .v (.int .i64 (eC p q r)))] := by
  unfold runE
  cases p <;> cases q <;> cases r <;> kernel_rfl
theorem run_no (ρ : Nat → Int) (aR aS : Addr) (p q r : Bool) : runE ρ aR aS (L_no p q r) U_no [(23, xC, .sym (.int .i64 (.var 11))), (10, xC, .sym (.int .i64 (.var 11)))] := by
  unfold runE
  cases p <;> cases q <;> cases r <;> kernel_rfl
theorem chk_small (aR aS : Addr) {s : Int × Int × Int × Int} (hs : s ∈ small) (hw : WhV aR aS s.1 s.2.1 s.2.2.1 0) (l h : Int) : ChkV aR aS s.1 l h (eC (decide (l > h)) (decide (s.2.1 ≤ l)) (decide (h ≤ s.2.2.1))) := fun w hG => by
  obtain ⟨k, lo, hi, wd⟩ := s
  have hL : ∀ f ∈ L_sm (decide (l > h)) (decide (lo ≤ l)) (decide (h ≤ hi)), f.ok (rC l h lo hi k 0) := fun f hf => by
    simp only [L_sm, List.mem_cons, List.not_mem_nil, or_false] at hf
    rcases hf with rfl | rfl | rfl | rfl <;> exact ⟨rfl, rfl⟩
  refine pair_of hL (fun e he => ?_) (run_sm _ aR aS _ _ _) rfl rfl rfl (vs := [.int .i64 k, spV l h]) rfl rfl rfl w hG
  simp only [U_sm, List.mem_cons, List.not_mem_nil, or_false] at he
  rcases he with rfl | rfl | rfl
  · exact sokE rfl rfl (vs := [.int .i64 k]) (v := .tuple #[spV lo hi, .int .i64 0]) rfl rfl fun w hG => (hw w hG).1
  · exact sokE rfl rfl (vs := [.int .i64 k]) (v := .int .i64 0) rfl rfl fun w hG => (hw w hG).2
  · exact sokE rfl rfl (vs := [.int .i64 k]) (v := spV lo hi) rfl rfl fun w hG => (kd_small aR aS hs w hG).2.1
theorem chk_no (aR aS : Addr) {k e : Int} (he : e ≠ 0) (hw : WhV aR aS k 0 0 e) (l h : Int) : ChkV aR aS k l h e := fun w hG => by
  have hL : ∀ f ∈ L_no (decide (l > h)) (decide (0 ≤ l)) (decide (h ≤ 0)), f.ok (rC l h 0 0 k e) := fun f hf => by
    simp only [L_no, List.mem_cons, List.not_mem_nil, or_false] at hf
    rcases hf with rfl | rfl | rfl | rfl
    · exact ⟨rfl, rfl⟩
    · exact ⟨rfl, rfl⟩
    · exact ⟨rfl, rfl⟩
    · exact ⟨rfl, show (e != 0) = true by simpa using he⟩
  refine pair_of hL (fun u hu => ?_) (run_no _ aR aS _ _ _) rfl rfl rfl (vs := [.int .i64 k, spV l h]) rfl rfl rfl w hG
  simp only [U_no, List.mem_cons, List.not_mem_nil, or_false] at hu
  rcases hu with rfl | rfl
  · exact sokE rfl rfl (vs := [.int .i64 k]) (v := .tuple #[spV 0 0, .int .i64 e]) rfl rfl fun w hG => (hw w hG).1
  · exact sokE rfl rfl (vs := [.int .i64 k]) (v := .int .i64 e) rfl rfl fun w hG => (hw w hG).2
/-- Check: right, of a small kind, within the whole span; or an error. -/
theorem chk_all (aR aS : Addr) (k l h : Int) : (∃ s ∈ small, s.1 = k ∧ s.2.1 ≤ l ∧ l ≤ h ∧ h ≤ s.2.2.1 ∧ ChkV aR aS k l h 0) ∨ ∃ e, e ≠ 0 ∧ ChkV aR aS k l h e := by
  rcases wh_all aR aS k with ⟨s, hs, rfl, hw⟩ | ⟨e, he, hw⟩
  · have hc := chk_small aR aS hs hw l h
    by_cases hp : l > h
    · exact .inr ⟨9, by decide, by rw [decide_eq_true hp] at hc; exact hc⟩
    rw [decide_eq_false hp] at hc
    by_cases hq : s.2.1 ≤ l
    · by_cases hr : h ≤ s.2.2.1
      · exact .inl ⟨s, hs, rfl, hq, by omega, hr, by rw [decide_eq_true hq, decide_eq_true hr] at hc; exact hc⟩
      · exact .inr ⟨3, by decide, by rw [decide_eq_true hq, decide_eq_false hr] at hc; exact hc⟩
    · exact .inr ⟨3, by decide, by rw [decide_eq_false hq] at hc; exact hc⟩
  · exact .inr ⟨e, he, chk_no aR aS he hw l h⟩
end
end Go.Proofs.YtgecchiocfkpkaaGreatDoor
