import Derived.Test.YtonkcpmefnddaaaGreatDoorJB
import Derived.Test.YtonkcpmefnddaaaGreatDoorRXM
namespace Go.Proofs.YtonkcpmefnddaaaGreatDoor
noncomputable section
open Go Go.RX
open Go.RowKit (Below)
set_option maxRecDepth 1000000
set_option maxHeartbeats 4000000

/-! ### Integers of 128 bits, told: what the program's functions say of the numbers n and m -/
def hiW (n : Int) : Int := n / 18446744073709551616 % 18446744073709551616
abbrev Wd (n : Int) : Value := .agg #[.int .u64 (hiW n), .int .u64 (loI n)]
theorem hiI_hiW {n : Int} (h0 : -18446744073709551616 ≤ n) (h1 : n < 18446744073709551616) : hiI n = hiW n := by
  unfold hiI hiW
  split <;> omega
theorem bndW (n : Int) : 0 ≤ hiW n ∧ hiW n < 18446744073709551616 ∧ 0 ≤ loI n ∧ loI n < 18446744073709551616 := by
  unfold hiW loI
  omega
def rw2 (n m : Int) : Nat → Int := fun i => match i with
  | 0 => hiW n
  | 1 => loI n
  | 2 => hiW m
  | 3 => loI m
  | _ => 0
def w01 : SVal := .agg [.sym (.int .u64 (.var 0)), .sym (.int .u64 (.var 1))]
def w23 : SVal := .agg [.sym (.int .u64 (.var 2)), .sym (.int .u64 (.var 3))]
/-- A function of two. -/
def WFun (aR aS : Addr) (f : FuncId) (n m : Int) (v : Value) : Prop := ∀ w, (glob aR aS).holds w → Calls Tryz.prog f #[Wd n, Wd m] w (Ret v w)
theorem wfun_of {aR aS : Addr} {n m : Int} {f : FuncId} {L : List CF} {U : List SEntry} {r : SVal} {v : Value} (hL : ∀ c ∈ L, c.ok (rw2 n m)) (hU : ∀ e ∈ U, @SOk (E (wF 0) (cF 0) (rw2 n m) L []) Tryz.prog (glob aR aS) e)
    (h : runE (wF 0) (cF 0) (rw2 n m) aR aS L [] U [(f, [w01, w23], r)]) (hn : nf r = true) (hd : @den (E (wF 0) (cF 0) (rw2 n m) L []) (fun _ => none) r = some v) : WFun aR aS f n m v := fun w hG =>
  calls_symF (W := wF 0) (C := cF 0) (ρ := rw2 n m) (T := []) hL (fun _ h => by cases h) hU h List.mem_cons_self rfl hn (vs := [Wd n, Wd m]) rfl hd hG
theorem noW_ok {aR aS : Addr} {ρ : Nat → Int} {L : List CF} : ∀ e ∈ ([] : List SEntry), @SOk (E (wF 0) (cF 0) ρ L []) Tryz.prog (glob aR aS) e := fun _ h => by cases h

def triE (t : Nat) : IE := .tri t (.var 1) (.var 3) (.lit 0)
def L_pm (t : Nat) : List CF := [⟨.geq, .var 0, .lit 0, true⟩, ⟨.lss, .var 0, .lit 18446744073709551616, true⟩, ⟨.geq, .var 1, .lit 0, true⟩, ⟨.lss, .var 1, .lit 18446744073709551616, true⟩, ⟨.geq, .var 2, .lit 0, true⟩, ⟨.lss, .var 2, .lit 18446744073709551616, true⟩,
  ⟨.geq, .var 3, .lit 0, true⟩, ⟨.lss, .var 3, .lit 18446744073709551616, true⟩, ⟨.geq, triE t, .lit 0, true⟩, ⟨.leq, triE t, .lit 1, true⟩]
theorem ok_pm {n m : Int} {t : Nat} (ht : 0 ≤ (triE t).ev (rw2 n m) ∧ (triE t).ev (rw2 n m) ≤ 1) : ∀ c ∈ L_pm t, c.ok (rw2 n m) := fun c hc => by
  obtain ⟨a, b, c', d⟩ := bndW n
  obtain ⟨a2, b2, c2, d2⟩ := bndW m
  simp only [L_pm, List.mem_cons, List.not_mem_nil, or_false] at hc
  rcases hc with rfl | rfl | rfl | rfl | rfl | rfl | rfl | rfl | rfl | rfl
  · exact ⟨rfl, decide_eq_true a⟩
  · exact ⟨rfl, decide_eq_true b⟩
  · exact ⟨rfl, decide_eq_true c'⟩
  · exact ⟨rfl, decide_eq_true d⟩
  · exact ⟨rfl, decide_eq_true a2⟩
  · exact ⟨rfl, decide_eq_true b2⟩
  · exact ⟨rfl, decide_eq_true c2⟩
  · exact ⟨rfl, decide_eq_true d2⟩
  · exact ⟨rfl, decide_eq_true ht.1⟩
  · exact ⟨rfl, decide_eq_true ht.2⟩
theorem tri0_ev (n m : Int) : (triE 0).ev (rw2 n m) = (loI n + loI m + 0) / 18446744073709551616 := rfl
theorem tri1_ev (n m : Int) : (triE 1).ev (rw2 n m) = if loI n < loI m + 0 then 1 else 0 := rfl
def r_plus : SVal := .agg [.sym (.int .u64 (.bin .add .u64 (.bin .add .u64 (.var 0) (.var 2)) (triE 0))), .sym (.int .u64 (.bin .add .u64 (.bin .add .u64 (.var 1) (.var 3)) (.lit 0)))]
def r_minus : SVal := .agg [.sym (.int .u64 (.bin .sub .u64 (.bin .sub .u64 (.var 0) (.var 2)) (triE 1))), .sym (.int .u64 (.bin .sub .u64 (.bin .sub .u64 (.var 1) (.var 3)) (.lit 0)))]
theorem run_plus (W : Nat → Nat) (C : Nat → Nat × Nat) (ρ : Nat → Int) (aR aS : Addr) : runE W C ρ aR aS (L_pm 0) [] [] [(56, [w01, w23], r_plus)] := by unfold runE; kernel_rfl
theorem run_minus (W : Nat → Nat) (C : Nat → Nat × Nat) (ρ : Nat → Int) (aR aS : Addr) : runE W C ρ aR aS (L_pm 1) [] [] [(59, [w01, w23], r_minus)] := by unfold runE; kernel_rfl
theorem pairW {x y n : Int} (h1 : x = hiW n) (h2 : y = loI n) : some (Value.agg #[.int .u64 x, .int .u64 y]) = some (Wd n) := by rw [h1, h2]
theorem plus_ok (aR aS : Addr) (n m : Int) : WFun aR aS 56 n m (Wd (n + m)) := by
  have ht : 0 ≤ (triE 0).ev (rw2 n m) ∧ (triE 0).ev (rw2 n m) ≤ 1 := by
    rw [tri0_ev]
    have := bndW n
    have := bndW m
    omega
  refine wfun_of (ok_pm ht) noW_ok (run_plus _ _ _ aR aS) rfl (pairW ?_ ?_)
  · show IntKind.wrap .u64 (IntKind.wrap .u64 (hiW n + hiW m) + (triE 0).ev (rw2 n m)) = _
    rw [tri0_ev, wrap_u64, wrap_u64]
    unfold hiW loI
    omega
  · show IntKind.wrap .u64 (IntKind.wrap .u64 (loI n + loI m) + 0) = _
    rw [wrap_u64, wrap_u64]
    unfold loI
    omega
theorem minus_ok (aR aS : Addr) (n m : Int) : WFun aR aS 59 n m (Wd (n - m)) := by
  have ht : 0 ≤ (triE 1).ev (rw2 n m) ∧ (triE 1).ev (rw2 n m) ≤ 1 := by
    rw [tri1_ev]
    split <;> omega
  refine wfun_of (ok_pm ht) noW_ok (run_minus _ _ _ aR aS) rfl (pairW ?_ ?_)
  · show IntKind.wrap .u64 (IntKind.wrap .u64 (hiW n - hiW m) - (triE 1).ev (rw2 n m)) = _
    rw [tri1_ev, wrap_u64, wrap_u64]
    unfold hiW loI
    split <;> omega
  · show IntKind.wrap .u64 (IntKind.wrap .u64 (loI n - loI m) - 0) = _
    rw [wrap_u64, wrap_u64]
    unfold loI
    omega

/-- Numbers that 128 bits hold with room. -/
def Sm (n : Int) : Prop := -1361129467683753853853498429727072845824 ≤ n * 2 ∧ n < 85070591730234615865843651857942052864 ∧ -85070591730234615865843651857942052864 ≤ n
def L_less (d r : Bool) : List CF := ⟨.neq, .var 0, .var 2, d⟩ :: if d then [⟨.lss, .cv .i64 (.var 0), .cv .i64 (.var 2), r⟩] else [⟨.lss, .var 1, .var 3, r⟩]
theorem run_less (W : Nat → Nat) (C : Nat → Nat × Nat) (ρ : Nat → Int) (aR aS : Addr) (d r : Bool) : runE W C ρ aR aS (L_less d r) [] [] [(120, [w01, w23], .v (.bool r))] := by
  unfold runE
  cases d <;> cases r
  · kernel_rfl
  · kernel_rfl
  · kernel_rfl
  · kernel_rfl
theorem less_ok (aR aS : Addr) {n m : Int} (hn : Sm n) (hm : Sm m) : WFun aR aS 120 n m (.bool (decide (n < m))) := by
  obtain ⟨_, n1, n2⟩ := hn
  obtain ⟨_, m1, m2⟩ := hm
  have hL : ∀ c ∈ L_less (hiW n != hiW m) (decide (n < m)), c.ok (rw2 n m) := fun c hc => by
    unfold L_less at hc
    rcases List.mem_cons.1 hc with rfl | hc
    · exact ⟨rfl, rfl⟩
    · split at hc
      · rename_i hd
        obtain rfl := List.mem_singleton.1 hc
        refine ⟨rfl, ?_⟩
        have hne : hiW n ≠ hiW m := bne_iff_ne.1 hd
        show decide (IntKind.wrap .i64 (hiW n) < IntKind.wrap .i64 (hiW m)) = decide (n < m)
        rw [wrap_i64, wrap_i64]
        unfold hiW at *
        exact decide_eq_decide.2 (by omega)
      · rename_i hd
        obtain rfl := List.mem_singleton.1 hc
        refine ⟨rfl, ?_⟩
        have he : hiW n = hiW m := by simpa using hd
        show decide (loI n < loI m) = decide (n < m)
        unfold hiW loI at *
        exact decide_eq_decide.2 (by omega)
  exact wfun_of hL noW_ok (run_less _ _ _ aR aS _ _) rfl rfl
end
end Go.Proofs.YtonkcpmefnddaaaGreatDoor

namespace Go.Proofs.YtonkcpmefnddaaaGreatDoor
noncomputable section
open Go Go.RX
open Go.RowKit (Below)
set_option maxRecDepth 1000000
set_option maxHeartbeats 4000000
/-- A function of a kind and a wide integer. -/
def KFun (aR aS : Addr) (f : FuncId) (k n B : Int) : Prop := ∀ w, (glob aR aS).holds w → Calls Tryz.prog f #[.int .i64 k, Wd n] w (Ret (agV k B) w)
theorem kfun_of {aR aS : Addr} {n k B : Int} {f : FuncId} {U : List SEntry} {r : SVal} (hU : ∀ e ∈ U, @SOk (E (wF 0) (cF 0) (rw2 n 0) [] []) Tryz.prog (glob aR aS) e)
    (h : runE (wF 0) (cF 0) (rw2 n 0) aR aS [] [] U [(f, [.v (.int .i64 k), w01], r)]) (hn : nf r = true) (hd : @den (E (wF 0) (cF 0) (rw2 n 0) [] []) (fun _ => none) r = some (agV k B)) : KFun aR aS f k n B := fun w hG =>
  calls_symF (W := wF 0) (C := cF 0) (ρ := rw2 n 0) (L := []) (T := []) (fun _ h => by cases h) (fun _ h => by cases h) hU h List.mem_cons_self rfl hn (vs := [.int .i64 k, Wd n]) rfl hd hG
theorem agEq {k x y : Int} (h : x = y) : some (agV k x) = some (agV k y) := by rw [h]
def wrE (a : Int) : IE := .sh .shr .u64 (.sh .shl .u64 (.var 1) (.lit a)) (.lit a)
def ULess (lo hi : SVal) (p : Bool × Bool) : List SEntry := [(120, [w01, lo], .v (.bool p.1)), (120, [hi, w01], .v (.bool p.2))]
theorem run_wr0 (W : Nat → Nat) (C : Nat → Nat × Nat) (ρ : Nat → Int) (aR aS : Addr) : runE W C ρ aR aS [] [] [] [(37, [.v (.int .i64 0), w01], .agg [.v (.int .i64 0), .sym (.int .u64 (wrE 63))])] := by unfold runE; kernel_rfl
theorem wre_0 (n : Int) : (wrE 63).ev (rw2 n 0) = n % 2 := by
    simp (disch := omega) only [wrE, IE.ev, show rw2 n 0 1 = loI n from rfl, loI, shl_u64_63, shr_u64_63, wrap_u64]
    omega
theorem wrap_0 (aR aS : Addr) (n : Int) : KFun aR aS 37 0 n (n % 2) := kfun_of noW_ok (run_wr0 _ _ _ aR aS) rfl (agEq (wre_0 n))
theorem run_wr1 (W : Nat → Nat) (C : Nat → Nat × Nat) (ρ : Nat → Int) (aR aS : Addr) : runE W C ρ aR aS [] [] [] [(37, [.v (.int .i64 1), w01], .agg [.v (.int .i64 1), .sym (.int .u64 (wrE 56))])] := by unfold runE; kernel_rfl
theorem wre_1 (n : Int) : (wrE 56).ev (rw2 n 0) = n % 256 := by
    simp (disch := omega) only [wrE, IE.ev, show rw2 n 0 1 = loI n from rfl, loI, shl_u64_56, shr_u64_56, wrap_u64]
    omega
theorem wrap_1 (aR aS : Addr) (n : Int) : KFun aR aS 37 1 n (n % 256) := kfun_of noW_ok (run_wr1 _ _ _ aR aS) rfl (agEq (wre_1 n))
def clR_1 (p : Bool × Bool) : SVal := if p.1 then .v (agV 1 0) else if p.2 then .v (agV 1 255) else .agg [.v (.int .i64 1), .sym (.int .u64 (wrE 56))]
theorem run_cl1 (W : Nat → Nat) (C : Nat → Nat × Nat) (ρ : Nat → Int) (aR aS : Addr) (p : Bool × Bool) : runE W C ρ aR aS [] [] (ULess (.v (.agg #[.int .u64 0, .int .u64 0])) (.v (.agg #[.int .u64 0, .int .u64 255])) p) [(54, [.v (.int .i64 1), w01], clR_1 p)] := by
  unfold runE
  obtain ⟨a, b⟩ := p
  cases a <;> cases b
  · kernel_rfl
  · kernel_rfl
  · kernel_rfl
  · kernel_rfl
theorem clamp_1 (aR aS : Addr) {n : Int} (hn : Sm n) : KFun aR aS 54 1 n ((if n < 0 then 0 else if 255 < n then 255 else n) % 256) := by
  have hU : ∀ e ∈ ULess (.v (.agg #[.int .u64 0, .int .u64 0])) (.v (.agg #[.int .u64 0, .int .u64 255])) (decide (n < 0), decide (255 < n)), @SOk (E (wF 0) (cF 0) (rw2 n 0) [] []) Tryz.prog (glob aR aS) e := fun e he => by
    simp only [ULess, List.mem_cons, List.not_mem_nil, or_false] at he
    rcases he with rfl | rfl
    · exact sokE (vs := [Wd n, Wd 0]) (v := .bool (decide (n < 0))) rfl rfl rfl rfl fun w hG => less_ok aR aS hn (by unfold Sm; omega) w hG
    · exact sokE (vs := [Wd 255, Wd n]) (v := .bool (decide (255 < n))) rfl rfl rfl rfl fun w hG => less_ok aR aS (by unfold Sm; omega) hn w hG
  refine kfun_of hU (run_cl1 _ _ _ aR aS _) (by unfold clR_1; (repeat' split) <;> rfl) ?_
  unfold clR_1
  by_cases h1 : n < 0
  · simp only [h1, decide_true, if_true]
    rfl
  · by_cases h2 : 255 < n
    · simp only [h1, h2, decide_true, decide_false, Bool.false_eq_true, if_false, if_true]
      rfl
    · simp only [h1, h2, decide_false, Bool.false_eq_true, if_false]
      exact agEq (wre_1 n)
theorem run_wr2 (W : Nat → Nat) (C : Nat → Nat × Nat) (ρ : Nat → Int) (aR aS : Addr) : runE W C ρ aR aS [] [] [] [(37, [.v (.int .i64 2), w01], .agg [.v (.int .i64 2), .sym (.int .u64 (wrE 48))])] := by unfold runE; kernel_rfl
theorem wre_2 (n : Int) : (wrE 48).ev (rw2 n 0) = n % 65536 := by
    simp (disch := omega) only [wrE, IE.ev, show rw2 n 0 1 = loI n from rfl, loI, shl_u64_48, shr_u64_48, wrap_u64]
    omega
theorem wrap_2 (aR aS : Addr) (n : Int) : KFun aR aS 37 2 n (n % 65536) := kfun_of noW_ok (run_wr2 _ _ _ aR aS) rfl (agEq (wre_2 n))
def clR_2 (p : Bool × Bool) : SVal := if p.1 then .v (agV 2 0) else if p.2 then .v (agV 2 65535) else .agg [.v (.int .i64 2), .sym (.int .u64 (wrE 48))]
theorem run_cl2 (W : Nat → Nat) (C : Nat → Nat × Nat) (ρ : Nat → Int) (aR aS : Addr) (p : Bool × Bool) : runE W C ρ aR aS [] [] (ULess (.v (.agg #[.int .u64 0, .int .u64 0])) (.v (.agg #[.int .u64 0, .int .u64 65535])) p) [(54, [.v (.int .i64 2), w01], clR_2 p)] := by
  unfold runE
  obtain ⟨a, b⟩ := p
  cases a <;> cases b
  · kernel_rfl
  · kernel_rfl
  · kernel_rfl
  · kernel_rfl
theorem clamp_2 (aR aS : Addr) {n : Int} (hn : Sm n) : KFun aR aS 54 2 n ((if n < 0 then 0 else if 65535 < n then 65535 else n) % 65536) := by
  have hU : ∀ e ∈ ULess (.v (.agg #[.int .u64 0, .int .u64 0])) (.v (.agg #[.int .u64 0, .int .u64 65535])) (decide (n < 0), decide (65535 < n)), @SOk (E (wF 0) (cF 0) (rw2 n 0) [] []) Tryz.prog (glob aR aS) e := fun e he => by
    simp only [ULess, List.mem_cons, List.not_mem_nil, or_false] at he
    rcases he with rfl | rfl
    · exact sokE (vs := [Wd n, Wd 0]) (v := .bool (decide (n < 0))) rfl rfl rfl rfl fun w hG => less_ok aR aS hn (by unfold Sm; omega) w hG
    · exact sokE (vs := [Wd 65535, Wd n]) (v := .bool (decide (65535 < n))) rfl rfl rfl rfl fun w hG => less_ok aR aS (by unfold Sm; omega) hn w hG
  refine kfun_of hU (run_cl2 _ _ _ aR aS _) (by unfold clR_2; (repeat' split) <;> rfl) ?_
  unfold clR_2
  by_cases h1 : n < 0
  · simp only [h1, decide_true, if_true]
    rfl
  · by_cases h2 : 65535 < n
    · simp only [h1, h2, decide_true, decide_false, Bool.false_eq_true, if_false, if_true]
      rfl
    · simp only [h1, h2, decide_false, Bool.false_eq_true, if_false]
      exact agEq (wre_2 n)
theorem run_wr3 (W : Nat → Nat) (C : Nat → Nat × Nat) (ρ : Nat → Int) (aR aS : Addr) : runE W C ρ aR aS [] [] [] [(37, [.v (.int .i64 3), w01], .agg [.v (.int .i64 3), .sym (.int .u64 (wrE 32))])] := by unfold runE; kernel_rfl
theorem wre_3 (n : Int) : (wrE 32).ev (rw2 n 0) = n % 4294967296 := by
    simp (disch := omega) only [wrE, IE.ev, show rw2 n 0 1 = loI n from rfl, loI, shl_u64_32, shr_u64_32, wrap_u64]
    omega
theorem wrap_3 (aR aS : Addr) (n : Int) : KFun aR aS 37 3 n (n % 4294967296) := kfun_of noW_ok (run_wr3 _ _ _ aR aS) rfl (agEq (wre_3 n))
def clR_3 (p : Bool × Bool) : SVal := if p.1 then .v (agV 3 0) else if p.2 then .v (agV 3 4294967295) else .agg [.v (.int .i64 3), .sym (.int .u64 (wrE 32))]
theorem run_cl3 (W : Nat → Nat) (C : Nat → Nat × Nat) (ρ : Nat → Int) (aR aS : Addr) (p : Bool × Bool) : runE W C ρ aR aS [] [] (ULess (.v (.agg #[.int .u64 0, .int .u64 0])) (.v (.agg #[.int .u64 0, .int .u64 4294967295])) p) [(54, [.v (.int .i64 3), w01], clR_3 p)] := by
  unfold runE
  obtain ⟨a, b⟩ := p
  cases a <;> cases b
  · kernel_rfl
  · kernel_rfl
  · kernel_rfl
  · kernel_rfl
theorem clamp_3 (aR aS : Addr) {n : Int} (hn : Sm n) : KFun aR aS 54 3 n ((if n < 0 then 0 else if 4294967295 < n then 4294967295 else n) % 4294967296) := by
  have hU : ∀ e ∈ ULess (.v (.agg #[.int .u64 0, .int .u64 0])) (.v (.agg #[.int .u64 0, .int .u64 4294967295])) (decide (n < 0), decide (4294967295 < n)), @SOk (E (wF 0) (cF 0) (rw2 n 0) [] []) Tryz.prog (glob aR aS) e := fun e he => by
    simp only [ULess, List.mem_cons, List.not_mem_nil, or_false] at he
    rcases he with rfl | rfl
    · exact sokE (vs := [Wd n, Wd 0]) (v := .bool (decide (n < 0))) rfl rfl rfl rfl fun w hG => less_ok aR aS hn (by unfold Sm; omega) w hG
    · exact sokE (vs := [Wd 4294967295, Wd n]) (v := .bool (decide (4294967295 < n))) rfl rfl rfl rfl fun w hG => less_ok aR aS (by unfold Sm; omega) hn w hG
  refine kfun_of hU (run_cl3 _ _ _ aR aS _) (by unfold clR_3; (repeat' split) <;> rfl) ?_
  unfold clR_3
  by_cases h1 : n < 0
  · simp only [h1, decide_true, if_true]
    rfl
  · by_cases h2 : 4294967295 < n
    · simp only [h1, h2, decide_true, decide_false, Bool.false_eq_true, if_false, if_true]
      rfl
    · simp only [h1, h2, decide_false, Bool.false_eq_true, if_false]
      exact agEq (wre_3 n)
theorem run_wr4 (W : Nat → Nat) (C : Nat → Nat × Nat) (ρ : Nat → Int) (aR aS : Addr) : runE W C ρ aR aS [] [] [] [(37, [.v (.int .i64 4), w01], .agg [.v (.int .i64 4), .sym (.int .u64 (wrE 0))])] := by unfold runE; kernel_rfl
theorem wre_4 (n : Int) : (wrE 0).ev (rw2 n 0) = n % 18446744073709551616 := by
    simp (disch := omega) only [wrE, IE.ev, show rw2 n 0 1 = loI n from rfl, loI, shl_u64_0, shr_u64_0, wrap_u64]
    omega
theorem wrap_4 (aR aS : Addr) (n : Int) : KFun aR aS 37 4 n (n % 18446744073709551616) := kfun_of noW_ok (run_wr4 _ _ _ aR aS) rfl (agEq (wre_4 n))
def clR_4 (p : Bool × Bool) : SVal := if p.1 then .v (agV 4 0) else if p.2 then .v (agV 4 18446744073709551615) else .agg [.v (.int .i64 4), .sym (.int .u64 (wrE 0))]
theorem run_cl4 (W : Nat → Nat) (C : Nat → Nat × Nat) (ρ : Nat → Int) (aR aS : Addr) (p : Bool × Bool) : runE W C ρ aR aS [] [] (ULess (.v (.agg #[.int .u64 0, .int .u64 0])) (.v (.agg #[.int .u64 0, .int .u64 18446744073709551615])) p) [(54, [.v (.int .i64 4), w01], clR_4 p)] := by
  unfold runE
  obtain ⟨a, b⟩ := p
  cases a <;> cases b
  · kernel_rfl
  · kernel_rfl
  · kernel_rfl
  · kernel_rfl
theorem clamp_4 (aR aS : Addr) {n : Int} (hn : Sm n) : KFun aR aS 54 4 n ((if n < 0 then 0 else if 18446744073709551615 < n then 18446744073709551615 else n) % 18446744073709551616) := by
  have hU : ∀ e ∈ ULess (.v (.agg #[.int .u64 0, .int .u64 0])) (.v (.agg #[.int .u64 0, .int .u64 18446744073709551615])) (decide (n < 0), decide (18446744073709551615 < n)), @SOk (E (wF 0) (cF 0) (rw2 n 0) [] []) Tryz.prog (glob aR aS) e := fun e he => by
    simp only [ULess, List.mem_cons, List.not_mem_nil, or_false] at he
    rcases he with rfl | rfl
    · exact sokE (vs := [Wd n, Wd 0]) (v := .bool (decide (n < 0))) rfl rfl rfl rfl fun w hG => less_ok aR aS hn (by unfold Sm; omega) w hG
    · exact sokE (vs := [Wd 18446744073709551615, Wd n]) (v := .bool (decide (18446744073709551615 < n))) rfl rfl rfl rfl fun w hG => less_ok aR aS (by unfold Sm; omega) hn w hG
  refine kfun_of hU (run_cl4 _ _ _ aR aS _) (by unfold clR_4; (repeat' split) <;> rfl) ?_
  unfold clR_4
  by_cases h1 : n < 0
  · simp only [h1, decide_true, if_true]
    rfl
  · by_cases h2 : 18446744073709551615 < n
    · simp only [h1, h2, decide_true, decide_false, Bool.false_eq_true, if_false, if_true]
      rfl
    · simp only [h1, h2, decide_false, Bool.false_eq_true, if_false]
      exact agEq (wre_4 n)
theorem run_wr5 (W : Nat → Nat) (C : Nat → Nat × Nat) (ρ : Nat → Int) (aR aS : Addr) : runE W C ρ aR aS [] [] [] [(37, [.v (.int .i64 5), w01], .agg [.v (.int .i64 5), .sym (.int .u64 (wrE 56))])] := by unfold runE; kernel_rfl
theorem wre_5 (n : Int) : (wrE 56).ev (rw2 n 0) = n % 256 := by
    simp (disch := omega) only [wrE, IE.ev, show rw2 n 0 1 = loI n from rfl, loI, shl_u64_56, shr_u64_56, wrap_u64]
    omega
theorem wrap_5 (aR aS : Addr) (n : Int) : KFun aR aS 37 5 n (n % 256) := kfun_of noW_ok (run_wr5 _ _ _ aR aS) rfl (agEq (wre_5 n))
def clR_5 (p : Bool × Bool) : SVal := if p.1 then .v (agV 5 128) else if p.2 then .v (agV 5 127) else .agg [.v (.int .i64 5), .sym (.int .u64 (wrE 56))]
theorem run_cl5 (W : Nat → Nat) (C : Nat → Nat × Nat) (ρ : Nat → Int) (aR aS : Addr) (p : Bool × Bool) : runE W C ρ aR aS [] [] (ULess (.v (.agg #[.int .u64 18446744073709551615, .int .u64 18446744073709551488])) (.v (.agg #[.int .u64 0, .int .u64 127])) p) [(54, [.v (.int .i64 5), w01], clR_5 p)] := by
  unfold runE
  obtain ⟨a, b⟩ := p
  cases a <;> cases b
  · kernel_rfl
  · kernel_rfl
  · kernel_rfl
  · kernel_rfl
theorem clamp_5 (aR aS : Addr) {n : Int} (hn : Sm n) : KFun aR aS 54 5 n ((if n < (-128) then (-128) else if 127 < n then 127 else n) % 256) := by
  have hU : ∀ e ∈ ULess (.v (.agg #[.int .u64 18446744073709551615, .int .u64 18446744073709551488])) (.v (.agg #[.int .u64 0, .int .u64 127])) (decide (n < (-128)), decide (127 < n)), @SOk (E (wF 0) (cF 0) (rw2 n 0) [] []) Tryz.prog (glob aR aS) e := fun e he => by
    simp only [ULess, List.mem_cons, List.not_mem_nil, or_false] at he
    rcases he with rfl | rfl
    · exact sokE (vs := [Wd n, Wd (-128)]) (v := .bool (decide (n < (-128)))) rfl rfl rfl rfl fun w hG => less_ok aR aS hn (by unfold Sm; omega) w hG
    · exact sokE (vs := [Wd 127, Wd n]) (v := .bool (decide (127 < n))) rfl rfl rfl rfl fun w hG => less_ok aR aS (by unfold Sm; omega) hn w hG
  refine kfun_of hU (run_cl5 _ _ _ aR aS _) (by unfold clR_5; (repeat' split) <;> rfl) ?_
  unfold clR_5
  by_cases h1 : n < (-128)
  · simp only [h1, decide_true, if_true]
    rfl
  · by_cases h2 : 127 < n
    · simp only [h1, h2, decide_true, decide_false, Bool.false_eq_true, if_false, if_true]
      rfl
    · simp only [h1, h2, decide_false, Bool.false_eq_true, if_false]
      exact agEq (wre_5 n)
theorem run_wr6 (W : Nat → Nat) (C : Nat → Nat × Nat) (ρ : Nat → Int) (aR aS : Addr) : runE W C ρ aR aS [] [] [] [(37, [.v (.int .i64 6), w01], .agg [.v (.int .i64 6), .sym (.int .u64 (wrE 48))])] := by unfold runE; kernel_rfl
theorem wre_6 (n : Int) : (wrE 48).ev (rw2 n 0) = n % 65536 := by
    simp (disch := omega) only [wrE, IE.ev, show rw2 n 0 1 = loI n from rfl, loI, shl_u64_48, shr_u64_48, wrap_u64]
    omega
theorem wrap_6 (aR aS : Addr) (n : Int) : KFun aR aS 37 6 n (n % 65536) := kfun_of noW_ok (run_wr6 _ _ _ aR aS) rfl (agEq (wre_6 n))
def clR_6 (p : Bool × Bool) : SVal := if p.1 then .v (agV 6 32768) else if p.2 then .v (agV 6 32767) else .agg [.v (.int .i64 6), .sym (.int .u64 (wrE 48))]
theorem run_cl6 (W : Nat → Nat) (C : Nat → Nat × Nat) (ρ : Nat → Int) (aR aS : Addr) (p : Bool × Bool) : runE W C ρ aR aS [] [] (ULess (.v (.agg #[.int .u64 18446744073709551615, .int .u64 18446744073709518848])) (.v (.agg #[.int .u64 0, .int .u64 32767])) p) [(54, [.v (.int .i64 6), w01], clR_6 p)] := by
  unfold runE
  obtain ⟨a, b⟩ := p
  cases a <;> cases b
  · kernel_rfl
  · kernel_rfl
  · kernel_rfl
  · kernel_rfl
theorem clamp_6 (aR aS : Addr) {n : Int} (hn : Sm n) : KFun aR aS 54 6 n ((if n < (-32768) then (-32768) else if 32767 < n then 32767 else n) % 65536) := by
  have hU : ∀ e ∈ ULess (.v (.agg #[.int .u64 18446744073709551615, .int .u64 18446744073709518848])) (.v (.agg #[.int .u64 0, .int .u64 32767])) (decide (n < (-32768)), decide (32767 < n)), @SOk (E (wF 0) (cF 0) (rw2 n 0) [] []) Tryz.prog (glob aR aS) e := fun e he => by
    simp only [ULess, List.mem_cons, List.not_mem_nil, or_false] at he
    rcases he with rfl | rfl
    · exact sokE (vs := [Wd n, Wd (-32768)]) (v := .bool (decide (n < (-32768)))) rfl rfl rfl rfl fun w hG => less_ok aR aS hn (by unfold Sm; omega) w hG
    · exact sokE (vs := [Wd 32767, Wd n]) (v := .bool (decide (32767 < n))) rfl rfl rfl rfl fun w hG => less_ok aR aS (by unfold Sm; omega) hn w hG
  refine kfun_of hU (run_cl6 _ _ _ aR aS _) (by unfold clR_6; (repeat' split) <;> rfl) ?_
  unfold clR_6
  by_cases h1 : n < (-32768)
  · simp only [h1, decide_true, if_true]
    rfl
  · by_cases h2 : 32767 < n
    · simp only [h1, h2, decide_true, decide_false, Bool.false_eq_true, if_false, if_true]
      rfl
    · simp only [h1, h2, decide_false, Bool.false_eq_true, if_false]
      exact agEq (wre_6 n)
theorem run_wr7 (W : Nat → Nat) (C : Nat → Nat × Nat) (ρ : Nat → Int) (aR aS : Addr) : runE W C ρ aR aS [] [] [] [(37, [.v (.int .i64 7), w01], .agg [.v (.int .i64 7), .sym (.int .u64 (wrE 32))])] := by unfold runE; kernel_rfl
theorem wre_7 (n : Int) : (wrE 32).ev (rw2 n 0) = n % 4294967296 := by
    simp (disch := omega) only [wrE, IE.ev, show rw2 n 0 1 = loI n from rfl, loI, shl_u64_32, shr_u64_32, wrap_u64]
    omega
theorem wrap_7 (aR aS : Addr) (n : Int) : KFun aR aS 37 7 n (n % 4294967296) := kfun_of noW_ok (run_wr7 _ _ _ aR aS) rfl (agEq (wre_7 n))
def clR_7 (p : Bool × Bool) : SVal := if p.1 then .v (agV 7 2147483648) else if p.2 then .v (agV 7 2147483647) else .agg [.v (.int .i64 7), .sym (.int .u64 (wrE 32))]
theorem run_cl7 (W : Nat → Nat) (C : Nat → Nat × Nat) (ρ : Nat → Int) (aR aS : Addr) (p : Bool × Bool) : runE W C ρ aR aS [] [] (ULess (.v (.agg #[.int .u64 18446744073709551615, .int .u64 18446744071562067968])) (.v (.agg #[.int .u64 0, .int .u64 2147483647])) p) [(54, [.v (.int .i64 7), w01], clR_7 p)] := by
  unfold runE
  obtain ⟨a, b⟩ := p
  cases a <;> cases b
  · kernel_rfl
  · kernel_rfl
  · kernel_rfl
  · kernel_rfl
theorem clamp_7 (aR aS : Addr) {n : Int} (hn : Sm n) : KFun aR aS 54 7 n ((if n < (-2147483648) then (-2147483648) else if 2147483647 < n then 2147483647 else n) % 4294967296) := by
  have hU : ∀ e ∈ ULess (.v (.agg #[.int .u64 18446744073709551615, .int .u64 18446744071562067968])) (.v (.agg #[.int .u64 0, .int .u64 2147483647])) (decide (n < (-2147483648)), decide (2147483647 < n)), @SOk (E (wF 0) (cF 0) (rw2 n 0) [] []) Tryz.prog (glob aR aS) e := fun e he => by
    simp only [ULess, List.mem_cons, List.not_mem_nil, or_false] at he
    rcases he with rfl | rfl
    · exact sokE (vs := [Wd n, Wd (-2147483648)]) (v := .bool (decide (n < (-2147483648)))) rfl rfl rfl rfl fun w hG => less_ok aR aS hn (by unfold Sm; omega) w hG
    · exact sokE (vs := [Wd 2147483647, Wd n]) (v := .bool (decide (2147483647 < n))) rfl rfl rfl rfl fun w hG => less_ok aR aS (by unfold Sm; omega) hn w hG
  refine kfun_of hU (run_cl7 _ _ _ aR aS _) (by unfold clR_7; (repeat' split) <;> rfl) ?_
  unfold clR_7
  by_cases h1 : n < (-2147483648)
  · simp only [h1, decide_true, if_true]
    rfl
  · by_cases h2 : 2147483647 < n
    · simp only [h1, h2, decide_true, decide_false, Bool.false_eq_true, if_false, if_true]
      rfl
    · simp only [h1, h2, decide_false, Bool.false_eq_true, if_false]
      exact agEq (wre_7 n)
theorem run_wr8 (W : Nat → Nat) (C : Nat → Nat × Nat) (ρ : Nat → Int) (aR aS : Addr) : runE W C ρ aR aS [] [] [] [(37, [.v (.int .i64 8), w01], .agg [.v (.int .i64 8), .sym (.int .u64 (wrE 0))])] := by unfold runE; kernel_rfl
theorem wre_8 (n : Int) : (wrE 0).ev (rw2 n 0) = n % 18446744073709551616 := by
    simp (disch := omega) only [wrE, IE.ev, show rw2 n 0 1 = loI n from rfl, loI, shl_u64_0, shr_u64_0, wrap_u64]
    omega
theorem wrap_8 (aR aS : Addr) (n : Int) : KFun aR aS 37 8 n (n % 18446744073709551616) := kfun_of noW_ok (run_wr8 _ _ _ aR aS) rfl (agEq (wre_8 n))
def clR_8 (p : Bool × Bool) : SVal := if p.1 then .v (agV 8 9223372036854775808) else if p.2 then .v (agV 8 9223372036854775807) else .agg [.v (.int .i64 8), .sym (.int .u64 (wrE 0))]
theorem run_cl8 (W : Nat → Nat) (C : Nat → Nat × Nat) (ρ : Nat → Int) (aR aS : Addr) (p : Bool × Bool) : runE W C ρ aR aS [] [] (ULess (.v (.agg #[.int .u64 18446744073709551615, .int .u64 9223372036854775808])) (.v (.agg #[.int .u64 0, .int .u64 9223372036854775807])) p) [(54, [.v (.int .i64 8), w01], clR_8 p)] := by
  unfold runE
  obtain ⟨a, b⟩ := p
  cases a <;> cases b
  · kernel_rfl
  · kernel_rfl
  · kernel_rfl
  · kernel_rfl
theorem clamp_8 (aR aS : Addr) {n : Int} (hn : Sm n) : KFun aR aS 54 8 n ((if n < (-9223372036854775808) then (-9223372036854775808) else if 9223372036854775807 < n then 9223372036854775807 else n) % 18446744073709551616) := by
  have hU : ∀ e ∈ ULess (.v (.agg #[.int .u64 18446744073709551615, .int .u64 9223372036854775808])) (.v (.agg #[.int .u64 0, .int .u64 9223372036854775807])) (decide (n < (-9223372036854775808)), decide (9223372036854775807 < n)), @SOk (E (wF 0) (cF 0) (rw2 n 0) [] []) Tryz.prog (glob aR aS) e := fun e he => by
    simp only [ULess, List.mem_cons, List.not_mem_nil, or_false] at he
    rcases he with rfl | rfl
    · exact sokE (vs := [Wd n, Wd (-9223372036854775808)]) (v := .bool (decide (n < (-9223372036854775808)))) rfl rfl rfl rfl fun w hG => less_ok aR aS hn (by unfold Sm; omega) w hG
    · exact sokE (vs := [Wd 9223372036854775807, Wd n]) (v := .bool (decide (9223372036854775807 < n))) rfl rfl rfl rfl fun w hG => less_ok aR aS (by unfold Sm; omega) hn w hG
  refine kfun_of hU (run_cl8 _ _ _ aR aS _) (by unfold clR_8; (repeat' split) <;> rfl) ?_
  unfold clR_8
  by_cases h1 : n < (-9223372036854775808)
  · simp only [h1, decide_true, if_true]
    rfl
  · by_cases h2 : 9223372036854775807 < n
    · simp only [h1, h2, decide_true, decide_false, Bool.false_eq_true, if_false, if_true]
      rfl
    · simp only [h1, h2, decide_false, Bool.false_eq_true, if_false]
      exact agEq (wre_8 n)
end
end Go.Proofs.YtonkcpmefnddaaaGreatDoor

namespace Go.Proofs.YtonkcpmefnddaaaGreatDoor
noncomputable section
open Go Go.RX
open Go.RowKit (Below)
set_option maxRecDepth 1000000
set_option maxHeartbeats 4000000

/-! ### The other functions of wide integers -/
def mkW (H L : Int) : Int := H * 18446744073709551616 + L
theorem mkW_hi {H L : Int} (h0 : 0 ≤ H) (h1 : H < 18446744073709551616) (l0 : 0 ≤ L) (l1 : L < 18446744073709551616) : hiW (mkW H L) = H ∧ loI (mkW H L) = L := by
  unfold hiW loI mkW
  omega
theorem binI_u64 (op : BinOp) (hop : op = .and ∨ op = .or ∨ op = .xor ∨ op = .mul) (x y : Int) : 0 ≤ binI op .u64 x y ∧ binI op .u64 x y < 18446744073709551616 := by
  rcases hop with rfl | rfl | rfl | rfl <;> exact wrap64_range _

def bitE (op : BinOp) : SVal := .agg [.sym (.int .u64 (.bin op .u64 (.var 0) (.var 2))), .sym (.int .u64 (.bin op .u64 (.var 1) (.var 3)))]
theorem run_and (W : Nat → Nat) (C : Nat → Nat × Nat) (ρ : Nat → Int) (aR aS : Addr) : runE W C ρ aR aS [] [] [] [(72, [w01, w23], bitE .and)] := by unfold runE; kernel_rfl
theorem run_or (W : Nat → Nat) (C : Nat → Nat × Nat) (ρ : Nat → Int) (aR aS : Addr) : runE W C ρ aR aS [] [] [] [(73, [w01, w23], bitE .or)] := by unfold runE; kernel_rfl
theorem run_xor (W : Nat → Nat) (C : Nat → Nat × Nat) (ρ : Nat → Int) (aR aS : Addr) : runE W C ρ aR aS [] [] [] [(74, [w01, w23], bitE .xor)] := by unfold runE; kernel_rfl
def bitW (op : BinOp) (n m : Int) : Int := mkW (binI op .u64 (hiW n) (hiW m)) (binI op .u64 (loI n) (loI m))
theorem bit_of {aR aS : Addr} {f : FuncId} {op : BinOp} (hop : op = .and ∨ op = .or ∨ op = .xor ∨ op = .mul) (n m : Int) (h : runE (wF 0) (cF 0) (rw2 n m) aR aS [] [] [] [(f, [w01, w23], bitE op)]) : WFun aR aS f n m (Wd (bitW op n m)) := by
  obtain ⟨a, b⟩ := binI_u64 op hop (hiW n) (hiW m)
  obtain ⟨c, d⟩ := binI_u64 op hop (loI n) (loI m)
  obtain ⟨e1, e2⟩ := mkW_hi a b c d
  exact wfun_of (fun _ h => by cases h) noW_ok h rfl (pairW e1.symm e2.symm)
theorem and_ok (aR aS : Addr) (n m : Int) : WFun aR aS 72 n m (Wd (bitW .and n m)) := bit_of (.inl rfl) n m (run_and _ _ _ aR aS)
theorem or_ok (aR aS : Addr) (n m : Int) : WFun aR aS 73 n m (Wd (bitW .or n m)) := bit_of (.inr (.inl rfl)) n m (run_or _ _ _ aR aS)
theorem xor_ok (aR aS : Addr) (n m : Int) : WFun aR aS 74 n m (Wd (bitW .xor n m)) := bit_of (.inr (.inr (.inl rfl))) n m (run_xor _ _ _ aR aS)

theorem run_times (W : Nat → Nat) (C : Nat → Nat × Nat) (ρ : Nat → Int) (aR aS : Addr) : runE W C ρ aR aS [] [] [] [(62, [w01, w23], .agg [.v (.int .u64 0), .sym (.int .u64 (.bin .mul .u64 (.var 1) (.var 3)))])] := by unfold runE; kernel_rfl
theorem times_ok (aR aS : Addr) (n m : Int) : WFun aR aS 62 n m (Wd (loI (loI n * loI m))) := by
  refine wfun_of (fun _ h => by cases h) noW_ok (run_times _ _ _ aR aS) rfl (pairW ?_ ?_)
  · unfold hiW loI
    omega
  · show IntKind.wrap .u64 (loI n * loI m) = _
    rw [wrap_u64]
    unfold loI
    omega

/-- Which of two is told by less. -/
def ULs (x y : SVal) (r : Bool) : List SEntry := [(120, [x, y], .v (.bool r))]
theorem run_lesser (W : Nat → Nat) (C : Nat → Nat × Nat) (ρ : Nat → Int) (aR aS : Addr) (r : Bool) : runE W C ρ aR aS [] [] (ULs w23 w01 r) [(68, [w01, w23], if r then w23 else w01)] := by
  unfold runE
  cases r <;> kernel_rfl
theorem run_greater (W : Nat → Nat) (C : Nat → Nat × Nat) (ρ : Nat → Int) (aR aS : Addr) (r : Bool) : runE W C ρ aR aS [] [] (ULs w01 w23 r) [(70, [w01, w23], if r then w23 else w01)] := by
  unfold runE
  cases r <;> kernel_rfl
theorem lesser_ok (aR aS : Addr) {n m : Int} (hn : Sm n) (hm : Sm m) : WFun aR aS 68 n m (Wd (if m < n then m else n)) := by
  have hU : ∀ e ∈ ULs w23 w01 (decide (m < n)), @SOk (E (wF 0) (cF 0) (rw2 n m) [] []) Tryz.prog (glob aR aS) e := fun e he => by
    obtain rfl := List.mem_singleton.1 he
    exact sokE (vs := [Wd m, Wd n]) (v := .bool (decide (m < n))) rfl rfl rfl rfl fun w hG => less_ok aR aS hm hn w hG
  refine wfun_of (fun _ h => by cases h) hU (run_lesser _ _ _ aR aS _) (by split <;> rfl) ?_
  by_cases h : m < n
  · simp only [h, decide_true, if_true]; rfl
  · simp only [h, decide_false, Bool.false_eq_true, if_false]; rfl
theorem greater_ok (aR aS : Addr) {n m : Int} (hn : Sm n) (hm : Sm m) : WFun aR aS 70 n m (Wd (if n < m then m else n)) := by
  have hU : ∀ e ∈ ULs w01 w23 (decide (n < m)), @SOk (E (wF 0) (cF 0) (rw2 n m) [] []) Tryz.prog (glob aR aS) e := fun e he => by
    obtain rfl := List.mem_singleton.1 he
    exact sokE (vs := [Wd n, Wd m]) (v := .bool (decide (n < m))) rfl rfl rfl rfl fun w hG => less_ok aR aS hn hm w hG
  refine wfun_of (fun _ h => by cases h) hU (run_greater _ _ _ aR aS _) (by split <;> rfl) ?_
  by_cases h : n < m
  · simp only [h, decide_true, if_true]; rfl
  · simp only [h, decide_false, Bool.false_eq_true, if_false]; rfl

/-- The distance: the greater one less the lesser one. -/
def g45 : SVal := .agg [.sym (.int .u64 (.var 4)), .sym (.int .u64 (.var 5))]
def l67 : SVal := .agg [.sym (.int .u64 (.var 6)), .sym (.int .u64 (.var 7))]
def d89 : SVal := .agg [.sym (.int .u64 (.var 8)), .sym (.int .u64 (.var 9))]
def rw6 (n m g l d : Int) : Nat → Int := fun i => match i with
  | 0 => hiW n
  | 1 => loI n
  | 2 => hiW m
  | 3 => loI m
  | 4 => hiW g
  | 5 => loI g
  | 6 => hiW l
  | 7 => loI l
  | 8 => hiW d
  | 9 => loI d
  | _ => 0
def UDist : List SEntry := [(70, [w01, w23], g45), (68, [w01, w23], l67), (59, [g45, l67], d89)]
theorem run_dist (W : Nat → Nat) (C : Nat → Nat × Nat) (ρ : Nat → Int) (aR aS : Addr) : runE W C ρ aR aS [] [] UDist [(79, [w01, w23], d89)] := by unfold runE; kernel_rfl
theorem dist_ok (aR aS : Addr) {n m : Int} (hn : Sm n) (hm : Sm m) : WFun aR aS 79 n m (Wd ((if n < m then m else n) - (if m < n then m else n))) := fun w hG => by
  have hU : ∀ e ∈ UDist, @SOk (E (wF 0) (cF 0) (rw6 n m (if n < m then m else n) (if m < n then m else n) ((if n < m then m else n) - (if m < n then m else n))) [] []) Tryz.prog (glob aR aS) e := fun e he => by
    simp only [UDist, List.mem_cons, List.not_mem_nil, or_false] at he
    rcases he with rfl | rfl | rfl
    · exact sokE (vs := [Wd n, Wd m]) (v := Wd (if n < m then m else n)) rfl rfl rfl rfl fun w hG => greater_ok aR aS hn hm w hG
    · exact sokE (vs := [Wd n, Wd m]) (v := Wd (if m < n then m else n)) rfl rfl rfl rfl fun w hG => lesser_ok aR aS hn hm w hG
    · exact sokE (vs := [Wd (if n < m then m else n), Wd (if m < n then m else n)]) (v := Wd ((if n < m then m else n) - (if m < n then m else n))) rfl rfl rfl rfl fun w hG => minus_ok aR aS _ _ w hG
  exact calls_symF (W := wF 0) (C := cF 0) (ρ := rw6 n m (if n < m then m else n) (if m < n then m else n) ((if n < m then m else n) - (if m < n then m else n))) (L := []) (T := []) (fun _ h => by cases h) (fun _ h => by cases h) hU (run_dist _ _ _ aR aS) List.mem_cons_self rfl rfl (vs := [Wd n, Wd m]) rfl rfl hG
end
end Go.Proofs.YtonkcpmefnddaaaGreatDoor

namespace Go.Proofs.YtonkcpmefnddaaaGreatDoor
noncomputable section
open Go Go.RX
open Go.RowKit (Below)
set_option maxRecDepth 1000000
set_option maxHeartbeats 4000000

/-! ### Shifts, averages and quotients of wide integers -/
def cv2 : IE := .cv .i64 (.var 2)
def L_o1 : List CF := [⟨.lss, cv2, .lit 0, true⟩]
def L_o2 : List CF := [⟨.lss, cv2, .lit 0, false⟩, ⟨.geq, .var 3, .lit 64, true⟩]
def L_in : List CF := [⟨.lss, cv2, .lit 0, false⟩, ⟨.geq, .var 3, .lit 64, false⟩, ⟨.geq, .var 3, .lit 0, true⟩, ⟨.geq, .bin .sub .u64 (.lit 64) (.var 3), .lit 0, true⟩]
/-- An amount of a kind's number. -/
def Am (m : Int) : Prop := -9223372036854775808 ≤ m ∧ m < 18446744073709551616
theorem cv2_ev {n m : Int} (h : Am m) : cv2.ev (rw2 n m) = if m < 0 then -1 else 0 := by
  show IntKind.wrap .i64 (hiW m) = _
  obtain ⟨h0, h1⟩ := h
  rw [wrap_i64]
  unfold hiW
  split <;> omega
theorem ok_o1 {n m : Int} (h : Am m) (hm : m < 0) : ∀ c ∈ L_o1, c.ok (rw2 n m) := fun c hc => by
  obtain rfl := List.mem_singleton.1 hc
  refine ⟨rfl, ?_⟩
  show decide (cv2.ev _ < 0) = true
  rw [cv2_ev h, if_pos hm]
  rfl
theorem ok_o2 {n m : Int} (h : Am m) (hm : 64 ≤ m) : ∀ c ∈ L_o2, c.ok (rw2 n m) := fun c hc => by
  simp only [L_o2, List.mem_cons, List.not_mem_nil, or_false] at hc
  rcases hc with rfl | rfl
  · refine ⟨rfl, ?_⟩
    show decide (cv2.ev _ < 0) = false
    rw [cv2_ev h, if_neg (by omega)]
    rfl
  · refine ⟨rfl, decide_eq_true (show loI m ≥ 64 from ?_)⟩
    have := h.2
    unfold loI
    omega
theorem ok_in {n m : Int} (h0 : 0 ≤ m) (h1 : m < 64) : ∀ c ∈ L_in, c.ok (rw2 n m) := fun c hc => by
  have e : loI m = m := by unfold loI; omega
  simp only [L_in, List.mem_cons, List.not_mem_nil, or_false] at hc
  rcases hc with rfl | rfl | rfl | rfl
  · refine ⟨rfl, ?_⟩
    show decide (cv2.ev _ < 0) = false
    rw [cv2_ev ⟨by omega, by omega⟩, if_neg (by omega)]
    rfl
  · exact ⟨rfl, decide_eq_false (show ¬ loI m ≥ 64 by omega)⟩
  · exact ⟨rfl, decide_eq_true (show loI m ≥ 0 by omega)⟩
  · refine ⟨rfl, decide_eq_true (show IntKind.wrap .u64 (64 - loI m) ≥ 0 from ?_)⟩
    exact (wrap64_range _).1
def FSR : FuncId := 76
def FSL : FuncId := 75
def w00 : SVal := .agg [.sym (.int .u64 (.var 0)), .sym (.int .u64 (.var 0))]
def r_sr : SVal := .agg [.sym (.int .u64 (.cv .u64 (.sh .shr .i64 (.cv .i64 (.var 0)) (.var 3)))), .sym (.int .u64 (.bin .or .u64 (.sh .shr .u64 (.var 1) (.var 3)) (.sh .shl .u64 (.var 0) (.bin .sub .u64 (.lit 64) (.var 3)))))]
def r_sl : SVal := .agg [.v (.int .u64 0), .sym (.int .u64 (.sh .shl .u64 (.var 1) (.var 3)))]
theorem run_sr1 (W : Nat → Nat) (C : Nat → Nat × Nat) (ρ : Nat → Int) (aR aS : Addr) : runE W C ρ aR aS L_o1 [] [] [(FSR, [w01, w23], w00)] := by unfold runE; kernel_rfl
theorem run_sr2 (W : Nat → Nat) (C : Nat → Nat × Nat) (ρ : Nat → Int) (aR aS : Addr) : runE W C ρ aR aS L_o2 [] [] [(FSR, [w01, w23], w00)] := by unfold runE; kernel_rfl
theorem run_sr (W : Nat → Nat) (C : Nat → Nat × Nat) (ρ : Nat → Int) (aR aS : Addr) : runE W C ρ aR aS L_in [] [] [(FSR, [w01, w23], r_sr)] := by unfold runE; kernel_rfl
theorem run_sl1 (W : Nat → Nat) (C : Nat → Nat × Nat) (ρ : Nat → Int) (aR aS : Addr) : runE W C ρ aR aS L_o1 [] [] [(FSL, [w01, w23], .v (.agg #[.int .u64 0, .int .u64 0]))] := by unfold runE; kernel_rfl
theorem run_sl2 (W : Nat → Nat) (C : Nat → Nat × Nat) (ρ : Nat → Int) (aR aS : Addr) : runE W C ρ aR aS L_o2 [] [] [(FSL, [w01, w23], .v (.agg #[.int .u64 0, .int .u64 0]))] := by unfold runE; kernel_rfl
theorem run_sl (W : Nat → Nat) (C : Nat → Nat × Nat) (ρ : Nat → Int) (aR aS : Addr) : runE W C ρ aR aS L_in [] [] [(FSL, [w01, w23], r_sl)] := by unfold runE; kernel_rfl

theorem sr_out (aR aS : Addr) {n m : Int} (hn : -18446744073709551616 ≤ n ∧ n < 18446744073709551616) (h : Am m) (hm : m < 0 ∨ 64 ≤ m) : WFun aR aS FSR n m (Wd (if n < 0 then -1 else 0)) := by
  have e : ∀ r, r = w00 → @den (E (wF 0) (cF 0) (rw2 n m) [] []) (fun _ => none) r = some (Wd (if n < 0 then -1 else 0)) := by
    intro r hr
    subst hr
    refine pairW ?_ ?_
    · show hiW n = _
      unfold hiW
      split <;> omega
    · show hiW n = _
      unfold hiW loI
      split <;> omega
  rcases hm with hm | hm
  · exact wfun_of (ok_o1 h hm) noW_ok (run_sr1 _ _ _ aR aS) rfl (e _ rfl)
  · exact wfun_of (ok_o2 h hm) noW_ok (run_sr2 _ _ _ aR aS) rfl (e _ rfl)
theorem sr_in (aR aS : Addr) {n : Int} (hn : Sm n) {s : Nat} (hs : s < 64) : WFun aR aS FSR n s (Wd (n / 2 ^ s)) := by
  obtain ⟨_, n1, n2⟩ := hn
  have e : loI (s : Int) = s := by unfold loI; omega
  refine wfun_of (ok_in (by omega) (by omega)) noW_ok (run_sr _ _ _ aR aS) rfl (pairW ?_ ?_)
  · show IntKind.wrap .u64 ((IntKind.wrap .i64 (hiW n)).fdiv (2 ^ min (loI (s : Int)).toNat 64)) = _
    have e2 : IntKind.wrap .i64 (hiW n) = n / 18446744073709551616 := by
      rw [wrap_i64]
      unfold hiW
      omega
    rw [e, e2, Int.toNat_natCast, Nat.min_eq_left (by omega), Int.fdiv_eq_ediv_of_nonneg _ (Int.le_of_lt (Int.pow_pos (by decide))), wrap_u64]
    unfold hiW
    rw [Int.ediv_ediv_of_nonneg (by decide), Int.mul_comm, ← Int.ediv_ediv_of_nonneg (Int.le_of_lt (Int.pow_pos (by decide)))]
  · show binI .or .u64 ((loI n).fdiv (2 ^ min (loI (s : Int)).toNat 64)) (IntKind.wrap .u64 (hiW n * 2 ^ min (IntKind.wrap .u64 (64 - loI (s : Int))).toNat 64)) = _
    have e3 : (IntKind.wrap .u64 (64 - (s : Int))).toNat = 64 - s := by
      rw [wrap_u64]
      omega
    rw [e, e3, Int.toNat_natCast, Nat.min_eq_left (by omega), Nat.min_eq_left (by omega), Int.fdiv_eq_ediv_of_nonneg _ (Int.le_of_lt (Int.pow_pos (by decide))), wrap_u64]
    exact shr_lo n s (by omega)
theorem sl_out (aR aS : Addr) {n m : Int} (h : Am m) (hm : m < 0 ∨ 64 ≤ m) : WFun aR aS FSL n m (Wd 0) := by
  rcases hm with hm | hm
  · exact wfun_of (ok_o1 h hm) noW_ok (run_sl1 _ _ _ aR aS) rfl rfl
  · exact wfun_of (ok_o2 h hm) noW_ok (run_sl2 _ _ _ aR aS) rfl rfl
theorem sl_in (aR aS : Addr) {n : Int} {s : Nat} (hs : s < 64) : WFun aR aS FSL n s (Wd (loI (n * 2 ^ s))) := by
  have e : loI (s : Int) = s := by unfold loI; omega
  refine wfun_of (ok_in (by omega) (by omega)) noW_ok (run_sl _ _ _ aR aS) rfl (pairW ?_ ?_)
  · show (0 : Int) = _
    unfold hiW loI
    omega
  · show IntKind.wrap .u64 (loI n * 2 ^ min (loI (s : Int)).toNat 64) = _
    rw [e, Int.toNat_natCast, Nat.min_eq_left (by omega), wrap_u64]
    unfold loI
    rw [Int.emod_emod_of_dvd _ (by decide), Int.mul_emod, Int.emod_emod_of_dvd _ (by decide), ← Int.mul_emod]

/-- The average: by the sum, 1 and a shift. -/
def one1 : SVal := .v (.agg #[.int .u64 0, .int .u64 1])
def UAvg : List SEntry := [(56, [w01, w23], g45), (56, [g45, one1], l67), (FSR, [l67, one1], d89)]
theorem run_avg (W : Nat → Nat) (C : Nat → Nat × Nat) (ρ : Nat → Int) (aR aS : Addr) : runE W C ρ aR aS [] [] UAvg [(77, [w01, w23], d89)] := by unfold runE; kernel_rfl
theorem avg_ok (aR aS : Addr) {n m : Int} (hn : Am n) (hm : Am m) : WFun aR aS 77 n m (Wd ((n + m + 1) / 2)) := fun w hG => by
  have hU : ∀ e ∈ UAvg, @SOk (E (wF 0) (cF 0) (rw6 n m (n + m) (n + m + 1) ((n + m + 1) / 2)) [] []) Tryz.prog (glob aR aS) e := fun e he => by
    simp only [UAvg, List.mem_cons, List.not_mem_nil, or_false] at he
    rcases he with rfl | rfl | rfl
    · exact sokE (vs := [Wd n, Wd m]) (v := Wd (n + m)) rfl rfl rfl rfl fun w hG => plus_ok aR aS n m w hG
    · exact sokE (vs := [Wd (n + m), Wd 1]) (v := Wd (n + m + 1)) rfl rfl rfl rfl fun w hG => plus_ok aR aS (n + m) 1 w hG
    · refine sokE (vs := [Wd (n + m + 1), Wd 1]) (v := Wd ((n + m + 1) / 2)) rfl rfl rfl rfl fun w hG => ?_
      obtain ⟨a, b⟩ := hn
      obtain ⟨c, d⟩ := hm
      have := sr_in aR aS (n := n + m + 1) (by unfold Sm; omega) (s := 1) (by omega) w hG
      exact this
  exact calls_symF (W := wF 0) (C := cF 0) (ρ := rw6 n m (n + m) (n + m + 1) ((n + m + 1) / 2)) (L := []) (T := []) (fun _ h => by cases h) (fun _ h => by cases h) hU (run_avg _ _ _ aR aS) List.mem_cons_self rfl rfl (vs := [Wd n, Wd m]) rfl rfl hG
end
end Go.Proofs.YtonkcpmefnddaaaGreatDoor

namespace Go.Proofs.YtonkcpmefnddaaaGreatDoor
noncomputable section
open Go Go.RX
open Go.RowKit (Below)
set_option maxRecDepth 1000000
set_option maxHeartbeats 4000000

/-! ### Quotients of wide integers -/
def szE (neg : Bool) (i : Nat) : IE := if neg then .bin .sub .u64 (.lit 0) (.var i) else .var i
def quE (a b : Bool) : IE := .bin .quo .u64 (szE a 1) (szE b 3)
def reE (a b : Bool) : IE := .bin .rem .u64 (szE a 1) (szE b 3)
/-- Further: there is a remainder of a negative number. -/
def quF (a b f : Bool) : IE := if f then .bin .add .u64 (quE a b) (.lit 1) else quE a b
def reF (a b f : Bool) : IE := if f then .bin .sub .u64 (szE b 3) (reE a b) else reE a b
def t1E (a b f : Bool) : IE := .tri 1 (.lit 0) (quF a b f) (.lit 0)
def L_dv (a b f : Bool) : List CF := (if b then [⟨.eql, .var 2, .lit 0, false⟩] else [⟨.eql, .var 2, .lit 0, true⟩, ⟨.eql, .var 3, .lit 0, false⟩]) ++ ([⟨.lss, cv2, .lit 0, b⟩, ⟨.lss, .cv .i64 (.var 0), .lit 0, a⟩, ⟨.neq, szE b 3, .lit 0, true⟩] ++
  ((if a then [⟨.neq, reE a b, .lit 0, f⟩] else []) ++ [⟨.geq, t1E a b f, .lit 0, true⟩, ⟨.leq, t1E a b f, .lit 1, true⟩]))
def r_dv (a b f : Bool) : SVal := .tuple [if a == b then .agg [.v (.int .u64 0), .sym (.int .u64 (quF a b f))] else .agg [.sym (.int .u64 (.bin .sub .u64 (.bin .sub .u64 (.lit 0) (.lit 0)) (t1E a b f))), .sym (.int .u64 (.bin .sub .u64 (.bin .sub .u64 (.lit 0) (quF a b f)) (.lit 0)))], .agg [.v (.int .u64 0), .sym (.int .u64 (reF a b f))]]
def FWD : FuncId := 123
theorem run_dv (W : Nat → Nat) (C : Nat → Nat × Nat) (ρ : Nat → Int) (aR aS : Addr) (a b f : Bool) (h : a = false → f = false) : runE W C ρ aR aS (L_dv a b f) [] [] [(FWD, [w01, w23], r_dv a b f)] := by
  unfold runE
  cases a <;> cases b <;> cases f <;> first | (exact absurd (h rfl) (by decide)) | kernel_rfl
def L_dz : List CF := [⟨.eql, .var 2, .lit 0, true⟩, ⟨.eql, .var 3, .lit 0, true⟩]
theorem run_dvz (W : Nat → Nat) (C : Nat → Nat × Nat) (ρ : Nat → Int) (aR aS : Addr) : runE W C ρ aR aS L_dz [] [] [(FWD, [w01, w23], .v (.tuple #[.agg #[.int .u64 0, .int .u64 0], .agg #[.int .u64 0, .int .u64 0]]))] := by unfold runE; kernel_rfl
def QD (n m : Int) : Int := if m = 0 then 0 else n / m
def RD (n m : Int) : Int := if m = 0 then 0 else n % m

theorem size_ev {n m : Int} (hn : Am n) (hm : Am m) : (szE (decide (n < 0)) 1).ev (rw2 n m) = (n.natAbs : Int) ∧ (szE (decide (m < 0)) 3).ev (rw2 n m) = (m.natAbs : Int) := by
  obtain ⟨a, b⟩ := hn
  obtain ⟨c, d⟩ := hm
  constructor
  · unfold szE
    by_cases h : n < 0
    · simp only [h, decide_true, if_true]
      show IntKind.wrap .u64 (0 - loI n) = _
      rw [wrap_u64]
      unfold loI
      omega
    · simp only [h, decide_false, Bool.false_eq_true, if_false]
      show loI n = _
      unfold loI
      omega
  · unfold szE
    by_cases h : m < 0
    · simp only [h, decide_true, if_true]
      show IntKind.wrap .u64 (0 - loI m) = _
      rw [wrap_u64]
      unfold loI
      omega
    · simp only [h, decide_false, Bool.false_eq_true, if_false]
      show loI m = _
      unfold loI
      omega

theorem tri1_01 (x y c : Int) : 0 ≤ triI 1 x y c ∧ triI 1 x y c ≤ 1 := by
  show 0 ≤ (if x < y + c then (1 : Int) else 0) ∧ (if x < y + c then (1 : Int) else 0) ≤ 1
  split <;> decide

theorem divided_ok (aR aS : Addr) {n m : Int} (hn : Am n) (hm : Am m) : WFun aR aS FWD n m (.tuple #[Wd (QD n m), Wd (RD n m)]) := by
  by_cases hz : m = 0
  · subst hz
    refine wfun_of (L := L_dz) (fun c hc => ?_) noW_ok (run_dvz _ _ _ aR aS) rfl (by unfold QD RD; rfl)
    simp only [L_dz, List.mem_cons, List.not_mem_nil, or_false] at hc
    rcases hc with rfl | rfl
    · exact ⟨rfl, rfl⟩
    · exact ⟨rfl, rfl⟩
  obtain ⟨ea, eb⟩ := size_ev hn hm
  obtain ⟨n0, n1⟩ := hn
  obtain ⟨m0, m1⟩ := hm
  have hb : 0 < (m.natAbs : Int) := by omega
  have hp0 : 0 ≤ (n.natAbs : Int) / (m.natAbs : Int) := Int.ediv_nonneg (by omega) (by omega)
  have hp1 : (n.natAbs : Int) / (m.natAbs : Int) ≤ (n.natAbs : Int) := Int.ediv_le_self _ (by omega)
  have hr0 := Int.emod_nonneg (n.natAbs : Int) (show (m.natAbs : Int) ≠ 0 by omega)
  have hr1 := Int.emod_lt_of_pos (n.natAbs : Int) hb
  have eq : (quE (decide (n < 0)) (decide (m < 0))).ev (rw2 n m) = (n.natAbs : Int) / (m.natAbs : Int) := by
    show IntKind.wrap .u64 (((szE (decide (n < 0)) 1).ev (rw2 n m)).tdiv ((szE (decide (m < 0)) 3).ev (rw2 n m))) = _
    rw [ea, eb, Int.tdiv_eq_ediv_of_nonneg (by omega), wrap_u64]
    omega
  have er : (reE (decide (n < 0)) (decide (m < 0))).ev (rw2 n m) = (n.natAbs : Int) % (m.natAbs : Int) := by
    show ((szE (decide (n < 0)) 1).ev (rw2 n m)).tmod ((szE (decide (m < 0)) 3).ev (rw2 n m)) = _
    rw [ea, eb, Int.tmod_eq_emod_of_nonneg (by omega)]
  generalize hf : (decide (n < 0) && decide ((n.natAbs : Int) % (m.natAbs : Int) ≠ 0)) = f
  have hfa : decide (n < 0) = false → f = false := fun h => by rw [← hf, h]; rfl
  have eqF : (quF (decide (n < 0)) (decide (m < 0)) f).ev (rw2 n m) = (n.natAbs : Int) / (m.natAbs : Int) + if f then 1 else 0 := by
    cases f with
    | false =>
      simp only [quF, Bool.false_eq_true, if_false, Int.add_zero]
      exact eq
    | true =>
      simp only [quF, if_true]
      show IntKind.wrap .u64 ((quE _ _).ev _ + 1) = _
      have hneg : n < 0 := of_decide_eq_true (Bool.and_eq_true_iff.1 hf).1
      rw [eq, wrap_u64]
      omega
  have erF : (reF (decide (n < 0)) (decide (m < 0)) f).ev (rw2 n m) = if f then (m.natAbs : Int) - (n.natAbs : Int) % (m.natAbs : Int) else (n.natAbs : Int) % (m.natAbs : Int) := by
    cases f with
    | false =>
      simp only [reF, Bool.false_eq_true, if_false]
      exact er
    | true =>
      simp only [reF, if_true]
      show IntKind.wrap .u64 ((szE _ 3).ev _ - (reE _ _).ev _) = _
      rw [eb, er, wrap_u64]
      omega
  have hL : ∀ c ∈ L_dv (decide (n < 0)) (decide (m < 0)) f, c.ok (rw2 n m) := fun c hc => by
    rcases List.mem_append.1 hc with hc | hc
    · split at hc
      · rename_i h
        have h := of_decide_eq_true h
        obtain rfl := List.mem_singleton.1 hc
        refine ⟨rfl, ?_⟩
        show (hiW m == 0) = false
        refine beq_false_of_ne ?_
        unfold hiW
        omega
      · rename_i h
        have h : ¬ m < 0 := by simpa using h
        simp only [List.mem_cons, List.not_mem_nil, or_false] at hc
        rcases hc with rfl | rfl
        · refine ⟨rfl, ?_⟩
          show (hiW m == 0) = true
          refine beq_iff_eq.2 ?_
          unfold hiW
          omega
        · refine ⟨rfl, ?_⟩
          show (loI m == 0) = false
          refine beq_false_of_ne ?_
          unfold loI
          omega
    rcases List.mem_append.1 hc with hc | hc
    · simp only [List.mem_cons, List.not_mem_nil, or_false] at hc
      rcases hc with rfl | rfl | rfl
      · refine ⟨rfl, ?_⟩
        show decide (cv2.ev (rw2 n m) < 0) = decide (m < 0)
        rw [cv2_ev ⟨m0, m1⟩]
        exact decide_eq_decide.2 (by split <;> omega)
      · refine ⟨rfl, ?_⟩
        show decide (IntKind.wrap .i64 (hiW n) < 0) = decide (n < 0)
        rw [wrap_i64]
        unfold hiW
        exact decide_eq_decide.2 (by omega)
      · refine ⟨rfl, ?_⟩
        show ((szE (decide (m < 0)) 3).ev (rw2 n m) != 0) = true
        rw [eb]
        exact bne_iff_ne.2 (by omega)
    rcases List.mem_append.1 hc with hc | hc
    · split at hc
      · rename_i h
        obtain rfl := List.mem_singleton.1 hc
        refine ⟨rfl, ?_⟩
        show ((reE (decide (n < 0)) (decide (m < 0))).ev (rw2 n m) != 0) = f
        rw [er, ← hf, h, Bool.true_and]
        by_cases h0 : (n.natAbs : Int) % (m.natAbs : Int) = 0
        · simp [h0]
        · simp [h0]
      · cases hc
    · simp only [List.mem_cons, List.not_mem_nil, or_false] at hc
      rcases hc with rfl | rfl
      · exact ⟨rfl, decide_eq_true (tri1_01 _ _ _).1⟩
      · exact ⟨rfl, decide_eq_true (tri1_01 _ _ _).2⟩
  have hQR : QD n m = (if decide (n < 0) == decide (m < 0) then (n.natAbs : Int) / (m.natAbs : Int) + (if f then 1 else 0) else -((n.natAbs : Int) / (m.natAbs : Int) + if f then 1 else 0)) ∧ RD n m = if f then (m.natAbs : Int) - (n.natAbs : Int) % (m.natAbs : Int) else (n.natAbs : Int) % (m.natAbs : Int) := by
    unfold QD RD
    rw [if_neg hz, if_neg hz]
    rcases Int.lt_or_le n 0 with h1 | h1
    · have a1 : (n.natAbs : Int) = -n := by omega
      rw [a1] at hf ⊢
      simp only [h1, decide_true, Bool.true_and] at hf ⊢
      rcases Int.lt_or_le m 0 with h2 | h2
      · have a2 : (m.natAbs : Int) = -m := by omega
        obtain ⟨d1, d2⟩ := ediv_mp (a := n) (b := -m) (by omega)
        obtain ⟨p1, p2⟩ := ediv_pm n m
        rw [p1, p2, d1, d2]
        rw [a2] at hf ⊢
        simp only [h2, decide_true, beq_self_eq_true, if_true]
        generalize (-n) % (-m) = r at hf ⊢
        generalize (-n) / (-m) = p
        by_cases hr : r = 0
        · have : f = false := by rw [← hf]; simp [hr]
          subst this
          simp [hr]
        · have : f = true := by rw [← hf]; simp [hr]
          subst this
          simp [hr]
      · have h2' : ¬ m < 0 := by omega
        have a2 : (m.natAbs : Int) = m := by omega
        obtain ⟨d1, d2⟩ := ediv_mp (a := n) (b := m) (by omega)
        rw [d1, d2]
        rw [a2] at hf ⊢
        simp only [h2', decide_false]
        by_cases hr : (-n) % m = 0
        · have : f = false := by rw [← hf]; simp [hr]
          subst this
          simp [hr]
        · have : f = true := by rw [← hf]; simp [hr]
          subst this
          simp [hr]
    · have h1' : ¬ n < 0 := by omega
      have a1 : (n.natAbs : Int) = n := by omega
      have : f = false := by rw [← hf]; simp [h1']
      subst this
      rw [a1]
      simp only [h1', decide_false, Bool.false_eq_true, if_false, Int.add_zero]
      rcases Int.lt_or_le m 0 with h2 | h2
      · have a2 : (m.natAbs : Int) = -m := by omega
        obtain ⟨p1, p2⟩ := ediv_pm n m
        rw [p1, p2, a2]
        simp [h2]
      · have h2' : ¬ m < 0 := by omega
        have a2 : (m.natAbs : Int) = m := by omega
        rw [a2]
        simp [h2']
  obtain ⟨hQ, hR⟩ := hQR
  have hRb : 0 ≤ RD n m ∧ RD n m < 18446744073709551616 := by
    rw [hR]
    split <;> omega
  have hpf : (if f then (1 : Int) else 0) = 0 ∨ ((if f then (1 : Int) else 0) = 1 ∧ n < 0) := by
    cases f with
    | false => exact .inl rfl
    | true => exact .inr ⟨rfl, of_decide_eq_true (Bool.and_eq_true_iff.1 hf).1⟩
  refine wfun_of hL noW_ok (run_dv _ _ _ aR aS _ _ f hfa) (by unfold r_dv; split <;> rfl) ?_
  have h2 : ∀ {x y z u : Int}, x = hiW (QD n m) → y = loI (QD n m) → z = hiW (RD n m) → u = loI (RD n m) → some (Value.tuple #[.agg #[.int .u64 x, .int .u64 y], .agg #[.int .u64 z, .int .u64 u]]) = some (.tuple #[Wd (QD n m), Wd (RD n m)]) := by
    intro x y z u h1 h2 h3 h4
    rw [h1, h2, h3, h4]
  unfold r_dv
  by_cases hs : (decide (n < 0) == decide (m < 0)) = true
  · rw [if_pos hs]
    rw [if_pos hs] at hQ
    refine h2 ?_ ?_ ?_ ?_
    · rw [hQ]
      unfold hiW
      omega
    · show (quF _ _ f).ev _ = _
      rw [eqF, hQ]
      unfold loI
      omega
    · unfold hiW
      omega
    · show (reF _ _ f).ev _ = _
      rw [erF, ← hR]
      unfold loI
      omega
  · rw [if_neg hs]
    rw [if_neg hs] at hQ
    refine h2 ?_ ?_ ?_ ?_
    · show IntKind.wrap .u64 (IntKind.wrap .u64 (0 - 0) - (if (0 : Int) < (quF _ _ f).ev (rw2 n m) + 0 then 1 else 0)) = _
      rw [eqF, hQ, wrap_u64, wrap_u64]
      unfold hiW
      split <;> omega
    · show IntKind.wrap .u64 (IntKind.wrap .u64 (0 - (quF _ _ f).ev (rw2 n m)) - 0) = _
      rw [eqF, hQ, wrap_u64, wrap_u64]
      unfold loI
      omega
    · unfold hiW
      omega
    · show (reF _ _ f).ev _ = _
      rw [erF, ← hR]
      unfold loI
      omega

theorem run_quo (W : Nat → Nat) (C : Nat → Nat × Nat) (ρ : Nat → Int) (aR aS : Addr) : runE W C ρ aR aS [] [] [(FWD, [w01, w23], .tuple [g45, l67])] [(65, [w01, w23], g45), (67, [w01, w23], l67)] := by unfold runE; kernel_rfl
theorem quo_ok (aR aS : Addr) {n m : Int} (hn : Am n) (hm : Am m) : WFun aR aS 65 n m (Wd (QD n m)) ∧ WFun aR aS 67 n m (Wd (RD n m)) := by
  have hU : ∀ e ∈ [(FWD, [w01, w23], SVal.tuple [g45, l67])], @SOk (E (wF 0) (cF 0) (rw6 n m (QD n m) (RD n m) 0) [] []) Tryz.prog (glob aR aS) e := fun e he => by
    obtain rfl := List.mem_singleton.1 he
    exact sokE (vs := [Wd n, Wd m]) (v := .tuple #[Wd (QD n m), Wd (RD n m)]) rfl rfl rfl rfl fun w hG => divided_ok aR aS hn hm w hG
  exact ⟨fun w hG => calls_symF (W := wF 0) (C := cF 0) (ρ := rw6 n m (QD n m) (RD n m) 0) (L := []) (T := []) (fun _ h => by cases h) (fun _ h => by cases h) hU (run_quo _ _ _ aR aS) List.mem_cons_self rfl rfl (vs := [Wd n, Wd m]) rfl rfl hG,
    fun w hG => calls_symF (W := wF 0) (C := cF 0) (ρ := rw6 n m (QD n m) (RD n m) 0) (L := []) (T := []) (fun _ h => by cases h) (fun _ h => by cases h) hU (run_quo _ _ _ aR aS) (List.mem_cons_of_mem _ List.mem_cons_self) rfl rfl (vs := [Wd n, Wd m]) rfl rfl hG⟩
end
end Go.Proofs.YtonkcpmefnddaaaGreatDoor
