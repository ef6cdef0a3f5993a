import Derived.Test.YtonkcpmefnddaaaGreatDoorJD
import Derived.Test.YtonkcpmefnddaaaGreatDoorRXU
namespace Go.Proofs.YtonkcpmefnddaaaGreatDoor
noncomputable section
open Go Go.RX
open Go.RowKit (Below)
set_option maxRecDepth 1000000
set_option maxHeartbeats 4000000
noncomputable def cSh : Code := (Tryz.f100.body).getD .skip
noncomputable def bSh : Code := (loopBody cSh).getD .skip
theorem body_Sh : Tryz.f100.body = some cSh := by kernel_rfl
theorem loop_Sh : loopBody cSh = some bSh := by kernel_rfl
theorem tmp_den {e : Env} {ρ : Ren} {t : List SVal} {l : List Value} (h : @denL e ρ t = some l) {i : Nat} (hi : i < t.length) : @den e ρ (getS t i) = some (l.getD i undef) := by
  letI : Env := e
  obtain ⟨y, h1, h2⟩ := denL_get h i (t[i]) (List.getElem?_eq_getElem hi)
  rw [getS_eq, List.getD_eq_getElem?_getD, List.getElem?_eq_getElem hi, List.getD_eq_getElem?_getD, h1]
  exact h2

/-- The symbols of a round: 0 the bits, 10 the amount's bits, 11 the limit, 12 the round. -/
def rs (x b2 lim i : Int) : Nat → Int := fun j => match j with
  | 0 => x
  | 10 => b2
  | 11 => lim
  | 12 => i
  | _ => 0
def hpS (k : Int) : SHeap := [SObj.cells [.v (.int .i64 k), .sym (.int .u64 (.var 0))] 24 (0, 0), SObj.cells [.v (.int .i64 k), .sym (.int .u64 (.var 10))] 24 (0, 0), SObj.cells [.v (.int .i64 0), .v (.int .u64 0)] 24 (0, 0)]
def hpR (k : Int) (x : IE) : SHeap := [SObj.cells [.v (.int .i64 k), .sym (.int .u64 x)] 24 (0, 0), SObj.cells [.v (.int .i64 k), .sym (.int .u64 (.var 10))] 24 (0, 0), SObj.cells [.v (.int .i64 0), .v (.int .u64 0)] 24 (0, 0)]
def knownS (op : Int) : List (Nat × SVal) := [(0, .v (.int .i64 op)), (4, .ptr 0 0), (5, .ptr 1 0), (6, .ptr 2 0), (7, .sym (.int .u64 (.var 11))), (8, .sym (.int .u64 (.var 12)))]
def psS : List Nat := [0, 4, 5, 6, 7, 8]
def stS (op : Int) (lim i : SVal) : List SVal := [.v (.int .i64 op), .ptr 0 0, .ptr 1 0, .ptr 2 0, lim, i]
def seeS (r : Option (SEx × Sx)) : Option (Nat × Nat × List SVal × SHeap × List Nat) := match r with
  | some (e, s) => some (viewE e, s.1.1.length, psS.map (getS s.1.1), s.1.2, s.2)
  | none => none
def goL (L : List CF) : List CF := ⟨.lss, .var 12, .var 11, true⟩ :: L
noncomputable def iterS (ρ : Nat → Int) (aR aS : Addr) (op k : Int) (L : List CF) (g : Nat → Value) : Option (SEx × Sx) := @runCode (E (wF 0) (cF 0) ρ (goL L) []) Tryz.prog (glob aR aS) (@call (E (wF 0) (cF 0) ρ (goL L) []) Tryz.prog (glob aR aS) noO 300 60) 300 none bSh ((frame 52 (knownS op) g, hpS k), [])
def limV : SVal := .sym (.int .u64 (.var 11))
def nxtV : SVal := .sym (.int .u64 (.bin .add .u64 (.var 12) (.lit 1)))
/-- A round: the facts that it asks and the bits that it leaves. -/
def Round (ρ : Nat → Int) (aR aS : Addr) (op k : Int) (L : List CF) (x : IE) : Prop := ∀ g, seeS (iterS ρ aR aS op k L g) = some (0, 52, stS op limV nxtV, hpR k x, [])
def xl1 : IE := .bin .and .u64 (.bin .mul .u64 (.lit 2) (.var 0)) (.lit 255)
theorem rl1 (ρ : Nat → Int) (aR aS : Addr) : Round ρ aR aS 16 1 [] xl1 := fun g => by kernel_rfl
def xr1 : IE := .bin .and .u64 (.bin .quo .u64 (.var 0) (.lit 2)) (.lit 255)
theorem rr1 (ρ : Nat → Int) (aR aS : Addr) : Round ρ aR aS 17 1 [] xr1 := fun g => by kernel_rfl
def xl2 : IE := .bin .and .u64 (.bin .mul .u64 (.lit 2) (.var 0)) (.lit 65535)
theorem rl2 (ρ : Nat → Int) (aR aS : Addr) : Round ρ aR aS 16 2 [] xl2 := fun g => by kernel_rfl
def xr2 : IE := .bin .and .u64 (.bin .quo .u64 (.var 0) (.lit 2)) (.lit 65535)
theorem rr2 (ρ : Nat → Int) (aR aS : Addr) : Round ρ aR aS 17 2 [] xr2 := fun g => by kernel_rfl
def xl3 : IE := .bin .and .u64 (.bin .mul .u64 (.lit 2) (.var 0)) (.lit 4294967295)
theorem rl3 (ρ : Nat → Int) (aR aS : Addr) : Round ρ aR aS 16 3 [] xl3 := fun g => by kernel_rfl
def xr3 : IE := .bin .and .u64 (.bin .quo .u64 (.var 0) (.lit 2)) (.lit 4294967295)
theorem rr3 (ρ : Nat → Int) (aR aS : Addr) : Round ρ aR aS 17 3 [] xr3 := fun g => by kernel_rfl
def xl4 : IE := .bin .and .u64 (.bin .mul .u64 (.lit 2) (.var 0)) (.lit 18446744073709551615)
theorem rl4 (ρ : Nat → Int) (aR aS : Addr) : Round ρ aR aS 16 4 [] xl4 := fun g => by kernel_rfl
def xr4 : IE := .bin .and .u64 (.bin .quo .u64 (.var 0) (.lit 2)) (.lit 18446744073709551615)
theorem rr4 (ρ : Nat → Int) (aR aS : Addr) : Round ρ aR aS 17 4 [] xr4 := fun g => by kernel_rfl
def xl5 : IE := .bin .and .u64 (.bin .mul .u64 (.lit 2) (.var 0)) (.lit 255)
theorem rl5 (ρ : Nat → Int) (aR aS : Addr) : Round ρ aR aS 16 5 [] xl5 := fun g => by kernel_rfl
def Lp5 : List CF := [⟨.gtr, (.var 0), (.lit 127), false⟩, ⟨.lss, (.bin .rem .i64 (.cv .i64 (.var 0)) (.lit 2)), (.lit 0), false⟩]
def xp5 : IE := .bin .and .u64 (.cv .u64 (.bin .quo .i64 (.cv .i64 (.var 0)) (.lit 2))) (.lit 255)
theorem rp5 (ρ : Nat → Int) (aR aS : Addr) : Round ρ aR aS 17 5 Lp5 xp5 := fun g => by kernel_rfl
def Le5 : List CF := [⟨.gtr, (.var 0), (.lit 127), true⟩, ⟨.lss, (.bin .rem .i64 (.cv .i64 (.bin .or .u64 (.var 0) (.lit 18446744073709551360))) (.lit 2)), (.lit 0), false⟩]
def xe5 : IE := .bin .and .u64 (.cv .u64 (.bin .quo .i64 (.cv .i64 (.bin .or .u64 (.var 0) (.lit 18446744073709551360))) (.lit 2))) (.lit 255)
theorem re5 (ρ : Nat → Int) (aR aS : Addr) : Round ρ aR aS 17 5 Le5 xe5 := fun g => by kernel_rfl
def Lo5 : List CF := [⟨.gtr, (.var 0), (.lit 127), true⟩, ⟨.lss, (.bin .rem .i64 (.cv .i64 (.bin .or .u64 (.var 0) (.lit 18446744073709551360))) (.lit 2)), (.lit 0), true⟩]
def xo5 : IE := .bin .and .u64 (.cv .u64 (.bin .sub .i64 (.bin .quo .i64 (.cv .i64 (.bin .or .u64 (.var 0) (.lit 18446744073709551360))) (.lit 2)) (.lit 1))) (.lit 255)
theorem ro5 (ρ : Nat → Int) (aR aS : Addr) : Round ρ aR aS 17 5 Lo5 xo5 := fun g => by kernel_rfl
def xl6 : IE := .bin .and .u64 (.bin .mul .u64 (.lit 2) (.var 0)) (.lit 65535)
theorem rl6 (ρ : Nat → Int) (aR aS : Addr) : Round ρ aR aS 16 6 [] xl6 := fun g => by kernel_rfl
def Lp6 : List CF := [⟨.gtr, (.var 0), (.lit 32767), false⟩, ⟨.lss, (.bin .rem .i64 (.cv .i64 (.var 0)) (.lit 2)), (.lit 0), false⟩]
def xp6 : IE := .bin .and .u64 (.cv .u64 (.bin .quo .i64 (.cv .i64 (.var 0)) (.lit 2))) (.lit 65535)
theorem rp6 (ρ : Nat → Int) (aR aS : Addr) : Round ρ aR aS 17 6 Lp6 xp6 := fun g => by kernel_rfl
def Le6 : List CF := [⟨.gtr, (.var 0), (.lit 32767), true⟩, ⟨.lss, (.bin .rem .i64 (.cv .i64 (.bin .or .u64 (.var 0) (.lit 18446744073709486080))) (.lit 2)), (.lit 0), false⟩]
def xe6 : IE := .bin .and .u64 (.cv .u64 (.bin .quo .i64 (.cv .i64 (.bin .or .u64 (.var 0) (.lit 18446744073709486080))) (.lit 2))) (.lit 65535)
theorem re6 (ρ : Nat → Int) (aR aS : Addr) : Round ρ aR aS 17 6 Le6 xe6 := fun g => by kernel_rfl
def Lo6 : List CF := [⟨.gtr, (.var 0), (.lit 32767), true⟩, ⟨.lss, (.bin .rem .i64 (.cv .i64 (.bin .or .u64 (.var 0) (.lit 18446744073709486080))) (.lit 2)), (.lit 0), true⟩]
def xo6 : IE := .bin .and .u64 (.cv .u64 (.bin .sub .i64 (.bin .quo .i64 (.cv .i64 (.bin .or .u64 (.var 0) (.lit 18446744073709486080))) (.lit 2)) (.lit 1))) (.lit 65535)
theorem ro6 (ρ : Nat → Int) (aR aS : Addr) : Round ρ aR aS 17 6 Lo6 xo6 := fun g => by kernel_rfl
def xl7 : IE := .bin .and .u64 (.bin .mul .u64 (.lit 2) (.var 0)) (.lit 4294967295)
theorem rl7 (ρ : Nat → Int) (aR aS : Addr) : Round ρ aR aS 16 7 [] xl7 := fun g => by kernel_rfl
def Lp7 : List CF := [⟨.gtr, (.var 0), (.lit 2147483647), false⟩, ⟨.lss, (.bin .rem .i64 (.cv .i64 (.var 0)) (.lit 2)), (.lit 0), false⟩]
def xp7 : IE := .bin .and .u64 (.cv .u64 (.bin .quo .i64 (.cv .i64 (.var 0)) (.lit 2))) (.lit 4294967295)
theorem rp7 (ρ : Nat → Int) (aR aS : Addr) : Round ρ aR aS 17 7 Lp7 xp7 := fun g => by kernel_rfl
def Le7 : List CF := [⟨.gtr, (.var 0), (.lit 2147483647), true⟩, ⟨.lss, (.bin .rem .i64 (.cv .i64 (.bin .or .u64 (.var 0) (.lit 18446744069414584320))) (.lit 2)), (.lit 0), false⟩]
def xe7 : IE := .bin .and .u64 (.cv .u64 (.bin .quo .i64 (.cv .i64 (.bin .or .u64 (.var 0) (.lit 18446744069414584320))) (.lit 2))) (.lit 4294967295)
theorem re7 (ρ : Nat → Int) (aR aS : Addr) : Round ρ aR aS 17 7 Le7 xe7 := fun g => by kernel_rfl
def Lo7 : List CF := [⟨.gtr, (.var 0), (.lit 2147483647), true⟩, ⟨.lss, (.bin .rem .i64 (.cv .i64 (.bin .or .u64 (.var 0) (.lit 18446744069414584320))) (.lit 2)), (.lit 0), true⟩]
def xo7 : IE := .bin .and .u64 (.cv .u64 (.bin .sub .i64 (.bin .quo .i64 (.cv .i64 (.bin .or .u64 (.var 0) (.lit 18446744069414584320))) (.lit 2)) (.lit 1))) (.lit 4294967295)
theorem ro7 (ρ : Nat → Int) (aR aS : Addr) : Round ρ aR aS 17 7 Lo7 xo7 := fun g => by kernel_rfl
def xl8 : IE := .bin .and .u64 (.bin .mul .u64 (.lit 2) (.var 0)) (.lit 18446744073709551615)
theorem rl8 (ρ : Nat → Int) (aR aS : Addr) : Round ρ aR aS 16 8 [] xl8 := fun g => by kernel_rfl
def Lp8 : List CF := [⟨.gtr, (.var 0), (.lit 9223372036854775807), false⟩, ⟨.lss, (.bin .rem .i64 (.cv .i64 (.var 0)) (.lit 2)), (.lit 0), false⟩]
def xp8 : IE := .bin .and .u64 (.cv .u64 (.bin .quo .i64 (.cv .i64 (.var 0)) (.lit 2))) (.lit 18446744073709551615)
theorem rp8 (ρ : Nat → Int) (aR aS : Addr) : Round ρ aR aS 17 8 Lp8 xp8 := fun g => by kernel_rfl
def Le8 : List CF := [⟨.gtr, (.var 0), (.lit 9223372036854775807), true⟩, ⟨.lss, (.bin .rem .i64 (.cv .i64 (.bin .or .u64 (.var 0) (.lit 0))) (.lit 2)), (.lit 0), false⟩]
def xe8 : IE := .bin .and .u64 (.cv .u64 (.bin .quo .i64 (.cv .i64 (.bin .or .u64 (.var 0) (.lit 0))) (.lit 2))) (.lit 18446744073709551615)
theorem re8 (ρ : Nat → Int) (aR aS : Addr) : Round ρ aR aS 17 8 Le8 xe8 := fun g => by kernel_rfl
def Lo8 : List CF := [⟨.gtr, (.var 0), (.lit 9223372036854775807), true⟩, ⟨.lss, (.bin .rem .i64 (.cv .i64 (.bin .or .u64 (.var 0) (.lit 0))) (.lit 2)), (.lit 0), true⟩]
def xo8 : IE := .bin .and .u64 (.cv .u64 (.bin .sub .i64 (.bin .quo .i64 (.cv .i64 (.bin .or .u64 (.var 0) (.lit 0))) (.lit 2)) (.lit 1))) (.lit 18446744073709551615)
theorem ro8 (ρ : Nat → Int) (aR aS : Addr) : Round ρ aR aS 17 8 Lo8 xo8 := fun g => by kernel_rfl
end
end Go.Proofs.YtonkcpmefnddaaaGreatDoor

namespace Go.Proofs.YtonkcpmefnddaaaGreatDoor
noncomputable section
open Go Go.RX
open Go.RowKit (Below)
set_option maxRecDepth 1000000
set_option maxHeartbeats 4000000

/-! ### The loop of ref.shifted, with cells on the heap -/
noncomputable abbrev fSh : Func := Tryz.f100
theorem seeS_some {r : Option (SEx × Sx)} {n len : Nat} {l : List SVal} {H : SHeap} {d : List Nat} (h : seeS r = some (n, len, l, H, d)) : ∃ e s, r = some (e, s) ∧ viewE e = n ∧ s.1.1.length = len ∧ psS.map (getS s.1.1) = l ∧ s.1.2 = H ∧ s.2 = d := by
  unfold seeS at h
  split at h
  · rename_i e s
    simp only [Option.some.injEq, Prod.mk.injEq] at h
    exact ⟨e, s, rfl, h.1, h.2.1, h.2.2.1, h.2.2.2.1, h.2.2.2.2⟩
  · cases h
def stopL : List CF := [⟨.lss, .var 12, .var 11, false⟩]
noncomputable def exitS (ρ : Nat → Int) (aR aS : Addr) (op k : Int) (g : Nat → Value) : Option (SEx × Sx) := @runCode (E (wF 0) (cF 0) ρ stopL []) Tryz.prog (glob aR aS) (@call (E (wF 0) (cF 0) ρ stopL []) Tryz.prog (glob aR aS) noO 300 60) 300 none bSh ((frame 52 (knownS op) g, hpS k), [])
noncomputable def endS (ρ : Nat → Int) (aR aS : Addr) (r : Option (SEx × Sx)) : Option (Nat × List Nat × Option (Nat × List Nat × Option (List SVal))) :=
  match r with
  | none => none
  | some (e, s) => some (viewE e, s.2, match @back (E (wF 0) (cF 0) ρ stopL []) Tryz.prog (glob aR aS) (@call (E (wF 0) (cF 0) ρ stopL []) Tryz.prog (glob aR aS) noO 300 60) 300 cSh e s with
    | none => none
    | some (e2, s2) => some (viewE e2, s2.2, resE Tryz.prog (glob aR aS) s2.1.1 s2.1.2 fSh.results.toList))
def ks : List Int := [1, 2, 3, 4, 5, 6, 7, 8]
theorem exit_l (ρ : Nat → Int) (aR aS : Addr) (g : Nat → Value) : ks.map (fun k => endS ρ aR aS (exitS ρ aR aS 16 k g)) = ks.map fun k => some (2, [], some (1, [], some [.agg [.v (.int .i64 k), .sym (.int .u64 (.var 0))]])) := by kernel_rfl
theorem exit_r (ρ : Nat → Int) (aR aS : Addr) (g : Nat → Value) : ks.map (fun k => endS ρ aR aS (exitS ρ aR aS 17 k g)) = ks.map fun k => some (2, [], some (1, [], some [.agg [.v (.int .i64 k), .sym (.int .u64 (.var 0))]])) := by kernel_rfl
def bigL (r : Bool) : List CF := [⟨.gtr, .var 10, .lit 64, r⟩]
noncomputable def frontS (ρ : Nat → Int) (aR aS : Addr) (op k : Int) (r : Bool) : Option Sx := @front (E (wF 0) (cF 0) ρ (bigL r) []) Tryz.prog (glob aR aS) (@call (E (wF 0) (cF 0) ρ (bigL r) []) Tryz.prog (glob aR aS) noO 300 60) 300 cSh (([.v (.int .i64 op), ag0 k, ag1 k] ++ List.replicate (52 - 3) (.v undef), []), [])
def frS (r : Option Sx) : Option (Nat × Nat × List SVal × SHeap × List Nat) := seeS (match r with | some s => some (SEx.normal, s) | none => none)
def limR (r : Bool) : SVal := if r then .v (.int .u64 64) else .sym (.int .u64 (.var 10))
theorem front_l (ρ : Nat → Int) (aR aS : Addr) : ks.map (fun k => [true, false].map fun r => frS (frontS ρ aR aS 16 k r)) = ks.map fun k => [true, false].map fun r => some (0, 52, stS 16 (limR r) (.v (.int .u64 0)), hpS k, []) := by kernel_rfl
theorem front_r (ρ : Nat → Int) (aR aS : Addr) : ks.map (fun k => [true, false].map fun r => frS (frontS ρ aR aS 17 k r)) = ks.map fun k => [true, false].map fun r => some (0, 52, stS 17 (limR r) (.v (.int .u64 0)), hpS k, []) := by kernel_rfl
theorem exitAll (ρ : Nat → Int) (aR aS : Addr) (g : Nat → Value) {op k : Int} (ho : op = 16 ∨ op = 17) (hk : k ∈ ks) : endS ρ aR aS (exitS ρ aR aS op k g) = some (2, [], some (1, [], some [.agg [.v (.int .i64 k), .sym (.int .u64 (.var 0))]])) := by
  rcases ho with rfl | rfl
  · exact List.map_inj_left.1 (exit_l ρ aR aS g) k hk
  · exact List.map_inj_left.1 (exit_r ρ aR aS g) k hk
theorem frontAll (ρ : Nat → Int) (aR aS : Addr) {op k : Int} (ho : op = 16 ∨ op = 17) (hk : k ∈ ks) (r : Bool) : frS (frontS ρ aR aS op k r) = some (0, 52, stS op (limR r) (.v (.int .u64 0)), hpS k, []) := by
  have hr : r ∈ [true, false] := by cases r <;> simp
  rcases ho with rfl | rfl
  · exact List.map_inj_left.1 (List.map_inj_left.1 (front_l ρ aR aS) k hk) r hr
  · exact List.map_inj_left.1 (List.map_inj_left.1 (front_r ρ aR aS) k hk) r hr

/-- What has to be known of the rounds: X i are the bits after i of them. -/
def Steps (aR aS : Addr) (op k b2 : Int) (lim : Nat) (X : Nat → Int) : Prop := ∀ i, i < lim → ∃ (L : List CF) (x : IE), Round (rs (X i) b2 lim i) aR aS op k L x ∧ (∀ f ∈ L, f.ok (rs (X i) b2 lim i)) ∧ x.ev (rs (X i) b2 lim i) = X (i + 1)
abbrev ES (X : Nat → Int) (b2 : Int) (lim i : Nat) : Env := E (wF 0) (cF 0) (rs (X i) b2 lim i) [] []
def InvS (w : World) (op k b2 : Int) (lim : Nat) (X : Nat → Int) (m : Nat) (a : Act) (v : World) : Prop := ∃ (i : Nat) (ρ' : Ren), m = lim - i ∧ i ≤ lim ∧ a.tmps.toList.length = 52 ∧ @Acts (ES X b2 lim i) [] w ρ' (frame 52 (knownS op) fun j => a.tmps.toList.getD j undef) (hpS k) a v

/-- From what is told of an outcome to the next round's beginning. -/
theorem inv_of {w v : World} {op k b2 : Int} {lim j : Nat} {X : Nat → Int} {e1 : Env} {ρ' : Ren} {dl : List Deferred} {t : List SVal} {H : SHeap} {a : Act} {lv iv : SVal} {x0 : SVal} (hA : @Acts e1 dl w ρ' t H a v) (hdl : dl = []) (hl : t.length = 52) (hp : psS.map (getS t) = stS op lv iv) (hj : j ≤ lim)
    (hlv : @den e1 ρ' lv = some (.int .u64 lim)) (hiv : @den e1 ρ' iv = some (.int .u64 j))
    (hH : H = [SObj.cells [.v (.int .i64 k), x0] 24 (0, 0), SObj.cells [.v (.int .i64 k), .sym (.int .u64 (.var 10))] 24 (0, 0), SObj.cells [.v (.int .i64 0), .v (.int .u64 0)] 24 (0, 0)])
    (hx : @den e1 ρ' x0 = some (.int .u64 (X j))) (h10 : @den e1 ρ' (.sym (.int .u64 (.var 10))) = some (.int .u64 b2)) : InvS w op k b2 lim X (lim - j) a v := by
  subst hdl hH
  have hlen : a.tmps.toList.length = 52 := by
    rw [← hl]
    exact @denL_length e1 ρ' t _ (@Acts.tmps e1 _ _ _ _ _ _ _ hA)
  have hT := @Acts.tmps e1 _ _ _ _ _ _ _ hA
  simp only [psS, stS, List.map_cons, List.map_nil, List.cons.injEq, and_true] at hp
  obtain ⟨p0, p4, p5, p6, p7, p8⟩ := hp
  have td : ∀ i, i < 52 → @den e1 ρ' (getS t i) = some (a.tmps.toList.getD i undef) := fun i hi => tmp_den hT (by omega)
  refine ⟨j, ρ', rfl, hj, hlen, acts_frame hA hlen (fun p hp => ?_) (fun i o ho => ?_)⟩
  · simp only [knownS, List.mem_cons, List.not_mem_nil, or_false] at hp
    rcases hp with rfl | rfl | rfl | rfl | rfl | rfl
    · rw [← td 0 (by omega), p0]; rfl
    · rw [← td 4 (by omega), p4]; rfl
    · rw [← td 5 (by omega), p5]; rfl
    · rw [← td 6 (by omega), p6]; rfl
    · rw [← td 7 (by omega), p7, hlv]; rfl
    · rw [← td 8 (by omega), p8, hiv]; rfl
  · match i, ho with
    | 0, ho =>
      cases ho
      refine ⟨_, _, _, _, rfl, rfl, ?_⟩
      have : @denL e1 ρ' [.v (.int .i64 k), x0] = some [.int .i64 k, .int .u64 (X j)] := by
        simp only [denL, den, hx]
      rw [this]
      rfl
    | 1, ho =>
      cases ho
      refine ⟨_, _, _, _, rfl, rfl, ?_⟩
      have : @denL e1 ρ' [.v (.int .i64 k), .sym (.int .u64 (.var 10))] = some [.int .i64 k, .int .u64 b2] := by
        simp only [denL, h10]
        rfl
      rw [this]
      rfl
    | 2, ho =>
      cases ho
      exact ⟨_, _, _, _, rfl, rfl, rfl⟩
    | n + 3, ho => cases ho

theorem step_Sh (aR aS : Addr) {op k b2 : Int} (ho : op = 16 ∨ op = 17) (hk : k ∈ ks) {lim : Nat} (hlim : lim ≤ 64) {X : Nat → Int} (hX : Steps aR aS op k b2 lim X) (w : World) (hG : (glob aR aS).holds w) (m : Nat) (a : Act) (v : World) (h : InvS w op k b2 lim X m a v) :
    bSh.wpIn Fence.wide 0 Tryz.prog (Exit.then (fun a' w' => ∃ m', m' < m ∧ InvS w op k b2 lim X m' a' w') (after Tryz.prog cSh (bodyPostM Fence.wide 0 Tryz.prog fSh (Ret (agV k (X lim)) w)))) a v := by
  obtain ⟨i, ρ', hm, hi, hlen, hA⟩ := h
  rcases Nat.lt_or_ge i lim with hlt | hge
  · obtain ⟨L, x, hR, hL, hx⟩ := hX i hlt
    have hL' : ∀ f ∈ goL L, f.ok (rs (X i) b2 lim i) := fun f hf => by
      rcases List.mem_cons.1 hf with rfl | hf
      · exact ⟨rfl, decide_eq_true (show (i : Int) < lim by omega)⟩
      · exact hL f hf
    have hN := namesE (W := wF 0) (C := cF 0) (T := []) hL' (fun _ h => by cases h)
    have hcf := @call_ok' (E (wF 0) (cF 0) (rs (X i) b2 lim i) (goL L) []) Tryz.prog (glob aR aS) noO (@noO_holds (E (wF 0) (cF 0) (rs (X i) b2 lim i) (goL L) []) _ _) hN mixed 300 60
    obtain ⟨e, s, hrun, he, hl, hp, hH, hd⟩ := seeS_some (hR fun j => a.tmps.toList.getD j undef)
    obtain rfl := viewE_0 he
    have hA1 : @Acts (E (wF 0) (cF 0) (rs (X i) b2 lim i) (goL L) []) [] w ρ' (frame 52 (knownS op) fun j => a.tmps.toList.getD j undef) (hpS k) a v := acts_env hA (denL_val (fun _ => rfl) _ _) (fun j o ho => by
      match j, ho with
      | 0, ho => cases ho; exact ⟨_, _, _, _, rfl, rfl, rfl⟩
      | 1, ho => cases ho; exact ⟨_, _, _, _, rfl, rfl, rfl⟩
      | 2, ho => cases ho; exact ⟨_, _, _, _, rfl, rfl, rfl⟩
      | n + 3, ho => cases ho)
    obtain ⟨l1, k1⟩ := @runCode_ok (E (wF 0) (cF 0) (rs (X i) b2 lim i) (goL L) []) Tryz.prog (glob aR aS) _ hcf hN mixed 300 none bSh _ _ _ hrun
    refine k1 (F := Fence.wide) (dl := []) rfl rfl hG hA1 fun ρ2 dl2 a2 w2 _ hM2 hA2 => ?_
    show ∃ m', m' < m ∧ InvS w op k b2 lim X m' a2 w2
    refine ⟨lim - (i + 1), by omega, inv_of (x0 := .sym (.int .u64 x)) hA2 (mk_nil hM2 hd) hl hp (by omega) rfl ?_ hH ?_ rfl⟩
    · show some (Value.int .u64 (IntKind.wrap .u64 ((i : Int) + 1))) = _
      rw [wrap64_id _ (by omega) (by omega)]
      rfl
    · show some (Value.int .u64 (x.ev _)) = _
      rw [hx]
  · obtain rfl : i = lim := by omega
    have hL' : ∀ f ∈ stopL, f.ok (rs (X i) b2 i i) := fun f hf => by
      obtain rfl := List.mem_singleton.1 hf
      exact ⟨rfl, decide_eq_false (show ¬ (i : Int) < i by omega)⟩
    have hN := namesE (W := wF 0) (C := cF 0) (T := []) hL' (fun _ h => by cases h)
    have hcf := @call_ok' (E (wF 0) (cF 0) (rs (X i) b2 i i) stopL []) Tryz.prog (glob aR aS) noO (@noO_holds (E (wF 0) (cF 0) (rs (X i) b2 i i) stopL []) _ _) hN mixed 300 60
    have hA1 : @Acts (E (wF 0) (cF 0) (rs (X i) b2 i i) stopL []) [] w ρ' (frame 52 (knownS op) fun j => a.tmps.toList.getD j undef) (hpS k) a v := acts_env hA (denL_val (fun _ => rfl) _ _) (fun j o ho => by
      match j, ho with
      | 0, ho => cases ho; exact ⟨_, _, _, _, rfl, rfl, rfl⟩
      | 1, ho => cases ho; exact ⟨_, _, _, _, rfl, rfl, rfl⟩
      | 2, ho => cases ho; exact ⟨_, _, _, _, rfl, rfl, rfl⟩
      | n + 3, ho => cases ho)
    have hx := exitAll (rs (X i) b2 i i) aR aS (fun j => a.tmps.toList.getD j undef) ho hk
    cases hr : exitS (rs (X i) b2 i i) aR aS op k (fun j => a.tmps.toList.getD j undef) with
    | none => rw [hr] at hx; cases hx
    | some r =>
      obtain ⟨e, s⟩ := r
      rw [hr] at hx
      simp only [endS] at hx
      split at hx
      · simp at hx
      · rename_i e2 s2 hb2
        simp only [Option.some.injEq, Prod.mk.injEq] at hx
        obtain ⟨x1, x2, x3, x4, x5⟩ := hx
        obtain rfl := viewE_2 (n := 0) x1
        obtain rfl := viewE_1 x3
        obtain ⟨l1, k1⟩ := @runCode_ok (E (wF 0) (cF 0) (rs (X i) b2 i i) stopL []) Tryz.prog (glob aR aS) _ hcf hN mixed 300 none bSh _ _ _ hr
        refine k1 (F := Fence.wide) (dl := []) rfl rfl hG hA1 fun ρ2 dl2 a2 w2 _ hM2 hA2 => ?_
        refine @back_ok (E (wF 0) (cF 0) (rs (X i) b2 i i) stopL []) Tryz.prog (glob aR aS) _ hcf hN mixed 300 cSh (.exit 0) s .ret s2 hb2 _ _ _ _ _ hM2 hG hA2 _ fun ρ3 dl3 a3 w3 hM3 hA3 => ?_
        refine @end_wp (E (wF 0) (cF 0) (rs (X i) b2 i i) stopL []) Tryz.prog (glob aR aS) fSh _ ρ3 dl3 w w3 s2 a3 hG hM3 x4 hA3 .ret (.inr rfl) _ x5 fun u w4 hu hB3 => ?_
        have : some (agV k (X i)) = some u := hu
        obtain rfl := Option.some.inj this
        exact ⟨rfl, hB3⟩

/-- **ref.shifted, by its rounds.** -/
theorem shifted_of (aR aS : Addr) {op k b2 : Int} (ho : op = 16 ∨ op = 17) (hk : k ∈ ks) (b0 : 0 ≤ b2) {lim : Nat} (hlim : (lim : Int) = if b2 > 64 then 64 else b2) {X : Nat → Int} (hX : Steps aR aS op k b2 lim X) (w : World) (hG : (glob aR aS).holds w) :
    Calls Tryz.prog 100 #[.int .i64 op, agV k (X 0), agV k b2] w (Ret (agV k (X lim)) w) := by
  have hl64 : lim ≤ 64 := by split at hlim <;> omega
  have hL : ∀ f ∈ bigL (decide (b2 > 64)), f.ok (rs (X 0) b2 lim 0) := fun f hf => by
    obtain rfl := List.mem_singleton.1 hf
    exact ⟨rfl, rfl⟩
  have hN := namesE (W := wF 0) (C := cF 0) (T := []) hL (fun _ h => by cases h)
  have hcf := @call_ok' (E (wF 0) (cF 0) (rs (X 0) b2 lim 0) (bigL (decide (b2 > 64))) []) Tryz.prog (glob aR aS) noO (@noO_holds (E (wF 0) (cF 0) (rs (X 0) b2 lim 0) (bigL (decide (b2 > 64))) []) _ _) hN mixed 300 60
  have hx := frontAll (rs (X 0) b2 lim 0) aR aS ho hk (decide (b2 > 64))
  cases hfr : frontS (rs (X 0) b2 lim 0) aR aS op k (decide (b2 > 64)) with
  | none => rw [hfr] at hx; simp [frS, seeS] at hx
  | some s =>
    rw [hfr] at hx
    obtain ⟨e, s', y0, y1, hl, hp, hH, hd⟩ := seeS_some hx
    simp only [Option.some.injEq, Prod.mk.injEq] at y0
    obtain ⟨_, rfl⟩ := y0
    refine @calls_loop (E (wF 0) (cF 0) (rs (X 0) b2 lim 0) (bigL (decide (b2 > 64))) []) Tryz.prog (glob aR aS) _ hcf hN mixed 300 100 fSh cSh bSh Tryz.func100 body_Sh loop_Sh [.v (.int .i64 op), ag0 k, ag1 k] #[.int .i64 op, agV k (X 0), agV k b2] w _ hG rfl _ hfr fun ρ' dl' a' w' hM hA => ?_
    refine loop_wp (InvS w op k b2 lim X) (fun m a v h => step_Sh aR aS ho hk hl64 hX w hG m a v h) (k := lim - 0) (inv_of (j := 0) (x0 := .sym (.int .u64 (.var 0))) hA (mk_nil hM hd) hl hp (by omega) ?_ rfl hH rfl rfl)
    by_cases hb : b2 > 64
    · rw [if_pos hb] at hlim
      simp only [hb, decide_true, limR, if_true]
      show some (Value.int .u64 64) = _
      rw [hlim]
    · rw [if_neg hb] at hlim
      simp only [hb, decide_false, limR, Bool.false_eq_true, if_false]
      show some (Value.int .u64 b2) = _
      rw [hlim]
end
end Go.Proofs.YtonkcpmefnddaaaGreatDoor

namespace Go.Proofs.YtonkcpmefnddaaaGreatDoor
noncomputable section
open Go Go.RX
open Go.RowKit (Below)
set_option maxRecDepth 1000000
set_option maxHeartbeats 4000000
theorem pow_next (b : Int) (i : Nat) : b * 2 ^ (i + 1) = 2 * (b * 2 ^ i) := by
  rw [Int.pow_succ, ← Int.mul_assoc, Int.mul_comm]
theorem div_next (b : Int) (i : Nat) : b / 2 ^ (i + 1) = b / 2 ^ i / 2 := by
  rw [Int.pow_succ, Int.ediv_ediv_of_nonneg (Int.le_of_lt (Int.pow_pos (by decide)))]
theorem div_low (n : Int) (i : Nat) {a c : Int} (ha : a ≤ 0) (hc : 0 < c) (h0 : a ≤ n) (h1 : n < c) : a ≤ n / 2 ^ i ∧ n / 2 ^ i < c := by
  induction i with
  | zero =>
    rw [Int.pow_zero, Int.ediv_one]
    exact ⟨h0, h1⟩
  | succ i ih =>
    rw [div_next]
    omega
/-- The limit of the rounds. -/
def limOf (b2 : Int) : Nat := if b2 > 64 then 64 else b2.toNat
theorem limOf_ok {b2 : Int} (h : 0 ≤ b2) : (limOf b2 : Int) = if b2 > 64 then 64 else b2 := by
  unfold limOf
  split <;> omega
theorem sl_1 (aR aS : Addr) {b b2 : Int} (h0 : 0 ≤ b2) (b0 : 0 ≤ b) (b1 : b < 256) (w : World) (hG : (glob aR aS).holds w) : Calls Tryz.prog 100 #[.int .i64 16, agV 1 b, agV 1 b2] w (Ret (agV 1 (b * 2 ^ limOf b2 % 256)) w) := by
  have hX : Steps aR aS 16 1 b2 (limOf b2) (fun i => b * 2 ^ i % 256) := fun i _ => ⟨[], xl1, rl1 _ aR aS, (fun _ h => by cases h), by
    show binI .and .u64 (IntKind.wrap .u64 (2 * (b * 2 ^ i % 256))) 255 = b * 2 ^ (i + 1) % 256
    rw [pow_next, wrap_u64, and_u64_8 _ (by omega) (by omega)]
    omega⟩
  have h := shifted_of aR aS (.inl rfl) (by decide) h0 (limOf_ok h0) hX w hG
  have e : b * 2 ^ 0 % 256 = b := by
    rw [Int.pow_zero]
    omega
  rw [e] at h
  exact h
theorem sr_1 (aR aS : Addr) {b b2 : Int} (h0 : 0 ≤ b2) (b0 : 0 ≤ b) (b1 : b < 256) (w : World) (hG : (glob aR aS).holds w) : Calls Tryz.prog 100 #[.int .i64 17, agV 1 b, agV 1 b2] w (Ret (agV 1 (b / 2 ^ limOf b2)) w) := by
  have hX : Steps aR aS 17 1 b2 (limOf b2) (fun i => b / 2 ^ i) := fun i _ => ⟨[], xr1, rr1 _ aR aS, (fun _ h => by cases h), by
    show binI .and .u64 (IntKind.wrap .u64 ((b / 2 ^ i).tdiv 2)) 255 = b / 2 ^ (i + 1)
    have hb := div_low b i (a := 0) (by decide) (by omega) b0 b1
    rw [div_next, Int.tdiv_eq_ediv_of_nonneg hb.1, wrap_u64, and_u64_8 _ (by omega) (by omega)]
    omega⟩
  have h := shifted_of aR aS (.inr rfl) (by decide) h0 (limOf_ok h0) hX w hG
  have e : b / 2 ^ 0 = b := by rw [Int.pow_zero, Int.ediv_one]
  rw [e] at h
  exact h
theorem sl_2 (aR aS : Addr) {b b2 : Int} (h0 : 0 ≤ b2) (b0 : 0 ≤ b) (b1 : b < 65536) (w : World) (hG : (glob aR aS).holds w) : Calls Tryz.prog 100 #[.int .i64 16, agV 2 b, agV 2 b2] w (Ret (agV 2 (b * 2 ^ limOf b2 % 65536)) w) := by
  have hX : Steps aR aS 16 2 b2 (limOf b2) (fun i => b * 2 ^ i % 65536) := fun i _ => ⟨[], xl2, rl2 _ aR aS, (fun _ h => by cases h), by
    show binI .and .u64 (IntKind.wrap .u64 (2 * (b * 2 ^ i % 65536))) 65535 = b * 2 ^ (i + 1) % 65536
    rw [pow_next, wrap_u64, and_u64_16 _ (by omega) (by omega)]
    omega⟩
  have h := shifted_of aR aS (.inl rfl) (by decide) h0 (limOf_ok h0) hX w hG
  have e : b * 2 ^ 0 % 65536 = b := by
    rw [Int.pow_zero]
    omega
  rw [e] at h
  exact h
theorem sr_2 (aR aS : Addr) {b b2 : Int} (h0 : 0 ≤ b2) (b0 : 0 ≤ b) (b1 : b < 65536) (w : World) (hG : (glob aR aS).holds w) : Calls Tryz.prog 100 #[.int .i64 17, agV 2 b, agV 2 b2] w (Ret (agV 2 (b / 2 ^ limOf b2)) w) := by
  have hX : Steps aR aS 17 2 b2 (limOf b2) (fun i => b / 2 ^ i) := fun i _ => ⟨[], xr2, rr2 _ aR aS, (fun _ h => by cases h), by
    show binI .and .u64 (IntKind.wrap .u64 ((b / 2 ^ i).tdiv 2)) 65535 = b / 2 ^ (i + 1)
    have hb := div_low b i (a := 0) (by decide) (by omega) b0 b1
    rw [div_next, Int.tdiv_eq_ediv_of_nonneg hb.1, wrap_u64, and_u64_16 _ (by omega) (by omega)]
    omega⟩
  have h := shifted_of aR aS (.inr rfl) (by decide) h0 (limOf_ok h0) hX w hG
  have e : b / 2 ^ 0 = b := by rw [Int.pow_zero, Int.ediv_one]
  rw [e] at h
  exact h
theorem sl_3 (aR aS : Addr) {b b2 : Int} (h0 : 0 ≤ b2) (b0 : 0 ≤ b) (b1 : b < 4294967296) (w : World) (hG : (glob aR aS).holds w) : Calls Tryz.prog 100 #[.int .i64 16, agV 3 b, agV 3 b2] w (Ret (agV 3 (b * 2 ^ limOf b2 % 4294967296)) w) := by
  have hX : Steps aR aS 16 3 b2 (limOf b2) (fun i => b * 2 ^ i % 4294967296) := fun i _ => ⟨[], xl3, rl3 _ aR aS, (fun _ h => by cases h), by
    show binI .and .u64 (IntKind.wrap .u64 (2 * (b * 2 ^ i % 4294967296))) 4294967295 = b * 2 ^ (i + 1) % 4294967296
    rw [pow_next, wrap_u64, and_u64_32 _ (by omega) (by omega)]
    omega⟩
  have h := shifted_of aR aS (.inl rfl) (by decide) h0 (limOf_ok h0) hX w hG
  have e : b * 2 ^ 0 % 4294967296 = b := by
    rw [Int.pow_zero]
    omega
  rw [e] at h
  exact h
theorem sr_3 (aR aS : Addr) {b b2 : Int} (h0 : 0 ≤ b2) (b0 : 0 ≤ b) (b1 : b < 4294967296) (w : World) (hG : (glob aR aS).holds w) : Calls Tryz.prog 100 #[.int .i64 17, agV 3 b, agV 3 b2] w (Ret (agV 3 (b / 2 ^ limOf b2)) w) := by
  have hX : Steps aR aS 17 3 b2 (limOf b2) (fun i => b / 2 ^ i) := fun i _ => ⟨[], xr3, rr3 _ aR aS, (fun _ h => by cases h), by
    show binI .and .u64 (IntKind.wrap .u64 ((b / 2 ^ i).tdiv 2)) 4294967295 = b / 2 ^ (i + 1)
    have hb := div_low b i (a := 0) (by decide) (by omega) b0 b1
    rw [div_next, Int.tdiv_eq_ediv_of_nonneg hb.1, wrap_u64, and_u64_32 _ (by omega) (by omega)]
    omega⟩
  have h := shifted_of aR aS (.inr rfl) (by decide) h0 (limOf_ok h0) hX w hG
  have e : b / 2 ^ 0 = b := by rw [Int.pow_zero, Int.ediv_one]
  rw [e] at h
  exact h
theorem sl_4 (aR aS : Addr) {b b2 : Int} (h0 : 0 ≤ b2) (b0 : 0 ≤ b) (b1 : b < 18446744073709551616) (w : World) (hG : (glob aR aS).holds w) : Calls Tryz.prog 100 #[.int .i64 16, agV 4 b, agV 4 b2] w (Ret (agV 4 (b * 2 ^ limOf b2 % 18446744073709551616)) w) := by
  have hX : Steps aR aS 16 4 b2 (limOf b2) (fun i => b * 2 ^ i % 18446744073709551616) := fun i _ => ⟨[], xl4, rl4 _ aR aS, (fun _ h => by cases h), by
    show binI .and .u64 (IntKind.wrap .u64 (2 * (b * 2 ^ i % 18446744073709551616))) 18446744073709551615 = b * 2 ^ (i + 1) % 18446744073709551616
    rw [pow_next, wrap_u64, and_u64_64 _ (by omega) (by omega)]
    omega⟩
  have h := shifted_of aR aS (.inl rfl) (by decide) h0 (limOf_ok h0) hX w hG
  have e : b * 2 ^ 0 % 18446744073709551616 = b := by
    rw [Int.pow_zero]
    omega
  rw [e] at h
  exact h
theorem sr_4 (aR aS : Addr) {b b2 : Int} (h0 : 0 ≤ b2) (b0 : 0 ≤ b) (b1 : b < 18446744073709551616) (w : World) (hG : (glob aR aS).holds w) : Calls Tryz.prog 100 #[.int .i64 17, agV 4 b, agV 4 b2] w (Ret (agV 4 (b / 2 ^ limOf b2)) w) := by
  have hX : Steps aR aS 17 4 b2 (limOf b2) (fun i => b / 2 ^ i) := fun i _ => ⟨[], xr4, rr4 _ aR aS, (fun _ h => by cases h), by
    show binI .and .u64 (IntKind.wrap .u64 ((b / 2 ^ i).tdiv 2)) 18446744073709551615 = b / 2 ^ (i + 1)
    have hb := div_low b i (a := 0) (by decide) (by omega) b0 b1
    rw [div_next, Int.tdiv_eq_ediv_of_nonneg hb.1, wrap_u64, and_u64_64 _ (by omega) (by omega)]
    omega⟩
  have h := shifted_of aR aS (.inr rfl) (by decide) h0 (limOf_ok h0) hX w hG
  have e : b / 2 ^ 0 = b := by rw [Int.pow_zero, Int.ediv_one]
  rw [e] at h
  exact h
theorem sl_5 (aR aS : Addr) {b b2 : Int} (h0 : 0 ≤ b2) (b0 : 0 ≤ b) (b1 : b < 256) (w : World) (hG : (glob aR aS).holds w) : Calls Tryz.prog 100 #[.int .i64 16, agV 5 b, agV 5 b2] w (Ret (agV 5 (b * 2 ^ limOf b2 % 256)) w) := by
  have hX : Steps aR aS 16 5 b2 (limOf b2) (fun i => b * 2 ^ i % 256) := fun i _ => ⟨[], xl5, rl5 _ aR aS, (fun _ h => by cases h), by
    show binI .and .u64 (IntKind.wrap .u64 (2 * (b * 2 ^ i % 256))) 255 = b * 2 ^ (i + 1) % 256
    rw [pow_next, wrap_u64, and_u64_8 _ (by omega) (by omega)]
    omega⟩
  have h := shifted_of aR aS (.inl rfl) (by decide) h0 (limOf_ok h0) hX w hG
  have e : b * 2 ^ 0 % 256 = b := by
    rw [Int.pow_zero]
    omega
  rw [e] at h
  exact h
theorem sr_5 (aR aS : Addr) {b n b2 : Int} (h0 : 0 ≤ b2) (hb : b = n % 256) (n0 : -128 ≤ n) (n1 : n < 128) (w : World) (hG : (glob aR aS).holds w) : Calls Tryz.prog 100 #[.int .i64 17, agV 5 b, agV 5 b2] w (Ret (agV 5 (n / 2 ^ limOf b2 % 256)) w) := by
  have hX : Steps aR aS 17 5 b2 (limOf b2) (fun i => n / 2 ^ i % 256) := fun i _ => by
    have hy := div_low n i (a := -128) (by decide) (by omega) n0 n1
    have hE := div_next n i
    generalize hY : n / 2 ^ i = y at hy hE
    have hN : y < 0 → IntKind.wrap .i64 (binI .or .u64 (y % 256) 18446744073709551360) = y := fun h => by
      rw [or_u64_8 _ (by omega) (by omega), wrap_i64]
      omega
    have hP : 0 ≤ y → IntKind.wrap .i64 (y % 256) = y := fun h => by
      rw [wrap_i64]
      omega
    rcases Int.lt_or_le y 0 with hn | hp
    · have t2 := tdiv_np (b := 2) hn
      by_cases ho : y % 2 = 0
      · refine ⟨Le5, xe5, re5 _ aR aS, fun f hf => ?_, ?_⟩
        · simp only [Le5, List.mem_cons, List.not_mem_nil, or_false] at hf
          rcases hf with rfl | rfl
          · refine ⟨rfl, decide_eq_true (show n / 2 ^ i % 256 > 127 from ?_)⟩
            rw [hY]; omega
          · refine ⟨rfl, decide_eq_false (show ¬ ((IntKind.wrap .i64 (binI .or .u64 (n / 2 ^ i % 256) 18446744073709551360)).tmod 2 < 0) from ?_)⟩
            rw [hY, hN hn, t2.2]; omega
        · show binI .and .u64 (IntKind.wrap .u64 (IntKind.wrap .i64 ((IntKind.wrap .i64 (binI .or .u64 (n / 2 ^ i % 256) 18446744073709551360)).tdiv 2))) 255 = n / 2 ^ (i + 1) % 256
          rw [hY, hN hn, t2.1, hE, wrap_i64, wrap_u64, and_u64_8 _ (by omega) (by omega)]
          omega
      · refine ⟨Lo5, xo5, ro5 _ aR aS, fun f hf => ?_, ?_⟩
        · simp only [Lo5, List.mem_cons, List.not_mem_nil, or_false] at hf
          rcases hf with rfl | rfl
          · refine ⟨rfl, decide_eq_true (show n / 2 ^ i % 256 > 127 from ?_)⟩
            rw [hY]; omega
          · refine ⟨rfl, decide_eq_true (show (IntKind.wrap .i64 (binI .or .u64 (n / 2 ^ i % 256) 18446744073709551360)).tmod 2 < 0 from ?_)⟩
            rw [hY, hN hn, t2.2]; omega
        · show binI .and .u64 (IntKind.wrap .u64 (IntKind.wrap .i64 (IntKind.wrap .i64 ((IntKind.wrap .i64 (binI .or .u64 (n / 2 ^ i % 256) 18446744073709551360)).tdiv 2) - 1))) 255 = n / 2 ^ (i + 1) % 256
          rw [hY, hN hn, t2.1, hE, wrap_i64, wrap_i64, wrap_u64, and_u64_8 _ (by omega) (by omega)]
          omega
    · have t2 := tdiv_pp (b := 2) hp
      refine ⟨Lp5, xp5, rp5 _ aR aS, fun f hf => ?_, ?_⟩
      · simp only [Lp5, List.mem_cons, List.not_mem_nil, or_false] at hf
        rcases hf with rfl | rfl
        · refine ⟨rfl, decide_eq_false (show ¬ (n / 2 ^ i % 256 > 127) from ?_)⟩
          rw [hY]; omega
        · refine ⟨rfl, decide_eq_false (show ¬ ((IntKind.wrap .i64 (n / 2 ^ i % 256)).tmod 2 < 0) from ?_)⟩
          rw [hY, hP hp, t2.2]; omega
      · show binI .and .u64 (IntKind.wrap .u64 (IntKind.wrap .i64 ((IntKind.wrap .i64 (n / 2 ^ i % 256)).tdiv 2))) 255 = n / 2 ^ (i + 1) % 256
        rw [hY, hP hp, t2.1, hE, wrap_i64, wrap_u64, and_u64_8 _ (by omega) (by omega)]
        omega
  have h := shifted_of aR aS (.inr rfl) (by decide) h0 (limOf_ok h0) hX w hG
  have e : n / 2 ^ 0 % 256 = b := by rw [Int.pow_zero, Int.ediv_one, hb]
  rw [e] at h
  exact h
theorem sl_6 (aR aS : Addr) {b b2 : Int} (h0 : 0 ≤ b2) (b0 : 0 ≤ b) (b1 : b < 65536) (w : World) (hG : (glob aR aS).holds w) : Calls Tryz.prog 100 #[.int .i64 16, agV 6 b, agV 6 b2] w (Ret (agV 6 (b * 2 ^ limOf b2 % 65536)) w) := by
  have hX : Steps aR aS 16 6 b2 (limOf b2) (fun i => b * 2 ^ i % 65536) := fun i _ => ⟨[], xl6, rl6 _ aR aS, (fun _ h => by cases h), by
    show binI .and .u64 (IntKind.wrap .u64 (2 * (b * 2 ^ i % 65536))) 65535 = b * 2 ^ (i + 1) % 65536
    rw [pow_next, wrap_u64, and_u64_16 _ (by omega) (by omega)]
    omega⟩
  have h := shifted_of aR aS (.inl rfl) (by decide) h0 (limOf_ok h0) hX w hG
  have e : b * 2 ^ 0 % 65536 = b := by
    rw [Int.pow_zero]
    omega
  rw [e] at h
  exact h
theorem sr_6 (aR aS : Addr) {b n b2 : Int} (h0 : 0 ≤ b2) (hb : b = n % 65536) (n0 : -32768 ≤ n) (n1 : n < 32768) (w : World) (hG : (glob aR aS).holds w) : Calls Tryz.prog 100 #[.int .i64 17, agV 6 b, agV 6 b2] w (Ret (agV 6 (n / 2 ^ limOf b2 % 65536)) w) := by
  have hX : Steps aR aS 17 6 b2 (limOf b2) (fun i => n / 2 ^ i % 65536) := fun i _ => by
    have hy := div_low n i (a := -32768) (by decide) (by omega) n0 n1
    have hE := div_next n i
    generalize hY : n / 2 ^ i = y at hy hE
    have hN : y < 0 → IntKind.wrap .i64 (binI .or .u64 (y % 65536) 18446744073709486080) = y := fun h => by
      rw [or_u64_16 _ (by omega) (by omega), wrap_i64]
      omega
    have hP : 0 ≤ y → IntKind.wrap .i64 (y % 65536) = y := fun h => by
      rw [wrap_i64]
      omega
    rcases Int.lt_or_le y 0 with hn | hp
    · have t2 := tdiv_np (b := 2) hn
      by_cases ho : y % 2 = 0
      · refine ⟨Le6, xe6, re6 _ aR aS, fun f hf => ?_, ?_⟩
        · simp only [Le6, List.mem_cons, List.not_mem_nil, or_false] at hf
          rcases hf with rfl | rfl
          · refine ⟨rfl, decide_eq_true (show n / 2 ^ i % 65536 > 32767 from ?_)⟩
            rw [hY]; omega
          · refine ⟨rfl, decide_eq_false (show ¬ ((IntKind.wrap .i64 (binI .or .u64 (n / 2 ^ i % 65536) 18446744073709486080)).tmod 2 < 0) from ?_)⟩
            rw [hY, hN hn, t2.2]; omega
        · show binI .and .u64 (IntKind.wrap .u64 (IntKind.wrap .i64 ((IntKind.wrap .i64 (binI .or .u64 (n / 2 ^ i % 65536) 18446744073709486080)).tdiv 2))) 65535 = n / 2 ^ (i + 1) % 65536
          rw [hY, hN hn, t2.1, hE, wrap_i64, wrap_u64, and_u64_16 _ (by omega) (by omega)]
          omega
      · refine ⟨Lo6, xo6, ro6 _ aR aS, fun f hf => ?_, ?_⟩
        · simp only [Lo6, List.mem_cons, List.not_mem_nil, or_false] at hf
          rcases hf with rfl | rfl
          · refine ⟨rfl, decide_eq_true (show n / 2 ^ i % 65536 > 32767 from ?_)⟩
            rw [hY]; omega
          · refine ⟨rfl, decide_eq_true (show (IntKind.wrap .i64 (binI .or .u64 (n / 2 ^ i % 65536) 18446744073709486080)).tmod 2 < 0 from ?_)⟩
            rw [hY, hN hn, t2.2]; omega
        · show binI .and .u64 (IntKind.wrap .u64 (IntKind.wrap .i64 (IntKind.wrap .i64 ((IntKind.wrap .i64 (binI .or .u64 (n / 2 ^ i % 65536) 18446744073709486080)).tdiv 2) - 1))) 65535 = n / 2 ^ (i + 1) % 65536
          rw [hY, hN hn, t2.1, hE, wrap_i64, wrap_i64, wrap_u64, and_u64_16 _ (by omega) (by omega)]
          omega
    · have t2 := tdiv_pp (b := 2) hp
      refine ⟨Lp6, xp6, rp6 _ aR aS, fun f hf => ?_, ?_⟩
      · simp only [Lp6, List.mem_cons, List.not_mem_nil, or_false] at hf
        rcases hf with rfl | rfl
        · refine ⟨rfl, decide_eq_false (show ¬ (n / 2 ^ i % 65536 > 32767) from ?_)⟩
          rw [hY]; omega
        · refine ⟨rfl, decide_eq_false (show ¬ ((IntKind.wrap .i64 (n / 2 ^ i % 65536)).tmod 2 < 0) from ?_)⟩
          rw [hY, hP hp, t2.2]; omega
      · show binI .and .u64 (IntKind.wrap .u64 (IntKind.wrap .i64 ((IntKind.wrap .i64 (n / 2 ^ i % 65536)).tdiv 2))) 65535 = n / 2 ^ (i + 1) % 65536
        rw [hY, hP hp, t2.1, hE, wrap_i64, wrap_u64, and_u64_16 _ (by omega) (by omega)]
        omega
  have h := shifted_of aR aS (.inr rfl) (by decide) h0 (limOf_ok h0) hX w hG
  have e : n / 2 ^ 0 % 65536 = b := by rw [Int.pow_zero, Int.ediv_one, hb]
  rw [e] at h
  exact h
theorem sl_7 (aR aS : Addr) {b b2 : Int} (h0 : 0 ≤ b2) (b0 : 0 ≤ b) (b1 : b < 4294967296) (w : World) (hG : (glob aR aS).holds w) : Calls Tryz.prog 100 #[.int .i64 16, agV 7 b, agV 7 b2] w (Ret (agV 7 (b * 2 ^ limOf b2 % 4294967296)) w) := by
  have hX : Steps aR aS 16 7 b2 (limOf b2) (fun i => b * 2 ^ i % 4294967296) := fun i _ => ⟨[], xl7, rl7 _ aR aS, (fun _ h => by cases h), by
    show binI .and .u64 (IntKind.wrap .u64 (2 * (b * 2 ^ i % 4294967296))) 4294967295 = b * 2 ^ (i + 1) % 4294967296
    rw [pow_next, wrap_u64, and_u64_32 _ (by omega) (by omega)]
    omega⟩
  have h := shifted_of aR aS (.inl rfl) (by decide) h0 (limOf_ok h0) hX w hG
  have e : b * 2 ^ 0 % 4294967296 = b := by
    rw [Int.pow_zero]
    omega
  rw [e] at h
  exact h
theorem sr_7 (aR aS : Addr) {b n b2 : Int} (h0 : 0 ≤ b2) (hb : b = n % 4294967296) (n0 : -2147483648 ≤ n) (n1 : n < 2147483648) (w : World) (hG : (glob aR aS).holds w) : Calls Tryz.prog 100 #[.int .i64 17, agV 7 b, agV 7 b2] w (Ret (agV 7 (n / 2 ^ limOf b2 % 4294967296)) w) := by
  have hX : Steps aR aS 17 7 b2 (limOf b2) (fun i => n / 2 ^ i % 4294967296) := fun i _ => by
    have hy := div_low n i (a := -2147483648) (by decide) (by omega) n0 n1
    have hE := div_next n i
    generalize hY : n / 2 ^ i = y at hy hE
    have hN : y < 0 → IntKind.wrap .i64 (binI .or .u64 (y % 4294967296) 18446744069414584320) = y := fun h => by
      rw [or_u64_32 _ (by omega) (by omega), wrap_i64]
      omega
    have hP : 0 ≤ y → IntKind.wrap .i64 (y % 4294967296) = y := fun h => by
      rw [wrap_i64]
      omega
    rcases Int.lt_or_le y 0 with hn | hp
    · have t2 := tdiv_np (b := 2) hn
      by_cases ho : y % 2 = 0
      · refine ⟨Le7, xe7, re7 _ aR aS, fun f hf => ?_, ?_⟩
        · simp only [Le7, List.mem_cons, List.not_mem_nil, or_false] at hf
          rcases hf with rfl | rfl
          · refine ⟨rfl, decide_eq_true (show n / 2 ^ i % 4294967296 > 2147483647 from ?_)⟩
            rw [hY]; omega
          · refine ⟨rfl, decide_eq_false (show ¬ ((IntKind.wrap .i64 (binI .or .u64 (n / 2 ^ i % 4294967296) 18446744069414584320)).tmod 2 < 0) from ?_)⟩
            rw [hY, hN hn, t2.2]; omega
        · show binI .and .u64 (IntKind.wrap .u64 (IntKind.wrap .i64 ((IntKind.wrap .i64 (binI .or .u64 (n / 2 ^ i % 4294967296) 18446744069414584320)).tdiv 2))) 4294967295 = n / 2 ^ (i + 1) % 4294967296
          rw [hY, hN hn, t2.1, hE, wrap_i64, wrap_u64, and_u64_32 _ (by omega) (by omega)]
          omega
      · refine ⟨Lo7, xo7, ro7 _ aR aS, fun f hf => ?_, ?_⟩
        · simp only [Lo7, List.mem_cons, List.not_mem_nil, or_false] at hf
          rcases hf with rfl | rfl
          · refine ⟨rfl, decide_eq_true (show n / 2 ^ i % 4294967296 > 2147483647 from ?_)⟩
            rw [hY]; omega
          · refine ⟨rfl, decide_eq_true (show (IntKind.wrap .i64 (binI .or .u64 (n / 2 ^ i % 4294967296) 18446744069414584320)).tmod 2 < 0 from ?_)⟩
            rw [hY, hN hn, t2.2]; omega
        · show binI .and .u64 (IntKind.wrap .u64 (IntKind.wrap .i64 (IntKind.wrap .i64 ((IntKind.wrap .i64 (binI .or .u64 (n / 2 ^ i % 4294967296) 18446744069414584320)).tdiv 2) - 1))) 4294967295 = n / 2 ^ (i + 1) % 4294967296
          rw [hY, hN hn, t2.1, hE, wrap_i64, wrap_i64, wrap_u64, and_u64_32 _ (by omega) (by omega)]
          omega
    · have t2 := tdiv_pp (b := 2) hp
      refine ⟨Lp7, xp7, rp7 _ aR aS, fun f hf => ?_, ?_⟩
      · simp only [Lp7, List.mem_cons, List.not_mem_nil, or_false] at hf
        rcases hf with rfl | rfl
        · refine ⟨rfl, decide_eq_false (show ¬ (n / 2 ^ i % 4294967296 > 2147483647) from ?_)⟩
          rw [hY]; omega
        · refine ⟨rfl, decide_eq_false (show ¬ ((IntKind.wrap .i64 (n / 2 ^ i % 4294967296)).tmod 2 < 0) from ?_)⟩
          rw [hY, hP hp, t2.2]; omega
      · show binI .and .u64 (IntKind.wrap .u64 (IntKind.wrap .i64 ((IntKind.wrap .i64 (n / 2 ^ i % 4294967296)).tdiv 2))) 4294967295 = n / 2 ^ (i + 1) % 4294967296
        rw [hY, hP hp, t2.1, hE, wrap_i64, wrap_u64, and_u64_32 _ (by omega) (by omega)]
        omega
  have h := shifted_of aR aS (.inr rfl) (by decide) h0 (limOf_ok h0) hX w hG
  have e : n / 2 ^ 0 % 4294967296 = b := by rw [Int.pow_zero, Int.ediv_one, hb]
  rw [e] at h
  exact h
theorem sl_8 (aR aS : Addr) {b b2 : Int} (h0 : 0 ≤ b2) (b0 : 0 ≤ b) (b1 : b < 18446744073709551616) (w : World) (hG : (glob aR aS).holds w) : Calls Tryz.prog 100 #[.int .i64 16, agV 8 b, agV 8 b2] w (Ret (agV 8 (b * 2 ^ limOf b2 % 18446744073709551616)) w) := by
  have hX : Steps aR aS 16 8 b2 (limOf b2) (fun i => b * 2 ^ i % 18446744073709551616) := fun i _ => ⟨[], xl8, rl8 _ aR aS, (fun _ h => by cases h), by
    show binI .and .u64 (IntKind.wrap .u64 (2 * (b * 2 ^ i % 18446744073709551616))) 18446744073709551615 = b * 2 ^ (i + 1) % 18446744073709551616
    rw [pow_next, wrap_u64, and_u64_64 _ (by omega) (by omega)]
    omega⟩
  have h := shifted_of aR aS (.inl rfl) (by decide) h0 (limOf_ok h0) hX w hG
  have e : b * 2 ^ 0 % 18446744073709551616 = b := by
    rw [Int.pow_zero]
    omega
  rw [e] at h
  exact h
theorem sr_8 (aR aS : Addr) {b n b2 : Int} (h0 : 0 ≤ b2) (hb : b = n % 18446744073709551616) (n0 : -9223372036854775808 ≤ n) (n1 : n < 9223372036854775808) (w : World) (hG : (glob aR aS).holds w) : Calls Tryz.prog 100 #[.int .i64 17, agV 8 b, agV 8 b2] w (Ret (agV 8 (n / 2 ^ limOf b2 % 18446744073709551616)) w) := by
  have hX : Steps aR aS 17 8 b2 (limOf b2) (fun i => n / 2 ^ i % 18446744073709551616) := fun i _ => by
    have hy := div_low n i (a := -9223372036854775808) (by decide) (by omega) n0 n1
    have hE := div_next n i
    generalize hY : n / 2 ^ i = y at hy hE
    have hN : y < 0 → IntKind.wrap .i64 (binI .or .u64 (y % 18446744073709551616) 0) = y := fun h => by
      rw [or_u64_64 _ (by omega) (by omega), wrap_i64]
      omega
    have hP : 0 ≤ y → IntKind.wrap .i64 (y % 18446744073709551616) = y := fun h => by
      rw [wrap_i64]
      omega
    rcases Int.lt_or_le y 0 with hn | hp
    · have t2 := tdiv_np (b := 2) hn
      by_cases ho : y % 2 = 0
      · refine ⟨Le8, xe8, re8 _ aR aS, fun f hf => ?_, ?_⟩
        · simp only [Le8, List.mem_cons, List.not_mem_nil, or_false] at hf
          rcases hf with rfl | rfl
          · refine ⟨rfl, decide_eq_true (show n / 2 ^ i % 18446744073709551616 > 9223372036854775807 from ?_)⟩
            rw [hY]; omega
          · refine ⟨rfl, decide_eq_false (show ¬ ((IntKind.wrap .i64 (binI .or .u64 (n / 2 ^ i % 18446744073709551616) 0)).tmod 2 < 0) from ?_)⟩
            rw [hY, hN hn, t2.2]; omega
        · show binI .and .u64 (IntKind.wrap .u64 (IntKind.wrap .i64 ((IntKind.wrap .i64 (binI .or .u64 (n / 2 ^ i % 18446744073709551616) 0)).tdiv 2))) 18446744073709551615 = n / 2 ^ (i + 1) % 18446744073709551616
          rw [hY, hN hn, t2.1, hE, wrap_i64, wrap_u64, and_u64_64 _ (by omega) (by omega)]
          omega
      · refine ⟨Lo8, xo8, ro8 _ aR aS, fun f hf => ?_, ?_⟩
        · simp only [Lo8, List.mem_cons, List.not_mem_nil, or_false] at hf
          rcases hf with rfl | rfl
          · refine ⟨rfl, decide_eq_true (show n / 2 ^ i % 18446744073709551616 > 9223372036854775807 from ?_)⟩
            rw [hY]; omega
          · refine ⟨rfl, decide_eq_true (show (IntKind.wrap .i64 (binI .or .u64 (n / 2 ^ i % 18446744073709551616) 0)).tmod 2 < 0 from ?_)⟩
            rw [hY, hN hn, t2.2]; omega
        · show binI .and .u64 (IntKind.wrap .u64 (IntKind.wrap .i64 (IntKind.wrap .i64 ((IntKind.wrap .i64 (binI .or .u64 (n / 2 ^ i % 18446744073709551616) 0)).tdiv 2) - 1))) 18446744073709551615 = n / 2 ^ (i + 1) % 18446744073709551616
          rw [hY, hN hn, t2.1, hE, wrap_i64, wrap_i64, wrap_u64, and_u64_64 _ (by omega) (by omega)]
          omega
    · have t2 := tdiv_pp (b := 2) hp
      refine ⟨Lp8, xp8, rp8 _ aR aS, fun f hf => ?_, ?_⟩
      · simp only [Lp8, List.mem_cons, List.not_mem_nil, or_false] at hf
        rcases hf with rfl | rfl
        · refine ⟨rfl, decide_eq_false (show ¬ (n / 2 ^ i % 18446744073709551616 > 9223372036854775807) from ?_)⟩
          rw [hY]; omega
        · refine ⟨rfl, decide_eq_false (show ¬ ((IntKind.wrap .i64 (n / 2 ^ i % 18446744073709551616)).tmod 2 < 0) from ?_)⟩
          rw [hY, hP hp, t2.2]; omega
      · show binI .and .u64 (IntKind.wrap .u64 (IntKind.wrap .i64 ((IntKind.wrap .i64 (n / 2 ^ i % 18446744073709551616)).tdiv 2))) 18446744073709551615 = n / 2 ^ (i + 1) % 18446744073709551616
        rw [hY, hP hp, t2.1, hE, wrap_i64, wrap_u64, and_u64_64 _ (by omega) (by omega)]
        omega
  have h := shifted_of aR aS (.inr rfl) (by decide) h0 (limOf_ok h0) hX w hG
  have e : n / 2 ^ 0 % 18446744073709551616 = b := by rw [Int.pow_zero, Int.ediv_one, hb]
  rw [e] at h
  exact h
end
end Go.Proofs.YtonkcpmefnddaaaGreatDoor
