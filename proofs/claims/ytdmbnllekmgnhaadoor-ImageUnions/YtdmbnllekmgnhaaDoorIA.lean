import Derived.Test.YtdmbnllekmgnhaaDoorKSZ
import Derived.Test.YtdmbnllekmgnhaaDoorRXRo
namespace Go.Proofs.YtdmbnllekmgnhaaDoor
noncomputable section
open Go Go.RX
open Go.RowKit (Below)
set_option maxRecDepth 1000000
set_option maxHeartbeats 4000000
/-! The setting: slices of the caller's by names -/
abbrev SlT := Nat → Option (Addr × Nat × Nat)
def nmQ (A : SlT) (i : Nat) : Value :=
  if i < 1000 then (match A i with
    | some p => .slice (some p.1) p.2.1 p.2.2
    | none => .bool false)
  else match A (i / 1000 - 1) with
    | some p => .pointer (some ⟨p.1.block, p.1.off + i % 1000, none⟩)
    | none => .bool false
theorem nmQ_flat (A : SlT) : ∀ i, Flat (nmQ A i) := fun i => by
  unfold nmQ
  split
  · cases A i <;> trivial
  · cases A (i / 1000 - 1) <;> trivial
@[reducible] noncomputable def EQ (ρ : Nat → Int) (L : List CF) (A : SlT) (R : RoT) : Env := envQ Tryd.prog (nmQ A) (nmQ_flat A) ρ (knowN L) (extraY Tryd.prog [] (knowN L)) [] R
abbrev Nm (ρ : Nat → Int) (A : SlT) (R : RoT) : Prop := RoNm Tryd.prog (nmQ A) (nmQ_flat A) ρ R
abbrev In (ρ : Nat → Int) (A : SlT) (R : RoT) (w : World) : Prop := RoIn Tryd.prog (nmQ A) (nmQ_flat A) ρ R w
def Ret (v : Value) (w : World) : Ending → World → Prop := fun r w' => r = .returned v ∧ Below w.heap.size w w'
theorem all_nil {ρ : Nat → Int} : ∀ f ∈ ([] : List CF), f.ok ρ := fun _ h => by cases h
theorem all_cons {ρ : Nat → Int} {f : CF} {l : List CF} (h : f.ok ρ) (k : ∀ g ∈ l, g.ok ρ) : ∀ g ∈ f :: l, g.ok ρ := fun g hg => by
  rcases List.mem_cons.1 hg with rfl | hg
  · exact h
  · exact k g hg
theorem namesEQ {ρ : Nat → Int} {L : List CF} {A : SlT} {R : RoT} (h : ∀ f ∈ L, f.ok ρ) (hR : Nm ρ A R) : @NamesOk (EQ ρ L A R) Tryd.prog :=
  namesOkQ names1 (knowN_ok h) (extraY_ok _ _ _ _ _ _ (knowN_ok h) (fun _ h => by cases h)) hR (fun _ h => by cases h)
theorem nm_of {ρ : Nat → Int} {A : SlT} {R : RoT} (h : ∀ s r, R s = some r → ∃ (a : Addr) (n cap : Nat), A s = some (a, n, cap) ∧ (0 < r.known → a.spot = none) ∧ r.known ≤ n ∧ (r.len = .v (goInt n) ∨ ∃ e, r.len = .sym (.int .i64 e) ∧ e.ev ρ = n)) : Nm ρ A R := fun s r hs hr => by
  obtain ⟨a, n, cap, h1, h2, h3, h4⟩ := h s r hr
  refine ⟨a, n, cap, h2, ?_, h3, fun q => ?_, fun k hk => ?_⟩
  · unfold nmQ
    rw [if_pos hs, h1]
  · rcases h4 with h4 | ⟨e, h4, h5⟩
    · rw [h4]; rfl
    · rw [h4]
      show some (Value.int .i64 (e.ev ρ)) = some (goInt n)
      rw [h5]
      rfl
  · unfold nmQ
    rw [if_neg (by omega), show (1000 * (s + 1) + k) / 1000 - 1 = s by omega, show (1000 * (s + 1) + k) % 1000 = k by omega, h1]
theorem callQ {ρ : Nat → Int} {L : List CF} {A : SlT} {R : RoT} (hL : ∀ f ∈ L, f.ok ρ) (hR : Nm ρ A R) {aR aS : Addr} {O : Orac} (hO : @Orac.holds (EQ ρ L A R) Tryd.prog (glob aR aS) O) {f : FuncId} {xs : List SVal} {y : SVal}
    (h : (@call (EQ ρ L A R) Tryd.prog (glob aR aS) O 300 60 (.fn f) xs []).map (fun r => nrm r.1) = some y) (hx : nfL xs = true) (hy : nf y = true) {vs : List Value} {v : Value} (hv : @denL (EQ ρ L A R) (fun _ => none) xs = some vs) (hd : @den (EQ ρ L A R) (fun _ => none) y = some v)
    {w : World} (hG : (glob aR aS).holds w) (hw : In ρ A R w) : Calls Tryd.prog f vs.toArray w (Ret v w) := by
  obtain ⟨v', h2, h3⟩ := @calls_of_run (EQ ρ L A R) Tryd.prog (glob aR aS) O hO (namesEQ hL hR) mixed 300 60 f xs y h hy (fun _ => none) vs.toArray hx (by simpa using hv) w hG (roHoldsQ hR hw)
  rw [hd] at h2
  cases h2
  exact h3
abbrev runQ (ρ : Nat → Int) (aR aS : Addr) (L : List CF) (A : SlT) (R : RoT) (O : Orac) (f : FuncId) (xs : List SVal) (y : SVal) : Prop := (@call (EQ ρ L A R) Tryd.prog (glob aR aS) O 300 60 (.fn f) xs []).map (fun r => nrm r.1) = some y
abbrev noO : Orac := fun _ _ _ => none
abbrev sy (k : Nat) : SVal := .sym (.int .i64 (.var k))
abbrev vi (n : Int) : Value := .int .i64 n
/-- Both functions answer this of a box, wherever it lies. -/
def CB (aR aS : Addr) (n : Nat) (vs : List Value) (e : Int) : Prop := ∀ w u, (glob aR aS).holds w → VAt w u n vs → Calls Tryd.prog 35 #[u] w (Ret (vi e) w) ∧ Calls Tryd.prog 10 #[u] w (Ret (vi e) w)
def one (r : RoS) : RoT := fun s => match s with
  | 0 => some r
  | _ => none
theorem cb_leaf {aR aS : Addr} {n : Nat} (hn : 0 < n) {ρ : Nat → Int} {cs : List SVal} {vs : List Value} (hcs : ∀ A q, @denL (Go.RX.env0 Tryd.prog (nmQ A) (nmQ_flat A) ρ) q cs = some vs) {L : List CF} (hL : ∀ f ∈ L, f.ok ρ) {e : Int}
    (hcs0 : cs = [] → ¬ cs = []) (h1 : ∀ A, runQ ρ aR aS L A (one ⟨n, .v (goInt n), cs⟩) noO 35 [.sym (.nm 0)] (.v (vi e))) (h2 : ∀ A, runQ ρ aR aS L A (one ⟨n, .v (goInt n), cs⟩) noO 10 [.sym (.nm 0)] (.v (vi e))) : CB aR aS n vs e := by
  intro w u hG hV
  rcases hV with ⟨a, cap, rfl, hp, hc⟩ | ⟨_, h0⟩
  case inr => omega
  let A : SlT := fun s => match s with
    | 0 => some (a, n, cap)
    | _ => none
  have hne : cs ≠ [] → a.spot = none ∧ a.block < w.heap.size := fun hl => hp fun e => by
    subst e
    have := @denL_length (Go.RX.env0 Tryd.prog (nmQ A) (nmQ_flat A) ρ) (fun _ => none) _ _ (hcs A _)
    exact hl (List.eq_nil_of_length_eq_zero (by simpa using this.symm))
  have hR : Nm ρ A (one ⟨n, .v (goInt n), cs⟩) := nm_of fun s r hs => by
    unfold one at hs
    split at hs
    · cases hs
      refine ⟨a, n, cap, rfl, fun _ => ?_, Nat.le_refl _, .inl rfl⟩
      by_cases hl : cs = []
      · exact absurd hl (hcs0 hl)
      · exact (hne hl).1
    · cases hs
  have hw : In ρ A (one ⟨n, .v (goInt n), cs⟩) w := fun s r _ hs => by
    unfold one at hs
    split at hs
    · cases hs
      exact ⟨a, n, cap, rfl, @RoAt.mk (Go.RX.env0 Tryd.prog (nmQ A) (nmQ_flat A) ρ) w a cs (fun hl => (hne hl).1) (fun hl => (hne hl).2) ⟨vs, hcs A, hc⟩⟩
    · cases hs
  exact ⟨callQ hL hR (@noO_holds (EQ ρ L A _) _ _) (h1 A) rfl rfl rfl rfl hG hw, callQ hL hR (@noO_holds (EQ ρ L A _) _ _) (h2 A) rfl rfl rfl rfl hG hw⟩
end
end Go.Proofs.YtdmbnllekmgnhaaDoor

namespace Go.Proofs.YtdmbnllekmgnhaaDoor
noncomputable section
open Go Go.RX
open Go.RowKit (Below)
set_option maxRecDepth 1000000
set_option maxHeartbeats 4000000
/-- The makes of a box: nil; of some elements (0 to 4); longer. -/
inductive Cl where
  | nil | k (n : Nat) | big
def cells0 : Nat → List SVal
  | 1 => [sy 0, sy 1]
  | 2 => [sy 0, sy 1, sy 2, sy 3]
  | 3 => [sy 0, sy 1, sy 2, sy 3, sy 4, sy 5]
  | 4 => [sy 0, sy 1, sy 2, sy 3, sy 4, sy 5, sy 6, sy 7]
  | _ => []
def cells1 : Nat → List SVal
  | 1 => [sy 10, sy 11]
  | 2 => [sy 10, sy 11, sy 12, sy 13]
  | 3 => [sy 10, sy 11, sy 12, sy 13, sy 14, sy 15]
  | 4 => [sy 10, sy 11, sy 12, sy 13, sy 14, sy 15, sy 16, sy 17]
  | _ => []
/-- The cells of the hull of both. -/
def hullL : Nat → List SVal
  | 1 => [.sym (.int .i64 (.tri 3 (.var 0) (.var 10) (.lit 0))), .sym (.int .i64 (.bin .sub .i64 (.tri 2 (.bin .add .i64 (.var 0) (.var 1)) (.bin .add .i64 (.var 10) (.var 11)) (.lit 0)) (.tri 3 (.var 0) (.var 10) (.lit 0))))]
  | 2 => [.sym (.int .i64 (.tri 3 (.var 0) (.var 10) (.lit 0))), .sym (.int .i64 (.bin .sub .i64 (.tri 2 (.bin .add .i64 (.var 0) (.var 1)) (.bin .add .i64 (.var 10) (.var 11)) (.lit 0)) (.tri 3 (.var 0) (.var 10) (.lit 0)))), .sym (.int .i64 (.tri 3 (.var 2) (.var 12) (.lit 0))), .sym (.int .i64 (.bin .sub .i64 (.tri 2 (.bin .add .i64 (.var 2) (.var 3)) (.bin .add .i64 (.var 12) (.var 13)) (.lit 0)) (.tri 3 (.var 2) (.var 12) (.lit 0))))]
  | 3 => [.sym (.int .i64 (.tri 3 (.var 0) (.var 10) (.lit 0))), .sym (.int .i64 (.bin .sub .i64 (.tri 2 (.bin .add .i64 (.var 0) (.var 1)) (.bin .add .i64 (.var 10) (.var 11)) (.lit 0)) (.tri 3 (.var 0) (.var 10) (.lit 0)))), .sym (.int .i64 (.tri 3 (.var 2) (.var 12) (.lit 0))), .sym (.int .i64 (.bin .sub .i64 (.tri 2 (.bin .add .i64 (.var 2) (.var 3)) (.bin .add .i64 (.var 12) (.var 13)) (.lit 0)) (.tri 3 (.var 2) (.var 12) (.lit 0)))), .sym (.int .i64 (.tri 3 (.var 4) (.var 14) (.lit 0))), .sym (.int .i64 (.bin .sub .i64 (.tri 2 (.bin .add .i64 (.var 4) (.var 5)) (.bin .add .i64 (.var 14) (.var 15)) (.lit 0)) (.tri 3 (.var 4) (.var 14) (.lit 0))))]
  | _ => []
def roC0 : Cl → Option RoS
  | .nil => none
  | .k n => some ⟨n, .v (goInt n), cells0 n⟩
  | .big => some ⟨4, sy 90, cells0 4⟩
def roC1 : Cl → Option RoS
  | .nil => none
  | .k n => some ⟨n, .v (goInt n), cells1 n⟩
  | .big => some ⟨4, sy 91, cells1 4⟩
def RT (a b : Cl) : RoT := fun s => match s with
  | 0 => roC0 a
  | 1 => roC1 b
  | _ => none
def argC (s : Nat) : Cl → SVal
  | .nil => .v (.slice none 0 0)
  | _ => .sym (.nm s)
def toldC (cells : Nat → List SVal) (y : Nat) : Cl → List REntry
  | .k 1 => [(35, 1, cells 1, sy y), (10, 1, cells 1, sy y)]
  | .k 2 => [(35, 2, cells 2, sy y), (10, 2, cells 2, sy y)]
  | .k 3 => [(35, 3, cells 3, sy y), (10, 3, cells 3, sy y)]
  | _ => []
def bothC : Cl → Cl → Cl
  | .k 1, .k 1 => .k 1
  | .k 2, .k 2 => .k 2
  | .k 3, .k 3 => .k 3
  | _, _ => .nil
def told (a b : Cl) : List REntry := toldC cells0 20 a ++ (toldC cells1 21 b ++ toldC hullL 22 (bothC a b))
def awakeT : List Entry := [(5, [], .bool true)]
abbrev OL (ρ : Nat → Int) (L : List CF) (A : SlT) (a b : Cl) : Orac := orO (tabO awakeT) (@tabRd (EQ ρ L A (RT a b)) (told a b))
abbrev runL (ρ : Nat → Int) (aR aS : Addr) (L : List CF) (A : SlT) (a b : Cl) : Prop := runQ ρ aR aS L A (RT a b) (OL ρ L A a b) 3 [argC 0 a, argC 1 b] (.v (.bool true))
/-- The facts on a long box's length. -/
def bigF (k : Nat) : Cl → List CF
  | .big => [⟨.lss, .lit 0, .var k, true⟩, ⟨.lss, .lit 1, .var k, true⟩, ⟨.lss, .lit 2, .var k, true⟩, ⟨.lss, .lit 3, .var k, true⟩, ⟨.lss, .lit 4, .var k, true⟩, ⟨.leq, .var k, .lit 4, false⟩]
  | _ => []
theorem all_app {ρ : Nat → Int} {l m : List CF} (h : ∀ f ∈ l, f.ok ρ) (k : ∀ f ∈ m, f.ok ρ) : ∀ f ∈ l ++ m, f.ok ρ := fun f hf => by
  rcases List.mem_append.1 hf with hf | hf
  · exact h f hf
  · exact k f hf
def Runs (ρ : Nat → Int) (aR aS : Addr) (A : SlT) (a b : Cl) : Prop := ∃ L, (∀ f ∈ L, f.ok ρ) ∧ runL ρ aR aS L A a b
end
end Go.Proofs.YtdmbnllekmgnhaaDoor
