import Derived.Test.YtdmbnllekmgnhaaDoorIA
namespace Go.Proofs.YtdmbnllekmgnhaaDoor
noncomputable section
open Go Go.RX
open Go.RowKit (Below)
set_option maxRecDepth 1000000
set_option maxHeartbeats 4000000
def rho1 (z0 z1 : Int) : Nat → Int := fun i => match i with
  | 0 => z0
  | 1 => z1
  | _ => 0
abbrev cs1 : List SVal := [sy 0, sy 1]
def L1_0 : List CF := [⟨.geq, (.var 0), (.lit (-1048576)), true⟩, ⟨.leq, (.var 0), (.lit 1048576), true⟩, ⟨.geq, (.var 1), (.lit 0), true⟩, ⟨.leq, (.var 1), (.lit 64), true⟩, ⟨.leq, (.bin .add .i64 (.var 0) (.var 1)), (.lit 1048577), true⟩, ⟨.gtr, (.bin .mul .i64 (.lit 1) (.var 1)), (.lit 4096), true⟩]
theorem r1_0_1 (ρ : Nat → Int) (aR aS : Addr) (A : SlT) : runQ ρ aR aS L1_0 A (one ⟨1, .v (goInt (1 : Nat)), cs1⟩) noO 35 [.sym (.nm 0)] (.v (vi 5)) := by unfold runQ; kernel_rfl
theorem r1_0_2 (ρ : Nat → Int) (aR aS : Addr) (A : SlT) : runQ ρ aR aS L1_0 A (one ⟨1, .v (goInt (1 : Nat)), cs1⟩) noO 10 [.sym (.nm 0)] (.v (vi 5)) := by unfold runQ; kernel_rfl
def L1_1 : List CF := [⟨.geq, (.var 0), (.lit (-1048576)), true⟩, ⟨.leq, (.var 0), (.lit 1048576), true⟩, ⟨.geq, (.var 1), (.lit 0), true⟩, ⟨.leq, (.var 1), (.lit 64), true⟩, ⟨.leq, (.bin .add .i64 (.var 0) (.var 1)), (.lit 1048577), true⟩, ⟨.gtr, (.bin .mul .i64 (.lit 1) (.var 1)), (.lit 4096), false⟩]
theorem r1_1_1 (ρ : Nat → Int) (aR aS : Addr) (A : SlT) : runQ ρ aR aS L1_1 A (one ⟨1, .v (goInt (1 : Nat)), cs1⟩) noO 35 [.sym (.nm 0)] (.v (vi 0)) := by unfold runQ; kernel_rfl
theorem r1_1_2 (ρ : Nat → Int) (aR aS : Addr) (A : SlT) : runQ ρ aR aS L1_1 A (one ⟨1, .v (goInt (1 : Nat)), cs1⟩) noO 10 [.sym (.nm 0)] (.v (vi 0)) := by unfold runQ; kernel_rfl
def L1_2 : List CF := [⟨.geq, (.var 0), (.lit (-1048576)), true⟩, ⟨.leq, (.var 0), (.lit 1048576), true⟩, ⟨.geq, (.var 1), (.lit 0), true⟩, ⟨.leq, (.var 1), (.lit 64), true⟩, ⟨.leq, (.bin .add .i64 (.var 0) (.var 1)), (.lit 1048577), false⟩]
theorem r1_2_1 (ρ : Nat → Int) (aR aS : Addr) (A : SlT) : runQ ρ aR aS L1_2 A (one ⟨1, .v (goInt (1 : Nat)), cs1⟩) noO 35 [.sym (.nm 0)] (.v (vi 3)) := by unfold runQ; kernel_rfl
theorem r1_2_2 (ρ : Nat → Int) (aR aS : Addr) (A : SlT) : runQ ρ aR aS L1_2 A (one ⟨1, .v (goInt (1 : Nat)), cs1⟩) noO 10 [.sym (.nm 0)] (.v (vi 3)) := by unfold runQ; kernel_rfl
def L1_3 : List CF := [⟨.geq, (.var 0), (.lit (-1048576)), true⟩, ⟨.leq, (.var 0), (.lit 1048576), true⟩, ⟨.geq, (.var 1), (.lit 0), true⟩, ⟨.leq, (.var 1), (.lit 64), false⟩]
theorem r1_3_1 (ρ : Nat → Int) (aR aS : Addr) (A : SlT) : runQ ρ aR aS L1_3 A (one ⟨1, .v (goInt (1 : Nat)), cs1⟩) noO 35 [.sym (.nm 0)] (.v (vi 3)) := by unfold runQ; kernel_rfl
theorem r1_3_2 (ρ : Nat → Int) (aR aS : Addr) (A : SlT) : runQ ρ aR aS L1_3 A (one ⟨1, .v (goInt (1 : Nat)), cs1⟩) noO 10 [.sym (.nm 0)] (.v (vi 3)) := by unfold runQ; kernel_rfl
def L1_4 : List CF := [⟨.geq, (.var 0), (.lit (-1048576)), true⟩, ⟨.leq, (.var 0), (.lit 1048576), true⟩, ⟨.geq, (.var 1), (.lit 0), false⟩]
theorem r1_4_1 (ρ : Nat → Int) (aR aS : Addr) (A : SlT) : runQ ρ aR aS L1_4 A (one ⟨1, .v (goInt (1 : Nat)), cs1⟩) noO 35 [.sym (.nm 0)] (.v (vi 3)) := by unfold runQ; kernel_rfl
theorem r1_4_2 (ρ : Nat → Int) (aR aS : Addr) (A : SlT) : runQ ρ aR aS L1_4 A (one ⟨1, .v (goInt (1 : Nat)), cs1⟩) noO 10 [.sym (.nm 0)] (.v (vi 3)) := by unfold runQ; kernel_rfl
def L1_5 : List CF := [⟨.geq, (.var 0), (.lit (-1048576)), true⟩, ⟨.leq, (.var 0), (.lit 1048576), false⟩]
theorem r1_5_1 (ρ : Nat → Int) (aR aS : Addr) (A : SlT) : runQ ρ aR aS L1_5 A (one ⟨1, .v (goInt (1 : Nat)), cs1⟩) noO 35 [.sym (.nm 0)] (.v (vi 3)) := by unfold runQ; kernel_rfl
theorem r1_5_2 (ρ : Nat → Int) (aR aS : Addr) (A : SlT) : runQ ρ aR aS L1_5 A (one ⟨1, .v (goInt (1 : Nat)), cs1⟩) noO 10 [.sym (.nm 0)] (.v (vi 3)) := by unfold runQ; kernel_rfl
def L1_6 : List CF := [⟨.geq, (.var 0), (.lit (-1048576)), false⟩]
theorem r1_6_1 (ρ : Nat → Int) (aR aS : Addr) (A : SlT) : runQ ρ aR aS L1_6 A (one ⟨1, .v (goInt (1 : Nat)), cs1⟩) noO 35 [.sym (.nm 0)] (.v (vi 3)) := by unfold runQ; kernel_rfl
theorem r1_6_2 (ρ : Nat → Int) (aR aS : Addr) (A : SlT) : runQ ρ aR aS L1_6 A (one ⟨1, .v (goInt (1 : Nat)), cs1⟩) noO 10 [.sym (.nm 0)] (.v (vi 3)) := by unfold runQ; kernel_rfl
theorem cb1 (aR aS : Addr) (z0 z1 : Int) : ∃ e : Int, CB aR aS 1 [vi z0, vi z1] e := by
  have hcs : ∀ A q, @denL (Go.RX.env0 Tryd.prog (nmQ A) (nmQ_flat A) (rho1 z0 z1)) q cs1 = some [vi z0, vi z1] := fun _ _ => rfl
  generalize hρ : rho1 z0 z1 = ρ at hcs
  cases h0 : cmpI .geq (IE.ev ρ (.var 0)) (IE.ev ρ (.lit (-1048576))) with
  | true =>
    cases h1 : cmpI .leq (IE.ev ρ (.var 0)) (IE.ev ρ (.lit 1048576)) with
    | true =>
      cases h2 : cmpI .geq (IE.ev ρ (.var 1)) (IE.ev ρ (.lit 0)) with
      | true =>
        cases h3 : cmpI .leq (IE.ev ρ (.var 1)) (IE.ev ρ (.lit 64)) with
        | true =>
          cases h4 : cmpI .leq (IE.ev ρ (.bin .add .i64 (.var 0) (.var 1))) (IE.ev ρ (.lit 1048577)) with
          | true =>
            cases h5 : cmpI .gtr (IE.ev ρ (.bin .mul .i64 (.lit 1) (.var 1))) (IE.ev ρ (.lit 4096)) with
            | true =>
              exact ⟨5, cb_leaf (by decide) hcs (L := L1_0) ((all_cons ⟨rfl, h0⟩ (all_cons ⟨rfl, h1⟩ (all_cons ⟨rfl, h2⟩ (all_cons ⟨rfl, h3⟩ (all_cons ⟨rfl, h4⟩ (all_cons ⟨rfl, h5⟩ all_nil))))))) (fun h => by cases h) (r1_0_1 _ _ _) (r1_0_2 _ _ _)⟩
            | false =>
              exact ⟨0, cb_leaf (by decide) hcs (L := L1_1) ((all_cons ⟨rfl, h0⟩ (all_cons ⟨rfl, h1⟩ (all_cons ⟨rfl, h2⟩ (all_cons ⟨rfl, h3⟩ (all_cons ⟨rfl, h4⟩ (all_cons ⟨rfl, h5⟩ all_nil))))))) (fun h => by cases h) (r1_1_1 _ _ _) (r1_1_2 _ _ _)⟩
          | false =>
            exact ⟨3, cb_leaf (by decide) hcs (L := L1_2) ((all_cons ⟨rfl, h0⟩ (all_cons ⟨rfl, h1⟩ (all_cons ⟨rfl, h2⟩ (all_cons ⟨rfl, h3⟩ (all_cons ⟨rfl, h4⟩ all_nil)))))) (fun h => by cases h) (r1_2_1 _ _ _) (r1_2_2 _ _ _)⟩
        | false =>
          exact ⟨3, cb_leaf (by decide) hcs (L := L1_3) ((all_cons ⟨rfl, h0⟩ (all_cons ⟨rfl, h1⟩ (all_cons ⟨rfl, h2⟩ (all_cons ⟨rfl, h3⟩ all_nil))))) (fun h => by cases h) (r1_3_1 _ _ _) (r1_3_2 _ _ _)⟩
      | false =>
        exact ⟨3, cb_leaf (by decide) hcs (L := L1_4) ((all_cons ⟨rfl, h0⟩ (all_cons ⟨rfl, h1⟩ (all_cons ⟨rfl, h2⟩ all_nil)))) (fun h => by cases h) (r1_4_1 _ _ _) (r1_4_2 _ _ _)⟩
    | false =>
      exact ⟨3, cb_leaf (by decide) hcs (L := L1_5) ((all_cons ⟨rfl, h0⟩ (all_cons ⟨rfl, h1⟩ all_nil))) (fun h => by cases h) (r1_5_1 _ _ _) (r1_5_2 _ _ _)⟩
  | false =>
    exact ⟨3, cb_leaf (by decide) hcs (L := L1_6) ((all_cons ⟨rfl, h0⟩ all_nil)) (fun h => by cases h) (r1_6_1 _ _ _) (r1_6_2 _ _ _)⟩
end
end Go.Proofs.YtdmbnllekmgnhaaDoor

namespace Go.Proofs.YtdmbnllekmgnhaaDoor
noncomputable section
open Go Go.RX
open Go.RowKit (Below)
set_option maxRecDepth 1000000
set_option maxHeartbeats 4000000
def rho2 (z0 z1 z2 z3 : Int) : Nat → Int := fun i => match i with
  | 0 => z0
  | 1 => z1
  | 2 => z2
  | 3 => z3
  | _ => 0
abbrev cs2 : List SVal := [sy 0, sy 1, sy 2, sy 3]
def L2_0 : List CF := [⟨.geq, (.var 0), (.lit (-1048576)), true⟩, ⟨.leq, (.var 0), (.lit 1048576), true⟩, ⟨.geq, (.var 1), (.lit 0), true⟩, ⟨.leq, (.var 1), (.lit 64), true⟩, ⟨.leq, (.bin .add .i64 (.var 0) (.var 1)), (.lit 1048577), true⟩, ⟨.geq, (.var 2), (.lit (-1048576)), true⟩, ⟨.leq, (.var 2), (.lit 1048576), true⟩, ⟨.geq, (.var 3), (.lit 0), true⟩, ⟨.leq, (.var 3), (.lit 64), true⟩, ⟨.leq, (.bin .add .i64 (.var 2) (.var 3)), (.lit 1048577), true⟩, ⟨.gtr, (.bin .mul .i64 (.bin .mul .i64 (.lit 1) (.var 1)) (.var 3)), (.lit 4096), true⟩]
theorem r2_0_1 (ρ : Nat → Int) (aR aS : Addr) (A : SlT) : runQ ρ aR aS L2_0 A (one ⟨2, .v (goInt (2 : Nat)), cs2⟩) noO 35 [.sym (.nm 0)] (.v (vi 5)) := by unfold runQ; kernel_rfl
theorem r2_0_2 (ρ : Nat → Int) (aR aS : Addr) (A : SlT) : runQ ρ aR aS L2_0 A (one ⟨2, .v (goInt (2 : Nat)), cs2⟩) noO 10 [.sym (.nm 0)] (.v (vi 5)) := by unfold runQ; kernel_rfl
def L2_1 : List CF := [⟨.geq, (.var 0), (.lit (-1048576)), true⟩, ⟨.leq, (.var 0), (.lit 1048576), true⟩, ⟨.geq, (.var 1), (.lit 0), true⟩, ⟨.leq, (.var 1), (.lit 64), true⟩, ⟨.leq, (.bin .add .i64 (.var 0) (.var 1)), (.lit 1048577), true⟩, ⟨.geq, (.var 2), (.lit (-1048576)), true⟩, ⟨.leq, (.var 2), (.lit 1048576), true⟩, ⟨.geq, (.var 3), (.lit 0), true⟩, ⟨.leq, (.var 3), (.lit 64), true⟩, ⟨.leq, (.bin .add .i64 (.var 2) (.var 3)), (.lit 1048577), true⟩, ⟨.gtr, (.bin .mul .i64 (.bin .mul .i64 (.lit 1) (.var 1)) (.var 3)), (.lit 4096), false⟩]
theorem r2_1_1 (ρ : Nat → Int) (aR aS : Addr) (A : SlT) : runQ ρ aR aS L2_1 A (one ⟨2, .v (goInt (2 : Nat)), cs2⟩) noO 35 [.sym (.nm 0)] (.v (vi 0)) := by unfold runQ; kernel_rfl
theorem r2_1_2 (ρ : Nat → Int) (aR aS : Addr) (A : SlT) : runQ ρ aR aS L2_1 A (one ⟨2, .v (goInt (2 : Nat)), cs2⟩) noO 10 [.sym (.nm 0)] (.v (vi 0)) := by unfold runQ; kernel_rfl
def L2_2 : List CF := [⟨.geq, (.var 0), (.lit (-1048576)), true⟩, ⟨.leq, (.var 0), (.lit 1048576), true⟩, ⟨.geq, (.var 1), (.lit 0), true⟩, ⟨.leq, (.var 1), (.lit 64), true⟩, ⟨.leq, (.bin .add .i64 (.var 0) (.var 1)), (.lit 1048577), true⟩, ⟨.geq, (.var 2), (.lit (-1048576)), true⟩, ⟨.leq, (.var 2), (.lit 1048576), true⟩, ⟨.geq, (.var 3), (.lit 0), true⟩, ⟨.leq, (.var 3), (.lit 64), true⟩, ⟨.leq, (.bin .add .i64 (.var 2) (.var 3)), (.lit 1048577), false⟩]
theorem r2_2_1 (ρ : Nat → Int) (aR aS : Addr) (A : SlT) : runQ ρ aR aS L2_2 A (one ⟨2, .v (goInt (2 : Nat)), cs2⟩) noO 35 [.sym (.nm 0)] (.v (vi 3)) := by unfold runQ; kernel_rfl
theorem r2_2_2 (ρ : Nat → Int) (aR aS : Addr) (A : SlT) : runQ ρ aR aS L2_2 A (one ⟨2, .v (goInt (2 : Nat)), cs2⟩) noO 10 [.sym (.nm 0)] (.v (vi 3)) := by unfold runQ; kernel_rfl
def L2_3 : List CF := [⟨.geq, (.var 0), (.lit (-1048576)), true⟩, ⟨.leq, (.var 0), (.lit 1048576), true⟩, ⟨.geq, (.var 1), (.lit 0), true⟩, ⟨.leq, (.var 1), (.lit 64), true⟩, ⟨.leq, (.bin .add .i64 (.var 0) (.var 1)), (.lit 1048577), true⟩, ⟨.geq, (.var 2), (.lit (-1048576)), true⟩, ⟨.leq, (.var 2), (.lit 1048576), true⟩, ⟨.geq, (.var 3), (.lit 0), true⟩, ⟨.leq, (.var 3), (.lit 64), false⟩]
theorem r2_3_1 (ρ : Nat → Int) (aR aS : Addr) (A : SlT) : runQ ρ aR aS L2_3 A (one ⟨2, .v (goInt (2 : Nat)), cs2⟩) noO 35 [.sym (.nm 0)] (.v (vi 3)) := by unfold runQ; kernel_rfl
theorem r2_3_2 (ρ : Nat → Int) (aR aS : Addr) (A : SlT) : runQ ρ aR aS L2_3 A (one ⟨2, .v (goInt (2 : Nat)), cs2⟩) noO 10 [.sym (.nm 0)] (.v (vi 3)) := by unfold runQ; kernel_rfl
def L2_4 : List CF := [⟨.geq, (.var 0), (.lit (-1048576)), true⟩, ⟨.leq, (.var 0), (.lit 1048576), true⟩, ⟨.geq, (.var 1), (.lit 0), true⟩, ⟨.leq, (.var 1), (.lit 64), true⟩, ⟨.leq, (.bin .add .i64 (.var 0) (.var 1)), (.lit 1048577), true⟩, ⟨.geq, (.var 2), (.lit (-1048576)), true⟩, ⟨.leq, (.var 2), (.lit 1048576), true⟩, ⟨.geq, (.var 3), (.lit 0), false⟩]
theorem r2_4_1 (ρ : Nat → Int) (aR aS : Addr) (A : SlT) : runQ ρ aR aS L2_4 A (one ⟨2, .v (goInt (2 : Nat)), cs2⟩) noO 35 [.sym (.nm 0)] (.v (vi 3)) := by unfold runQ; kernel_rfl
theorem r2_4_2 (ρ : Nat → Int) (aR aS : Addr) (A : SlT) : runQ ρ aR aS L2_4 A (one ⟨2, .v (goInt (2 : Nat)), cs2⟩) noO 10 [.sym (.nm 0)] (.v (vi 3)) := by unfold runQ; kernel_rfl
def L2_5 : List CF := [⟨.geq, (.var 0), (.lit (-1048576)), true⟩, ⟨.leq, (.var 0), (.lit 1048576), true⟩, ⟨.geq, (.var 1), (.lit 0), true⟩, ⟨.leq, (.var 1), (.lit 64), true⟩, ⟨.leq, (.bin .add .i64 (.var 0) (.var 1)), (.lit 1048577), true⟩, ⟨.geq, (.var 2), (.lit (-1048576)), true⟩, ⟨.leq, (.var 2), (.lit 1048576), false⟩]
theorem r2_5_1 (ρ : Nat → Int) (aR aS : Addr) (A : SlT) : runQ ρ aR aS L2_5 A (one ⟨2, .v (goInt (2 : Nat)), cs2⟩) noO 35 [.sym (.nm 0)] (.v (vi 3)) := by unfold runQ; kernel_rfl
theorem r2_5_2 (ρ : Nat → Int) (aR aS : Addr) (A : SlT) : runQ ρ aR aS L2_5 A (one ⟨2, .v (goInt (2 : Nat)), cs2⟩) noO 10 [.sym (.nm 0)] (.v (vi 3)) := by unfold runQ; kernel_rfl
def L2_6 : List CF := [⟨.geq, (.var 0), (.lit (-1048576)), true⟩, ⟨.leq, (.var 0), (.lit 1048576), true⟩, ⟨.geq, (.var 1), (.lit 0), true⟩, ⟨.leq, (.var 1), (.lit 64), true⟩, ⟨.leq, (.bin .add .i64 (.var 0) (.var 1)), (.lit 1048577), true⟩, ⟨.geq, (.var 2), (.lit (-1048576)), false⟩]
theorem r2_6_1 (ρ : Nat → Int) (aR aS : Addr) (A : SlT) : runQ ρ aR aS L2_6 A (one ⟨2, .v (goInt (2 : Nat)), cs2⟩) noO 35 [.sym (.nm 0)] (.v (vi 3)) := by unfold runQ; kernel_rfl
theorem r2_6_2 (ρ : Nat → Int) (aR aS : Addr) (A : SlT) : runQ ρ aR aS L2_6 A (one ⟨2, .v (goInt (2 : Nat)), cs2⟩) noO 10 [.sym (.nm 0)] (.v (vi 3)) := by unfold runQ; kernel_rfl
def L2_7 : List CF := [⟨.geq, (.var 0), (.lit (-1048576)), true⟩, ⟨.leq, (.var 0), (.lit 1048576), true⟩, ⟨.geq, (.var 1), (.lit 0), true⟩, ⟨.leq, (.var 1), (.lit 64), true⟩, ⟨.leq, (.bin .add .i64 (.var 0) (.var 1)), (.lit 1048577), false⟩]
theorem r2_7_1 (ρ : Nat → Int) (aR aS : Addr) (A : SlT) : runQ ρ aR aS L2_7 A (one ⟨2, .v (goInt (2 : Nat)), cs2⟩) noO 35 [.sym (.nm 0)] (.v (vi 3)) := by unfold runQ; kernel_rfl
theorem r2_7_2 (ρ : Nat → Int) (aR aS : Addr) (A : SlT) : runQ ρ aR aS L2_7 A (one ⟨2, .v (goInt (2 : Nat)), cs2⟩) noO 10 [.sym (.nm 0)] (.v (vi 3)) := by unfold runQ; kernel_rfl
def L2_8 : List CF := [⟨.geq, (.var 0), (.lit (-1048576)), true⟩, ⟨.leq, (.var 0), (.lit 1048576), true⟩, ⟨.geq, (.var 1), (.lit 0), true⟩, ⟨.leq, (.var 1), (.lit 64), false⟩]
theorem r2_8_1 (ρ : Nat → Int) (aR aS : Addr) (A : SlT) : runQ ρ aR aS L2_8 A (one ⟨2, .v (goInt (2 : Nat)), cs2⟩) noO 35 [.sym (.nm 0)] (.v (vi 3)) := by unfold runQ; kernel_rfl
theorem r2_8_2 (ρ : Nat → Int) (aR aS : Addr) (A : SlT) : runQ ρ aR aS L2_8 A (one ⟨2, .v (goInt (2 : Nat)), cs2⟩) noO 10 [.sym (.nm 0)] (.v (vi 3)) := by unfold runQ; kernel_rfl
def L2_9 : List CF := [⟨.geq, (.var 0), (.lit (-1048576)), true⟩, ⟨.leq, (.var 0), (.lit 1048576), true⟩, ⟨.geq, (.var 1), (.lit 0), false⟩]
theorem r2_9_1 (ρ : Nat → Int) (aR aS : Addr) (A : SlT) : runQ ρ aR aS L2_9 A (one ⟨2, .v (goInt (2 : Nat)), cs2⟩) noO 35 [.sym (.nm 0)] (.v (vi 3)) := by unfold runQ; kernel_rfl
theorem r2_9_2 (ρ : Nat → Int) (aR aS : Addr) (A : SlT) : runQ ρ aR aS L2_9 A (one ⟨2, .v (goInt (2 : Nat)), cs2⟩) noO 10 [.sym (.nm 0)] (.v (vi 3)) := by unfold runQ; kernel_rfl
def L2_10 : List CF := [⟨.geq, (.var 0), (.lit (-1048576)), true⟩, ⟨.leq, (.var 0), (.lit 1048576), false⟩]
theorem r2_10_1 (ρ : Nat → Int) (aR aS : Addr) (A : SlT) : runQ ρ aR aS L2_10 A (one ⟨2, .v (goInt (2 : Nat)), cs2⟩) noO 35 [.sym (.nm 0)] (.v (vi 3)) := by unfold runQ; kernel_rfl
theorem r2_10_2 (ρ : Nat → Int) (aR aS : Addr) (A : SlT) : runQ ρ aR aS L2_10 A (one ⟨2, .v (goInt (2 : Nat)), cs2⟩) noO 10 [.sym (.nm 0)] (.v (vi 3)) := by unfold runQ; kernel_rfl
def L2_11 : List CF := [⟨.geq, (.var 0), (.lit (-1048576)), false⟩]
theorem r2_11_1 (ρ : Nat → Int) (aR aS : Addr) (A : SlT) : runQ ρ aR aS L2_11 A (one ⟨2, .v (goInt (2 : Nat)), cs2⟩) noO 35 [.sym (.nm 0)] (.v (vi 3)) := by unfold runQ; kernel_rfl
theorem r2_11_2 (ρ : Nat → Int) (aR aS : Addr) (A : SlT) : runQ ρ aR aS L2_11 A (one ⟨2, .v (goInt (2 : Nat)), cs2⟩) noO 10 [.sym (.nm 0)] (.v (vi 3)) := by unfold runQ; kernel_rfl
theorem cb2 (aR aS : Addr) (z0 z1 z2 z3 : Int) : ∃ e : Int, CB aR aS 2 [vi z0, vi z1, vi z2, vi z3] e := by
  have hcs : ∀ A q, @denL (Go.RX.env0 Tryd.prog (nmQ A) (nmQ_flat A) (rho2 z0 z1 z2 z3)) q cs2 = some [vi z0, vi z1, vi z2, vi z3] := fun _ _ => rfl
  generalize hρ : rho2 z0 z1 z2 z3 = ρ at hcs
  cases h0 : cmpI .geq (IE.ev ρ (.var 0)) (IE.ev ρ (.lit (-1048576))) with
  | true =>
    cases h1 : cmpI .leq (IE.ev ρ (.var 0)) (IE.ev ρ (.lit 1048576)) with
    | true =>
      cases h2 : cmpI .geq (IE.ev ρ (.var 1)) (IE.ev ρ (.lit 0)) with
      | true =>
        cases h3 : cmpI .leq (IE.ev ρ (.var 1)) (IE.ev ρ (.lit 64)) with
        | true =>
          cases h4 : cmpI .leq (IE.ev ρ (.bin .add .i64 (.var 0) (.var 1))) (IE.ev ρ (.lit 1048577)) with
          | true =>
            cases h5 : cmpI .geq (IE.ev ρ (.var 2)) (IE.ev ρ (.lit (-1048576))) with
            | true =>
              cases h6 : cmpI .leq (IE.ev ρ (.var 2)) (IE.ev ρ (.lit 1048576)) with
              | true =>
                cases h7 : cmpI .geq (IE.ev ρ (.var 3)) (IE.ev ρ (.lit 0)) with
                | true =>
                  cases h8 : cmpI .leq (IE.ev ρ (.var 3)) (IE.ev ρ (.lit 64)) with
                  | true =>
                    cases h9 : cmpI .leq (IE.ev ρ (.bin .add .i64 (.var 2) (.var 3))) (IE.ev ρ (.lit 1048577)) with
                    | true =>
                      cases h10 : cmpI .gtr (IE.ev ρ (.bin .mul .i64 (.bin .mul .i64 (.lit 1) (.var 1)) (.var 3))) (IE.ev ρ (.lit 4096)) with
                      | true =>
                        exact ⟨5, cb_leaf (by decide) hcs (L := L2_0) ((all_cons ⟨rfl, h0⟩ (all_cons ⟨rfl, h1⟩ (all_cons ⟨rfl, h2⟩ (all_cons ⟨rfl, h3⟩ (all_cons ⟨rfl, h4⟩ (all_cons ⟨rfl, h5⟩ (all_cons ⟨rfl, h6⟩ (all_cons ⟨rfl, h7⟩ (all_cons ⟨rfl, h8⟩ (all_cons ⟨rfl, h9⟩ (all_cons ⟨rfl, h10⟩ all_nil)))))))))))) (fun h => by cases h) (r2_0_1 _ _ _) (r2_0_2 _ _ _)⟩
                      | false =>
                        exact ⟨0, cb_leaf (by decide) hcs (L := L2_1) ((all_cons ⟨rfl, h0⟩ (all_cons ⟨rfl, h1⟩ (all_cons ⟨rfl, h2⟩ (all_cons ⟨rfl, h3⟩ (all_cons ⟨rfl, h4⟩ (all_cons ⟨rfl, h5⟩ (all_cons ⟨rfl, h6⟩ (all_cons ⟨rfl, h7⟩ (all_cons ⟨rfl, h8⟩ (all_cons ⟨rfl, h9⟩ (all_cons ⟨rfl, h10⟩ all_nil)))))))))))) (fun h => by cases h) (r2_1_1 _ _ _) (r2_1_2 _ _ _)⟩
                    | false =>
                      exact ⟨3, cb_leaf (by decide) hcs (L := L2_2) ((all_cons ⟨rfl, h0⟩ (all_cons ⟨rfl, h1⟩ (all_cons ⟨rfl, h2⟩ (all_cons ⟨rfl, h3⟩ (all_cons ⟨rfl, h4⟩ (all_cons ⟨rfl, h5⟩ (all_cons ⟨rfl, h6⟩ (all_cons ⟨rfl, h7⟩ (all_cons ⟨rfl, h8⟩ (all_cons ⟨rfl, h9⟩ all_nil))))))))))) (fun h => by cases h) (r2_2_1 _ _ _) (r2_2_2 _ _ _)⟩
                  | false =>
                    exact ⟨3, cb_leaf (by decide) hcs (L := L2_3) ((all_cons ⟨rfl, h0⟩ (all_cons ⟨rfl, h1⟩ (all_cons ⟨rfl, h2⟩ (all_cons ⟨rfl, h3⟩ (all_cons ⟨rfl, h4⟩ (all_cons ⟨rfl, h5⟩ (all_cons ⟨rfl, h6⟩ (all_cons ⟨rfl, h7⟩ (all_cons ⟨rfl, h8⟩ all_nil)))))))))) (fun h => by cases h) (r2_3_1 _ _ _) (r2_3_2 _ _ _)⟩
                | false =>
                  exact ⟨3, cb_leaf (by decide) hcs (L := L2_4) ((all_cons ⟨rfl, h0⟩ (all_cons ⟨rfl, h1⟩ (all_cons ⟨rfl, h2⟩ (all_cons ⟨rfl, h3⟩ (all_cons ⟨rfl, h4⟩ (all_cons ⟨rfl, h5⟩ (all_cons ⟨rfl, h6⟩ (all_cons ⟨rfl, h7⟩ all_nil))))))))) (fun h => by cases h) (r2_4_1 _ _ _) (r2_4_2 _ _ _)⟩
              | false =>
                exact ⟨3, cb_leaf (by decide) hcs (L := L2_5) ((all_cons ⟨rfl, h0⟩ (all_cons ⟨rfl, h1⟩ (all_cons ⟨rfl, h2⟩ (all_cons ⟨rfl, h3⟩ (all_cons ⟨rfl, h4⟩ (all_cons ⟨rfl, h5⟩ (all_cons ⟨rfl, h6⟩ all_nil)))))))) (fun h => by cases h) (r2_5_1 _ _ _) (r2_5_2 _ _ _)⟩
            | false =>
              exact ⟨3, cb_leaf (by decide) hcs (L := L2_6) ((all_cons ⟨rfl, h0⟩ (all_cons ⟨rfl, h1⟩ (all_cons ⟨rfl, h2⟩ (all_cons ⟨rfl, h3⟩ (all_cons ⟨rfl, h4⟩ (all_cons ⟨rfl, h5⟩ all_nil))))))) (fun h => by cases h) (r2_6_1 _ _ _) (r2_6_2 _ _ _)⟩
          | false =>
            exact ⟨3, cb_leaf (by decide) hcs (L := L2_7) ((all_cons ⟨rfl, h0⟩ (all_cons ⟨rfl, h1⟩ (all_cons ⟨rfl, h2⟩ (all_cons ⟨rfl, h3⟩ (all_cons ⟨rfl, h4⟩ all_nil)))))) (fun h => by cases h) (r2_7_1 _ _ _) (r2_7_2 _ _ _)⟩
        | false =>
          exact ⟨3, cb_leaf (by decide) hcs (L := L2_8) ((all_cons ⟨rfl, h0⟩ (all_cons ⟨rfl, h1⟩ (all_cons ⟨rfl, h2⟩ (all_cons ⟨rfl, h3⟩ all_nil))))) (fun h => by cases h) (r2_8_1 _ _ _) (r2_8_2 _ _ _)⟩
      | false =>
        exact ⟨3, cb_leaf (by decide) hcs (L := L2_9) ((all_cons ⟨rfl, h0⟩ (all_cons ⟨rfl, h1⟩ (all_cons ⟨rfl, h2⟩ all_nil)))) (fun h => by cases h) (r2_9_1 _ _ _) (r2_9_2 _ _ _)⟩
    | false =>
      exact ⟨3, cb_leaf (by decide) hcs (L := L2_10) ((all_cons ⟨rfl, h0⟩ (all_cons ⟨rfl, h1⟩ all_nil))) (fun h => by cases h) (r2_10_1 _ _ _) (r2_10_2 _ _ _)⟩
  | false =>
    exact ⟨3, cb_leaf (by decide) hcs (L := L2_11) ((all_cons ⟨rfl, h0⟩ all_nil)) (fun h => by cases h) (r2_11_1 _ _ _) (r2_11_2 _ _ _)⟩
end
end Go.Proofs.YtdmbnllekmgnhaaDoor

namespace Go.Proofs.YtdmbnllekmgnhaaDoor
noncomputable section
open Go Go.RX
open Go.RowKit (Below)
set_option maxRecDepth 1000000
set_option maxHeartbeats 4000000
def rho3 (z0 z1 z2 z3 z4 z5 : Int) : Nat → Int := fun i => match i with
  | 0 => z0
  | 1 => z1
  | 2 => z2
  | 3 => z3
  | 4 => z4
  | 5 => z5
  | _ => 0
abbrev cs3 : List SVal := [sy 0, sy 1, sy 2, sy 3, sy 4, sy 5]
def L3_0 : List CF := [⟨.geq, (.var 0), (.lit (-1048576)), true⟩, ⟨.leq, (.var 0), (.lit 1048576), true⟩, ⟨.geq, (.var 1), (.lit 0), true⟩, ⟨.leq, (.var 1), (.lit 64), true⟩, ⟨.leq, (.bin .add .i64 (.var 0) (.var 1)), (.lit 1048577), true⟩, ⟨.geq, (.var 2), (.lit (-1048576)), true⟩, ⟨.leq, (.var 2), (.lit 1048576), true⟩, ⟨.geq, (.var 3), (.lit 0), true⟩, ⟨.leq, (.var 3), (.lit 64), true⟩, ⟨.leq, (.bin .add .i64 (.var 2) (.var 3)), (.lit 1048577), true⟩, ⟨.geq, (.var 4), (.lit (-1048576)), true⟩, ⟨.leq, (.var 4), (.lit 1048576), true⟩, ⟨.geq, (.var 5), (.lit 0), true⟩, ⟨.leq, (.var 5), (.lit 64), true⟩, ⟨.leq, (.bin .add .i64 (.var 4) (.var 5)), (.lit 1048577), true⟩, ⟨.gtr, (.bin .mul .i64 (.bin .mul .i64 (.bin .mul .i64 (.lit 1) (.var 1)) (.var 3)) (.var 5)), (.lit 4096), true⟩]
theorem r3_0_1 (ρ : Nat → Int) (aR aS : Addr) (A : SlT) : runQ ρ aR aS L3_0 A (one ⟨3, .v (goInt (3 : Nat)), cs3⟩) noO 35 [.sym (.nm 0)] (.v (vi 5)) := by unfold runQ; kernel_rfl
theorem r3_0_2 (ρ : Nat → Int) (aR aS : Addr) (A : SlT) : runQ ρ aR aS L3_0 A (one ⟨3, .v (goInt (3 : Nat)), cs3⟩) noO 10 [.sym (.nm 0)] (.v (vi 5)) := by unfold runQ; kernel_rfl
def L3_1 : List CF := [⟨.geq, (.var 0), (.lit (-1048576)), true⟩, ⟨.leq, (.var 0), (.lit 1048576), true⟩, ⟨.geq, (.var 1), (.lit 0), true⟩, ⟨.leq, (.var 1), (.lit 64), true⟩, ⟨.leq, (.bin .add .i64 (.var 0) (.var 1)), (.lit 1048577), true⟩, ⟨.geq, (.var 2), (.lit (-1048576)), true⟩, ⟨.leq, (.var 2), (.lit 1048576), true⟩, ⟨.geq, (.var 3), (.lit 0), true⟩, ⟨.leq, (.var 3), (.lit 64), true⟩, ⟨.leq, (.bin .add .i64 (.var 2) (.var 3)), (.lit 1048577), true⟩, ⟨.geq, (.var 4), (.lit (-1048576)), true⟩, ⟨.leq, (.var 4), (.lit 1048576), true⟩, ⟨.geq, (.var 5), (.lit 0), true⟩, ⟨.leq, (.var 5), (.lit 64), true⟩, ⟨.leq, (.bin .add .i64 (.var 4) (.var 5)), (.lit 1048577), true⟩, ⟨.gtr, (.bin .mul .i64 (.bin .mul .i64 (.bin .mul .i64 (.lit 1) (.var 1)) (.var 3)) (.var 5)), (.lit 4096), false⟩]
theorem r3_1_1 (ρ : Nat → Int) (aR aS : Addr) (A : SlT) : runQ ρ aR aS L3_1 A (one ⟨3, .v (goInt (3 : Nat)), cs3⟩) noO 35 [.sym (.nm 0)] (.v (vi 0)) := by unfold runQ; kernel_rfl
theorem r3_1_2 (ρ : Nat → Int) (aR aS : Addr) (A : SlT) : runQ ρ aR aS L3_1 A (one ⟨3, .v (goInt (3 : Nat)), cs3⟩) noO 10 [.sym (.nm 0)] (.v (vi 0)) := by unfold runQ; kernel_rfl
def L3_2 : List CF := [⟨.geq, (.var 0), (.lit (-1048576)), true⟩, ⟨.leq, (.var 0), (.lit 1048576), true⟩, ⟨.geq, (.var 1), (.lit 0), true⟩, ⟨.leq, (.var 1), (.lit 64), true⟩, ⟨.leq, (.bin .add .i64 (.var 0) (.var 1)), (.lit 1048577), true⟩, ⟨.geq, (.var 2), (.lit (-1048576)), true⟩, ⟨.leq, (.var 2), (.lit 1048576), true⟩, ⟨.geq, (.var 3), (.lit 0), true⟩, ⟨.leq, (.var 3), (.lit 64), true⟩, ⟨.leq, (.bin .add .i64 (.var 2) (.var 3)), (.lit 1048577), true⟩, ⟨.geq, (.var 4), (.lit (-1048576)), true⟩, ⟨.leq, (.var 4), (.lit 1048576), true⟩, ⟨.geq, (.var 5), (.lit 0), true⟩, ⟨.leq, (.var 5), (.lit 64), true⟩, ⟨.leq, (.bin .add .i64 (.var 4) (.var 5)), (.lit 1048577), false⟩]
theorem r3_2_1 (ρ : Nat → Int) (aR aS : Addr) (A : SlT) : runQ ρ aR aS L3_2 A (one ⟨3, .v (goInt (3 : Nat)), cs3⟩) noO 35 [.sym (.nm 0)] (.v (vi 3)) := by unfold runQ; kernel_rfl
theorem r3_2_2 (ρ : Nat → Int) (aR aS : Addr) (A : SlT) : runQ ρ aR aS L3_2 A (one ⟨3, .v (goInt (3 : Nat)), cs3⟩) noO 10 [.sym (.nm 0)] (.v (vi 3)) := by unfold runQ; kernel_rfl
def L3_3 : List CF := [⟨.geq, (.var 0), (.lit (-1048576)), true⟩, ⟨.leq, (.var 0), (.lit 1048576), true⟩, ⟨.geq, (.var 1), (.lit 0), true⟩, ⟨.leq, (.var 1), (.lit 64), true⟩, ⟨.leq, (.bin .add .i64 (.var 0) (.var 1)), (.lit 1048577), true⟩, ⟨.geq, (.var 2), (.lit (-1048576)), true⟩, ⟨.leq, (.var 2), (.lit 1048576), true⟩, ⟨.geq, (.var 3), (.lit 0), true⟩, ⟨.leq, (.var 3), (.lit 64), true⟩, ⟨.leq, (.bin .add .i64 (.var 2) (.var 3)), (.lit 1048577), true⟩, ⟨.geq, (.var 4), (.lit (-1048576)), true⟩, ⟨.leq, (.var 4), (.lit 1048576), true⟩, ⟨.geq, (.var 5), (.lit 0), true⟩, ⟨.leq, (.var 5), (.lit 64), false⟩]
theorem r3_3_1 (ρ : Nat → Int) (aR aS : Addr) (A : SlT) : runQ ρ aR aS L3_3 A (one ⟨3, .v (goInt (3 : Nat)), cs3⟩) noO 35 [.sym (.nm 0)] (.v (vi 3)) := by unfold runQ; kernel_rfl
theorem r3_3_2 (ρ : Nat → Int) (aR aS : Addr) (A : SlT) : runQ ρ aR aS L3_3 A (one ⟨3, .v (goInt (3 : Nat)), cs3⟩) noO 10 [.sym (.nm 0)] (.v (vi 3)) := by unfold runQ; kernel_rfl
def L3_4 : List CF := [⟨.geq, (.var 0), (.lit (-1048576)), true⟩, ⟨.leq, (.var 0), (.lit 1048576), true⟩, ⟨.geq, (.var 1), (.lit 0), true⟩, ⟨.leq, (.var 1), (.lit 64), true⟩, ⟨.leq, (.bin .add .i64 (.var 0) (.var 1)), (.lit 1048577), true⟩, ⟨.geq, (.var 2), (.lit (-1048576)), true⟩, ⟨.leq, (.var 2), (.lit 1048576), true⟩, ⟨.geq, (.var 3), (.lit 0), true⟩, ⟨.leq, (.var 3), (.lit 64), true⟩, ⟨.leq, (.bin .add .i64 (.var 2) (.var 3)), (.lit 1048577), true⟩, ⟨.geq, (.var 4), (.lit (-1048576)), true⟩, ⟨.leq, (.var 4), (.lit 1048576), true⟩, ⟨.geq, (.var 5), (.lit 0), false⟩]
theorem r3_4_1 (ρ : Nat → Int) (aR aS : Addr) (A : SlT) : runQ ρ aR aS L3_4 A (one ⟨3, .v (goInt (3 : Nat)), cs3⟩) noO 35 [.sym (.nm 0)] (.v (vi 3)) := by unfold runQ; kernel_rfl
theorem r3_4_2 (ρ : Nat → Int) (aR aS : Addr) (A : SlT) : runQ ρ aR aS L3_4 A (one ⟨3, .v (goInt (3 : Nat)), cs3⟩) noO 10 [.sym (.nm 0)] (.v (vi 3)) := by unfold runQ; kernel_rfl
def L3_5 : List CF := [⟨.geq, (.var 0), (.lit (-1048576)), true⟩, ⟨.leq, (.var 0), (.lit 1048576), true⟩, ⟨.geq, (.var 1), (.lit 0), true⟩, ⟨.leq, (.var 1), (.lit 64), true⟩, ⟨.leq, (.bin .add .i64 (.var 0) (.var 1)), (.lit 1048577), true⟩, ⟨.geq, (.var 2), (.lit (-1048576)), true⟩, ⟨.leq, (.var 2), (.lit 1048576), true⟩, ⟨.geq, (.var 3), (.lit 0), true⟩, ⟨.leq, (.var 3), (.lit 64), true⟩, ⟨.leq, (.bin .add .i64 (.var 2) (.var 3)), (.lit 1048577), true⟩, ⟨.geq, (.var 4), (.lit (-1048576)), true⟩, ⟨.leq, (.var 4), (.lit 1048576), false⟩]
theorem r3_5_1 (ρ : Nat → Int) (aR aS : Addr) (A : SlT) : runQ ρ aR aS L3_5 A (one ⟨3, .v (goInt (3 : Nat)), cs3⟩) noO 35 [.sym (.nm 0)] (.v (vi 3)) := by unfold runQ; kernel_rfl
theorem r3_5_2 (ρ : Nat → Int) (aR aS : Addr) (A : SlT) : runQ ρ aR aS L3_5 A (one ⟨3, .v (goInt (3 : Nat)), cs3⟩) noO 10 [.sym (.nm 0)] (.v (vi 3)) := by unfold runQ; kernel_rfl
def L3_6 : List CF := [⟨.geq, (.var 0), (.lit (-1048576)), true⟩, ⟨.leq, (.var 0), (.lit 1048576), true⟩, ⟨.geq, (.var 1), (.lit 0), true⟩, ⟨.leq, (.var 1), (.lit 64), true⟩, ⟨.leq, (.bin .add .i64 (.var 0) (.var 1)), (.lit 1048577), true⟩, ⟨.geq, (.var 2), (.lit (-1048576)), true⟩, ⟨.leq, (.var 2), (.lit 1048576), true⟩, ⟨.geq, (.var 3), (.lit 0), true⟩, ⟨.leq, (.var 3), (.lit 64), true⟩, ⟨.leq, (.bin .add .i64 (.var 2) (.var 3)), (.lit 1048577), true⟩, ⟨.geq, (.var 4), (.lit (-1048576)), false⟩]
theorem r3_6_1 (ρ : Nat → Int) (aR aS : Addr) (A : SlT) : runQ ρ aR aS L3_6 A (one ⟨3, .v (goInt (3 : Nat)), cs3⟩) noO 35 [.sym (.nm 0)] (.v (vi 3)) := by unfold runQ; kernel_rfl
theorem r3_6_2 (ρ : Nat → Int) (aR aS : Addr) (A : SlT) : runQ ρ aR aS L3_6 A (one ⟨3, .v (goInt (3 : Nat)), cs3⟩) noO 10 [.sym (.nm 0)] (.v (vi 3)) := by unfold runQ; kernel_rfl
def L3_7 : List CF := [⟨.geq, (.var 0), (.lit (-1048576)), true⟩, ⟨.leq, (.var 0), (.lit 1048576), true⟩, ⟨.geq, (.var 1), (.lit 0), true⟩, ⟨.leq, (.var 1), (.lit 64), true⟩, ⟨.leq, (.bin .add .i64 (.var 0) (.var 1)), (.lit 1048577), true⟩, ⟨.geq, (.var 2), (.lit (-1048576)), true⟩, ⟨.leq, (.var 2), (.lit 1048576), true⟩, ⟨.geq, (.var 3), (.lit 0), true⟩, ⟨.leq, (.var 3), (.lit 64), true⟩, ⟨.leq, (.bin .add .i64 (.var 2) (.var 3)), (.lit 1048577), false⟩]
theorem r3_7_1 (ρ : Nat → Int) (aR aS : Addr) (A : SlT) : runQ ρ aR aS L3_7 A (one ⟨3, .v (goInt (3 : Nat)), cs3⟩) noO 35 [.sym (.nm 0)] (.v (vi 3)) := by unfold runQ; kernel_rfl
theorem r3_7_2 (ρ : Nat → Int) (aR aS : Addr) (A : SlT) : runQ ρ aR aS L3_7 A (one ⟨3, .v (goInt (3 : Nat)), cs3⟩) noO 10 [.sym (.nm 0)] (.v (vi 3)) := by unfold runQ; kernel_rfl
def L3_8 : List CF := [⟨.geq, (.var 0), (.lit (-1048576)), true⟩, ⟨.leq, (.var 0), (.lit 1048576), true⟩, ⟨.geq, (.var 1), (.lit 0), true⟩, ⟨.leq, (.var 1), (.lit 64), true⟩, ⟨.leq, (.bin .add .i64 (.var 0) (.var 1)), (.lit 1048577), true⟩, ⟨.geq, (.var 2), (.lit (-1048576)), true⟩, ⟨.leq, (.var 2), (.lit 1048576), true⟩, ⟨.geq, (.var 3), (.lit 0), true⟩, ⟨.leq, (.var 3), (.lit 64), false⟩]
theorem r3_8_1 (ρ : Nat → Int) (aR aS : Addr) (A : SlT) : runQ ρ aR aS L3_8 A (one ⟨3, .v (goInt (3 : Nat)), cs3⟩) noO 35 [.sym (.nm 0)] (.v (vi 3)) := by unfold runQ; kernel_rfl
theorem r3_8_2 (ρ : Nat → Int) (aR aS : Addr) (A : SlT) : runQ ρ aR aS L3_8 A (one ⟨3, .v (goInt (3 : Nat)), cs3⟩) noO 10 [.sym (.nm 0)] (.v (vi 3)) := by unfold runQ; kernel_rfl
def L3_9 : List CF := [⟨.geq, (.var 0), (.lit (-1048576)), true⟩, ⟨.leq, (.var 0), (.lit 1048576), true⟩, ⟨.geq, (.var 1), (.lit 0), true⟩, ⟨.leq, (.var 1), (.lit 64), true⟩, ⟨.leq, (.bin .add .i64 (.var 0) (.var 1)), (.lit 1048577), true⟩, ⟨.geq, (.var 2), (.lit (-1048576)), true⟩, ⟨.leq, (.var 2), (.lit 1048576), true⟩, ⟨.geq, (.var 3), (.lit 0), false⟩]
theorem r3_9_1 (ρ : Nat → Int) (aR aS : Addr) (A : SlT) : runQ ρ aR aS L3_9 A (one ⟨3, .v (goInt (3 : Nat)), cs3⟩) noO 35 [.sym (.nm 0)] (.v (vi 3)) := by unfold runQ; kernel_rfl
theorem r3_9_2 (ρ : Nat → Int) (aR aS : Addr) (A : SlT) : runQ ρ aR aS L3_9 A (one ⟨3, .v (goInt (3 : Nat)), cs3⟩) noO 10 [.sym (.nm 0)] (.v (vi 3)) := by unfold runQ; kernel_rfl
def L3_10 : List CF := [⟨.geq, (.var 0), (.lit (-1048576)), true⟩, ⟨.leq, (.var 0), (.lit 1048576), true⟩, ⟨.geq, (.var 1), (.lit 0), true⟩, ⟨.leq, (.var 1), (.lit 64), true⟩, ⟨.leq, (.bin .add .i64 (.var 0) (.var 1)), (.lit 1048577), true⟩, ⟨.geq, (.var 2), (.lit (-1048576)), true⟩, ⟨.leq, (.var 2), (.lit 1048576), false⟩]
theorem r3_10_1 (ρ : Nat → Int) (aR aS : Addr) (A : SlT) : runQ ρ aR aS L3_10 A (one ⟨3, .v (goInt (3 : Nat)), cs3⟩) noO 35 [.sym (.nm 0)] (.v (vi 3)) := by unfold runQ; kernel_rfl
theorem r3_10_2 (ρ : Nat → Int) (aR aS : Addr) (A : SlT) : runQ ρ aR aS L3_10 A (one ⟨3, .v (goInt (3 : Nat)), cs3⟩) noO 10 [.sym (.nm 0)] (.v (vi 3)) := by unfold runQ; kernel_rfl
def L3_11 : List CF := [⟨.geq, (.var 0), (.lit (-1048576)), true⟩, ⟨.leq, (.var 0), (.lit 1048576), true⟩, ⟨.geq, (.var 1), (.lit 0), true⟩, ⟨.leq, (.var 1), (.lit 64), true⟩, ⟨.leq, (.bin .add .i64 (.var 0) (.var 1)), (.lit 1048577), true⟩, ⟨.geq, (.var 2), (.lit (-1048576)), false⟩]
theorem r3_11_1 (ρ : Nat → Int) (aR aS : Addr) (A : SlT) : runQ ρ aR aS L3_11 A (one ⟨3, .v (goInt (3 : Nat)), cs3⟩) noO 35 [.sym (.nm 0)] (.v (vi 3)) := by unfold runQ; kernel_rfl
theorem r3_11_2 (ρ : Nat → Int) (aR aS : Addr) (A : SlT) : runQ ρ aR aS L3_11 A (one ⟨3, .v (goInt (3 : Nat)), cs3⟩) noO 10 [.sym (.nm 0)] (.v (vi 3)) := by unfold runQ; kernel_rfl
def L3_12 : List CF := [⟨.geq, (.var 0), (.lit (-1048576)), true⟩, ⟨.leq, (.var 0), (.lit 1048576), true⟩, ⟨.geq, (.var 1), (.lit 0), true⟩, ⟨.leq, (.var 1), (.lit 64), true⟩, ⟨.leq, (.bin .add .i64 (.var 0) (.var 1)), (.lit 1048577), false⟩]
theorem r3_12_1 (ρ : Nat → Int) (aR aS : Addr) (A : SlT) : runQ ρ aR aS L3_12 A (one ⟨3, .v (goInt (3 : Nat)), cs3⟩) noO 35 [.sym (.nm 0)] (.v (vi 3)) := by unfold runQ; kernel_rfl
theorem r3_12_2 (ρ : Nat → Int) (aR aS : Addr) (A : SlT) : runQ ρ aR aS L3_12 A (one ⟨3, .v (goInt (3 : Nat)), cs3⟩) noO 10 [.sym (.nm 0)] (.v (vi 3)) := by unfold runQ; kernel_rfl
def L3_13 : List CF := [⟨.geq, (.var 0), (.lit (-1048576)), true⟩, ⟨.leq, (.var 0), (.lit 1048576), true⟩, ⟨.geq, (.var 1), (.lit 0), true⟩, ⟨.leq, (.var 1), (.lit 64), false⟩]
theorem r3_13_1 (ρ : Nat → Int) (aR aS : Addr) (A : SlT) : runQ ρ aR aS L3_13 A (one ⟨3, .v (goInt (3 : Nat)), cs3⟩) noO 35 [.sym (.nm 0)] (.v (vi 3)) := by unfold runQ; kernel_rfl
theorem r3_13_2 (ρ : Nat → Int) (aR aS : Addr) (A : SlT) : runQ ρ aR aS L3_13 A (one ⟨3, .v (goInt (3 : Nat)), cs3⟩) noO 10 [.sym (.nm 0)] (.v (vi 3)) := by unfold runQ; kernel_rfl
def L3_14 : List CF := [⟨.geq, (.var 0), (.lit (-1048576)), true⟩, ⟨.leq, (.var 0), (.lit 1048576), true⟩, ⟨.geq, (.var 1), (.lit 0), false⟩]
theorem r3_14_1 (ρ : Nat → Int) (aR aS : Addr) (A : SlT) : runQ ρ aR aS L3_14 A (one ⟨3, .v (goInt (3 : Nat)), cs3⟩) noO 35 [.sym (.nm 0)] (.v (vi 3)) := by unfold runQ; kernel_rfl
theorem r3_14_2 (ρ : Nat → Int) (aR aS : Addr) (A : SlT) : runQ ρ aR aS L3_14 A (one ⟨3, .v (goInt (3 : Nat)), cs3⟩) noO 10 [.sym (.nm 0)] (.v (vi 3)) := by unfold runQ; kernel_rfl
def L3_15 : List CF := [⟨.geq, (.var 0), (.lit (-1048576)), true⟩, ⟨.leq, (.var 0), (.lit 1048576), false⟩]
theorem r3_15_1 (ρ : Nat → Int) (aR aS : Addr) (A : SlT) : runQ ρ aR aS L3_15 A (one ⟨3, .v (goInt (3 : Nat)), cs3⟩) noO 35 [.sym (.nm 0)] (.v (vi 3)) := by unfold runQ; kernel_rfl
theorem r3_15_2 (ρ : Nat → Int) (aR aS : Addr) (A : SlT) : runQ ρ aR aS L3_15 A (one ⟨3, .v (goInt (3 : Nat)), cs3⟩) noO 10 [.sym (.nm 0)] (.v (vi 3)) := by unfold runQ; kernel_rfl
def L3_16 : List CF := [⟨.geq, (.var 0), (.lit (-1048576)), false⟩]
theorem r3_16_1 (ρ : Nat → Int) (aR aS : Addr) (A : SlT) : runQ ρ aR aS L3_16 A (one ⟨3, .v (goInt (3 : Nat)), cs3⟩) noO 35 [.sym (.nm 0)] (.v (vi 3)) := by unfold runQ; kernel_rfl
theorem r3_16_2 (ρ : Nat → Int) (aR aS : Addr) (A : SlT) : runQ ρ aR aS L3_16 A (one ⟨3, .v (goInt (3 : Nat)), cs3⟩) noO 10 [.sym (.nm 0)] (.v (vi 3)) := by unfold runQ; kernel_rfl
theorem cb3 (aR aS : Addr) (z0 z1 z2 z3 z4 z5 : Int) : ∃ e : Int, CB aR aS 3 [vi z0, vi z1, vi z2, vi z3, vi z4, vi z5] e := by
  have hcs : ∀ A q, @denL (Go.RX.env0 Tryd.prog (nmQ A) (nmQ_flat A) (rho3 z0 z1 z2 z3 z4 z5)) q cs3 = some [vi z0, vi z1, vi z2, vi z3, vi z4, vi z5] := fun _ _ => rfl
  generalize hρ : rho3 z0 z1 z2 z3 z4 z5 = ρ at hcs
  cases h0 : cmpI .geq (IE.ev ρ (.var 0)) (IE.ev ρ (.lit (-1048576))) with
  | true =>
    cases h1 : cmpI .leq (IE.ev ρ (.var 0)) (IE.ev ρ (.lit 1048576)) with
    | true =>
      cases h2 : cmpI .geq (IE.ev ρ (.var 1)) (IE.ev ρ (.lit 0)) with
      | true =>
        cases h3 : cmpI .leq (IE.ev ρ (.var 1)) (IE.ev ρ (.lit 64)) with
        | true =>
          cases h4 : cmpI .leq (IE.ev ρ (.bin .add .i64 (.var 0) (.var 1))) (IE.ev ρ (.lit 1048577)) with
          | true =>
            cases h5 : cmpI .geq (IE.ev ρ (.var 2)) (IE.ev ρ (.lit (-1048576))) with
            | true =>
              cases h6 : cmpI .leq (IE.ev ρ (.var 2)) (IE.ev ρ (.lit 1048576)) with
              | true =>
                cases h7 : cmpI .geq (IE.ev ρ (.var 3)) (IE.ev ρ (.lit 0)) with
                | true =>
                  cases h8 : cmpI .leq (IE.ev ρ (.var 3)) (IE.ev ρ (.lit 64)) with
                  | true =>
                    cases h9 : cmpI .leq (IE.ev ρ (.bin .add .i64 (.var 2) (.var 3))) (IE.ev ρ (.lit 1048577)) with
                    | true =>
                      cases h10 : cmpI .geq (IE.ev ρ (.var 4)) (IE.ev ρ (.lit (-1048576))) with
                      | true =>
                        cases h11 : cmpI .leq (IE.ev ρ (.var 4)) (IE.ev ρ (.lit 1048576)) with
                        | true =>
                          cases h12 : cmpI .geq (IE.ev ρ (.var 5)) (IE.ev ρ (.lit 0)) with
                          | true =>
                            cases h13 : cmpI .leq (IE.ev ρ (.var 5)) (IE.ev ρ (.lit 64)) with
                            | true =>
                              cases h14 : cmpI .leq (IE.ev ρ (.bin .add .i64 (.var 4) (.var 5))) (IE.ev ρ (.lit 1048577)) with
                              | true =>
                                cases h15 : cmpI .gtr (IE.ev ρ (.bin .mul .i64 (.bin .mul .i64 (.bin .mul .i64 (.lit 1) (.var 1)) (.var 3)) (.var 5))) (IE.ev ρ (.lit 4096)) with
                                | true =>
                                  exact ⟨5, cb_leaf (by decide) hcs (L := L3_0) ((all_cons ⟨rfl, h0⟩ (all_cons ⟨rfl, h1⟩ (all_cons ⟨rfl, h2⟩ (all_cons ⟨rfl, h3⟩ (all_cons ⟨rfl, h4⟩ (all_cons ⟨rfl, h5⟩ (all_cons ⟨rfl, h6⟩ (all_cons ⟨rfl, h7⟩ (all_cons ⟨rfl, h8⟩ (all_cons ⟨rfl, h9⟩ (all_cons ⟨rfl, h10⟩ (all_cons ⟨rfl, h11⟩ (all_cons ⟨rfl, h12⟩ (all_cons ⟨rfl, h13⟩ (all_cons ⟨rfl, h14⟩ (all_cons ⟨rfl, h15⟩ all_nil))))))))))))))))) (fun h => by cases h) (r3_0_1 _ _ _) (r3_0_2 _ _ _)⟩
                                | false =>
                                  exact ⟨0, cb_leaf (by decide) hcs (L := L3_1) ((all_cons ⟨rfl, h0⟩ (all_cons ⟨rfl, h1⟩ (all_cons ⟨rfl, h2⟩ (all_cons ⟨rfl, h3⟩ (all_cons ⟨rfl, h4⟩ (all_cons ⟨rfl, h5⟩ (all_cons ⟨rfl, h6⟩ (all_cons ⟨rfl, h7⟩ (all_cons ⟨rfl, h8⟩ (all_cons ⟨rfl, h9⟩ (all_cons ⟨rfl, h10⟩ (all_cons ⟨rfl, h11⟩ (all_cons ⟨rfl, h12⟩ (all_cons ⟨rfl, h13⟩ (all_cons ⟨rfl, h14⟩ (all_cons ⟨rfl, h15⟩ all_nil))))))))))))))))) (fun h => by cases h) (r3_1_1 _ _ _) (r3_1_2 _ _ _)⟩
                              | false =>
                                exact ⟨3, cb_leaf (by decide) hcs (L := L3_2) ((all_cons ⟨rfl, h0⟩ (all_cons ⟨rfl, h1⟩ (all_cons ⟨rfl, h2⟩ (all_cons ⟨rfl, h3⟩ (all_cons ⟨rfl, h4⟩ (all_cons ⟨rfl, h5⟩ (all_cons ⟨rfl, h6⟩ (all_cons ⟨rfl, h7⟩ (all_cons ⟨rfl, h8⟩ (all_cons ⟨rfl, h9⟩ (all_cons ⟨rfl, h10⟩ (all_cons ⟨rfl, h11⟩ (all_cons ⟨rfl, h12⟩ (all_cons ⟨rfl, h13⟩ (all_cons ⟨rfl, h14⟩ all_nil)))))))))))))))) (fun h => by cases h) (r3_2_1 _ _ _) (r3_2_2 _ _ _)⟩
                            | false =>
                              exact ⟨3, cb_leaf (by decide) hcs (L := L3_3) ((all_cons ⟨rfl, h0⟩ (all_cons ⟨rfl, h1⟩ (all_cons ⟨rfl, h2⟩ (all_cons ⟨rfl, h3⟩ (all_cons ⟨rfl, h4⟩ (all_cons ⟨rfl, h5⟩ (all_cons ⟨rfl, h6⟩ (all_cons ⟨rfl, h7⟩ (all_cons ⟨rfl, h8⟩ (all_cons ⟨rfl, h9⟩ (all_cons ⟨rfl, h10⟩ (all_cons ⟨rfl, h11⟩ (all_cons ⟨rfl, h12⟩ (all_cons ⟨rfl, h13⟩ all_nil))))))))))))))) (fun h => by cases h) (r3_3_1 _ _ _) (r3_3_2 _ _ _)⟩
                          | false =>
                            exact ⟨3, cb_leaf (by decide) hcs (L := L3_4) ((all_cons ⟨rfl, h0⟩ (all_cons ⟨rfl, h1⟩ (all_cons ⟨rfl, h2⟩ (all_cons ⟨rfl, h3⟩ (all_cons ⟨rfl, h4⟩ (all_cons ⟨rfl, h5⟩ (all_cons ⟨rfl, h6⟩ (all_cons ⟨rfl, h7⟩ (all_cons ⟨rfl, h8⟩ (all_cons ⟨rfl, h9⟩ (all_cons ⟨rfl, h10⟩ (all_cons ⟨rfl, h11⟩ (all_cons ⟨rfl, h12⟩ all_nil)))))))))))))) (fun h => by cases h) (r3_4_1 _ _ _) (r3_4_2 _ _ _)⟩
                        | false =>
                          exact ⟨3, cb_leaf (by decide) hcs (L := L3_5) ((all_cons ⟨rfl, h0⟩ (all_cons ⟨rfl, h1⟩ (all_cons ⟨rfl, h2⟩ (all_cons ⟨rfl, h3⟩ (all_cons ⟨rfl, h4⟩ (all_cons ⟨rfl, h5⟩ (all_cons ⟨rfl, h6⟩ (all_cons ⟨rfl, h7⟩ (all_cons ⟨rfl, h8⟩ (all_cons ⟨rfl, h9⟩ (all_cons ⟨rfl, h10⟩ (all_cons ⟨rfl, h11⟩ all_nil))))))))))))) (fun h => by cases h) (r3_5_1 _ _ _) (r3_5_2 _ _ _)⟩
                      | false =>
                        exact ⟨3, cb_leaf (by decide) hcs (L := L3_6) ((all_cons ⟨rfl, h0⟩ (all_cons ⟨rfl, h1⟩ (all_cons ⟨rfl, h2⟩ (all_cons ⟨rfl, h3⟩ (all_cons ⟨rfl, h4⟩ (all_cons ⟨rfl, h5⟩ (all_cons ⟨rfl, h6⟩ (all_cons ⟨rfl, h7⟩ (all_cons ⟨rfl, h8⟩ (all_cons ⟨rfl, h9⟩ (all_cons ⟨rfl, h10⟩ all_nil)))))))))))) (fun h => by cases h) (r3_6_1 _ _ _) (r3_6_2 _ _ _)⟩
                    | false =>
                      exact ⟨3, cb_leaf (by decide) hcs (L := L3_7) ((all_cons ⟨rfl, h0⟩ (all_cons ⟨rfl, h1⟩ (all_cons ⟨rfl, h2⟩ (all_cons ⟨rfl, h3⟩ (all_cons ⟨rfl, h4⟩ (all_cons ⟨rfl, h5⟩ (all_cons ⟨rfl, h6⟩ (all_cons ⟨rfl, h7⟩ (all_cons ⟨rfl, h8⟩ (all_cons ⟨rfl, h9⟩ all_nil))))))))))) (fun h => by cases h) (r3_7_1 _ _ _) (r3_7_2 _ _ _)⟩
                  | false =>
                    exact ⟨3, cb_leaf (by decide) hcs (L := L3_8) ((all_cons ⟨rfl, h0⟩ (all_cons ⟨rfl, h1⟩ (all_cons ⟨rfl, h2⟩ (all_cons ⟨rfl, h3⟩ (all_cons ⟨rfl, h4⟩ (all_cons ⟨rfl, h5⟩ (all_cons ⟨rfl, h6⟩ (all_cons ⟨rfl, h7⟩ (all_cons ⟨rfl, h8⟩ all_nil)))))))))) (fun h => by cases h) (r3_8_1 _ _ _) (r3_8_2 _ _ _)⟩
                | false =>
                  exact ⟨3, cb_leaf (by decide) hcs (L := L3_9) ((all_cons ⟨rfl, h0⟩ (all_cons ⟨rfl, h1⟩ (all_cons ⟨rfl, h2⟩ (all_cons ⟨rfl, h3⟩ (all_cons ⟨rfl, h4⟩ (all_cons ⟨rfl, h5⟩ (all_cons ⟨rfl, h6⟩ (all_cons ⟨rfl, h7⟩ all_nil))))))))) (fun h => by cases h) (r3_9_1 _ _ _) (r3_9_2 _ _ _)⟩
              | false =>
                exact ⟨3, cb_leaf (by decide) hcs (L := L3_10) ((all_cons ⟨rfl, h0⟩ (all_cons ⟨rfl, h1⟩ (all_cons ⟨rfl, h2⟩ (all_cons ⟨rfl, h3⟩ (all_cons ⟨rfl, h4⟩ (all_cons ⟨rfl, h5⟩ (all_cons ⟨rfl, h6⟩ all_nil)))))))) (fun h => by cases h) (r3_10_1 _ _ _) (r3_10_2 _ _ _)⟩
            | false =>
              exact ⟨3, cb_leaf (by decide) hcs (L := L3_11) ((all_cons ⟨rfl, h0⟩ (all_cons ⟨rfl, h1⟩ (all_cons ⟨rfl, h2⟩ (all_cons ⟨rfl, h3⟩ (all_cons ⟨rfl, h4⟩ (all_cons ⟨rfl, h5⟩ all_nil))))))) (fun h => by cases h) (r3_11_1 _ _ _) (r3_11_2 _ _ _)⟩
          | false =>
            exact ⟨3, cb_leaf (by decide) hcs (L := L3_12) ((all_cons ⟨rfl, h0⟩ (all_cons ⟨rfl, h1⟩ (all_cons ⟨rfl, h2⟩ (all_cons ⟨rfl, h3⟩ (all_cons ⟨rfl, h4⟩ all_nil)))))) (fun h => by cases h) (r3_12_1 _ _ _) (r3_12_2 _ _ _)⟩
        | false =>
          exact ⟨3, cb_leaf (by decide) hcs (L := L3_13) ((all_cons ⟨rfl, h0⟩ (all_cons ⟨rfl, h1⟩ (all_cons ⟨rfl, h2⟩ (all_cons ⟨rfl, h3⟩ all_nil))))) (fun h => by cases h) (r3_13_1 _ _ _) (r3_13_2 _ _ _)⟩
      | false =>
        exact ⟨3, cb_leaf (by decide) hcs (L := L3_14) ((all_cons ⟨rfl, h0⟩ (all_cons ⟨rfl, h1⟩ (all_cons ⟨rfl, h2⟩ all_nil)))) (fun h => by cases h) (r3_14_1 _ _ _) (r3_14_2 _ _ _)⟩
    | false =>
      exact ⟨3, cb_leaf (by decide) hcs (L := L3_15) ((all_cons ⟨rfl, h0⟩ (all_cons ⟨rfl, h1⟩ all_nil))) (fun h => by cases h) (r3_15_1 _ _ _) (r3_15_2 _ _ _)⟩
  | false =>
    exact ⟨3, cb_leaf (by decide) hcs (L := L3_16) ((all_cons ⟨rfl, h0⟩ all_nil)) (fun h => by cases h) (r3_16_1 _ _ _) (r3_16_2 _ _ _)⟩
end
end Go.Proofs.YtdmbnllekmgnhaaDoor
