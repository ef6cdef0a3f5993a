import Derived.Test.YtdmbnllekmgnhaaDoorIA
namespace Go.Proofs.YtdmbnllekmgnhaaDoor
noncomputable section
open Go Go.RX
open Go.RowKit (Below)
set_option maxRecDepth 1000000
set_option maxHeartbeats 4000000
def M11_0 : List CF := [⟨.leq, (.bin .mul .i64 (.lit 1) (.tri 2 (.lit 0) (.tri 3 (.var 1) (.lit 100) (.lit 0)) (.lit 0))), (.lit 64), true⟩, ⟨.leq, (.bin .mul .i64 (.lit 1) (.tri 2 (.lit 0) (.tri 3 (.var 11) (.lit 100) (.lit 0)) (.lit 0))), (.lit 64), true⟩, ⟨.neq, (.var 20), (.lit 0), true⟩]
theorem m11_0 (ρ : Nat → Int) (aR aS : Addr) (A : SlT) : runL ρ aR aS (bigF 90 (.k 1) ++ (bigF 91 (.k 1) ++ M11_0)) A (.k 1) (.k 1) := by unfold runL runQ; kernel_rfl
def M11_1 : List CF := [⟨.leq, (.bin .mul .i64 (.lit 1) (.tri 2 (.lit 0) (.tri 3 (.var 1) (.lit 100) (.lit 0)) (.lit 0))), (.lit 64), true⟩, ⟨.leq, (.bin .mul .i64 (.lit 1) (.tri 2 (.lit 0) (.tri 3 (.var 11) (.lit 100) (.lit 0)) (.lit 0))), (.lit 64), true⟩, ⟨.neq, (.var 20), (.lit 0), false⟩, ⟨.neq, (.var 21), (.lit 0), true⟩]
theorem m11_1 (ρ : Nat → Int) (aR aS : Addr) (A : SlT) : runL ρ aR aS (bigF 90 (.k 1) ++ (bigF 91 (.k 1) ++ M11_1)) A (.k 1) (.k 1) := by unfold runL runQ; kernel_rfl
def M11_2 : List CF := [⟨.leq, (.bin .mul .i64 (.lit 1) (.tri 2 (.lit 0) (.tri 3 (.var 1) (.lit 100) (.lit 0)) (.lit 0))), (.lit 64), true⟩, ⟨.leq, (.bin .mul .i64 (.lit 1) (.tri 2 (.lit 0) (.tri 3 (.var 11) (.lit 100) (.lit 0)) (.lit 0))), (.lit 64), true⟩, ⟨.neq, (.var 20), (.lit 0), false⟩, ⟨.neq, (.var 21), (.lit 0), false⟩, ⟨.eql, (.bin .mul .i64 (.lit 1) (.var 11)), (.lit 0), true⟩]
theorem m11_2 (ρ : Nat → Int) (aR aS : Addr) (A : SlT) : runL ρ aR aS (bigF 90 (.k 1) ++ (bigF 91 (.k 1) ++ M11_2)) A (.k 1) (.k 1) := by unfold runL runQ; kernel_rfl
def M11_3 : List CF := [⟨.leq, (.bin .mul .i64 (.lit 1) (.tri 2 (.lit 0) (.tri 3 (.var 1) (.lit 100) (.lit 0)) (.lit 0))), (.lit 64), true⟩, ⟨.leq, (.bin .mul .i64 (.lit 1) (.tri 2 (.lit 0) (.tri 3 (.var 11) (.lit 100) (.lit 0)) (.lit 0))), (.lit 64), true⟩, ⟨.neq, (.var 20), (.lit 0), false⟩, ⟨.neq, (.var 21), (.lit 0), false⟩, ⟨.eql, (.bin .mul .i64 (.lit 1) (.var 11)), (.lit 0), false⟩, ⟨.eql, (.bin .mul .i64 (.lit 1) (.var 1)), (.lit 0), true⟩]
theorem m11_3 (ρ : Nat → Int) (aR aS : Addr) (A : SlT) : runL ρ aR aS (bigF 90 (.k 1) ++ (bigF 91 (.k 1) ++ M11_3)) A (.k 1) (.k 1) := by unfold runL runQ; kernel_rfl
def M11_4 : List CF := [⟨.leq, (.bin .mul .i64 (.lit 1) (.tri 2 (.lit 0) (.tri 3 (.var 1) (.lit 100) (.lit 0)) (.lit 0))), (.lit 64), true⟩, ⟨.leq, (.bin .mul .i64 (.lit 1) (.tri 2 (.lit 0) (.tri 3 (.var 11) (.lit 100) (.lit 0)) (.lit 0))), (.lit 64), true⟩, ⟨.neq, (.var 20), (.lit 0), false⟩, ⟨.neq, (.var 21), (.lit 0), false⟩, ⟨.eql, (.bin .mul .i64 (.lit 1) (.var 11)), (.lit 0), false⟩, ⟨.eql, (.bin .mul .i64 (.lit 1) (.var 1)), (.lit 0), false⟩, ⟨.neq, (.var 22), (.lit 0), true⟩]
theorem m11_4 (ρ : Nat → Int) (aR aS : Addr) (A : SlT) : runL ρ aR aS (bigF 90 (.k 1) ++ (bigF 91 (.k 1) ++ M11_4)) A (.k 1) (.k 1) := by unfold runL runQ; kernel_rfl
def M11_5 : List CF := [⟨.leq, (.bin .mul .i64 (.lit 1) (.tri 2 (.lit 0) (.tri 3 (.var 1) (.lit 100) (.lit 0)) (.lit 0))), (.lit 64), true⟩, ⟨.leq, (.bin .mul .i64 (.lit 1) (.tri 2 (.lit 0) (.tri 3 (.var 11) (.lit 100) (.lit 0)) (.lit 0))), (.lit 64), true⟩, ⟨.neq, (.var 20), (.lit 0), false⟩, ⟨.neq, (.var 21), (.lit 0), false⟩, ⟨.eql, (.bin .mul .i64 (.lit 1) (.var 11)), (.lit 0), false⟩, ⟨.eql, (.bin .mul .i64 (.lit 1) (.var 1)), (.lit 0), false⟩, ⟨.neq, (.var 22), (.lit 0), false⟩]
theorem m11_5 (ρ : Nat → Int) (aR aS : Addr) (A : SlT) : runL ρ aR aS (bigF 90 (.k 1) ++ (bigF 91 (.k 1) ++ M11_5)) A (.k 1) (.k 1) := by unfold runL runQ; kernel_rfl
def M11_6 : List CF := [⟨.leq, (.bin .mul .i64 (.lit 1) (.tri 2 (.lit 0) (.tri 3 (.var 1) (.lit 100) (.lit 0)) (.lit 0))), (.lit 64), true⟩, ⟨.leq, (.bin .mul .i64 (.lit 1) (.tri 2 (.lit 0) (.tri 3 (.var 11) (.lit 100) (.lit 0)) (.lit 0))), (.lit 64), false⟩]
theorem m11_6 (ρ : Nat → Int) (aR aS : Addr) (A : SlT) : runL ρ aR aS (bigF 90 (.k 1) ++ (bigF 91 (.k 1) ++ M11_6)) A (.k 1) (.k 1) := by unfold runL runQ; kernel_rfl
def M11_7 : List CF := [⟨.leq, (.bin .mul .i64 (.lit 1) (.tri 2 (.lit 0) (.tri 3 (.var 1) (.lit 100) (.lit 0)) (.lit 0))), (.lit 64), false⟩]
theorem m11_7 (ρ : Nat → Int) (aR aS : Addr) (A : SlT) : runL ρ aR aS (bigF 90 (.k 1) ++ (bigF 91 (.k 1) ++ M11_7)) A (.k 1) (.k 1) := by unfold runL runQ; kernel_rfl
theorem t11 (ρ : Nat → Int) (aR aS : Addr) (A : SlT) (ha : ∀ f ∈ bigF 90 (.k 1), f.ok ρ) (hb : ∀ f ∈ bigF 91 (.k 1), f.ok ρ) : Runs ρ aR aS A (.k 1) (.k 1) := by
  cases h0 : cmpI .leq (IE.ev ρ (.bin .mul .i64 (.lit 1) (.tri 2 (.lit 0) (.tri 3 (.var 1) (.lit 100) (.lit 0)) (.lit 0)))) (IE.ev ρ (.lit 64)) with
  | true =>
    cases h1 : cmpI .leq (IE.ev ρ (.bin .mul .i64 (.lit 1) (.tri 2 (.lit 0) (.tri 3 (.var 11) (.lit 100) (.lit 0)) (.lit 0)))) (IE.ev ρ (.lit 64)) with
    | true =>
      cases h2 : cmpI .neq (IE.ev ρ (.var 20)) (IE.ev ρ (.lit 0)) with
      | true =>
        exact ⟨_, all_app ha (all_app hb ((all_cons ⟨rfl, h0⟩ (all_cons ⟨rfl, h1⟩ (all_cons ⟨rfl, h2⟩ all_nil))))), m11_0 ρ aR aS A⟩
      | false =>
        cases h3 : cmpI .neq (IE.ev ρ (.var 21)) (IE.ev ρ (.lit 0)) with
        | true =>
          exact ⟨_, all_app ha (all_app hb ((all_cons ⟨rfl, h0⟩ (all_cons ⟨rfl, h1⟩ (all_cons ⟨rfl, h2⟩ (all_cons ⟨rfl, h3⟩ all_nil)))))), m11_1 ρ aR aS A⟩
        | false =>
          cases h4 : cmpI .eql (IE.ev ρ (.bin .mul .i64 (.lit 1) (.var 11))) (IE.ev ρ (.lit 0)) with
          | true =>
            exact ⟨_, all_app ha (all_app hb ((all_cons ⟨rfl, h0⟩ (all_cons ⟨rfl, h1⟩ (all_cons ⟨rfl, h2⟩ (all_cons ⟨rfl, h3⟩ (all_cons ⟨rfl, h4⟩ all_nil))))))), m11_2 ρ aR aS A⟩
          | false =>
            cases h5 : cmpI .eql (IE.ev ρ (.bin .mul .i64 (.lit 1) (.var 1))) (IE.ev ρ (.lit 0)) with
            | true =>
              exact ⟨_, all_app ha (all_app hb ((all_cons ⟨rfl, h0⟩ (all_cons ⟨rfl, h1⟩ (all_cons ⟨rfl, h2⟩ (all_cons ⟨rfl, h3⟩ (all_cons ⟨rfl, h4⟩ (all_cons ⟨rfl, h5⟩ all_nil)))))))), m11_3 ρ aR aS A⟩
            | false =>
              cases h6 : cmpI .neq (IE.ev ρ (.var 22)) (IE.ev ρ (.lit 0)) with
              | true =>
                exact ⟨_, all_app ha (all_app hb ((all_cons ⟨rfl, h0⟩ (all_cons ⟨rfl, h1⟩ (all_cons ⟨rfl, h2⟩ (all_cons ⟨rfl, h3⟩ (all_cons ⟨rfl, h4⟩ (all_cons ⟨rfl, h5⟩ (all_cons ⟨rfl, h6⟩ all_nil))))))))), m11_4 ρ aR aS A⟩
              | false =>
                exact ⟨_, all_app ha (all_app hb ((all_cons ⟨rfl, h0⟩ (all_cons ⟨rfl, h1⟩ (all_cons ⟨rfl, h2⟩ (all_cons ⟨rfl, h3⟩ (all_cons ⟨rfl, h4⟩ (all_cons ⟨rfl, h5⟩ (all_cons ⟨rfl, h6⟩ all_nil))))))))), m11_5 ρ aR aS A⟩
    | false =>
      exact ⟨_, all_app ha (all_app hb ((all_cons ⟨rfl, h0⟩ (all_cons ⟨rfl, h1⟩ all_nil)))), m11_6 ρ aR aS A⟩
  | false =>
    exact ⟨_, all_app ha (all_app hb ((all_cons ⟨rfl, h0⟩ all_nil))), m11_7 ρ aR aS A⟩
def M12_0 : List CF := [⟨.leq, (.bin .mul .i64 (.lit 1) (.tri 2 (.lit 0) (.tri 3 (.var 1) (.lit 100) (.lit 0)) (.lit 0))), (.lit 64), true⟩, ⟨.leq, (.bin .mul .i64 (.bin .mul .i64 (.lit 1) (.tri 2 (.lit 0) (.tri 3 (.var 11) (.lit 100) (.lit 0)) (.lit 0))) (.tri 2 (.lit 0) (.tri 3 (.var 13) (.lit 100) (.lit 0)) (.lit 0))), (.lit 64), true⟩, ⟨.neq, (.var 20), (.lit 0), true⟩]
theorem m12_0 (ρ : Nat → Int) (aR aS : Addr) (A : SlT) : runL ρ aR aS (bigF 90 (.k 1) ++ (bigF 91 (.k 2) ++ M12_0)) A (.k 1) (.k 2) := by unfold runL runQ; kernel_rfl
def M12_1 : List CF := [⟨.leq, (.bin .mul .i64 (.lit 1) (.tri 2 (.lit 0) (.tri 3 (.var 1) (.lit 100) (.lit 0)) (.lit 0))), (.lit 64), true⟩, ⟨.leq, (.bin .mul .i64 (.bin .mul .i64 (.lit 1) (.tri 2 (.lit 0) (.tri 3 (.var 11) (.lit 100) (.lit 0)) (.lit 0))) (.tri 2 (.lit 0) (.tri 3 (.var 13) (.lit 100) (.lit 0)) (.lit 0))), (.lit 64), true⟩, ⟨.neq, (.var 20), (.lit 0), false⟩, ⟨.neq, (.var 21), (.lit 0), true⟩]
theorem m12_1 (ρ : Nat → Int) (aR aS : Addr) (A : SlT) : runL ρ aR aS (bigF 90 (.k 1) ++ (bigF 91 (.k 2) ++ M12_1)) A (.k 1) (.k 2) := by unfold runL runQ; kernel_rfl
def M12_2 : List CF := [⟨.leq, (.bin .mul .i64 (.lit 1) (.tri 2 (.lit 0) (.tri 3 (.var 1) (.lit 100) (.lit 0)) (.lit 0))), (.lit 64), true⟩, ⟨.leq, (.bin .mul .i64 (.bin .mul .i64 (.lit 1) (.tri 2 (.lit 0) (.tri 3 (.var 11) (.lit 100) (.lit 0)) (.lit 0))) (.tri 2 (.lit 0) (.tri 3 (.var 13) (.lit 100) (.lit 0)) (.lit 0))), (.lit 64), true⟩, ⟨.neq, (.var 20), (.lit 0), false⟩, ⟨.neq, (.var 21), (.lit 0), false⟩]
theorem m12_2 (ρ : Nat → Int) (aR aS : Addr) (A : SlT) : runL ρ aR aS (bigF 90 (.k 1) ++ (bigF 91 (.k 2) ++ M12_2)) A (.k 1) (.k 2) := by unfold runL runQ; kernel_rfl
def M12_3 : List CF := [⟨.leq, (.bin .mul .i64 (.lit 1) (.tri 2 (.lit 0) (.tri 3 (.var 1) (.lit 100) (.lit 0)) (.lit 0))), (.lit 64), true⟩, ⟨.leq, (.bin .mul .i64 (.bin .mul .i64 (.lit 1) (.tri 2 (.lit 0) (.tri 3 (.var 11) (.lit 100) (.lit 0)) (.lit 0))) (.tri 2 (.lit 0) (.tri 3 (.var 13) (.lit 100) (.lit 0)) (.lit 0))), (.lit 64), false⟩]
theorem m12_3 (ρ : Nat → Int) (aR aS : Addr) (A : SlT) : runL ρ aR aS (bigF 90 (.k 1) ++ (bigF 91 (.k 2) ++ M12_3)) A (.k 1) (.k 2) := by unfold runL runQ; kernel_rfl
def M12_4 : List CF := [⟨.leq, (.bin .mul .i64 (.lit 1) (.tri 2 (.lit 0) (.tri 3 (.var 1) (.lit 100) (.lit 0)) (.lit 0))), (.lit 64), false⟩]
theorem m12_4 (ρ : Nat → Int) (aR aS : Addr) (A : SlT) : runL ρ aR aS (bigF 90 (.k 1) ++ (bigF 91 (.k 2) ++ M12_4)) A (.k 1) (.k 2) := by unfold runL runQ; kernel_rfl
theorem t12 (ρ : Nat → Int) (aR aS : Addr) (A : SlT) (ha : ∀ f ∈ bigF 90 (.k 1), f.ok ρ) (hb : ∀ f ∈ bigF 91 (.k 2), f.ok ρ) : Runs ρ aR aS A (.k 1) (.k 2) := by
  cases h0 : cmpI .leq (IE.ev ρ (.bin .mul .i64 (.lit 1) (.tri 2 (.lit 0) (.tri 3 (.var 1) (.lit 100) (.lit 0)) (.lit 0)))) (IE.ev ρ (.lit 64)) with
  | true =>
    cases h1 : cmpI .leq (IE.ev ρ (.bin .mul .i64 (.bin .mul .i64 (.lit 1) (.tri 2 (.lit 0) (.tri 3 (.var 11) (.lit 100) (.lit 0)) (.lit 0))) (.tri 2 (.lit 0) (.tri 3 (.var 13) (.lit 100) (.lit 0)) (.lit 0)))) (IE.ev ρ (.lit 64)) with
    | true =>
      cases h2 : cmpI .neq (IE.ev ρ (.var 20)) (IE.ev ρ (.lit 0)) with
      | true =>
        exact ⟨_, all_app ha (all_app hb ((all_cons ⟨rfl, h0⟩ (all_cons ⟨rfl, h1⟩ (all_cons ⟨rfl, h2⟩ all_nil))))), m12_0 ρ aR aS A⟩
      | false =>
        cases h3 : cmpI .neq (IE.ev ρ (.var 21)) (IE.ev ρ (.lit 0)) with
        | true =>
          exact ⟨_, all_app ha (all_app hb ((all_cons ⟨rfl, h0⟩ (all_cons ⟨rfl, h1⟩ (all_cons ⟨rfl, h2⟩ (all_cons ⟨rfl, h3⟩ all_nil)))))), m12_1 ρ aR aS A⟩
        | false =>
          exact ⟨_, all_app ha (all_app hb ((all_cons ⟨rfl, h0⟩ (all_cons ⟨rfl, h1⟩ (all_cons ⟨rfl, h2⟩ (all_cons ⟨rfl, h3⟩ all_nil)))))), m12_2 ρ aR aS A⟩
    | false =>
      exact ⟨_, all_app ha (all_app hb ((all_cons ⟨rfl, h0⟩ (all_cons ⟨rfl, h1⟩ all_nil)))), m12_3 ρ aR aS A⟩
  | false =>
    exact ⟨_, all_app ha (all_app hb ((all_cons ⟨rfl, h0⟩ all_nil))), m12_4 ρ aR aS A⟩
end
end Go.Proofs.YtdmbnllekmgnhaaDoor

namespace Go.Proofs.YtdmbnllekmgnhaaDoor
noncomputable section
open Go Go.RX
open Go.RowKit (Below)
set_option maxRecDepth 1000000
set_option maxHeartbeats 4000000
def M13_0 : List CF := [⟨.leq, (.bin .mul .i64 (.lit 1) (.tri 2 (.lit 0) (.tri 3 (.var 1) (.lit 100) (.lit 0)) (.lit 0))), (.lit 64), true⟩, ⟨.leq, (.bin .mul .i64 (.bin .mul .i64 (.bin .mul .i64 (.lit 1) (.tri 2 (.lit 0) (.tri 3 (.var 11) (.lit 100) (.lit 0)) (.lit 0))) (.tri 2 (.lit 0) (.tri 3 (.var 13) (.lit 100) (.lit 0)) (.lit 0))) (.tri 2 (.lit 0) (.tri 3 (.var 15) (.lit 100) (.lit 0)) (.lit 0))), (.lit 64), true⟩, ⟨.neq, (.var 20), (.lit 0), true⟩]
theorem m13_0 (ρ : Nat → Int) (aR aS : Addr) (A : SlT) : runL ρ aR aS (bigF 90 (.k 1) ++ (bigF 91 (.k 3) ++ M13_0)) A (.k 1) (.k 3) := by unfold runL runQ; kernel_rfl
def M13_1 : List CF := [⟨.leq, (.bin .mul .i64 (.lit 1) (.tri 2 (.lit 0) (.tri 3 (.var 1) (.lit 100) (.lit 0)) (.lit 0))), (.lit 64), true⟩, ⟨.leq, (.bin .mul .i64 (.bin .mul .i64 (.bin .mul .i64 (.lit 1) (.tri 2 (.lit 0) (.tri 3 (.var 11) (.lit 100) (.lit 0)) (.lit 0))) (.tri 2 (.lit 0) (.tri 3 (.var 13) (.lit 100) (.lit 0)) (.lit 0))) (.tri 2 (.lit 0) (.tri 3 (.var 15) (.lit 100) (.lit 0)) (.lit 0))), (.lit 64), true⟩, ⟨.neq, (.var 20), (.lit 0), false⟩, ⟨.neq, (.var 21), (.lit 0), true⟩]
theorem m13_1 (ρ : Nat → Int) (aR aS : Addr) (A : SlT) : runL ρ aR aS (bigF 90 (.k 1) ++ (bigF 91 (.k 3) ++ M13_1)) A (.k 1) (.k 3) := by unfold runL runQ; kernel_rfl
def M13_2 : List CF := [⟨.leq, (.bin .mul .i64 (.lit 1) (.tri 2 (.lit 0) (.tri 3 (.var 1) (.lit 100) (.lit 0)) (.lit 0))), (.lit 64), true⟩, ⟨.leq, (.bin .mul .i64 (.bin .mul .i64 (.bin .mul .i64 (.lit 1) (.tri 2 (.lit 0) (.tri 3 (.var 11) (.lit 100) (.lit 0)) (.lit 0))) (.tri 2 (.lit 0) (.tri 3 (.var 13) (.lit 100) (.lit 0)) (.lit 0))) (.tri 2 (.lit 0) (.tri 3 (.var 15) (.lit 100) (.lit 0)) (.lit 0))), (.lit 64), true⟩, ⟨.neq, (.var 20), (.lit 0), false⟩, ⟨.neq, (.var 21), (.lit 0), false⟩]
theorem m13_2 (ρ : Nat → Int) (aR aS : Addr) (A : SlT) : runL ρ aR aS (bigF 90 (.k 1) ++ (bigF 91 (.k 3) ++ M13_2)) A (.k 1) (.k 3) := by unfold runL runQ; kernel_rfl
def M13_3 : List CF := [⟨.leq, (.bin .mul .i64 (.lit 1) (.tri 2 (.lit 0) (.tri 3 (.var 1) (.lit 100) (.lit 0)) (.lit 0))), (.lit 64), true⟩, ⟨.leq, (.bin .mul .i64 (.bin .mul .i64 (.bin .mul .i64 (.lit 1) (.tri 2 (.lit 0) (.tri 3 (.var 11) (.lit 100) (.lit 0)) (.lit 0))) (.tri 2 (.lit 0) (.tri 3 (.var 13) (.lit 100) (.lit 0)) (.lit 0))) (.tri 2 (.lit 0) (.tri 3 (.var 15) (.lit 100) (.lit 0)) (.lit 0))), (.lit 64), false⟩]
theorem m13_3 (ρ : Nat → Int) (aR aS : Addr) (A : SlT) : runL ρ aR aS (bigF 90 (.k 1) ++ (bigF 91 (.k 3) ++ M13_3)) A (.k 1) (.k 3) := by unfold runL runQ; kernel_rfl
def M13_4 : List CF := [⟨.leq, (.bin .mul .i64 (.lit 1) (.tri 2 (.lit 0) (.tri 3 (.var 1) (.lit 100) (.lit 0)) (.lit 0))), (.lit 64), false⟩]
theorem m13_4 (ρ : Nat → Int) (aR aS : Addr) (A : SlT) : runL ρ aR aS (bigF 90 (.k 1) ++ (bigF 91 (.k 3) ++ M13_4)) A (.k 1) (.k 3) := by unfold runL runQ; kernel_rfl
theorem t13 (ρ : Nat → Int) (aR aS : Addr) (A : SlT) (ha : ∀ f ∈ bigF 90 (.k 1), f.ok ρ) (hb : ∀ f ∈ bigF 91 (.k 3), f.ok ρ) : Runs ρ aR aS A (.k 1) (.k 3) := by
  cases h0 : cmpI .leq (IE.ev ρ (.bin .mul .i64 (.lit 1) (.tri 2 (.lit 0) (.tri 3 (.var 1) (.lit 100) (.lit 0)) (.lit 0)))) (IE.ev ρ (.lit 64)) with
  | true =>
    cases h1 : cmpI .leq (IE.ev ρ (.bin .mul .i64 (.bin .mul .i64 (.bin .mul .i64 (.lit 1) (.tri 2 (.lit 0) (.tri 3 (.var 11) (.lit 100) (.lit 0)) (.lit 0))) (.tri 2 (.lit 0) (.tri 3 (.var 13) (.lit 100) (.lit 0)) (.lit 0))) (.tri 2 (.lit 0) (.tri 3 (.var 15) (.lit 100) (.lit 0)) (.lit 0)))) (IE.ev ρ (.lit 64)) with
    | true =>
      cases h2 : cmpI .neq (IE.ev ρ (.var 20)) (IE.ev ρ (.lit 0)) with
      | true =>
        exact ⟨_, all_app ha (all_app hb ((all_cons ⟨rfl, h0⟩ (all_cons ⟨rfl, h1⟩ (all_cons ⟨rfl, h2⟩ all_nil))))), m13_0 ρ aR aS A⟩
      | false =>
        cases h3 : cmpI .neq (IE.ev ρ (.var 21)) (IE.ev ρ (.lit 0)) with
        | true =>
          exact ⟨_, all_app ha (all_app hb ((all_cons ⟨rfl, h0⟩ (all_cons ⟨rfl, h1⟩ (all_cons ⟨rfl, h2⟩ (all_cons ⟨rfl, h3⟩ all_nil)))))), m13_1 ρ aR aS A⟩
        | false =>
          exact ⟨_, all_app ha (all_app hb ((all_cons ⟨rfl, h0⟩ (all_cons ⟨rfl, h1⟩ (all_cons ⟨rfl, h2⟩ (all_cons ⟨rfl, h3⟩ all_nil)))))), m13_2 ρ aR aS A⟩
    | false =>
      exact ⟨_, all_app ha (all_app hb ((all_cons ⟨rfl, h0⟩ (all_cons ⟨rfl, h1⟩ all_nil)))), m13_3 ρ aR aS A⟩
  | false =>
    exact ⟨_, all_app ha (all_app hb ((all_cons ⟨rfl, h0⟩ all_nil))), m13_4 ρ aR aS A⟩
def M14_0 : List CF := [⟨.leq, (.bin .mul .i64 (.lit 1) (.tri 2 (.lit 0) (.tri 3 (.var 1) (.lit 100) (.lit 0)) (.lit 0))), (.lit 64), true⟩, ⟨.leq, (.bin .mul .i64 (.bin .mul .i64 (.bin .mul .i64 (.bin .mul .i64 (.lit 1) (.tri 2 (.lit 0) (.tri 3 (.var 11) (.lit 100) (.lit 0)) (.lit 0))) (.tri 2 (.lit 0) (.tri 3 (.var 13) (.lit 100) (.lit 0)) (.lit 0))) (.tri 2 (.lit 0) (.tri 3 (.var 15) (.lit 100) (.lit 0)) (.lit 0))) (.tri 2 (.lit 0) (.tri 3 (.var 17) (.lit 100) (.lit 0)) (.lit 0))), (.lit 64), true⟩, ⟨.neq, (.var 20), (.lit 0), true⟩]
theorem m14_0 (ρ : Nat → Int) (aR aS : Addr) (A : SlT) : runL ρ aR aS (bigF 90 (.k 1) ++ (bigF 91 (.k 4) ++ M14_0)) A (.k 1) (.k 4) := by unfold runL runQ; kernel_rfl
def M14_1 : List CF := [⟨.leq, (.bin .mul .i64 (.lit 1) (.tri 2 (.lit 0) (.tri 3 (.var 1) (.lit 100) (.lit 0)) (.lit 0))), (.lit 64), true⟩, ⟨.leq, (.bin .mul .i64 (.bin .mul .i64 (.bin .mul .i64 (.bin .mul .i64 (.lit 1) (.tri 2 (.lit 0) (.tri 3 (.var 11) (.lit 100) (.lit 0)) (.lit 0))) (.tri 2 (.lit 0) (.tri 3 (.var 13) (.lit 100) (.lit 0)) (.lit 0))) (.tri 2 (.lit 0) (.tri 3 (.var 15) (.lit 100) (.lit 0)) (.lit 0))) (.tri 2 (.lit 0) (.tri 3 (.var 17) (.lit 100) (.lit 0)) (.lit 0))), (.lit 64), true⟩, ⟨.neq, (.var 20), (.lit 0), false⟩]
theorem m14_1 (ρ : Nat → Int) (aR aS : Addr) (A : SlT) : runL ρ aR aS (bigF 90 (.k 1) ++ (bigF 91 (.k 4) ++ M14_1)) A (.k 1) (.k 4) := by unfold runL runQ; kernel_rfl
def M14_2 : List CF := [⟨.leq, (.bin .mul .i64 (.lit 1) (.tri 2 (.lit 0) (.tri 3 (.var 1) (.lit 100) (.lit 0)) (.lit 0))), (.lit 64), true⟩, ⟨.leq, (.bin .mul .i64 (.bin .mul .i64 (.bin .mul .i64 (.bin .mul .i64 (.lit 1) (.tri 2 (.lit 0) (.tri 3 (.var 11) (.lit 100) (.lit 0)) (.lit 0))) (.tri 2 (.lit 0) (.tri 3 (.var 13) (.lit 100) (.lit 0)) (.lit 0))) (.tri 2 (.lit 0) (.tri 3 (.var 15) (.lit 100) (.lit 0)) (.lit 0))) (.tri 2 (.lit 0) (.tri 3 (.var 17) (.lit 100) (.lit 0)) (.lit 0))), (.lit 64), false⟩]
theorem m14_2 (ρ : Nat → Int) (aR aS : Addr) (A : SlT) : runL ρ aR aS (bigF 90 (.k 1) ++ (bigF 91 (.k 4) ++ M14_2)) A (.k 1) (.k 4) := by unfold runL runQ; kernel_rfl
def M14_3 : List CF := [⟨.leq, (.bin .mul .i64 (.lit 1) (.tri 2 (.lit 0) (.tri 3 (.var 1) (.lit 100) (.lit 0)) (.lit 0))), (.lit 64), false⟩]
theorem m14_3 (ρ : Nat → Int) (aR aS : Addr) (A : SlT) : runL ρ aR aS (bigF 90 (.k 1) ++ (bigF 91 (.k 4) ++ M14_3)) A (.k 1) (.k 4) := by unfold runL runQ; kernel_rfl
theorem t14 (ρ : Nat → Int) (aR aS : Addr) (A : SlT) (ha : ∀ f ∈ bigF 90 (.k 1), f.ok ρ) (hb : ∀ f ∈ bigF 91 (.k 4), f.ok ρ) : Runs ρ aR aS A (.k 1) (.k 4) := by
  cases h0 : cmpI .leq (IE.ev ρ (.bin .mul .i64 (.lit 1) (.tri 2 (.lit 0) (.tri 3 (.var 1) (.lit 100) (.lit 0)) (.lit 0)))) (IE.ev ρ (.lit 64)) with
  | true =>
    cases h1 : cmpI .leq (IE.ev ρ (.bin .mul .i64 (.bin .mul .i64 (.bin .mul .i64 (.bin .mul .i64 (.lit 1) (.tri 2 (.lit 0) (.tri 3 (.var 11) (.lit 100) (.lit 0)) (.lit 0))) (.tri 2 (.lit 0) (.tri 3 (.var 13) (.lit 100) (.lit 0)) (.lit 0))) (.tri 2 (.lit 0) (.tri 3 (.var 15) (.lit 100) (.lit 0)) (.lit 0))) (.tri 2 (.lit 0) (.tri 3 (.var 17) (.lit 100) (.lit 0)) (.lit 0)))) (IE.ev ρ (.lit 64)) with
    | true =>
      cases h2 : cmpI .neq (IE.ev ρ (.var 20)) (IE.ev ρ (.lit 0)) with
      | true =>
        exact ⟨_, all_app ha (all_app hb ((all_cons ⟨rfl, h0⟩ (all_cons ⟨rfl, h1⟩ (all_cons ⟨rfl, h2⟩ all_nil))))), m14_0 ρ aR aS A⟩
      | false =>
        exact ⟨_, all_app ha (all_app hb ((all_cons ⟨rfl, h0⟩ (all_cons ⟨rfl, h1⟩ (all_cons ⟨rfl, h2⟩ all_nil))))), m14_1 ρ aR aS A⟩
    | false =>
      exact ⟨_, all_app ha (all_app hb ((all_cons ⟨rfl, h0⟩ (all_cons ⟨rfl, h1⟩ all_nil)))), m14_2 ρ aR aS A⟩
  | false =>
    exact ⟨_, all_app ha (all_app hb ((all_cons ⟨rfl, h0⟩ all_nil))), m14_3 ρ aR aS A⟩
end
end Go.Proofs.YtdmbnllekmgnhaaDoor

namespace Go.Proofs.YtdmbnllekmgnhaaDoor
noncomputable section
open Go Go.RX
open Go.RowKit (Below)
set_option maxRecDepth 1000000
set_option maxHeartbeats 4000000
def M1B_0 : List CF := [⟨.leq, (.bin .mul .i64 (.lit 1) (.tri 2 (.lit 0) (.tri 3 (.var 1) (.lit 100) (.lit 0)) (.lit 0))), (.lit 64), true⟩]
theorem m1B_0 (ρ : Nat → Int) (aR aS : Addr) (A : SlT) : runL ρ aR aS (bigF 90 (.k 1) ++ (bigF 91 .big ++ M1B_0)) A (.k 1) .big := by unfold runL runQ; kernel_rfl
def M1B_1 : List CF := [⟨.leq, (.bin .mul .i64 (.lit 1) (.tri 2 (.lit 0) (.tri 3 (.var 1) (.lit 100) (.lit 0)) (.lit 0))), (.lit 64), false⟩]
theorem m1B_1 (ρ : Nat → Int) (aR aS : Addr) (A : SlT) : runL ρ aR aS (bigF 90 (.k 1) ++ (bigF 91 .big ++ M1B_1)) A (.k 1) .big := by unfold runL runQ; kernel_rfl
theorem t1B (ρ : Nat → Int) (aR aS : Addr) (A : SlT) (ha : ∀ f ∈ bigF 90 (.k 1), f.ok ρ) (hb : ∀ f ∈ bigF 91 .big, f.ok ρ) : Runs ρ aR aS A (.k 1) .big := by
  cases h0 : cmpI .leq (IE.ev ρ (.bin .mul .i64 (.lit 1) (.tri 2 (.lit 0) (.tri 3 (.var 1) (.lit 100) (.lit 0)) (.lit 0)))) (IE.ev ρ (.lit 64)) with
  | true =>
    exact ⟨_, all_app ha (all_app hb ((all_cons ⟨rfl, h0⟩ all_nil))), m1B_0 ρ aR aS A⟩
  | false =>
    exact ⟨_, all_app ha (all_app hb ((all_cons ⟨rfl, h0⟩ all_nil))), m1B_1 ρ aR aS A⟩
def M2N_0 : List CF := [⟨.leq, (.bin .mul .i64 (.bin .mul .i64 (.lit 1) (.tri 2 (.lit 0) (.tri 3 (.var 1) (.lit 100) (.lit 0)) (.lit 0))) (.tri 2 (.lit 0) (.tri 3 (.var 3) (.lit 100) (.lit 0)) (.lit 0))), (.lit 64), true⟩, ⟨.neq, (.var 20), (.lit 0), true⟩]
theorem m2N_0 (ρ : Nat → Int) (aR aS : Addr) (A : SlT) : runL ρ aR aS (bigF 90 (.k 2) ++ (bigF 91 .nil ++ M2N_0)) A (.k 2) .nil := by unfold runL runQ; kernel_rfl
def M2N_1 : List CF := [⟨.leq, (.bin .mul .i64 (.bin .mul .i64 (.lit 1) (.tri 2 (.lit 0) (.tri 3 (.var 1) (.lit 100) (.lit 0)) (.lit 0))) (.tri 2 (.lit 0) (.tri 3 (.var 3) (.lit 100) (.lit 0)) (.lit 0))), (.lit 64), true⟩, ⟨.neq, (.var 20), (.lit 0), false⟩]
theorem m2N_1 (ρ : Nat → Int) (aR aS : Addr) (A : SlT) : runL ρ aR aS (bigF 90 (.k 2) ++ (bigF 91 .nil ++ M2N_1)) A (.k 2) .nil := by unfold runL runQ; kernel_rfl
def M2N_2 : List CF := [⟨.leq, (.bin .mul .i64 (.bin .mul .i64 (.lit 1) (.tri 2 (.lit 0) (.tri 3 (.var 1) (.lit 100) (.lit 0)) (.lit 0))) (.tri 2 (.lit 0) (.tri 3 (.var 3) (.lit 100) (.lit 0)) (.lit 0))), (.lit 64), false⟩]
theorem m2N_2 (ρ : Nat → Int) (aR aS : Addr) (A : SlT) : runL ρ aR aS (bigF 90 (.k 2) ++ (bigF 91 .nil ++ M2N_2)) A (.k 2) .nil := by unfold runL runQ; kernel_rfl
theorem t2N (ρ : Nat → Int) (aR aS : Addr) (A : SlT) (ha : ∀ f ∈ bigF 90 (.k 2), f.ok ρ) (hb : ∀ f ∈ bigF 91 .nil, f.ok ρ) : Runs ρ aR aS A (.k 2) .nil := by
  cases h0 : cmpI .leq (IE.ev ρ (.bin .mul .i64 (.bin .mul .i64 (.lit 1) (.tri 2 (.lit 0) (.tri 3 (.var 1) (.lit 100) (.lit 0)) (.lit 0))) (.tri 2 (.lit 0) (.tri 3 (.var 3) (.lit 100) (.lit 0)) (.lit 0)))) (IE.ev ρ (.lit 64)) with
  | true =>
    cases h1 : cmpI .neq (IE.ev ρ (.var 20)) (IE.ev ρ (.lit 0)) with
    | true =>
      exact ⟨_, all_app ha (all_app hb ((all_cons ⟨rfl, h0⟩ (all_cons ⟨rfl, h1⟩ all_nil)))), m2N_0 ρ aR aS A⟩
    | false =>
      exact ⟨_, all_app ha (all_app hb ((all_cons ⟨rfl, h0⟩ (all_cons ⟨rfl, h1⟩ all_nil)))), m2N_1 ρ aR aS A⟩
  | false =>
    exact ⟨_, all_app ha (all_app hb ((all_cons ⟨rfl, h0⟩ all_nil))), m2N_2 ρ aR aS A⟩
def M20_0 : List CF := [⟨.leq, (.bin .mul .i64 (.bin .mul .i64 (.lit 1) (.tri 2 (.lit 0) (.tri 3 (.var 1) (.lit 100) (.lit 0)) (.lit 0))) (.tri 2 (.lit 0) (.tri 3 (.var 3) (.lit 100) (.lit 0)) (.lit 0))), (.lit 64), true⟩, ⟨.neq, (.var 20), (.lit 0), true⟩]
theorem m20_0 (ρ : Nat → Int) (aR aS : Addr) (A : SlT) : runL ρ aR aS (bigF 90 (.k 2) ++ (bigF 91 (.k 0) ++ M20_0)) A (.k 2) (.k 0) := by unfold runL runQ; kernel_rfl
def M20_1 : List CF := [⟨.leq, (.bin .mul .i64 (.bin .mul .i64 (.lit 1) (.tri 2 (.lit 0) (.tri 3 (.var 1) (.lit 100) (.lit 0)) (.lit 0))) (.tri 2 (.lit 0) (.tri 3 (.var 3) (.lit 100) (.lit 0)) (.lit 0))), (.lit 64), true⟩, ⟨.neq, (.var 20), (.lit 0), false⟩]
theorem m20_1 (ρ : Nat → Int) (aR aS : Addr) (A : SlT) : runL ρ aR aS (bigF 90 (.k 2) ++ (bigF 91 (.k 0) ++ M20_1)) A (.k 2) (.k 0) := by unfold runL runQ; kernel_rfl
def M20_2 : List CF := [⟨.leq, (.bin .mul .i64 (.bin .mul .i64 (.lit 1) (.tri 2 (.lit 0) (.tri 3 (.var 1) (.lit 100) (.lit 0)) (.lit 0))) (.tri 2 (.lit 0) (.tri 3 (.var 3) (.lit 100) (.lit 0)) (.lit 0))), (.lit 64), false⟩]
theorem m20_2 (ρ : Nat → Int) (aR aS : Addr) (A : SlT) : runL ρ aR aS (bigF 90 (.k 2) ++ (bigF 91 (.k 0) ++ M20_2)) A (.k 2) (.k 0) := by unfold runL runQ; kernel_rfl
theorem t20 (ρ : Nat → Int) (aR aS : Addr) (A : SlT) (ha : ∀ f ∈ bigF 90 (.k 2), f.ok ρ) (hb : ∀ f ∈ bigF 91 (.k 0), f.ok ρ) : Runs ρ aR aS A (.k 2) (.k 0) := by
  cases h0 : cmpI .leq (IE.ev ρ (.bin .mul .i64 (.bin .mul .i64 (.lit 1) (.tri 2 (.lit 0) (.tri 3 (.var 1) (.lit 100) (.lit 0)) (.lit 0))) (.tri 2 (.lit 0) (.tri 3 (.var 3) (.lit 100) (.lit 0)) (.lit 0)))) (IE.ev ρ (.lit 64)) with
  | true =>
    cases h1 : cmpI .neq (IE.ev ρ (.var 20)) (IE.ev ρ (.lit 0)) with
    | true =>
      exact ⟨_, all_app ha (all_app hb ((all_cons ⟨rfl, h0⟩ (all_cons ⟨rfl, h1⟩ all_nil)))), m20_0 ρ aR aS A⟩
    | false =>
      exact ⟨_, all_app ha (all_app hb ((all_cons ⟨rfl, h0⟩ (all_cons ⟨rfl, h1⟩ all_nil)))), m20_1 ρ aR aS A⟩
  | false =>
    exact ⟨_, all_app ha (all_app hb ((all_cons ⟨rfl, h0⟩ all_nil))), m20_2 ρ aR aS A⟩
def M21_0 : List CF := [⟨.leq, (.bin .mul .i64 (.bin .mul .i64 (.lit 1) (.tri 2 (.lit 0) (.tri 3 (.var 1) (.lit 100) (.lit 0)) (.lit 0))) (.tri 2 (.lit 0) (.tri 3 (.var 3) (.lit 100) (.lit 0)) (.lit 0))), (.lit 64), true⟩, ⟨.leq, (.bin .mul .i64 (.lit 1) (.tri 2 (.lit 0) (.tri 3 (.var 11) (.lit 100) (.lit 0)) (.lit 0))), (.lit 64), true⟩, ⟨.neq, (.var 20), (.lit 0), true⟩]
theorem m21_0 (ρ : Nat → Int) (aR aS : Addr) (A : SlT) : runL ρ aR aS (bigF 90 (.k 2) ++ (bigF 91 (.k 1) ++ M21_0)) A (.k 2) (.k 1) := by unfold runL runQ; kernel_rfl
def M21_1 : List CF := [⟨.leq, (.bin .mul .i64 (.bin .mul .i64 (.lit 1) (.tri 2 (.lit 0) (.tri 3 (.var 1) (.lit 100) (.lit 0)) (.lit 0))) (.tri 2 (.lit 0) (.tri 3 (.var 3) (.lit 100) (.lit 0)) (.lit 0))), (.lit 64), true⟩, ⟨.leq, (.bin .mul .i64 (.lit 1) (.tri 2 (.lit 0) (.tri 3 (.var 11) (.lit 100) (.lit 0)) (.lit 0))), (.lit 64), true⟩, ⟨.neq, (.var 20), (.lit 0), false⟩, ⟨.neq, (.var 21), (.lit 0), true⟩]
theorem m21_1 (ρ : Nat → Int) (aR aS : Addr) (A : SlT) : runL ρ aR aS (bigF 90 (.k 2) ++ (bigF 91 (.k 1) ++ M21_1)) A (.k 2) (.k 1) := by unfold runL runQ; kernel_rfl
def M21_2 : List CF := [⟨.leq, (.bin .mul .i64 (.bin .mul .i64 (.lit 1) (.tri 2 (.lit 0) (.tri 3 (.var 1) (.lit 100) (.lit 0)) (.lit 0))) (.tri 2 (.lit 0) (.tri 3 (.var 3) (.lit 100) (.lit 0)) (.lit 0))), (.lit 64), true⟩, ⟨.leq, (.bin .mul .i64 (.lit 1) (.tri 2 (.lit 0) (.tri 3 (.var 11) (.lit 100) (.lit 0)) (.lit 0))), (.lit 64), true⟩, ⟨.neq, (.var 20), (.lit 0), false⟩, ⟨.neq, (.var 21), (.lit 0), false⟩]
theorem m21_2 (ρ : Nat → Int) (aR aS : Addr) (A : SlT) : runL ρ aR aS (bigF 90 (.k 2) ++ (bigF 91 (.k 1) ++ M21_2)) A (.k 2) (.k 1) := by unfold runL runQ; kernel_rfl
def M21_3 : List CF := [⟨.leq, (.bin .mul .i64 (.bin .mul .i64 (.lit 1) (.tri 2 (.lit 0) (.tri 3 (.var 1) (.lit 100) (.lit 0)) (.lit 0))) (.tri 2 (.lit 0) (.tri 3 (.var 3) (.lit 100) (.lit 0)) (.lit 0))), (.lit 64), true⟩, ⟨.leq, (.bin .mul .i64 (.lit 1) (.tri 2 (.lit 0) (.tri 3 (.var 11) (.lit 100) (.lit 0)) (.lit 0))), (.lit 64), false⟩]
theorem m21_3 (ρ : Nat → Int) (aR aS : Addr) (A : SlT) : runL ρ aR aS (bigF 90 (.k 2) ++ (bigF 91 (.k 1) ++ M21_3)) A (.k 2) (.k 1) := by unfold runL runQ; kernel_rfl
def M21_4 : List CF := [⟨.leq, (.bin .mul .i64 (.bin .mul .i64 (.lit 1) (.tri 2 (.lit 0) (.tri 3 (.var 1) (.lit 100) (.lit 0)) (.lit 0))) (.tri 2 (.lit 0) (.tri 3 (.var 3) (.lit 100) (.lit 0)) (.lit 0))), (.lit 64), false⟩]
theorem m21_4 (ρ : Nat → Int) (aR aS : Addr) (A : SlT) : runL ρ aR aS (bigF 90 (.k 2) ++ (bigF 91 (.k 1) ++ M21_4)) A (.k 2) (.k 1) := by unfold runL runQ; kernel_rfl
theorem t21 (ρ : Nat → Int) (aR aS : Addr) (A : SlT) (ha : ∀ f ∈ bigF 90 (.k 2), f.ok ρ) (hb : ∀ f ∈ bigF 91 (.k 1), f.ok ρ) : Runs ρ aR aS A (.k 2) (.k 1) := by
  cases h0 : cmpI .leq (IE.ev ρ (.bin .mul .i64 (.bin .mul .i64 (.lit 1) (.tri 2 (.lit 0) (.tri 3 (.var 1) (.lit 100) (.lit 0)) (.lit 0))) (.tri 2 (.lit 0) (.tri 3 (.var 3) (.lit 100) (.lit 0)) (.lit 0)))) (IE.ev ρ (.lit 64)) with
  | true =>
    cases h1 : cmpI .leq (IE.ev ρ (.bin .mul .i64 (.lit 1) (.tri 2 (.lit 0) (.tri 3 (.var 11) (.lit 100) (.lit 0)) (.lit 0)))) (IE.ev ρ (.lit 64)) with
    | true =>
      cases h2 : cmpI .neq (IE.ev ρ (.var 20)) (IE.ev ρ (.lit 0)) with
      | true =>
        exact ⟨_, all_app ha (all_app hb ((all_cons ⟨rfl, h0⟩ (all_cons ⟨rfl, h1⟩ (all_cons ⟨rfl, h2⟩ all_nil))))), m21_0 ρ aR aS A⟩
      | false =>
        cases h3 : cmpI .neq (IE.ev ρ (.var 21)) (IE.ev ρ (.lit 0)) with
        | true =>
          exact ⟨_, all_app ha (all_app hb ((all_cons ⟨rfl, h0⟩ (all_cons ⟨rfl, h1⟩ (all_cons ⟨rfl, h2⟩ (all_cons ⟨rfl, h3⟩ all_nil)))))), m21_1 ρ aR aS A⟩
        | false =>
          exact ⟨_, all_app ha (all_app hb ((all_cons ⟨rfl, h0⟩ (all_cons ⟨rfl, h1⟩ (all_cons ⟨rfl, h2⟩ (all_cons ⟨rfl, h3⟩ all_nil)))))), m21_2 ρ aR aS A⟩
    | false =>
      exact ⟨_, all_app ha (all_app hb ((all_cons ⟨rfl, h0⟩ (all_cons ⟨rfl, h1⟩ all_nil)))), m21_3 ρ aR aS A⟩
  | false =>
    exact ⟨_, all_app ha (all_app hb ((all_cons ⟨rfl, h0⟩ all_nil))), m21_4 ρ aR aS A⟩
end
end Go.Proofs.YtdmbnllekmgnhaaDoor
