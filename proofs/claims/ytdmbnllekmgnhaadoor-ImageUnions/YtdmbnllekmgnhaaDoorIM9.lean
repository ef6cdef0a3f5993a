import Derived.Test.YtdmbnllekmgnhaaDoorIA
namespace Go.Proofs.YtdmbnllekmgnhaaDoor
noncomputable section
open Go Go.RX
open Go.RowKit (Below)
set_option maxRecDepth 1000000
set_option maxHeartbeats 4000000
def M33_0 : List CF := [⟨.leq, (.bin .mul .i64 (.bin .mul .i64 (.bin .mul .i64 (.lit 1) (.tri 2 (.lit 0) (.tri 3 (.var 1) (.lit 100) (.lit 0)) (.lit 0))) (.tri 2 (.lit 0) (.tri 3 (.var 3) (.lit 100) (.lit 0)) (.lit 0))) (.tri 2 (.lit 0) (.tri 3 (.var 5) (.lit 100) (.lit 0)) (.lit 0))), (.lit 64), true⟩, ⟨.leq, (.bin .mul .i64 (.bin .mul .i64 (.bin .mul .i64 (.lit 1) (.tri 2 (.lit 0) (.tri 3 (.var 11) (.lit 100) (.lit 0)) (.lit 0))) (.tri 2 (.lit 0) (.tri 3 (.var 13) (.lit 100) (.lit 0)) (.lit 0))) (.tri 2 (.lit 0) (.tri 3 (.var 15) (.lit 100) (.lit 0)) (.lit 0))), (.lit 64), true⟩, ⟨.neq, (.var 20), (.lit 0), true⟩]
theorem m33_0 (ρ : Nat → Int) (aR aS : Addr) (A : SlT) : runL ρ aR aS (bigF 90 (.k 3) ++ (bigF 91 (.k 3) ++ M33_0)) A (.k 3) (.k 3) := by unfold runL runQ; kernel_rfl
def M33_1 : List CF := [⟨.leq, (.bin .mul .i64 (.bin .mul .i64 (.bin .mul .i64 (.lit 1) (.tri 2 (.lit 0) (.tri 3 (.var 1) (.lit 100) (.lit 0)) (.lit 0))) (.tri 2 (.lit 0) (.tri 3 (.var 3) (.lit 100) (.lit 0)) (.lit 0))) (.tri 2 (.lit 0) (.tri 3 (.var 5) (.lit 100) (.lit 0)) (.lit 0))), (.lit 64), true⟩, ⟨.leq, (.bin .mul .i64 (.bin .mul .i64 (.bin .mul .i64 (.lit 1) (.tri 2 (.lit 0) (.tri 3 (.var 11) (.lit 100) (.lit 0)) (.lit 0))) (.tri 2 (.lit 0) (.tri 3 (.var 13) (.lit 100) (.lit 0)) (.lit 0))) (.tri 2 (.lit 0) (.tri 3 (.var 15) (.lit 100) (.lit 0)) (.lit 0))), (.lit 64), true⟩, ⟨.neq, (.var 20), (.lit 0), false⟩, ⟨.neq, (.var 21), (.lit 0), true⟩]
theorem m33_1 (ρ : Nat → Int) (aR aS : Addr) (A : SlT) : runL ρ aR aS (bigF 90 (.k 3) ++ (bigF 91 (.k 3) ++ M33_1)) A (.k 3) (.k 3) := by unfold runL runQ; kernel_rfl
def M33_2 : List CF := [⟨.leq, (.bin .mul .i64 (.bin .mul .i64 (.bin .mul .i64 (.lit 1) (.tri 2 (.lit 0) (.tri 3 (.var 1) (.lit 100) (.lit 0)) (.lit 0))) (.tri 2 (.lit 0) (.tri 3 (.var 3) (.lit 100) (.lit 0)) (.lit 0))) (.tri 2 (.lit 0) (.tri 3 (.var 5) (.lit 100) (.lit 0)) (.lit 0))), (.lit 64), true⟩, ⟨.leq, (.bin .mul .i64 (.bin .mul .i64 (.bin .mul .i64 (.lit 1) (.tri 2 (.lit 0) (.tri 3 (.var 11) (.lit 100) (.lit 0)) (.lit 0))) (.tri 2 (.lit 0) (.tri 3 (.var 13) (.lit 100) (.lit 0)) (.lit 0))) (.tri 2 (.lit 0) (.tri 3 (.var 15) (.lit 100) (.lit 0)) (.lit 0))), (.lit 64), true⟩, ⟨.neq, (.var 20), (.lit 0), false⟩, ⟨.neq, (.var 21), (.lit 0), false⟩, ⟨.eql, (.bin .mul .i64 (.bin .mul .i64 (.bin .mul .i64 (.lit 1) (.var 11)) (.var 13)) (.var 15)), (.lit 0), true⟩]
theorem m33_2 (ρ : Nat → Int) (aR aS : Addr) (A : SlT) : runL ρ aR aS (bigF 90 (.k 3) ++ (bigF 91 (.k 3) ++ M33_2)) A (.k 3) (.k 3) := by unfold runL runQ; kernel_rfl
def M33_3 : List CF := [⟨.leq, (.bin .mul .i64 (.bin .mul .i64 (.bin .mul .i64 (.lit 1) (.tri 2 (.lit 0) (.tri 3 (.var 1) (.lit 100) (.lit 0)) (.lit 0))) (.tri 2 (.lit 0) (.tri 3 (.var 3) (.lit 100) (.lit 0)) (.lit 0))) (.tri 2 (.lit 0) (.tri 3 (.var 5) (.lit 100) (.lit 0)) (.lit 0))), (.lit 64), true⟩, ⟨.leq, (.bin .mul .i64 (.bin .mul .i64 (.bin .mul .i64 (.lit 1) (.tri 2 (.lit 0) (.tri 3 (.var 11) (.lit 100) (.lit 0)) (.lit 0))) (.tri 2 (.lit 0) (.tri 3 (.var 13) (.lit 100) (.lit 0)) (.lit 0))) (.tri 2 (.lit 0) (.tri 3 (.var 15) (.lit 100) (.lit 0)) (.lit 0))), (.lit 64), true⟩, ⟨.neq, (.var 20), (.lit 0), false⟩, ⟨.neq, (.var 21), (.lit 0), false⟩, ⟨.eql, (.bin .mul .i64 (.bin .mul .i64 (.bin .mul .i64 (.lit 1) (.var 11)) (.var 13)) (.var 15)), (.lit 0), false⟩, ⟨.eql, (.bin .mul .i64 (.bin .mul .i64 (.bin .mul .i64 (.lit 1) (.var 1)) (.var 3)) (.var 5)), (.lit 0), true⟩]
theorem m33_3 (ρ : Nat → Int) (aR aS : Addr) (A : SlT) : runL ρ aR aS (bigF 90 (.k 3) ++ (bigF 91 (.k 3) ++ M33_3)) A (.k 3) (.k 3) := by unfold runL runQ; kernel_rfl
def M33_4 : List CF := [⟨.leq, (.bin .mul .i64 (.bin .mul .i64 (.bin .mul .i64 (.lit 1) (.tri 2 (.lit 0) (.tri 3 (.var 1) (.lit 100) (.lit 0)) (.lit 0))) (.tri 2 (.lit 0) (.tri 3 (.var 3) (.lit 100) (.lit 0)) (.lit 0))) (.tri 2 (.lit 0) (.tri 3 (.var 5) (.lit 100) (.lit 0)) (.lit 0))), (.lit 64), true⟩, ⟨.leq, (.bin .mul .i64 (.bin .mul .i64 (.bin .mul .i64 (.lit 1) (.tri 2 (.lit 0) (.tri 3 (.var 11) (.lit 100) (.lit 0)) (.lit 0))) (.tri 2 (.lit 0) (.tri 3 (.var 13) (.lit 100) (.lit 0)) (.lit 0))) (.tri 2 (.lit 0) (.tri 3 (.var 15) (.lit 100) (.lit 0)) (.lit 0))), (.lit 64), true⟩, ⟨.neq, (.var 20), (.lit 0), false⟩, ⟨.neq, (.var 21), (.lit 0), false⟩, ⟨.eql, (.bin .mul .i64 (.bin .mul .i64 (.bin .mul .i64 (.lit 1) (.var 11)) (.var 13)) (.var 15)), (.lit 0), false⟩, ⟨.eql, (.bin .mul .i64 (.bin .mul .i64 (.bin .mul .i64 (.lit 1) (.var 1)) (.var 3)) (.var 5)), (.lit 0), false⟩, ⟨.neq, (.var 22), (.lit 0), true⟩]
theorem m33_4 (ρ : Nat → Int) (aR aS : Addr) (A : SlT) : runL ρ aR aS (bigF 90 (.k 3) ++ (bigF 91 (.k 3) ++ M33_4)) A (.k 3) (.k 3) := by unfold runL runQ; kernel_rfl
def M33_5 : List CF := [⟨.leq, (.bin .mul .i64 (.bin .mul .i64 (.bin .mul .i64 (.lit 1) (.tri 2 (.lit 0) (.tri 3 (.var 1) (.lit 100) (.lit 0)) (.lit 0))) (.tri 2 (.lit 0) (.tri 3 (.var 3) (.lit 100) (.lit 0)) (.lit 0))) (.tri 2 (.lit 0) (.tri 3 (.var 5) (.lit 100) (.lit 0)) (.lit 0))), (.lit 64), true⟩, ⟨.leq, (.bin .mul .i64 (.bin .mul .i64 (.bin .mul .i64 (.lit 1) (.tri 2 (.lit 0) (.tri 3 (.var 11) (.lit 100) (.lit 0)) (.lit 0))) (.tri 2 (.lit 0) (.tri 3 (.var 13) (.lit 100) (.lit 0)) (.lit 0))) (.tri 2 (.lit 0) (.tri 3 (.var 15) (.lit 100) (.lit 0)) (.lit 0))), (.lit 64), true⟩, ⟨.neq, (.var 20), (.lit 0), false⟩, ⟨.neq, (.var 21), (.lit 0), false⟩, ⟨.eql, (.bin .mul .i64 (.bin .mul .i64 (.bin .mul .i64 (.lit 1) (.var 11)) (.var 13)) (.var 15)), (.lit 0), false⟩, ⟨.eql, (.bin .mul .i64 (.bin .mul .i64 (.bin .mul .i64 (.lit 1) (.var 1)) (.var 3)) (.var 5)), (.lit 0), false⟩, ⟨.neq, (.var 22), (.lit 0), false⟩]
theorem m33_5 (ρ : Nat → Int) (aR aS : Addr) (A : SlT) : runL ρ aR aS (bigF 90 (.k 3) ++ (bigF 91 (.k 3) ++ M33_5)) A (.k 3) (.k 3) := by unfold runL runQ; kernel_rfl
def M33_6 : List CF := [⟨.leq, (.bin .mul .i64 (.bin .mul .i64 (.bin .mul .i64 (.lit 1) (.tri 2 (.lit 0) (.tri 3 (.var 1) (.lit 100) (.lit 0)) (.lit 0))) (.tri 2 (.lit 0) (.tri 3 (.var 3) (.lit 100) (.lit 0)) (.lit 0))) (.tri 2 (.lit 0) (.tri 3 (.var 5) (.lit 100) (.lit 0)) (.lit 0))), (.lit 64), true⟩, ⟨.leq, (.bin .mul .i64 (.bin .mul .i64 (.bin .mul .i64 (.lit 1) (.tri 2 (.lit 0) (.tri 3 (.var 11) (.lit 100) (.lit 0)) (.lit 0))) (.tri 2 (.lit 0) (.tri 3 (.var 13) (.lit 100) (.lit 0)) (.lit 0))) (.tri 2 (.lit 0) (.tri 3 (.var 15) (.lit 100) (.lit 0)) (.lit 0))), (.lit 64), false⟩]
theorem m33_6 (ρ : Nat → Int) (aR aS : Addr) (A : SlT) : runL ρ aR aS (bigF 90 (.k 3) ++ (bigF 91 (.k 3) ++ M33_6)) A (.k 3) (.k 3) := by unfold runL runQ; kernel_rfl
def M33_7 : List CF := [⟨.leq, (.bin .mul .i64 (.bin .mul .i64 (.bin .mul .i64 (.lit 1) (.tri 2 (.lit 0) (.tri 3 (.var 1) (.lit 100) (.lit 0)) (.lit 0))) (.tri 2 (.lit 0) (.tri 3 (.var 3) (.lit 100) (.lit 0)) (.lit 0))) (.tri 2 (.lit 0) (.tri 3 (.var 5) (.lit 100) (.lit 0)) (.lit 0))), (.lit 64), false⟩]
theorem m33_7 (ρ : Nat → Int) (aR aS : Addr) (A : SlT) : runL ρ aR aS (bigF 90 (.k 3) ++ (bigF 91 (.k 3) ++ M33_7)) A (.k 3) (.k 3) := by unfold runL runQ; kernel_rfl
theorem t33 (ρ : Nat → Int) (aR aS : Addr) (A : SlT) (ha : ∀ f ∈ bigF 90 (.k 3), f.ok ρ) (hb : ∀ f ∈ bigF 91 (.k 3), f.ok ρ) : Runs ρ aR aS A (.k 3) (.k 3) := by
  cases h0 : cmpI .leq (IE.ev ρ (.bin .mul .i64 (.bin .mul .i64 (.bin .mul .i64 (.lit 1) (.tri 2 (.lit 0) (.tri 3 (.var 1) (.lit 100) (.lit 0)) (.lit 0))) (.tri 2 (.lit 0) (.tri 3 (.var 3) (.lit 100) (.lit 0)) (.lit 0))) (.tri 2 (.lit 0) (.tri 3 (.var 5) (.lit 100) (.lit 0)) (.lit 0)))) (IE.ev ρ (.lit 64)) with
  | true =>
    cases h1 : cmpI .leq (IE.ev ρ (.bin .mul .i64 (.bin .mul .i64 (.bin .mul .i64 (.lit 1) (.tri 2 (.lit 0) (.tri 3 (.var 11) (.lit 100) (.lit 0)) (.lit 0))) (.tri 2 (.lit 0) (.tri 3 (.var 13) (.lit 100) (.lit 0)) (.lit 0))) (.tri 2 (.lit 0) (.tri 3 (.var 15) (.lit 100) (.lit 0)) (.lit 0)))) (IE.ev ρ (.lit 64)) with
    | true =>
      cases h2 : cmpI .neq (IE.ev ρ (.var 20)) (IE.ev ρ (.lit 0)) with
      | true =>
        exact ⟨_, all_app ha (all_app hb ((all_cons ⟨rfl, h0⟩ (all_cons ⟨rfl, h1⟩ (all_cons ⟨rfl, h2⟩ all_nil))))), m33_0 ρ aR aS A⟩
      | false =>
        cases h3 : cmpI .neq (IE.ev ρ (.var 21)) (IE.ev ρ (.lit 0)) with
        | true =>
          exact ⟨_, all_app ha (all_app hb ((all_cons ⟨rfl, h0⟩ (all_cons ⟨rfl, h1⟩ (all_cons ⟨rfl, h2⟩ (all_cons ⟨rfl, h3⟩ all_nil)))))), m33_1 ρ aR aS A⟩
        | false =>
          cases h4 : cmpI .eql (IE.ev ρ (.bin .mul .i64 (.bin .mul .i64 (.bin .mul .i64 (.lit 1) (.var 11)) (.var 13)) (.var 15))) (IE.ev ρ (.lit 0)) with
          | true =>
            exact ⟨_, all_app ha (all_app hb ((all_cons ⟨rfl, h0⟩ (all_cons ⟨rfl, h1⟩ (all_cons ⟨rfl, h2⟩ (all_cons ⟨rfl, h3⟩ (all_cons ⟨rfl, h4⟩ all_nil))))))), m33_2 ρ aR aS A⟩
          | false =>
            cases h5 : cmpI .eql (IE.ev ρ (.bin .mul .i64 (.bin .mul .i64 (.bin .mul .i64 (.lit 1) (.var 1)) (.var 3)) (.var 5))) (IE.ev ρ (.lit 0)) with
            | true =>
              exact ⟨_, all_app ha (all_app hb ((all_cons ⟨rfl, h0⟩ (all_cons ⟨rfl, h1⟩ (all_cons ⟨rfl, h2⟩ (all_cons ⟨rfl, h3⟩ (all_cons ⟨rfl, h4⟩ (all_cons ⟨rfl, h5⟩ all_nil)))))))), m33_3 ρ aR aS A⟩
            | false =>
              cases h6 : cmpI .neq (IE.ev ρ (.var 22)) (IE.ev ρ (.lit 0)) with
              | true =>
                exact ⟨_, all_app ha (all_app hb ((all_cons ⟨rfl, h0⟩ (all_cons ⟨rfl, h1⟩ (all_cons ⟨rfl, h2⟩ (all_cons ⟨rfl, h3⟩ (all_cons ⟨rfl, h4⟩ (all_cons ⟨rfl, h5⟩ (all_cons ⟨rfl, h6⟩ all_nil))))))))), m33_4 ρ aR aS A⟩
              | false =>
                exact ⟨_, all_app ha (all_app hb ((all_cons ⟨rfl, h0⟩ (all_cons ⟨rfl, h1⟩ (all_cons ⟨rfl, h2⟩ (all_cons ⟨rfl, h3⟩ (all_cons ⟨rfl, h4⟩ (all_cons ⟨rfl, h5⟩ (all_cons ⟨rfl, h6⟩ all_nil))))))))), m33_5 ρ aR aS A⟩
    | false =>
      exact ⟨_, all_app ha (all_app hb ((all_cons ⟨rfl, h0⟩ (all_cons ⟨rfl, h1⟩ all_nil)))), m33_6 ρ aR aS A⟩
  | false =>
    exact ⟨_, all_app ha (all_app hb ((all_cons ⟨rfl, h0⟩ all_nil))), m33_7 ρ aR aS A⟩
def M34_0 : List CF := [⟨.leq, (.bin .mul .i64 (.bin .mul .i64 (.bin .mul .i64 (.lit 1) (.tri 2 (.lit 0) (.tri 3 (.var 1) (.lit 100) (.lit 0)) (.lit 0))) (.tri 2 (.lit 0) (.tri 3 (.var 3) (.lit 100) (.lit 0)) (.lit 0))) (.tri 2 (.lit 0) (.tri 3 (.var 5) (.lit 100) (.lit 0)) (.lit 0))), (.lit 64), true⟩, ⟨.leq, (.bin .mul .i64 (.bin .mul .i64 (.bin .mul .i64 (.bin .mul .i64 (.lit 1) (.tri 2 (.lit 0) (.tri 3 (.var 11) (.lit 100) (.lit 0)) (.lit 0))) (.tri 2 (.lit 0) (.tri 3 (.var 13) (.lit 100) (.lit 0)) (.lit 0))) (.tri 2 (.lit 0) (.tri 3 (.var 15) (.lit 100) (.lit 0)) (.lit 0))) (.tri 2 (.lit 0) (.tri 3 (.var 17) (.lit 100) (.lit 0)) (.lit 0))), (.lit 64), true⟩, ⟨.neq, (.var 20), (.lit 0), true⟩]
theorem m34_0 (ρ : Nat → Int) (aR aS : Addr) (A : SlT) : runL ρ aR aS (bigF 90 (.k 3) ++ (bigF 91 (.k 4) ++ M34_0)) A (.k 3) (.k 4) := by unfold runL runQ; kernel_rfl
def M34_1 : List CF := [⟨.leq, (.bin .mul .i64 (.bin .mul .i64 (.bin .mul .i64 (.lit 1) (.tri 2 (.lit 0) (.tri 3 (.var 1) (.lit 100) (.lit 0)) (.lit 0))) (.tri 2 (.lit 0) (.tri 3 (.var 3) (.lit 100) (.lit 0)) (.lit 0))) (.tri 2 (.lit 0) (.tri 3 (.var 5) (.lit 100) (.lit 0)) (.lit 0))), (.lit 64), true⟩, ⟨.leq, (.bin .mul .i64 (.bin .mul .i64 (.bin .mul .i64 (.bin .mul .i64 (.lit 1) (.tri 2 (.lit 0) (.tri 3 (.var 11) (.lit 100) (.lit 0)) (.lit 0))) (.tri 2 (.lit 0) (.tri 3 (.var 13) (.lit 100) (.lit 0)) (.lit 0))) (.tri 2 (.lit 0) (.tri 3 (.var 15) (.lit 100) (.lit 0)) (.lit 0))) (.tri 2 (.lit 0) (.tri 3 (.var 17) (.lit 100) (.lit 0)) (.lit 0))), (.lit 64), true⟩, ⟨.neq, (.var 20), (.lit 0), false⟩]
theorem m34_1 (ρ : Nat → Int) (aR aS : Addr) (A : SlT) : runL ρ aR aS (bigF 90 (.k 3) ++ (bigF 91 (.k 4) ++ M34_1)) A (.k 3) (.k 4) := by unfold runL runQ; kernel_rfl
def M34_2 : List CF := [⟨.leq, (.bin .mul .i64 (.bin .mul .i64 (.bin .mul .i64 (.lit 1) (.tri 2 (.lit 0) (.tri 3 (.var 1) (.lit 100) (.lit 0)) (.lit 0))) (.tri 2 (.lit 0) (.tri 3 (.var 3) (.lit 100) (.lit 0)) (.lit 0))) (.tri 2 (.lit 0) (.tri 3 (.var 5) (.lit 100) (.lit 0)) (.lit 0))), (.lit 64), true⟩, ⟨.leq, (.bin .mul .i64 (.bin .mul .i64 (.bin .mul .i64 (.bin .mul .i64 (.lit 1) (.tri 2 (.lit 0) (.tri 3 (.var 11) (.lit 100) (.lit 0)) (.lit 0))) (.tri 2 (.lit 0) (.tri 3 (.var 13) (.lit 100) (.lit 0)) (.lit 0))) (.tri 2 (.lit 0) (.tri 3 (.var 15) (.lit 100) (.lit 0)) (.lit 0))) (.tri 2 (.lit 0) (.tri 3 (.var 17) (.lit 100) (.lit 0)) (.lit 0))), (.lit 64), false⟩]
theorem m34_2 (ρ : Nat → Int) (aR aS : Addr) (A : SlT) : runL ρ aR aS (bigF 90 (.k 3) ++ (bigF 91 (.k 4) ++ M34_2)) A (.k 3) (.k 4) := by unfold runL runQ; kernel_rfl
def M34_3 : List CF := [⟨.leq, (.bin .mul .i64 (.bin .mul .i64 (.bin .mul .i64 (.lit 1) (.tri 2 (.lit 0) (.tri 3 (.var 1) (.lit 100) (.lit 0)) (.lit 0))) (.tri 2 (.lit 0) (.tri 3 (.var 3) (.lit 100) (.lit 0)) (.lit 0))) (.tri 2 (.lit 0) (.tri 3 (.var 5) (.lit 100) (.lit 0)) (.lit 0))), (.lit 64), false⟩]
theorem m34_3 (ρ : Nat → Int) (aR aS : Addr) (A : SlT) : runL ρ aR aS (bigF 90 (.k 3) ++ (bigF 91 (.k 4) ++ M34_3)) A (.k 3) (.k 4) := by unfold runL runQ; kernel_rfl
theorem t34 (ρ : Nat → Int) (aR aS : Addr) (A : SlT) (ha : ∀ f ∈ bigF 90 (.k 3), f.ok ρ) (hb : ∀ f ∈ bigF 91 (.k 4), f.ok ρ) : Runs ρ aR aS A (.k 3) (.k 4) := by
  cases h0 : cmpI .leq (IE.ev ρ (.bin .mul .i64 (.bin .mul .i64 (.bin .mul .i64 (.lit 1) (.tri 2 (.lit 0) (.tri 3 (.var 1) (.lit 100) (.lit 0)) (.lit 0))) (.tri 2 (.lit 0) (.tri 3 (.var 3) (.lit 100) (.lit 0)) (.lit 0))) (.tri 2 (.lit 0) (.tri 3 (.var 5) (.lit 100) (.lit 0)) (.lit 0)))) (IE.ev ρ (.lit 64)) with
  | true =>
    cases h1 : cmpI .leq (IE.ev ρ (.bin .mul .i64 (.bin .mul .i64 (.bin .mul .i64 (.bin .mul .i64 (.lit 1) (.tri 2 (.lit 0) (.tri 3 (.var 11) (.lit 100) (.lit 0)) (.lit 0))) (.tri 2 (.lit 0) (.tri 3 (.var 13) (.lit 100) (.lit 0)) (.lit 0))) (.tri 2 (.lit 0) (.tri 3 (.var 15) (.lit 100) (.lit 0)) (.lit 0))) (.tri 2 (.lit 0) (.tri 3 (.var 17) (.lit 100) (.lit 0)) (.lit 0)))) (IE.ev ρ (.lit 64)) with
    | true =>
      cases h2 : cmpI .neq (IE.ev ρ (.var 20)) (IE.ev ρ (.lit 0)) with
      | true =>
        exact ⟨_, all_app ha (all_app hb ((all_cons ⟨rfl, h0⟩ (all_cons ⟨rfl, h1⟩ (all_cons ⟨rfl, h2⟩ all_nil))))), m34_0 ρ aR aS A⟩
      | false =>
        exact ⟨_, all_app ha (all_app hb ((all_cons ⟨rfl, h0⟩ (all_cons ⟨rfl, h1⟩ (all_cons ⟨rfl, h2⟩ all_nil))))), m34_1 ρ aR aS A⟩
    | false =>
      exact ⟨_, all_app ha (all_app hb ((all_cons ⟨rfl, h0⟩ (all_cons ⟨rfl, h1⟩ all_nil)))), m34_2 ρ aR aS A⟩
  | false =>
    exact ⟨_, all_app ha (all_app hb ((all_cons ⟨rfl, h0⟩ all_nil))), m34_3 ρ aR aS A⟩
end
end Go.Proofs.YtdmbnllekmgnhaaDoor

namespace Go.Proofs.YtdmbnllekmgnhaaDoor
noncomputable section
open Go Go.RX
open Go.RowKit (Below)
set_option maxRecDepth 1000000
set_option maxHeartbeats 4000000
def M3B_0 : List CF := [⟨.leq, (.bin .mul .i64 (.bin .mul .i64 (.bin .mul .i64 (.lit 1) (.tri 2 (.lit 0) (.tri 3 (.var 1) (.lit 100) (.lit 0)) (.lit 0))) (.tri 2 (.lit 0) (.tri 3 (.var 3) (.lit 100) (.lit 0)) (.lit 0))) (.tri 2 (.lit 0) (.tri 3 (.var 5) (.lit 100) (.lit 0)) (.lit 0))), (.lit 64), true⟩]
theorem m3B_0 (ρ : Nat → Int) (aR aS : Addr) (A : SlT) : runL ρ aR aS (bigF 90 (.k 3) ++ (bigF 91 .big ++ M3B_0)) A (.k 3) .big := by unfold runL runQ; kernel_rfl
def M3B_1 : List CF := [⟨.leq, (.bin .mul .i64 (.bin .mul .i64 (.bin .mul .i64 (.lit 1) (.tri 2 (.lit 0) (.tri 3 (.var 1) (.lit 100) (.lit 0)) (.lit 0))) (.tri 2 (.lit 0) (.tri 3 (.var 3) (.lit 100) (.lit 0)) (.lit 0))) (.tri 2 (.lit 0) (.tri 3 (.var 5) (.lit 100) (.lit 0)) (.lit 0))), (.lit 64), false⟩]
theorem m3B_1 (ρ : Nat → Int) (aR aS : Addr) (A : SlT) : runL ρ aR aS (bigF 90 (.k 3) ++ (bigF 91 .big ++ M3B_1)) A (.k 3) .big := by unfold runL runQ; kernel_rfl
theorem t3B (ρ : Nat → Int) (aR aS : Addr) (A : SlT) (ha : ∀ f ∈ bigF 90 (.k 3), f.ok ρ) (hb : ∀ f ∈ bigF 91 .big, f.ok ρ) : Runs ρ aR aS A (.k 3) .big := by
  cases h0 : cmpI .leq (IE.ev ρ (.bin .mul .i64 (.bin .mul .i64 (.bin .mul .i64 (.lit 1) (.tri 2 (.lit 0) (.tri 3 (.var 1) (.lit 100) (.lit 0)) (.lit 0))) (.tri 2 (.lit 0) (.tri 3 (.var 3) (.lit 100) (.lit 0)) (.lit 0))) (.tri 2 (.lit 0) (.tri 3 (.var 5) (.lit 100) (.lit 0)) (.lit 0)))) (IE.ev ρ (.lit 64)) with
  | true =>
    exact ⟨_, all_app ha (all_app hb ((all_cons ⟨rfl, h0⟩ all_nil))), m3B_0 ρ aR aS A⟩
  | false =>
    exact ⟨_, all_app ha (all_app hb ((all_cons ⟨rfl, h0⟩ all_nil))), m3B_1 ρ aR aS A⟩
def M4N_0 : List CF := [⟨.leq, (.bin .mul .i64 (.bin .mul .i64 (.bin .mul .i64 (.bin .mul .i64 (.lit 1) (.tri 2 (.lit 0) (.tri 3 (.var 1) (.lit 100) (.lit 0)) (.lit 0))) (.tri 2 (.lit 0) (.tri 3 (.var 3) (.lit 100) (.lit 0)) (.lit 0))) (.tri 2 (.lit 0) (.tri 3 (.var 5) (.lit 100) (.lit 0)) (.lit 0))) (.tri 2 (.lit 0) (.tri 3 (.var 7) (.lit 100) (.lit 0)) (.lit 0))), (.lit 64), true⟩]
theorem m4N_0 (ρ : Nat → Int) (aR aS : Addr) (A : SlT) : runL ρ aR aS (bigF 90 (.k 4) ++ (bigF 91 .nil ++ M4N_0)) A (.k 4) .nil := by unfold runL runQ; kernel_rfl
def M4N_1 : List CF := [⟨.leq, (.bin .mul .i64 (.bin .mul .i64 (.bin .mul .i64 (.bin .mul .i64 (.lit 1) (.tri 2 (.lit 0) (.tri 3 (.var 1) (.lit 100) (.lit 0)) (.lit 0))) (.tri 2 (.lit 0) (.tri 3 (.var 3) (.lit 100) (.lit 0)) (.lit 0))) (.tri 2 (.lit 0) (.tri 3 (.var 5) (.lit 100) (.lit 0)) (.lit 0))) (.tri 2 (.lit 0) (.tri 3 (.var 7) (.lit 100) (.lit 0)) (.lit 0))), (.lit 64), false⟩]
theorem m4N_1 (ρ : Nat → Int) (aR aS : Addr) (A : SlT) : runL ρ aR aS (bigF 90 (.k 4) ++ (bigF 91 .nil ++ M4N_1)) A (.k 4) .nil := by unfold runL runQ; kernel_rfl
theorem t4N (ρ : Nat → Int) (aR aS : Addr) (A : SlT) (ha : ∀ f ∈ bigF 90 (.k 4), f.ok ρ) (hb : ∀ f ∈ bigF 91 .nil, f.ok ρ) : Runs ρ aR aS A (.k 4) .nil := by
  cases h0 : cmpI .leq (IE.ev ρ (.bin .mul .i64 (.bin .mul .i64 (.bin .mul .i64 (.bin .mul .i64 (.lit 1) (.tri 2 (.lit 0) (.tri 3 (.var 1) (.lit 100) (.lit 0)) (.lit 0))) (.tri 2 (.lit 0) (.tri 3 (.var 3) (.lit 100) (.lit 0)) (.lit 0))) (.tri 2 (.lit 0) (.tri 3 (.var 5) (.lit 100) (.lit 0)) (.lit 0))) (.tri 2 (.lit 0) (.tri 3 (.var 7) (.lit 100) (.lit 0)) (.lit 0)))) (IE.ev ρ (.lit 64)) with
  | true =>
    exact ⟨_, all_app ha (all_app hb ((all_cons ⟨rfl, h0⟩ all_nil))), m4N_0 ρ aR aS A⟩
  | false =>
    exact ⟨_, all_app ha (all_app hb ((all_cons ⟨rfl, h0⟩ all_nil))), m4N_1 ρ aR aS A⟩
def M40_0 : List CF := [⟨.leq, (.bin .mul .i64 (.bin .mul .i64 (.bin .mul .i64 (.bin .mul .i64 (.lit 1) (.tri 2 (.lit 0) (.tri 3 (.var 1) (.lit 100) (.lit 0)) (.lit 0))) (.tri 2 (.lit 0) (.tri 3 (.var 3) (.lit 100) (.lit 0)) (.lit 0))) (.tri 2 (.lit 0) (.tri 3 (.var 5) (.lit 100) (.lit 0)) (.lit 0))) (.tri 2 (.lit 0) (.tri 3 (.var 7) (.lit 100) (.lit 0)) (.lit 0))), (.lit 64), true⟩]
theorem m40_0 (ρ : Nat → Int) (aR aS : Addr) (A : SlT) : runL ρ aR aS (bigF 90 (.k 4) ++ (bigF 91 (.k 0) ++ M40_0)) A (.k 4) (.k 0) := by unfold runL runQ; kernel_rfl
def M40_1 : List CF := [⟨.leq, (.bin .mul .i64 (.bin .mul .i64 (.bin .mul .i64 (.bin .mul .i64 (.lit 1) (.tri 2 (.lit 0) (.tri 3 (.var 1) (.lit 100) (.lit 0)) (.lit 0))) (.tri 2 (.lit 0) (.tri 3 (.var 3) (.lit 100) (.lit 0)) (.lit 0))) (.tri 2 (.lit 0) (.tri 3 (.var 5) (.lit 100) (.lit 0)) (.lit 0))) (.tri 2 (.lit 0) (.tri 3 (.var 7) (.lit 100) (.lit 0)) (.lit 0))), (.lit 64), false⟩]
theorem m40_1 (ρ : Nat → Int) (aR aS : Addr) (A : SlT) : runL ρ aR aS (bigF 90 (.k 4) ++ (bigF 91 (.k 0) ++ M40_1)) A (.k 4) (.k 0) := by unfold runL runQ; kernel_rfl
theorem t40 (ρ : Nat → Int) (aR aS : Addr) (A : SlT) (ha : ∀ f ∈ bigF 90 (.k 4), f.ok ρ) (hb : ∀ f ∈ bigF 91 (.k 0), f.ok ρ) : Runs ρ aR aS A (.k 4) (.k 0) := by
  cases h0 : cmpI .leq (IE.ev ρ (.bin .mul .i64 (.bin .mul .i64 (.bin .mul .i64 (.bin .mul .i64 (.lit 1) (.tri 2 (.lit 0) (.tri 3 (.var 1) (.lit 100) (.lit 0)) (.lit 0))) (.tri 2 (.lit 0) (.tri 3 (.var 3) (.lit 100) (.lit 0)) (.lit 0))) (.tri 2 (.lit 0) (.tri 3 (.var 5) (.lit 100) (.lit 0)) (.lit 0))) (.tri 2 (.lit 0) (.tri 3 (.var 7) (.lit 100) (.lit 0)) (.lit 0)))) (IE.ev ρ (.lit 64)) with
  | true =>
    exact ⟨_, all_app ha (all_app hb ((all_cons ⟨rfl, h0⟩ all_nil))), m40_0 ρ aR aS A⟩
  | false =>
    exact ⟨_, all_app ha (all_app hb ((all_cons ⟨rfl, h0⟩ all_nil))), m40_1 ρ aR aS A⟩
def M41_0 : List CF := [⟨.leq, (.bin .mul .i64 (.bin .mul .i64 (.bin .mul .i64 (.bin .mul .i64 (.lit 1) (.tri 2 (.lit 0) (.tri 3 (.var 1) (.lit 100) (.lit 0)) (.lit 0))) (.tri 2 (.lit 0) (.tri 3 (.var 3) (.lit 100) (.lit 0)) (.lit 0))) (.tri 2 (.lit 0) (.tri 3 (.var 5) (.lit 100) (.lit 0)) (.lit 0))) (.tri 2 (.lit 0) (.tri 3 (.var 7) (.lit 100) (.lit 0)) (.lit 0))), (.lit 64), true⟩, ⟨.leq, (.bin .mul .i64 (.lit 1) (.tri 2 (.lit 0) (.tri 3 (.var 11) (.lit 100) (.lit 0)) (.lit 0))), (.lit 64), true⟩]
theorem m41_0 (ρ : Nat → Int) (aR aS : Addr) (A : SlT) : runL ρ aR aS (bigF 90 (.k 4) ++ (bigF 91 (.k 1) ++ M41_0)) A (.k 4) (.k 1) := by unfold runL runQ; kernel_rfl
def M41_1 : List CF := [⟨.leq, (.bin .mul .i64 (.bin .mul .i64 (.bin .mul .i64 (.bin .mul .i64 (.lit 1) (.tri 2 (.lit 0) (.tri 3 (.var 1) (.lit 100) (.lit 0)) (.lit 0))) (.tri 2 (.lit 0) (.tri 3 (.var 3) (.lit 100) (.lit 0)) (.lit 0))) (.tri 2 (.lit 0) (.tri 3 (.var 5) (.lit 100) (.lit 0)) (.lit 0))) (.tri 2 (.lit 0) (.tri 3 (.var 7) (.lit 100) (.lit 0)) (.lit 0))), (.lit 64), true⟩, ⟨.leq, (.bin .mul .i64 (.lit 1) (.tri 2 (.lit 0) (.tri 3 (.var 11) (.lit 100) (.lit 0)) (.lit 0))), (.lit 64), false⟩]
theorem m41_1 (ρ : Nat → Int) (aR aS : Addr) (A : SlT) : runL ρ aR aS (bigF 90 (.k 4) ++ (bigF 91 (.k 1) ++ M41_1)) A (.k 4) (.k 1) := by unfold runL runQ; kernel_rfl
def M41_2 : List CF := [⟨.leq, (.bin .mul .i64 (.bin .mul .i64 (.bin .mul .i64 (.bin .mul .i64 (.lit 1) (.tri 2 (.lit 0) (.tri 3 (.var 1) (.lit 100) (.lit 0)) (.lit 0))) (.tri 2 (.lit 0) (.tri 3 (.var 3) (.lit 100) (.lit 0)) (.lit 0))) (.tri 2 (.lit 0) (.tri 3 (.var 5) (.lit 100) (.lit 0)) (.lit 0))) (.tri 2 (.lit 0) (.tri 3 (.var 7) (.lit 100) (.lit 0)) (.lit 0))), (.lit 64), false⟩]
theorem m41_2 (ρ : Nat → Int) (aR aS : Addr) (A : SlT) : runL ρ aR aS (bigF 90 (.k 4) ++ (bigF 91 (.k 1) ++ M41_2)) A (.k 4) (.k 1) := by unfold runL runQ; kernel_rfl
theorem t41 (ρ : Nat → Int) (aR aS : Addr) (A : SlT) (ha : ∀ f ∈ bigF 90 (.k 4), f.ok ρ) (hb : ∀ f ∈ bigF 91 (.k 1), f.ok ρ) : Runs ρ aR aS A (.k 4) (.k 1) := by
  cases h0 : cmpI .leq (IE.ev ρ (.bin .mul .i64 (.bin .mul .i64 (.bin .mul .i64 (.bin .mul .i64 (.lit 1) (.tri 2 (.lit 0) (.tri 3 (.var 1) (.lit 100) (.lit 0)) (.lit 0))) (.tri 2 (.lit 0) (.tri 3 (.var 3) (.lit 100) (.lit 0)) (.lit 0))) (.tri 2 (.lit 0) (.tri 3 (.var 5) (.lit 100) (.lit 0)) (.lit 0))) (.tri 2 (.lit 0) (.tri 3 (.var 7) (.lit 100) (.lit 0)) (.lit 0)))) (IE.ev ρ (.lit 64)) with
  | true =>
    cases h1 : cmpI .leq (IE.ev ρ (.bin .mul .i64 (.lit 1) (.tri 2 (.lit 0) (.tri 3 (.var 11) (.lit 100) (.lit 0)) (.lit 0)))) (IE.ev ρ (.lit 64)) with
    | true =>
      exact ⟨_, all_app ha (all_app hb ((all_cons ⟨rfl, h0⟩ (all_cons ⟨rfl, h1⟩ all_nil)))), m41_0 ρ aR aS A⟩
    | false =>
      exact ⟨_, all_app ha (all_app hb ((all_cons ⟨rfl, h0⟩ (all_cons ⟨rfl, h1⟩ all_nil)))), m41_1 ρ aR aS A⟩
  | false =>
    exact ⟨_, all_app ha (all_app hb ((all_cons ⟨rfl, h0⟩ all_nil))), m41_2 ρ aR aS A⟩
end
end Go.Proofs.YtdmbnllekmgnhaaDoor
