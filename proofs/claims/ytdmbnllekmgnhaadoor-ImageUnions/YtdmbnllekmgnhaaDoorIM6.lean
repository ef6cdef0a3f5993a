import Derived.Test.YtdmbnllekmgnhaaDoorIA
namespace Go.Proofs.YtdmbnllekmgnhaaDoor
noncomputable section
open Go Go.RX
open Go.RowKit (Below)
set_option maxRecDepth 1000000
set_option maxHeartbeats 4000000
def M22_0 : List CF := [⟨.leq, (.bin .mul .i64 (.bin .mul .i64 (.lit 1) (.tri 2 (.lit 0) (.tri 3 (.var 1) (.lit 100) (.lit 0)) (.lit 0))) (.tri 2 (.lit 0) (.tri 3 (.var 3) (.lit 100) (.lit 0)) (.lit 0))), (.lit 64), true⟩, ⟨.leq, (.bin .mul .i64 (.bin .mul .i64 (.lit 1) (.tri 2 (.lit 0) (.tri 3 (.var 11) (.lit 100) (.lit 0)) (.lit 0))) (.tri 2 (.lit 0) (.tri 3 (.var 13) (.lit 100) (.lit 0)) (.lit 0))), (.lit 64), true⟩, ⟨.neq, (.var 20), (.lit 0), true⟩]
theorem m22_0 (ρ : Nat → Int) (aR aS : Addr) (A : SlT) : runL ρ aR aS (bigF 90 (.k 2) ++ (bigF 91 (.k 2) ++ M22_0)) A (.k 2) (.k 2) := by unfold runL runQ; kernel_rfl
def M22_1 : List CF := [⟨.leq, (.bin .mul .i64 (.bin .mul .i64 (.lit 1) (.tri 2 (.lit 0) (.tri 3 (.var 1) (.lit 100) (.lit 0)) (.lit 0))) (.tri 2 (.lit 0) (.tri 3 (.var 3) (.lit 100) (.lit 0)) (.lit 0))), (.lit 64), true⟩, ⟨.leq, (.bin .mul .i64 (.bin .mul .i64 (.lit 1) (.tri 2 (.lit 0) (.tri 3 (.var 11) (.lit 100) (.lit 0)) (.lit 0))) (.tri 2 (.lit 0) (.tri 3 (.var 13) (.lit 100) (.lit 0)) (.lit 0))), (.lit 64), true⟩, ⟨.neq, (.var 20), (.lit 0), false⟩, ⟨.neq, (.var 21), (.lit 0), true⟩]
theorem m22_1 (ρ : Nat → Int) (aR aS : Addr) (A : SlT) : runL ρ aR aS (bigF 90 (.k 2) ++ (bigF 91 (.k 2) ++ M22_1)) A (.k 2) (.k 2) := by unfold runL runQ; kernel_rfl
def M22_2 : List CF := [⟨.leq, (.bin .mul .i64 (.bin .mul .i64 (.lit 1) (.tri 2 (.lit 0) (.tri 3 (.var 1) (.lit 100) (.lit 0)) (.lit 0))) (.tri 2 (.lit 0) (.tri 3 (.var 3) (.lit 100) (.lit 0)) (.lit 0))), (.lit 64), true⟩, ⟨.leq, (.bin .mul .i64 (.bin .mul .i64 (.lit 1) (.tri 2 (.lit 0) (.tri 3 (.var 11) (.lit 100) (.lit 0)) (.lit 0))) (.tri 2 (.lit 0) (.tri 3 (.var 13) (.lit 100) (.lit 0)) (.lit 0))), (.lit 64), true⟩, ⟨.neq, (.var 20), (.lit 0), false⟩, ⟨.neq, (.var 21), (.lit 0), false⟩, ⟨.eql, (.bin .mul .i64 (.bin .mul .i64 (.lit 1) (.var 11)) (.var 13)), (.lit 0), true⟩]
theorem m22_2 (ρ : Nat → Int) (aR aS : Addr) (A : SlT) : runL ρ aR aS (bigF 90 (.k 2) ++ (bigF 91 (.k 2) ++ M22_2)) A (.k 2) (.k 2) := by unfold runL runQ; kernel_rfl
def M22_3 : List CF := [⟨.leq, (.bin .mul .i64 (.bin .mul .i64 (.lit 1) (.tri 2 (.lit 0) (.tri 3 (.var 1) (.lit 100) (.lit 0)) (.lit 0))) (.tri 2 (.lit 0) (.tri 3 (.var 3) (.lit 100) (.lit 0)) (.lit 0))), (.lit 64), true⟩, ⟨.leq, (.bin .mul .i64 (.bin .mul .i64 (.lit 1) (.tri 2 (.lit 0) (.tri 3 (.var 11) (.lit 100) (.lit 0)) (.lit 0))) (.tri 2 (.lit 0) (.tri 3 (.var 13) (.lit 100) (.lit 0)) (.lit 0))), (.lit 64), true⟩, ⟨.neq, (.var 20), (.lit 0), false⟩, ⟨.neq, (.var 21), (.lit 0), false⟩, ⟨.eql, (.bin .mul .i64 (.bin .mul .i64 (.lit 1) (.var 11)) (.var 13)), (.lit 0), false⟩, ⟨.eql, (.bin .mul .i64 (.bin .mul .i64 (.lit 1) (.var 1)) (.var 3)), (.lit 0), true⟩]
theorem m22_3 (ρ : Nat → Int) (aR aS : Addr) (A : SlT) : runL ρ aR aS (bigF 90 (.k 2) ++ (bigF 91 (.k 2) ++ M22_3)) A (.k 2) (.k 2) := by unfold runL runQ; kernel_rfl
def M22_4 : List CF := [⟨.leq, (.bin .mul .i64 (.bin .mul .i64 (.lit 1) (.tri 2 (.lit 0) (.tri 3 (.var 1) (.lit 100) (.lit 0)) (.lit 0))) (.tri 2 (.lit 0) (.tri 3 (.var 3) (.lit 100) (.lit 0)) (.lit 0))), (.lit 64), true⟩, ⟨.leq, (.bin .mul .i64 (.bin .mul .i64 (.lit 1) (.tri 2 (.lit 0) (.tri 3 (.var 11) (.lit 100) (.lit 0)) (.lit 0))) (.tri 2 (.lit 0) (.tri 3 (.var 13) (.lit 100) (.lit 0)) (.lit 0))), (.lit 64), true⟩, ⟨.neq, (.var 20), (.lit 0), false⟩, ⟨.neq, (.var 21), (.lit 0), false⟩, ⟨.eql, (.bin .mul .i64 (.bin .mul .i64 (.lit 1) (.var 11)) (.var 13)), (.lit 0), false⟩, ⟨.eql, (.bin .mul .i64 (.bin .mul .i64 (.lit 1) (.var 1)) (.var 3)), (.lit 0), false⟩, ⟨.neq, (.var 22), (.lit 0), true⟩]
theorem m22_4 (ρ : Nat → Int) (aR aS : Addr) (A : SlT) : runL ρ aR aS (bigF 90 (.k 2) ++ (bigF 91 (.k 2) ++ M22_4)) A (.k 2) (.k 2) := by unfold runL runQ; kernel_rfl
def M22_5 : List CF := [⟨.leq, (.bin .mul .i64 (.bin .mul .i64 (.lit 1) (.tri 2 (.lit 0) (.tri 3 (.var 1) (.lit 100) (.lit 0)) (.lit 0))) (.tri 2 (.lit 0) (.tri 3 (.var 3) (.lit 100) (.lit 0)) (.lit 0))), (.lit 64), true⟩, ⟨.leq, (.bin .mul .i64 (.bin .mul .i64 (.lit 1) (.tri 2 (.lit 0) (.tri 3 (.var 11) (.lit 100) (.lit 0)) (.lit 0))) (.tri 2 (.lit 0) (.tri 3 (.var 13) (.lit 100) (.lit 0)) (.lit 0))), (.lit 64), true⟩, ⟨.neq, (.var 20), (.lit 0), false⟩, ⟨.neq, (.var 21), (.lit 0), false⟩, ⟨.eql, (.bin .mul .i64 (.bin .mul .i64 (.lit 1) (.var 11)) (.var 13)), (.lit 0), false⟩, ⟨.eql, (.bin .mul .i64 (.bin .mul .i64 (.lit 1) (.var 1)) (.var 3)), (.lit 0), false⟩, ⟨.neq, (.var 22), (.lit 0), false⟩]
theorem m22_5 (ρ : Nat → Int) (aR aS : Addr) (A : SlT) : runL ρ aR aS (bigF 90 (.k 2) ++ (bigF 91 (.k 2) ++ M22_5)) A (.k 2) (.k 2) := by unfold runL runQ; kernel_rfl
def M22_6 : List CF := [⟨.leq, (.bin .mul .i64 (.bin .mul .i64 (.lit 1) (.tri 2 (.lit 0) (.tri 3 (.var 1) (.lit 100) (.lit 0)) (.lit 0))) (.tri 2 (.lit 0) (.tri 3 (.var 3) (.lit 100) (.lit 0)) (.lit 0))), (.lit 64), true⟩, ⟨.leq, (.bin .mul .i64 (.bin .mul .i64 (.lit 1) (.tri 2 (.lit 0) (.tri 3 (.var 11) (.lit 100) (.lit 0)) (.lit 0))) (.tri 2 (.lit 0) (.tri 3 (.var 13) (.lit 100) (.lit 0)) (.lit 0))), (.lit 64), false⟩]
theorem m22_6 (ρ : Nat → Int) (aR aS : Addr) (A : SlT) : runL ρ aR aS (bigF 90 (.k 2) ++ (bigF 91 (.k 2) ++ M22_6)) A (.k 2) (.k 2) := by unfold runL runQ; kernel_rfl
def M22_7 : List CF := [⟨.leq, (.bin .mul .i64 (.bin .mul .i64 (.lit 1) (.tri 2 (.lit 0) (.tri 3 (.var 1) (.lit 100) (.lit 0)) (.lit 0))) (.tri 2 (.lit 0) (.tri 3 (.var 3) (.lit 100) (.lit 0)) (.lit 0))), (.lit 64), false⟩]
theorem m22_7 (ρ : Nat → Int) (aR aS : Addr) (A : SlT) : runL ρ aR aS (bigF 90 (.k 2) ++ (bigF 91 (.k 2) ++ M22_7)) A (.k 2) (.k 2) := by unfold runL runQ; kernel_rfl
theorem t22 (ρ : Nat → Int) (aR aS : Addr) (A : SlT) (ha : ∀ f ∈ bigF 90 (.k 2), f.ok ρ) (hb : ∀ f ∈ bigF 91 (.k 2), f.ok ρ) : Runs ρ aR aS A (.k 2) (.k 2) := by
  cases h0 : cmpI .leq (IE.ev ρ (.bin .mul .i64 (.bin .mul .i64 (.lit 1) (.tri 2 (.lit 0) (.tri 3 (.var 1) (.lit 100) (.lit 0)) (.lit 0))) (.tri 2 (.lit 0) (.tri 3 (.var 3) (.lit 100) (.lit 0)) (.lit 0)))) (IE.ev ρ (.lit 64)) with
  | true =>
    cases h1 : cmpI .leq (IE.ev ρ (.bin .mul .i64 (.bin .mul .i64 (.lit 1) (.tri 2 (.lit 0) (.tri 3 (.var 11) (.lit 100) (.lit 0)) (.lit 0))) (.tri 2 (.lit 0) (.tri 3 (.var 13) (.lit 100) (.lit 0)) (.lit 0)))) (IE.ev ρ (.lit 64)) with
    | true =>
      cases h2 : cmpI .neq (IE.ev ρ (.var 20)) (IE.ev ρ (.lit 0)) with
      | true =>
        exact ⟨_, all_app ha (all_app hb ((all_cons ⟨rfl, h0⟩ (all_cons ⟨rfl, h1⟩ (all_cons ⟨rfl, h2⟩ all_nil))))), m22_0 ρ aR aS A⟩
      | false =>
        cases h3 : cmpI .neq (IE.ev ρ (.var 21)) (IE.ev ρ (.lit 0)) with
        | true =>
          exact ⟨_, all_app ha (all_app hb ((all_cons ⟨rfl, h0⟩ (all_cons ⟨rfl, h1⟩ (all_cons ⟨rfl, h2⟩ (all_cons ⟨rfl, h3⟩ all_nil)))))), m22_1 ρ aR aS A⟩
        | false =>
          cases h4 : cmpI .eql (IE.ev ρ (.bin .mul .i64 (.bin .mul .i64 (.lit 1) (.var 11)) (.var 13))) (IE.ev ρ (.lit 0)) with
          | true =>
            exact ⟨_, all_app ha (all_app hb ((all_cons ⟨rfl, h0⟩ (all_cons ⟨rfl, h1⟩ (all_cons ⟨rfl, h2⟩ (all_cons ⟨rfl, h3⟩ (all_cons ⟨rfl, h4⟩ all_nil))))))), m22_2 ρ aR aS A⟩
          | false =>
            cases h5 : cmpI .eql (IE.ev ρ (.bin .mul .i64 (.bin .mul .i64 (.lit 1) (.var 1)) (.var 3))) (IE.ev ρ (.lit 0)) with
            | true =>
              exact ⟨_, all_app ha (all_app hb ((all_cons ⟨rfl, h0⟩ (all_cons ⟨rfl, h1⟩ (all_cons ⟨rfl, h2⟩ (all_cons ⟨rfl, h3⟩ (all_cons ⟨rfl, h4⟩ (all_cons ⟨rfl, h5⟩ all_nil)))))))), m22_3 ρ aR aS A⟩
            | false =>
              cases h6 : cmpI .neq (IE.ev ρ (.var 22)) (IE.ev ρ (.lit 0)) with
              | true =>
                exact ⟨_, all_app ha (all_app hb ((all_cons ⟨rfl, h0⟩ (all_cons ⟨rfl, h1⟩ (all_cons ⟨rfl, h2⟩ (all_cons ⟨rfl, h3⟩ (all_cons ⟨rfl, h4⟩ (all_cons ⟨rfl, h5⟩ (all_cons ⟨rfl, h6⟩ all_nil))))))))), m22_4 ρ aR aS A⟩
              | false =>
                exact ⟨_, all_app ha (all_app hb ((all_cons ⟨rfl, h0⟩ (all_cons ⟨rfl, h1⟩ (all_cons ⟨rfl, h2⟩ (all_cons ⟨rfl, h3⟩ (all_cons ⟨rfl, h4⟩ (all_cons ⟨rfl, h5⟩ (all_cons ⟨rfl, h6⟩ all_nil))))))))), m22_5 ρ aR aS A⟩
    | false =>
      exact ⟨_, all_app ha (all_app hb ((all_cons ⟨rfl, h0⟩ (all_cons ⟨rfl, h1⟩ all_nil)))), m22_6 ρ aR aS A⟩
  | false =>
    exact ⟨_, all_app ha (all_app hb ((all_cons ⟨rfl, h0⟩ all_nil))), m22_7 ρ aR aS A⟩
def M23_0 : List CF := [⟨.leq, (.bin .mul .i64 (.bin .mul .i64 (.lit 1) (.tri 2 (.lit 0) (.tri 3 (.var 1) (.lit 100) (.lit 0)) (.lit 0))) (.tri 2 (.lit 0) (.tri 3 (.var 3) (.lit 100) (.lit 0)) (.lit 0))), (.lit 64), true⟩, ⟨.leq, (.bin .mul .i64 (.bin .mul .i64 (.bin .mul .i64 (.lit 1) (.tri 2 (.lit 0) (.tri 3 (.var 11) (.lit 100) (.lit 0)) (.lit 0))) (.tri 2 (.lit 0) (.tri 3 (.var 13) (.lit 100) (.lit 0)) (.lit 0))) (.tri 2 (.lit 0) (.tri 3 (.var 15) (.lit 100) (.lit 0)) (.lit 0))), (.lit 64), true⟩, ⟨.neq, (.var 20), (.lit 0), true⟩]
theorem m23_0 (ρ : Nat → Int) (aR aS : Addr) (A : SlT) : runL ρ aR aS (bigF 90 (.k 2) ++ (bigF 91 (.k 3) ++ M23_0)) A (.k 2) (.k 3) := by unfold runL runQ; kernel_rfl
def M23_1 : List CF := [⟨.leq, (.bin .mul .i64 (.bin .mul .i64 (.lit 1) (.tri 2 (.lit 0) (.tri 3 (.var 1) (.lit 100) (.lit 0)) (.lit 0))) (.tri 2 (.lit 0) (.tri 3 (.var 3) (.lit 100) (.lit 0)) (.lit 0))), (.lit 64), true⟩, ⟨.leq, (.bin .mul .i64 (.bin .mul .i64 (.bin .mul .i64 (.lit 1) (.tri 2 (.lit 0) (.tri 3 (.var 11) (.lit 100) (.lit 0)) (.lit 0))) (.tri 2 (.lit 0) (.tri 3 (.var 13) (.lit 100) (.lit 0)) (.lit 0))) (.tri 2 (.lit 0) (.tri 3 (.var 15) (.lit 100) (.lit 0)) (.lit 0))), (.lit 64), true⟩, ⟨.neq, (.var 20), (.lit 0), false⟩, ⟨.neq, (.var 21), (.lit 0), true⟩]
theorem m23_1 (ρ : Nat → Int) (aR aS : Addr) (A : SlT) : runL ρ aR aS (bigF 90 (.k 2) ++ (bigF 91 (.k 3) ++ M23_1)) A (.k 2) (.k 3) := by unfold runL runQ; kernel_rfl
def M23_2 : List CF := [⟨.leq, (.bin .mul .i64 (.bin .mul .i64 (.lit 1) (.tri 2 (.lit 0) (.tri 3 (.var 1) (.lit 100) (.lit 0)) (.lit 0))) (.tri 2 (.lit 0) (.tri 3 (.var 3) (.lit 100) (.lit 0)) (.lit 0))), (.lit 64), true⟩, ⟨.leq, (.bin .mul .i64 (.bin .mul .i64 (.bin .mul .i64 (.lit 1) (.tri 2 (.lit 0) (.tri 3 (.var 11) (.lit 100) (.lit 0)) (.lit 0))) (.tri 2 (.lit 0) (.tri 3 (.var 13) (.lit 100) (.lit 0)) (.lit 0))) (.tri 2 (.lit 0) (.tri 3 (.var 15) (.lit 100) (.lit 0)) (.lit 0))), (.lit 64), true⟩, ⟨.neq, (.var 20), (.lit 0), false⟩, ⟨.neq, (.var 21), (.lit 0), false⟩]
theorem m23_2 (ρ : Nat → Int) (aR aS : Addr) (A : SlT) : runL ρ aR aS (bigF 90 (.k 2) ++ (bigF 91 (.k 3) ++ M23_2)) A (.k 2) (.k 3) := by unfold runL runQ; kernel_rfl
def M23_3 : List CF := [⟨.leq, (.bin .mul .i64 (.bin .mul .i64 (.lit 1) (.tri 2 (.lit 0) (.tri 3 (.var 1) (.lit 100) (.lit 0)) (.lit 0))) (.tri 2 (.lit 0) (.tri 3 (.var 3) (.lit 100) (.lit 0)) (.lit 0))), (.lit 64), true⟩, ⟨.leq, (.bin .mul .i64 (.bin .mul .i64 (.bin .mul .i64 (.lit 1) (.tri 2 (.lit 0) (.tri 3 (.var 11) (.lit 100) (.lit 0)) (.lit 0))) (.tri 2 (.lit 0) (.tri 3 (.var 13) (.lit 100) (.lit 0)) (.lit 0))) (.tri 2 (.lit 0) (.tri 3 (.var 15) (.lit 100) (.lit 0)) (.lit 0))), (.lit 64), false⟩]
theorem m23_3 (ρ : Nat → Int) (aR aS : Addr) (A : SlT) : runL ρ aR aS (bigF 90 (.k 2) ++ (bigF 91 (.k 3) ++ M23_3)) A (.k 2) (.k 3) := by unfold runL runQ; kernel_rfl
def M23_4 : List CF := [⟨.leq, (.bin .mul .i64 (.bin .mul .i64 (.lit 1) (.tri 2 (.lit 0) (.tri 3 (.var 1) (.lit 100) (.lit 0)) (.lit 0))) (.tri 2 (.lit 0) (.tri 3 (.var 3) (.lit 100) (.lit 0)) (.lit 0))), (.lit 64), false⟩]
theorem m23_4 (ρ : Nat → Int) (aR aS : Addr) (A : SlT) : runL ρ aR aS (bigF 90 (.k 2) ++ (bigF 91 (.k 3) ++ M23_4)) A (.k 2) (.k 3) := by unfold runL runQ; kernel_rfl
theorem t23 (ρ : Nat → Int) (aR aS : Addr) (A : SlT) (ha : ∀ f ∈ bigF 90 (.k 2), f.ok ρ) (hb : ∀ f ∈ bigF 91 (.k 3), f.ok ρ) : Runs ρ aR aS A (.k 2) (.k 3) := by
  cases h0 : cmpI .leq (IE.ev ρ (.bin .mul .i64 (.bin .mul .i64 (.lit 1) (.tri 2 (.lit 0) (.tri 3 (.var 1) (.lit 100) (.lit 0)) (.lit 0))) (.tri 2 (.lit 0) (.tri 3 (.var 3) (.lit 100) (.lit 0)) (.lit 0)))) (IE.ev ρ (.lit 64)) with
  | true =>
    cases h1 : cmpI .leq (IE.ev ρ (.bin .mul .i64 (.bin .mul .i64 (.bin .mul .i64 (.lit 1) (.tri 2 (.lit 0) (.tri 3 (.var 11) (.lit 100) (.lit 0)) (.lit 0))) (.tri 2 (.lit 0) (.tri 3 (.var 13) (.lit 100) (.lit 0)) (.lit 0))) (.tri 2 (.lit 0) (.tri 3 (.var 15) (.lit 100) (.lit 0)) (.lit 0)))) (IE.ev ρ (.lit 64)) with
    | true =>
      cases h2 : cmpI .neq (IE.ev ρ (.var 20)) (IE.ev ρ (.lit 0)) with
      | true =>
        exact ⟨_, all_app ha (all_app hb ((all_cons ⟨rfl, h0⟩ (all_cons ⟨rfl, h1⟩ (all_cons ⟨rfl, h2⟩ all_nil))))), m23_0 ρ aR aS A⟩
      | false =>
        cases h3 : cmpI .neq (IE.ev ρ (.var 21)) (IE.ev ρ (.lit 0)) with
        | true =>
          exact ⟨_, all_app ha (all_app hb ((all_cons ⟨rfl, h0⟩ (all_cons ⟨rfl, h1⟩ (all_cons ⟨rfl, h2⟩ (all_cons ⟨rfl, h3⟩ all_nil)))))), m23_1 ρ aR aS A⟩
        | false =>
          exact ⟨_, all_app ha (all_app hb ((all_cons ⟨rfl, h0⟩ (all_cons ⟨rfl, h1⟩ (all_cons ⟨rfl, h2⟩ (all_cons ⟨rfl, h3⟩ all_nil)))))), m23_2 ρ aR aS A⟩
    | false =>
      exact ⟨_, all_app ha (all_app hb ((all_cons ⟨rfl, h0⟩ (all_cons ⟨rfl, h1⟩ all_nil)))), m23_3 ρ aR aS A⟩
  | false =>
    exact ⟨_, all_app ha (all_app hb ((all_cons ⟨rfl, h0⟩ all_nil))), m23_4 ρ aR aS A⟩
end
end Go.Proofs.YtdmbnllekmgnhaaDoor

namespace Go.Proofs.YtdmbnllekmgnhaaDoor
noncomputable section
open Go Go.RX
open Go.RowKit (Below)
set_option maxRecDepth 1000000
set_option maxHeartbeats 4000000
def M24_0 : List CF := [⟨.leq, (.bin .mul .i64 (.bin .mul .i64 (.lit 1) (.tri 2 (.lit 0) (.tri 3 (.var 1) (.lit 100) (.lit 0)) (.lit 0))) (.tri 2 (.lit 0) (.tri 3 (.var 3) (.lit 100) (.lit 0)) (.lit 0))), (.lit 64), true⟩, ⟨.leq, (.bin .mul .i64 (.bin .mul .i64 (.bin .mul .i64 (.bin .mul .i64 (.lit 1) (.tri 2 (.lit 0) (.tri 3 (.var 11) (.lit 100) (.lit 0)) (.lit 0))) (.tri 2 (.lit 0) (.tri 3 (.var 13) (.lit 100) (.lit 0)) (.lit 0))) (.tri 2 (.lit 0) (.tri 3 (.var 15) (.lit 100) (.lit 0)) (.lit 0))) (.tri 2 (.lit 0) (.tri 3 (.var 17) (.lit 100) (.lit 0)) (.lit 0))), (.lit 64), true⟩, ⟨.neq, (.var 20), (.lit 0), true⟩]
theorem m24_0 (ρ : Nat → Int) (aR aS : Addr) (A : SlT) : runL ρ aR aS (bigF 90 (.k 2) ++ (bigF 91 (.k 4) ++ M24_0)) A (.k 2) (.k 4) := by unfold runL runQ; kernel_rfl
def M24_1 : List CF := [⟨.leq, (.bin .mul .i64 (.bin .mul .i64 (.lit 1) (.tri 2 (.lit 0) (.tri 3 (.var 1) (.lit 100) (.lit 0)) (.lit 0))) (.tri 2 (.lit 0) (.tri 3 (.var 3) (.lit 100) (.lit 0)) (.lit 0))), (.lit 64), true⟩, ⟨.leq, (.bin .mul .i64 (.bin .mul .i64 (.bin .mul .i64 (.bin .mul .i64 (.lit 1) (.tri 2 (.lit 0) (.tri 3 (.var 11) (.lit 100) (.lit 0)) (.lit 0))) (.tri 2 (.lit 0) (.tri 3 (.var 13) (.lit 100) (.lit 0)) (.lit 0))) (.tri 2 (.lit 0) (.tri 3 (.var 15) (.lit 100) (.lit 0)) (.lit 0))) (.tri 2 (.lit 0) (.tri 3 (.var 17) (.lit 100) (.lit 0)) (.lit 0))), (.lit 64), true⟩, ⟨.neq, (.var 20), (.lit 0), false⟩]
theorem m24_1 (ρ : Nat → Int) (aR aS : Addr) (A : SlT) : runL ρ aR aS (bigF 90 (.k 2) ++ (bigF 91 (.k 4) ++ M24_1)) A (.k 2) (.k 4) := by unfold runL runQ; kernel_rfl
def M24_2 : List CF := [⟨.leq, (.bin .mul .i64 (.bin .mul .i64 (.lit 1) (.tri 2 (.lit 0) (.tri 3 (.var 1) (.lit 100) (.lit 0)) (.lit 0))) (.tri 2 (.lit 0) (.tri 3 (.var 3) (.lit 100) (.lit 0)) (.lit 0))), (.lit 64), true⟩, ⟨.leq, (.bin .mul .i64 (.bin .mul .i64 (.bin .mul .i64 (.bin .mul .i64 (.lit 1) (.tri 2 (.lit 0) (.tri 3 (.var 11) (.lit 100) (.lit 0)) (.lit 0))) (.tri 2 (.lit 0) (.tri 3 (.var 13) (.lit 100) (.lit 0)) (.lit 0))) (.tri 2 (.lit 0) (.tri 3 (.var 15) (.lit 100) (.lit 0)) (.lit 0))) (.tri 2 (.lit 0) (.tri 3 (.var 17) (.lit 100) (.lit 0)) (.lit 0))), (.lit 64), false⟩]
theorem m24_2 (ρ : Nat → Int) (aR aS : Addr) (A : SlT) : runL ρ aR aS (bigF 90 (.k 2) ++ (bigF 91 (.k 4) ++ M24_2)) A (.k 2) (.k 4) := by unfold runL runQ; kernel_rfl
def M24_3 : List CF := [⟨.leq, (.bin .mul .i64 (.bin .mul .i64 (.lit 1) (.tri 2 (.lit 0) (.tri 3 (.var 1) (.lit 100) (.lit 0)) (.lit 0))) (.tri 2 (.lit 0) (.tri 3 (.var 3) (.lit 100) (.lit 0)) (.lit 0))), (.lit 64), false⟩]
theorem m24_3 (ρ : Nat → Int) (aR aS : Addr) (A : SlT) : runL ρ aR aS (bigF 90 (.k 2) ++ (bigF 91 (.k 4) ++ M24_3)) A (.k 2) (.k 4) := by unfold runL runQ; kernel_rfl
theorem t24 (ρ : Nat → Int) (aR aS : Addr) (A : SlT) (ha : ∀ f ∈ bigF 90 (.k 2), f.ok ρ) (hb : ∀ f ∈ bigF 91 (.k 4), f.ok ρ) : Runs ρ aR aS A (.k 2) (.k 4) := by
  cases h0 : cmpI .leq (IE.ev ρ (.bin .mul .i64 (.bin .mul .i64 (.lit 1) (.tri 2 (.lit 0) (.tri 3 (.var 1) (.lit 100) (.lit 0)) (.lit 0))) (.tri 2 (.lit 0) (.tri 3 (.var 3) (.lit 100) (.lit 0)) (.lit 0)))) (IE.ev ρ (.lit 64)) with
  | true =>
    cases h1 : cmpI .leq (IE.ev ρ (.bin .mul .i64 (.bin .mul .i64 (.bin .mul .i64 (.bin .mul .i64 (.lit 1) (.tri 2 (.lit 0) (.tri 3 (.var 11) (.lit 100) (.lit 0)) (.lit 0))) (.tri 2 (.lit 0) (.tri 3 (.var 13) (.lit 100) (.lit 0)) (.lit 0))) (.tri 2 (.lit 0) (.tri 3 (.var 15) (.lit 100) (.lit 0)) (.lit 0))) (.tri 2 (.lit 0) (.tri 3 (.var 17) (.lit 100) (.lit 0)) (.lit 0)))) (IE.ev ρ (.lit 64)) with
    | true =>
      cases h2 : cmpI .neq (IE.ev ρ (.var 20)) (IE.ev ρ (.lit 0)) with
      | true =>
        exact ⟨_, all_app ha (all_app hb ((all_cons ⟨rfl, h0⟩ (all_cons ⟨rfl, h1⟩ (all_cons ⟨rfl, h2⟩ all_nil))))), m24_0 ρ aR aS A⟩
      | false =>
        exact ⟨_, all_app ha (all_app hb ((all_cons ⟨rfl, h0⟩ (all_cons ⟨rfl, h1⟩ (all_cons ⟨rfl, h2⟩ all_nil))))), m24_1 ρ aR aS A⟩
    | false =>
      exact ⟨_, all_app ha (all_app hb ((all_cons ⟨rfl, h0⟩ (all_cons ⟨rfl, h1⟩ all_nil)))), m24_2 ρ aR aS A⟩
  | false =>
    exact ⟨_, all_app ha (all_app hb ((all_cons ⟨rfl, h0⟩ all_nil))), m24_3 ρ aR aS A⟩
def M2B_0 : List CF := [⟨.leq, (.bin .mul .i64 (.bin .mul .i64 (.lit 1) (.tri 2 (.lit 0) (.tri 3 (.var 1) (.lit 100) (.lit 0)) (.lit 0))) (.tri 2 (.lit 0) (.tri 3 (.var 3) (.lit 100) (.lit 0)) (.lit 0))), (.lit 64), true⟩]
theorem m2B_0 (ρ : Nat → Int) (aR aS : Addr) (A : SlT) : runL ρ aR aS (bigF 90 (.k 2) ++ (bigF 91 .big ++ M2B_0)) A (.k 2) .big := by unfold runL runQ; kernel_rfl
def M2B_1 : List CF := [⟨.leq, (.bin .mul .i64 (.bin .mul .i64 (.lit 1) (.tri 2 (.lit 0) (.tri 3 (.var 1) (.lit 100) (.lit 0)) (.lit 0))) (.tri 2 (.lit 0) (.tri 3 (.var 3) (.lit 100) (.lit 0)) (.lit 0))), (.lit 64), false⟩]
theorem m2B_1 (ρ : Nat → Int) (aR aS : Addr) (A : SlT) : runL ρ aR aS (bigF 90 (.k 2) ++ (bigF 91 .big ++ M2B_1)) A (.k 2) .big := by unfold runL runQ; kernel_rfl
theorem t2B (ρ : Nat → Int) (aR aS : Addr) (A : SlT) (ha : ∀ f ∈ bigF 90 (.k 2), f.ok ρ) (hb : ∀ f ∈ bigF 91 .big, f.ok ρ) : Runs ρ aR aS A (.k 2) .big := by
  cases h0 : cmpI .leq (IE.ev ρ (.bin .mul .i64 (.bin .mul .i64 (.lit 1) (.tri 2 (.lit 0) (.tri 3 (.var 1) (.lit 100) (.lit 0)) (.lit 0))) (.tri 2 (.lit 0) (.tri 3 (.var 3) (.lit 100) (.lit 0)) (.lit 0)))) (IE.ev ρ (.lit 64)) with
  | true =>
    exact ⟨_, all_app ha (all_app hb ((all_cons ⟨rfl, h0⟩ all_nil))), m2B_0 ρ aR aS A⟩
  | false =>
    exact ⟨_, all_app ha (all_app hb ((all_cons ⟨rfl, h0⟩ all_nil))), m2B_1 ρ aR aS A⟩
def M3N_0 : List CF := [⟨.leq, (.bin .mul .i64 (.bin .mul .i64 (.bin .mul .i64 (.lit 1) (.tri 2 (.lit 0) (.tri 3 (.var 1) (.lit 100) (.lit 0)) (.lit 0))) (.tri 2 (.lit 0) (.tri 3 (.var 3) (.lit 100) (.lit 0)) (.lit 0))) (.tri 2 (.lit 0) (.tri 3 (.var 5) (.lit 100) (.lit 0)) (.lit 0))), (.lit 64), true⟩, ⟨.neq, (.var 20), (.lit 0), true⟩]
theorem m3N_0 (ρ : Nat → Int) (aR aS : Addr) (A : SlT) : runL ρ aR aS (bigF 90 (.k 3) ++ (bigF 91 .nil ++ M3N_0)) A (.k 3) .nil := by unfold runL runQ; kernel_rfl
def M3N_1 : List CF := [⟨.leq, (.bin .mul .i64 (.bin .mul .i64 (.bin .mul .i64 (.lit 1) (.tri 2 (.lit 0) (.tri 3 (.var 1) (.lit 100) (.lit 0)) (.lit 0))) (.tri 2 (.lit 0) (.tri 3 (.var 3) (.lit 100) (.lit 0)) (.lit 0))) (.tri 2 (.lit 0) (.tri 3 (.var 5) (.lit 100) (.lit 0)) (.lit 0))), (.lit 64), true⟩, ⟨.neq, (.var 20), (.lit 0), false⟩]
theorem m3N_1 (ρ : Nat → Int) (aR aS : Addr) (A : SlT) : runL ρ aR aS (bigF 90 (.k 3) ++ (bigF 91 .nil ++ M3N_1)) A (.k 3) .nil := by unfold runL runQ; kernel_rfl
def M3N_2 : List CF := [⟨.leq, (.bin .mul .i64 (.bin .mul .i64 (.bin .mul .i64 (.lit 1) (.tri 2 (.lit 0) (.tri 3 (.var 1) (.lit 100) (.lit 0)) (.lit 0))) (.tri 2 (.lit 0) (.tri 3 (.var 3) (.lit 100) (.lit 0)) (.lit 0))) (.tri 2 (.lit 0) (.tri 3 (.var 5) (.lit 100) (.lit 0)) (.lit 0))), (.lit 64), false⟩]
theorem m3N_2 (ρ : Nat → Int) (aR aS : Addr) (A : SlT) : runL ρ aR aS (bigF 90 (.k 3) ++ (bigF 91 .nil ++ M3N_2)) A (.k 3) .nil := by unfold runL runQ; kernel_rfl
theorem t3N (ρ : Nat → Int) (aR aS : Addr) (A : SlT) (ha : ∀ f ∈ bigF 90 (.k 3), f.ok ρ) (hb : ∀ f ∈ bigF 91 .nil, f.ok ρ) : Runs ρ aR aS A (.k 3) .nil := by
  cases h0 : cmpI .leq (IE.ev ρ (.bin .mul .i64 (.bin .mul .i64 (.bin .mul .i64 (.lit 1) (.tri 2 (.lit 0) (.tri 3 (.var 1) (.lit 100) (.lit 0)) (.lit 0))) (.tri 2 (.lit 0) (.tri 3 (.var 3) (.lit 100) (.lit 0)) (.lit 0))) (.tri 2 (.lit 0) (.tri 3 (.var 5) (.lit 100) (.lit 0)) (.lit 0)))) (IE.ev ρ (.lit 64)) with
  | true =>
    cases h1 : cmpI .neq (IE.ev ρ (.var 20)) (IE.ev ρ (.lit 0)) with
    | true =>
      exact ⟨_, all_app ha (all_app hb ((all_cons ⟨rfl, h0⟩ (all_cons ⟨rfl, h1⟩ all_nil)))), m3N_0 ρ aR aS A⟩
    | false =>
      exact ⟨_, all_app ha (all_app hb ((all_cons ⟨rfl, h0⟩ (all_cons ⟨rfl, h1⟩ all_nil)))), m3N_1 ρ aR aS A⟩
  | false =>
    exact ⟨_, all_app ha (all_app hb ((all_cons ⟨rfl, h0⟩ all_nil))), m3N_2 ρ aR aS A⟩
end
end Go.Proofs.YtdmbnllekmgnhaaDoor

namespace Go.Proofs.YtdmbnllekmgnhaaDoor
noncomputable section
open Go Go.RX
open Go.RowKit (Below)
set_option maxRecDepth 1000000
set_option maxHeartbeats 4000000
def M30_0 : List CF := [⟨.leq, (.bin .mul .i64 (.bin .mul .i64 (.bin .mul .i64 (.lit 1) (.tri 2 (.lit 0) (.tri 3 (.var 1) (.lit 100) (.lit 0)) (.lit 0))) (.tri 2 (.lit 0) (.tri 3 (.var 3) (.lit 100) (.lit 0)) (.lit 0))) (.tri 2 (.lit 0) (.tri 3 (.var 5) (.lit 100) (.lit 0)) (.lit 0))), (.lit 64), true⟩, ⟨.neq, (.var 20), (.lit 0), true⟩]
theorem m30_0 (ρ : Nat → Int) (aR aS : Addr) (A : SlT) : runL ρ aR aS (bigF 90 (.k 3) ++ (bigF 91 (.k 0) ++ M30_0)) A (.k 3) (.k 0) := by unfold runL runQ; kernel_rfl
def M30_1 : List CF := [⟨.leq, (.bin .mul .i64 (.bin .mul .i64 (.bin .mul .i64 (.lit 1) (.tri 2 (.lit 0) (.tri 3 (.var 1) (.lit 100) (.lit 0)) (.lit 0))) (.tri 2 (.lit 0) (.tri 3 (.var 3) (.lit 100) (.lit 0)) (.lit 0))) (.tri 2 (.lit 0) (.tri 3 (.var 5) (.lit 100) (.lit 0)) (.lit 0))), (.lit 64), true⟩, ⟨.neq, (.var 20), (.lit 0), false⟩]
theorem m30_1 (ρ : Nat → Int) (aR aS : Addr) (A : SlT) : runL ρ aR aS (bigF 90 (.k 3) ++ (bigF 91 (.k 0) ++ M30_1)) A (.k 3) (.k 0) := by unfold runL runQ; kernel_rfl
def M30_2 : List CF := [⟨.leq, (.bin .mul .i64 (.bin .mul .i64 (.bin .mul .i64 (.lit 1) (.tri 2 (.lit 0) (.tri 3 (.var 1) (.lit 100) (.lit 0)) (.lit 0))) (.tri 2 (.lit 0) (.tri 3 (.var 3) (.lit 100) (.lit 0)) (.lit 0))) (.tri 2 (.lit 0) (.tri 3 (.var 5) (.lit 100) (.lit 0)) (.lit 0))), (.lit 64), false⟩]
theorem m30_2 (ρ : Nat → Int) (aR aS : Addr) (A : SlT) : runL ρ aR aS (bigF 90 (.k 3) ++ (bigF 91 (.k 0) ++ M30_2)) A (.k 3) (.k 0) := by unfold runL runQ; kernel_rfl
theorem t30 (ρ : Nat → Int) (aR aS : Addr) (A : SlT) (ha : ∀ f ∈ bigF 90 (.k 3), f.ok ρ) (hb : ∀ f ∈ bigF 91 (.k 0), f.ok ρ) : Runs ρ aR aS A (.k 3) (.k 0) := by
  cases h0 : cmpI .leq (IE.ev ρ (.bin .mul .i64 (.bin .mul .i64 (.bin .mul .i64 (.lit 1) (.tri 2 (.lit 0) (.tri 3 (.var 1) (.lit 100) (.lit 0)) (.lit 0))) (.tri 2 (.lit 0) (.tri 3 (.var 3) (.lit 100) (.lit 0)) (.lit 0))) (.tri 2 (.lit 0) (.tri 3 (.var 5) (.lit 100) (.lit 0)) (.lit 0)))) (IE.ev ρ (.lit 64)) with
  | true =>
    cases h1 : cmpI .neq (IE.ev ρ (.var 20)) (IE.ev ρ (.lit 0)) with
    | true =>
      exact ⟨_, all_app ha (all_app hb ((all_cons ⟨rfl, h0⟩ (all_cons ⟨rfl, h1⟩ all_nil)))), m30_0 ρ aR aS A⟩
    | false =>
      exact ⟨_, all_app ha (all_app hb ((all_cons ⟨rfl, h0⟩ (all_cons ⟨rfl, h1⟩ all_nil)))), m30_1 ρ aR aS A⟩
  | false =>
    exact ⟨_, all_app ha (all_app hb ((all_cons ⟨rfl, h0⟩ all_nil))), m30_2 ρ aR aS A⟩
def M31_0 : List CF := [⟨.leq, (.bin .mul .i64 (.bin .mul .i64 (.bin .mul .i64 (.lit 1) (.tri 2 (.lit 0) (.tri 3 (.var 1) (.lit 100) (.lit 0)) (.lit 0))) (.tri 2 (.lit 0) (.tri 3 (.var 3) (.lit 100) (.lit 0)) (.lit 0))) (.tri 2 (.lit 0) (.tri 3 (.var 5) (.lit 100) (.lit 0)) (.lit 0))), (.lit 64), true⟩, ⟨.leq, (.bin .mul .i64 (.lit 1) (.tri 2 (.lit 0) (.tri 3 (.var 11) (.lit 100) (.lit 0)) (.lit 0))), (.lit 64), true⟩, ⟨.neq, (.var 20), (.lit 0), true⟩]
theorem m31_0 (ρ : Nat → Int) (aR aS : Addr) (A : SlT) : runL ρ aR aS (bigF 90 (.k 3) ++ (bigF 91 (.k 1) ++ M31_0)) A (.k 3) (.k 1) := by unfold runL runQ; kernel_rfl
def M31_1 : List CF := [⟨.leq, (.bin .mul .i64 (.bin .mul .i64 (.bin .mul .i64 (.lit 1) (.tri 2 (.lit 0) (.tri 3 (.var 1) (.lit 100) (.lit 0)) (.lit 0))) (.tri 2 (.lit 0) (.tri 3 (.var 3) (.lit 100) (.lit 0)) (.lit 0))) (.tri 2 (.lit 0) (.tri 3 (.var 5) (.lit 100) (.lit 0)) (.lit 0))), (.lit 64), true⟩, ⟨.leq, (.bin .mul .i64 (.lit 1) (.tri 2 (.lit 0) (.tri 3 (.var 11) (.lit 100) (.lit 0)) (.lit 0))), (.lit 64), true⟩, ⟨.neq, (.var 20), (.lit 0), false⟩, ⟨.neq, (.var 21), (.lit 0), true⟩]
theorem m31_1 (ρ : Nat → Int) (aR aS : Addr) (A : SlT) : runL ρ aR aS (bigF 90 (.k 3) ++ (bigF 91 (.k 1) ++ M31_1)) A (.k 3) (.k 1) := by unfold runL runQ; kernel_rfl
def M31_2 : List CF := [⟨.leq, (.bin .mul .i64 (.bin .mul .i64 (.bin .mul .i64 (.lit 1) (.tri 2 (.lit 0) (.tri 3 (.var 1) (.lit 100) (.lit 0)) (.lit 0))) (.tri 2 (.lit 0) (.tri 3 (.var 3) (.lit 100) (.lit 0)) (.lit 0))) (.tri 2 (.lit 0) (.tri 3 (.var 5) (.lit 100) (.lit 0)) (.lit 0))), (.lit 64), true⟩, ⟨.leq, (.bin .mul .i64 (.lit 1) (.tri 2 (.lit 0) (.tri 3 (.var 11) (.lit 100) (.lit 0)) (.lit 0))), (.lit 64), true⟩, ⟨.neq, (.var 20), (.lit 0), false⟩, ⟨.neq, (.var 21), (.lit 0), false⟩]
theorem m31_2 (ρ : Nat → Int) (aR aS : Addr) (A : SlT) : runL ρ aR aS (bigF 90 (.k 3) ++ (bigF 91 (.k 1) ++ M31_2)) A (.k 3) (.k 1) := by unfold runL runQ; kernel_rfl
def M31_3 : List CF := [⟨.leq, (.bin .mul .i64 (.bin .mul .i64 (.bin .mul .i64 (.lit 1) (.tri 2 (.lit 0) (.tri 3 (.var 1) (.lit 100) (.lit 0)) (.lit 0))) (.tri 2 (.lit 0) (.tri 3 (.var 3) (.lit 100) (.lit 0)) (.lit 0))) (.tri 2 (.lit 0) (.tri 3 (.var 5) (.lit 100) (.lit 0)) (.lit 0))), (.lit 64), true⟩, ⟨.leq, (.bin .mul .i64 (.lit 1) (.tri 2 (.lit 0) (.tri 3 (.var 11) (.lit 100) (.lit 0)) (.lit 0))), (.lit 64), false⟩]
theorem m31_3 (ρ : Nat → Int) (aR aS : Addr) (A : SlT) : runL ρ aR aS (bigF 90 (.k 3) ++ (bigF 91 (.k 1) ++ M31_3)) A (.k 3) (.k 1) := by unfold runL runQ; kernel_rfl
def M31_4 : List CF := [⟨.leq, (.bin .mul .i64 (.bin .mul .i64 (.bin .mul .i64 (.lit 1) (.tri 2 (.lit 0) (.tri 3 (.var 1) (.lit 100) (.lit 0)) (.lit 0))) (.tri 2 (.lit 0) (.tri 3 (.var 3) (.lit 100) (.lit 0)) (.lit 0))) (.tri 2 (.lit 0) (.tri 3 (.var 5) (.lit 100) (.lit 0)) (.lit 0))), (.lit 64), false⟩]
theorem m31_4 (ρ : Nat → Int) (aR aS : Addr) (A : SlT) : runL ρ aR aS (bigF 90 (.k 3) ++ (bigF 91 (.k 1) ++ M31_4)) A (.k 3) (.k 1) := by unfold runL runQ; kernel_rfl
theorem t31 (ρ : Nat → Int) (aR aS : Addr) (A : SlT) (ha : ∀ f ∈ bigF 90 (.k 3), f.ok ρ) (hb : ∀ f ∈ bigF 91 (.k 1), f.ok ρ) : Runs ρ aR aS A (.k 3) (.k 1) := by
  cases h0 : cmpI .leq (IE.ev ρ (.bin .mul .i64 (.bin .mul .i64 (.bin .mul .i64 (.lit 1) (.tri 2 (.lit 0) (.tri 3 (.var 1) (.lit 100) (.lit 0)) (.lit 0))) (.tri 2 (.lit 0) (.tri 3 (.var 3) (.lit 100) (.lit 0)) (.lit 0))) (.tri 2 (.lit 0) (.tri 3 (.var 5) (.lit 100) (.lit 0)) (.lit 0)))) (IE.ev ρ (.lit 64)) with
  | true =>
    cases h1 : cmpI .leq (IE.ev ρ (.bin .mul .i64 (.lit 1) (.tri 2 (.lit 0) (.tri 3 (.var 11) (.lit 100) (.lit 0)) (.lit 0)))) (IE.ev ρ (.lit 64)) with
    | true =>
      cases h2 : cmpI .neq (IE.ev ρ (.var 20)) (IE.ev ρ (.lit 0)) with
      | true =>
        exact ⟨_, all_app ha (all_app hb ((all_cons ⟨rfl, h0⟩ (all_cons ⟨rfl, h1⟩ (all_cons ⟨rfl, h2⟩ all_nil))))), m31_0 ρ aR aS A⟩
      | false =>
        cases h3 : cmpI .neq (IE.ev ρ (.var 21)) (IE.ev ρ (.lit 0)) with
        | true =>
          exact ⟨_, all_app ha (all_app hb ((all_cons ⟨rfl, h0⟩ (all_cons ⟨rfl, h1⟩ (all_cons ⟨rfl, h2⟩ (all_cons ⟨rfl, h3⟩ all_nil)))))), m31_1 ρ aR aS A⟩
        | false =>
          exact ⟨_, all_app ha (all_app hb ((all_cons ⟨rfl, h0⟩ (all_cons ⟨rfl, h1⟩ (all_cons ⟨rfl, h2⟩ (all_cons ⟨rfl, h3⟩ all_nil)))))), m31_2 ρ aR aS A⟩
    | false =>
      exact ⟨_, all_app ha (all_app hb ((all_cons ⟨rfl, h0⟩ (all_cons ⟨rfl, h1⟩ all_nil)))), m31_3 ρ aR aS A⟩
  | false =>
    exact ⟨_, all_app ha (all_app hb ((all_cons ⟨rfl, h0⟩ all_nil))), m31_4 ρ aR aS A⟩
def M32_0 : List CF := [⟨.leq, (.bin .mul .i64 (.bin .mul .i64 (.bin .mul .i64 (.lit 1) (.tri 2 (.lit 0) (.tri 3 (.var 1) (.lit 100) (.lit 0)) (.lit 0))) (.tri 2 (.lit 0) (.tri 3 (.var 3) (.lit 100) (.lit 0)) (.lit 0))) (.tri 2 (.lit 0) (.tri 3 (.var 5) (.lit 100) (.lit 0)) (.lit 0))), (.lit 64), true⟩, ⟨.leq, (.bin .mul .i64 (.bin .mul .i64 (.lit 1) (.tri 2 (.lit 0) (.tri 3 (.var 11) (.lit 100) (.lit 0)) (.lit 0))) (.tri 2 (.lit 0) (.tri 3 (.var 13) (.lit 100) (.lit 0)) (.lit 0))), (.lit 64), true⟩, ⟨.neq, (.var 20), (.lit 0), true⟩]
theorem m32_0 (ρ : Nat → Int) (aR aS : Addr) (A : SlT) : runL ρ aR aS (bigF 90 (.k 3) ++ (bigF 91 (.k 2) ++ M32_0)) A (.k 3) (.k 2) := by unfold runL runQ; kernel_rfl
def M32_1 : List CF := [⟨.leq, (.bin .mul .i64 (.bin .mul .i64 (.bin .mul .i64 (.lit 1) (.tri 2 (.lit 0) (.tri 3 (.var 1) (.lit 100) (.lit 0)) (.lit 0))) (.tri 2 (.lit 0) (.tri 3 (.var 3) (.lit 100) (.lit 0)) (.lit 0))) (.tri 2 (.lit 0) (.tri 3 (.var 5) (.lit 100) (.lit 0)) (.lit 0))), (.lit 64), true⟩, ⟨.leq, (.bin .mul .i64 (.bin .mul .i64 (.lit 1) (.tri 2 (.lit 0) (.tri 3 (.var 11) (.lit 100) (.lit 0)) (.lit 0))) (.tri 2 (.lit 0) (.tri 3 (.var 13) (.lit 100) (.lit 0)) (.lit 0))), (.lit 64), true⟩, ⟨.neq, (.var 20), (.lit 0), false⟩, ⟨.neq, (.var 21), (.lit 0), true⟩]
theorem m32_1 (ρ : Nat → Int) (aR aS : Addr) (A : SlT) : runL ρ aR aS (bigF 90 (.k 3) ++ (bigF 91 (.k 2) ++ M32_1)) A (.k 3) (.k 2) := by unfold runL runQ; kernel_rfl
def M32_2 : List CF := [⟨.leq, (.bin .mul .i64 (.bin .mul .i64 (.bin .mul .i64 (.lit 1) (.tri 2 (.lit 0) (.tri 3 (.var 1) (.lit 100) (.lit 0)) (.lit 0))) (.tri 2 (.lit 0) (.tri 3 (.var 3) (.lit 100) (.lit 0)) (.lit 0))) (.tri 2 (.lit 0) (.tri 3 (.var 5) (.lit 100) (.lit 0)) (.lit 0))), (.lit 64), true⟩, ⟨.leq, (.bin .mul .i64 (.bin .mul .i64 (.lit 1) (.tri 2 (.lit 0) (.tri 3 (.var 11) (.lit 100) (.lit 0)) (.lit 0))) (.tri 2 (.lit 0) (.tri 3 (.var 13) (.lit 100) (.lit 0)) (.lit 0))), (.lit 64), true⟩, ⟨.neq, (.var 20), (.lit 0), false⟩, ⟨.neq, (.var 21), (.lit 0), false⟩]
theorem m32_2 (ρ : Nat → Int) (aR aS : Addr) (A : SlT) : runL ρ aR aS (bigF 90 (.k 3) ++ (bigF 91 (.k 2) ++ M32_2)) A (.k 3) (.k 2) := by unfold runL runQ; kernel_rfl
def M32_3 : List CF := [⟨.leq, (.bin .mul .i64 (.bin .mul .i64 (.bin .mul .i64 (.lit 1) (.tri 2 (.lit 0) (.tri 3 (.var 1) (.lit 100) (.lit 0)) (.lit 0))) (.tri 2 (.lit 0) (.tri 3 (.var 3) (.lit 100) (.lit 0)) (.lit 0))) (.tri 2 (.lit 0) (.tri 3 (.var 5) (.lit 100) (.lit 0)) (.lit 0))), (.lit 64), true⟩, ⟨.leq, (.bin .mul .i64 (.bin .mul .i64 (.lit 1) (.tri 2 (.lit 0) (.tri 3 (.var 11) (.lit 100) (.lit 0)) (.lit 0))) (.tri 2 (.lit 0) (.tri 3 (.var 13) (.lit 100) (.lit 0)) (.lit 0))), (.lit 64), false⟩]
theorem m32_3 (ρ : Nat → Int) (aR aS : Addr) (A : SlT) : runL ρ aR aS (bigF 90 (.k 3) ++ (bigF 91 (.k 2) ++ M32_3)) A (.k 3) (.k 2) := by unfold runL runQ; kernel_rfl
def M32_4 : List CF := [⟨.leq, (.bin .mul .i64 (.bin .mul .i64 (.bin .mul .i64 (.lit 1) (.tri 2 (.lit 0) (.tri 3 (.var 1) (.lit 100) (.lit 0)) (.lit 0))) (.tri 2 (.lit 0) (.tri 3 (.var 3) (.lit 100) (.lit 0)) (.lit 0))) (.tri 2 (.lit 0) (.tri 3 (.var 5) (.lit 100) (.lit 0)) (.lit 0))), (.lit 64), false⟩]
theorem m32_4 (ρ : Nat → Int) (aR aS : Addr) (A : SlT) : runL ρ aR aS (bigF 90 (.k 3) ++ (bigF 91 (.k 2) ++ M32_4)) A (.k 3) (.k 2) := by unfold runL runQ; kernel_rfl
theorem t32 (ρ : Nat → Int) (aR aS : Addr) (A : SlT) (ha : ∀ f ∈ bigF 90 (.k 3), f.ok ρ) (hb : ∀ f ∈ bigF 91 (.k 2), f.ok ρ) : Runs ρ aR aS A (.k 3) (.k 2) := by
  cases h0 : cmpI .leq (IE.ev ρ (.bin .mul .i64 (.bin .mul .i64 (.bin .mul .i64 (.lit 1) (.tri 2 (.lit 0) (.tri 3 (.var 1) (.lit 100) (.lit 0)) (.lit 0))) (.tri 2 (.lit 0) (.tri 3 (.var 3) (.lit 100) (.lit 0)) (.lit 0))) (.tri 2 (.lit 0) (.tri 3 (.var 5) (.lit 100) (.lit 0)) (.lit 0)))) (IE.ev ρ (.lit 64)) with
  | true =>
    cases h1 : cmpI .leq (IE.ev ρ (.bin .mul .i64 (.bin .mul .i64 (.lit 1) (.tri 2 (.lit 0) (.tri 3 (.var 11) (.lit 100) (.lit 0)) (.lit 0))) (.tri 2 (.lit 0) (.tri 3 (.var 13) (.lit 100) (.lit 0)) (.lit 0)))) (IE.ev ρ (.lit 64)) with
    | true =>
      cases h2 : cmpI .neq (IE.ev ρ (.var 20)) (IE.ev ρ (.lit 0)) with
      | true =>
        exact ⟨_, all_app ha (all_app hb ((all_cons ⟨rfl, h0⟩ (all_cons ⟨rfl, h1⟩ (all_cons ⟨rfl, h2⟩ all_nil))))), m32_0 ρ aR aS A⟩
      | false =>
        cases h3 : cmpI .neq (IE.ev ρ (.var 21)) (IE.ev ρ (.lit 0)) with
        | true =>
          exact ⟨_, all_app ha (all_app hb ((all_cons ⟨rfl, h0⟩ (all_cons ⟨rfl, h1⟩ (all_cons ⟨rfl, h2⟩ (all_cons ⟨rfl, h3⟩ all_nil)))))), m32_1 ρ aR aS A⟩
        | false =>
          exact ⟨_, all_app ha (all_app hb ((all_cons ⟨rfl, h0⟩ (all_cons ⟨rfl, h1⟩ (all_cons ⟨rfl, h2⟩ (all_cons ⟨rfl, h3⟩ all_nil)))))), m32_2 ρ aR aS A⟩
    | false =>
      exact ⟨_, all_app ha (all_app hb ((all_cons ⟨rfl, h0⟩ (all_cons ⟨rfl, h1⟩ all_nil)))), m32_3 ρ aR aS A⟩
  | false =>
    exact ⟨_, all_app ha (all_app hb ((all_cons ⟨rfl, h0⟩ all_nil))), m32_4 ρ aR aS A⟩
end
end Go.Proofs.YtdmbnllekmgnhaaDoor
