import Derived.Test.YtdmbnllekmgnhaaDoorIA
import Derived.Test.YtdmbnllekmgnhaaDoorIM0
import Derived.Test.YtdmbnllekmgnhaaDoorIM3
import Derived.Test.YtdmbnllekmgnhaaDoorIM6
import Derived.Test.YtdmbnllekmgnhaaDoorIM9
namespace Go.Proofs.YtdmbnllekmgnhaaDoor
noncomputable section
open Go Go.RX
open Go.RowKit (Below)
set_option maxRecDepth 1000000
set_option maxHeartbeats 4000000
def M42_0 : List CF := [⟨.leq, (.bin .mul .i64 (.bin .mul .i64 (.bin .mul .i64 (.bin .mul .i64 (.lit 1) (.tri 2 (.lit 0) (.tri 3 (.var 1) (.lit 100) (.lit 0)) (.lit 0))) (.tri 2 (.lit 0) (.tri 3 (.var 3) (.lit 100) (.lit 0)) (.lit 0))) (.tri 2 (.lit 0) (.tri 3 (.var 5) (.lit 100) (.lit 0)) (.lit 0))) (.tri 2 (.lit 0) (.tri 3 (.var 7) (.lit 100) (.lit 0)) (.lit 0))), (.lit 64), true⟩, ⟨.leq, (.bin .mul .i64 (.bin .mul .i64 (.lit 1) (.tri 2 (.lit 0) (.tri 3 (.var 11) (.lit 100) (.lit 0)) (.lit 0))) (.tri 2 (.lit 0) (.tri 3 (.var 13) (.lit 100) (.lit 0)) (.lit 0))), (.lit 64), true⟩]
theorem m42_0 (ρ : Nat → Int) (aR aS : Addr) (A : SlT) : runL ρ aR aS (bigF 90 (.k 4) ++ (bigF 91 (.k 2) ++ M42_0)) A (.k 4) (.k 2) := by unfold runL runQ; kernel_rfl
def M42_1 : List CF := [⟨.leq, (.bin .mul .i64 (.bin .mul .i64 (.bin .mul .i64 (.bin .mul .i64 (.lit 1) (.tri 2 (.lit 0) (.tri 3 (.var 1) (.lit 100) (.lit 0)) (.lit 0))) (.tri 2 (.lit 0) (.tri 3 (.var 3) (.lit 100) (.lit 0)) (.lit 0))) (.tri 2 (.lit 0) (.tri 3 (.var 5) (.lit 100) (.lit 0)) (.lit 0))) (.tri 2 (.lit 0) (.tri 3 (.var 7) (.lit 100) (.lit 0)) (.lit 0))), (.lit 64), true⟩, ⟨.leq, (.bin .mul .i64 (.bin .mul .i64 (.lit 1) (.tri 2 (.lit 0) (.tri 3 (.var 11) (.lit 100) (.lit 0)) (.lit 0))) (.tri 2 (.lit 0) (.tri 3 (.var 13) (.lit 100) (.lit 0)) (.lit 0))), (.lit 64), false⟩]
theorem m42_1 (ρ : Nat → Int) (aR aS : Addr) (A : SlT) : runL ρ aR aS (bigF 90 (.k 4) ++ (bigF 91 (.k 2) ++ M42_1)) A (.k 4) (.k 2) := by unfold runL runQ; kernel_rfl
def M42_2 : List CF := [⟨.leq, (.bin .mul .i64 (.bin .mul .i64 (.bin .mul .i64 (.bin .mul .i64 (.lit 1) (.tri 2 (.lit 0) (.tri 3 (.var 1) (.lit 100) (.lit 0)) (.lit 0))) (.tri 2 (.lit 0) (.tri 3 (.var 3) (.lit 100) (.lit 0)) (.lit 0))) (.tri 2 (.lit 0) (.tri 3 (.var 5) (.lit 100) (.lit 0)) (.lit 0))) (.tri 2 (.lit 0) (.tri 3 (.var 7) (.lit 100) (.lit 0)) (.lit 0))), (.lit 64), false⟩]
theorem m42_2 (ρ : Nat → Int) (aR aS : Addr) (A : SlT) : runL ρ aR aS (bigF 90 (.k 4) ++ (bigF 91 (.k 2) ++ M42_2)) A (.k 4) (.k 2) := by unfold runL runQ; kernel_rfl
theorem t42 (ρ : Nat → Int) (aR aS : Addr) (A : SlT) (ha : ∀ f ∈ bigF 90 (.k 4), f.ok ρ) (hb : ∀ f ∈ bigF 91 (.k 2), f.ok ρ) : Runs ρ aR aS A (.k 4) (.k 2) := by
  cases h0 : cmpI .leq (IE.ev ρ (.bin .mul .i64 (.bin .mul .i64 (.bin .mul .i64 (.bin .mul .i64 (.lit 1) (.tri 2 (.lit 0) (.tri 3 (.var 1) (.lit 100) (.lit 0)) (.lit 0))) (.tri 2 (.lit 0) (.tri 3 (.var 3) (.lit 100) (.lit 0)) (.lit 0))) (.tri 2 (.lit 0) (.tri 3 (.var 5) (.lit 100) (.lit 0)) (.lit 0))) (.tri 2 (.lit 0) (.tri 3 (.var 7) (.lit 100) (.lit 0)) (.lit 0)))) (IE.ev ρ (.lit 64)) with
  | true =>
    cases h1 : cmpI .leq (IE.ev ρ (.bin .mul .i64 (.bin .mul .i64 (.lit 1) (.tri 2 (.lit 0) (.tri 3 (.var 11) (.lit 100) (.lit 0)) (.lit 0))) (.tri 2 (.lit 0) (.tri 3 (.var 13) (.lit 100) (.lit 0)) (.lit 0)))) (IE.ev ρ (.lit 64)) with
    | true =>
      exact ⟨_, all_app ha (all_app hb ((all_cons ⟨rfl, h0⟩ (all_cons ⟨rfl, h1⟩ all_nil)))), m42_0 ρ aR aS A⟩
    | false =>
      exact ⟨_, all_app ha (all_app hb ((all_cons ⟨rfl, h0⟩ (all_cons ⟨rfl, h1⟩ all_nil)))), m42_1 ρ aR aS A⟩
  | false =>
    exact ⟨_, all_app ha (all_app hb ((all_cons ⟨rfl, h0⟩ all_nil))), m42_2 ρ aR aS A⟩
def M43_0 : List CF := [⟨.leq, (.bin .mul .i64 (.bin .mul .i64 (.bin .mul .i64 (.bin .mul .i64 (.lit 1) (.tri 2 (.lit 0) (.tri 3 (.var 1) (.lit 100) (.lit 0)) (.lit 0))) (.tri 2 (.lit 0) (.tri 3 (.var 3) (.lit 100) (.lit 0)) (.lit 0))) (.tri 2 (.lit 0) (.tri 3 (.var 5) (.lit 100) (.lit 0)) (.lit 0))) (.tri 2 (.lit 0) (.tri 3 (.var 7) (.lit 100) (.lit 0)) (.lit 0))), (.lit 64), true⟩, ⟨.leq, (.bin .mul .i64 (.bin .mul .i64 (.bin .mul .i64 (.lit 1) (.tri 2 (.lit 0) (.tri 3 (.var 11) (.lit 100) (.lit 0)) (.lit 0))) (.tri 2 (.lit 0) (.tri 3 (.var 13) (.lit 100) (.lit 0)) (.lit 0))) (.tri 2 (.lit 0) (.tri 3 (.var 15) (.lit 100) (.lit 0)) (.lit 0))), (.lit 64), true⟩]
theorem m43_0 (ρ : Nat → Int) (aR aS : Addr) (A : SlT) : runL ρ aR aS (bigF 90 (.k 4) ++ (bigF 91 (.k 3) ++ M43_0)) A (.k 4) (.k 3) := by unfold runL runQ; kernel_rfl
def M43_1 : List CF := [⟨.leq, (.bin .mul .i64 (.bin .mul .i64 (.bin .mul .i64 (.bin .mul .i64 (.lit 1) (.tri 2 (.lit 0) (.tri 3 (.var 1) (.lit 100) (.lit 0)) (.lit 0))) (.tri 2 (.lit 0) (.tri 3 (.var 3) (.lit 100) (.lit 0)) (.lit 0))) (.tri 2 (.lit 0) (.tri 3 (.var 5) (.lit 100) (.lit 0)) (.lit 0))) (.tri 2 (.lit 0) (.tri 3 (.var 7) (.lit 100) (.lit 0)) (.lit 0))), (.lit 64), true⟩, ⟨.leq, (.bin .mul .i64 (.bin .mul .i64 (.bin .mul .i64 (.lit 1) (.tri 2 (.lit 0) (.tri 3 (.var 11) (.lit 100) (.lit 0)) (.lit 0))) (.tri 2 (.lit 0) (.tri 3 (.var 13) (.lit 100) (.lit 0)) (.lit 0))) (.tri 2 (.lit 0) (.tri 3 (.var 15) (.lit 100) (.lit 0)) (.lit 0))), (.lit 64), false⟩]
theorem m43_1 (ρ : Nat → Int) (aR aS : Addr) (A : SlT) : runL ρ aR aS (bigF 90 (.k 4) ++ (bigF 91 (.k 3) ++ M43_1)) A (.k 4) (.k 3) := by unfold runL runQ; kernel_rfl
def M43_2 : List CF := [⟨.leq, (.bin .mul .i64 (.bin .mul .i64 (.bin .mul .i64 (.bin .mul .i64 (.lit 1) (.tri 2 (.lit 0) (.tri 3 (.var 1) (.lit 100) (.lit 0)) (.lit 0))) (.tri 2 (.lit 0) (.tri 3 (.var 3) (.lit 100) (.lit 0)) (.lit 0))) (.tri 2 (.lit 0) (.tri 3 (.var 5) (.lit 100) (.lit 0)) (.lit 0))) (.tri 2 (.lit 0) (.tri 3 (.var 7) (.lit 100) (.lit 0)) (.lit 0))), (.lit 64), false⟩]
theorem m43_2 (ρ : Nat → Int) (aR aS : Addr) (A : SlT) : runL ρ aR aS (bigF 90 (.k 4) ++ (bigF 91 (.k 3) ++ M43_2)) A (.k 4) (.k 3) := by unfold runL runQ; kernel_rfl
theorem t43 (ρ : Nat → Int) (aR aS : Addr) (A : SlT) (ha : ∀ f ∈ bigF 90 (.k 4), f.ok ρ) (hb : ∀ f ∈ bigF 91 (.k 3), f.ok ρ) : Runs ρ aR aS A (.k 4) (.k 3) := by
  cases h0 : cmpI .leq (IE.ev ρ (.bin .mul .i64 (.bin .mul .i64 (.bin .mul .i64 (.bin .mul .i64 (.lit 1) (.tri 2 (.lit 0) (.tri 3 (.var 1) (.lit 100) (.lit 0)) (.lit 0))) (.tri 2 (.lit 0) (.tri 3 (.var 3) (.lit 100) (.lit 0)) (.lit 0))) (.tri 2 (.lit 0) (.tri 3 (.var 5) (.lit 100) (.lit 0)) (.lit 0))) (.tri 2 (.lit 0) (.tri 3 (.var 7) (.lit 100) (.lit 0)) (.lit 0)))) (IE.ev ρ (.lit 64)) with
  | true =>
    cases h1 : cmpI .leq (IE.ev ρ (.bin .mul .i64 (.bin .mul .i64 (.bin .mul .i64 (.lit 1) (.tri 2 (.lit 0) (.tri 3 (.var 11) (.lit 100) (.lit 0)) (.lit 0))) (.tri 2 (.lit 0) (.tri 3 (.var 13) (.lit 100) (.lit 0)) (.lit 0))) (.tri 2 (.lit 0) (.tri 3 (.var 15) (.lit 100) (.lit 0)) (.lit 0)))) (IE.ev ρ (.lit 64)) with
    | true =>
      exact ⟨_, all_app ha (all_app hb ((all_cons ⟨rfl, h0⟩ (all_cons ⟨rfl, h1⟩ all_nil)))), m43_0 ρ aR aS A⟩
    | false =>
      exact ⟨_, all_app ha (all_app hb ((all_cons ⟨rfl, h0⟩ (all_cons ⟨rfl, h1⟩ all_nil)))), m43_1 ρ aR aS A⟩
  | false =>
    exact ⟨_, all_app ha (all_app hb ((all_cons ⟨rfl, h0⟩ all_nil))), m43_2 ρ aR aS A⟩
def M44_0 : List CF := [⟨.leq, (.bin .mul .i64 (.bin .mul .i64 (.bin .mul .i64 (.bin .mul .i64 (.lit 1) (.tri 2 (.lit 0) (.tri 3 (.var 1) (.lit 100) (.lit 0)) (.lit 0))) (.tri 2 (.lit 0) (.tri 3 (.var 3) (.lit 100) (.lit 0)) (.lit 0))) (.tri 2 (.lit 0) (.tri 3 (.var 5) (.lit 100) (.lit 0)) (.lit 0))) (.tri 2 (.lit 0) (.tri 3 (.var 7) (.lit 100) (.lit 0)) (.lit 0))), (.lit 64), true⟩, ⟨.leq, (.bin .mul .i64 (.bin .mul .i64 (.bin .mul .i64 (.bin .mul .i64 (.lit 1) (.tri 2 (.lit 0) (.tri 3 (.var 11) (.lit 100) (.lit 0)) (.lit 0))) (.tri 2 (.lit 0) (.tri 3 (.var 13) (.lit 100) (.lit 0)) (.lit 0))) (.tri 2 (.lit 0) (.tri 3 (.var 15) (.lit 100) (.lit 0)) (.lit 0))) (.tri 2 (.lit 0) (.tri 3 (.var 17) (.lit 100) (.lit 0)) (.lit 0))), (.lit 64), true⟩]
theorem m44_0 (ρ : Nat → Int) (aR aS : Addr) (A : SlT) : runL ρ aR aS (bigF 90 (.k 4) ++ (bigF 91 (.k 4) ++ M44_0)) A (.k 4) (.k 4) := by unfold runL runQ; kernel_rfl
def M44_1 : List CF := [⟨.leq, (.bin .mul .i64 (.bin .mul .i64 (.bin .mul .i64 (.bin .mul .i64 (.lit 1) (.tri 2 (.lit 0) (.tri 3 (.var 1) (.lit 100) (.lit 0)) (.lit 0))) (.tri 2 (.lit 0) (.tri 3 (.var 3) (.lit 100) (.lit 0)) (.lit 0))) (.tri 2 (.lit 0) (.tri 3 (.var 5) (.lit 100) (.lit 0)) (.lit 0))) (.tri 2 (.lit 0) (.tri 3 (.var 7) (.lit 100) (.lit 0)) (.lit 0))), (.lit 64), true⟩, ⟨.leq, (.bin .mul .i64 (.bin .mul .i64 (.bin .mul .i64 (.bin .mul .i64 (.lit 1) (.tri 2 (.lit 0) (.tri 3 (.var 11) (.lit 100) (.lit 0)) (.lit 0))) (.tri 2 (.lit 0) (.tri 3 (.var 13) (.lit 100) (.lit 0)) (.lit 0))) (.tri 2 (.lit 0) (.tri 3 (.var 15) (.lit 100) (.lit 0)) (.lit 0))) (.tri 2 (.lit 0) (.tri 3 (.var 17) (.lit 100) (.lit 0)) (.lit 0))), (.lit 64), false⟩]
theorem m44_1 (ρ : Nat → Int) (aR aS : Addr) (A : SlT) : runL ρ aR aS (bigF 90 (.k 4) ++ (bigF 91 (.k 4) ++ M44_1)) A (.k 4) (.k 4) := by unfold runL runQ; kernel_rfl
def M44_2 : List CF := [⟨.leq, (.bin .mul .i64 (.bin .mul .i64 (.bin .mul .i64 (.bin .mul .i64 (.lit 1) (.tri 2 (.lit 0) (.tri 3 (.var 1) (.lit 100) (.lit 0)) (.lit 0))) (.tri 2 (.lit 0) (.tri 3 (.var 3) (.lit 100) (.lit 0)) (.lit 0))) (.tri 2 (.lit 0) (.tri 3 (.var 5) (.lit 100) (.lit 0)) (.lit 0))) (.tri 2 (.lit 0) (.tri 3 (.var 7) (.lit 100) (.lit 0)) (.lit 0))), (.lit 64), false⟩]
theorem m44_2 (ρ : Nat → Int) (aR aS : Addr) (A : SlT) : runL ρ aR aS (bigF 90 (.k 4) ++ (bigF 91 (.k 4) ++ M44_2)) A (.k 4) (.k 4) := by unfold runL runQ; kernel_rfl
theorem t44 (ρ : Nat → Int) (aR aS : Addr) (A : SlT) (ha : ∀ f ∈ bigF 90 (.k 4), f.ok ρ) (hb : ∀ f ∈ bigF 91 (.k 4), f.ok ρ) : Runs ρ aR aS A (.k 4) (.k 4) := by
  cases h0 : cmpI .leq (IE.ev ρ (.bin .mul .i64 (.bin .mul .i64 (.bin .mul .i64 (.bin .mul .i64 (.lit 1) (.tri 2 (.lit 0) (.tri 3 (.var 1) (.lit 100) (.lit 0)) (.lit 0))) (.tri 2 (.lit 0) (.tri 3 (.var 3) (.lit 100) (.lit 0)) (.lit 0))) (.tri 2 (.lit 0) (.tri 3 (.var 5) (.lit 100) (.lit 0)) (.lit 0))) (.tri 2 (.lit 0) (.tri 3 (.var 7) (.lit 100) (.lit 0)) (.lit 0)))) (IE.ev ρ (.lit 64)) with
  | true =>
    cases h1 : cmpI .leq (IE.ev ρ (.bin .mul .i64 (.bin .mul .i64 (.bin .mul .i64 (.bin .mul .i64 (.lit 1) (.tri 2 (.lit 0) (.tri 3 (.var 11) (.lit 100) (.lit 0)) (.lit 0))) (.tri 2 (.lit 0) (.tri 3 (.var 13) (.lit 100) (.lit 0)) (.lit 0))) (.tri 2 (.lit 0) (.tri 3 (.var 15) (.lit 100) (.lit 0)) (.lit 0))) (.tri 2 (.lit 0) (.tri 3 (.var 17) (.lit 100) (.lit 0)) (.lit 0)))) (IE.ev ρ (.lit 64)) with
    | true =>
      exact ⟨_, all_app ha (all_app hb ((all_cons ⟨rfl, h0⟩ (all_cons ⟨rfl, h1⟩ all_nil)))), m44_0 ρ aR aS A⟩
    | false =>
      exact ⟨_, all_app ha (all_app hb ((all_cons ⟨rfl, h0⟩ (all_cons ⟨rfl, h1⟩ all_nil)))), m44_1 ρ aR aS A⟩
  | false =>
    exact ⟨_, all_app ha (all_app hb ((all_cons ⟨rfl, h0⟩ all_nil))), m44_2 ρ aR aS A⟩
end
end Go.Proofs.YtdmbnllekmgnhaaDoor

namespace Go.Proofs.YtdmbnllekmgnhaaDoor
noncomputable section
open Go Go.RX
open Go.RowKit (Below)
set_option maxRecDepth 1000000
set_option maxHeartbeats 4000000
def M4B_0 : List CF := [⟨.leq, (.bin .mul .i64 (.bin .mul .i64 (.bin .mul .i64 (.bin .mul .i64 (.lit 1) (.tri 2 (.lit 0) (.tri 3 (.var 1) (.lit 100) (.lit 0)) (.lit 0))) (.tri 2 (.lit 0) (.tri 3 (.var 3) (.lit 100) (.lit 0)) (.lit 0))) (.tri 2 (.lit 0) (.tri 3 (.var 5) (.lit 100) (.lit 0)) (.lit 0))) (.tri 2 (.lit 0) (.tri 3 (.var 7) (.lit 100) (.lit 0)) (.lit 0))), (.lit 64), true⟩]
theorem m4B_0 (ρ : Nat → Int) (aR aS : Addr) (A : SlT) : runL ρ aR aS (bigF 90 (.k 4) ++ (bigF 91 .big ++ M4B_0)) A (.k 4) .big := by unfold runL runQ; kernel_rfl
def M4B_1 : List CF := [⟨.leq, (.bin .mul .i64 (.bin .mul .i64 (.bin .mul .i64 (.bin .mul .i64 (.lit 1) (.tri 2 (.lit 0) (.tri 3 (.var 1) (.lit 100) (.lit 0)) (.lit 0))) (.tri 2 (.lit 0) (.tri 3 (.var 3) (.lit 100) (.lit 0)) (.lit 0))) (.tri 2 (.lit 0) (.tri 3 (.var 5) (.lit 100) (.lit 0)) (.lit 0))) (.tri 2 (.lit 0) (.tri 3 (.var 7) (.lit 100) (.lit 0)) (.lit 0))), (.lit 64), false⟩]
theorem m4B_1 (ρ : Nat → Int) (aR aS : Addr) (A : SlT) : runL ρ aR aS (bigF 90 (.k 4) ++ (bigF 91 .big ++ M4B_1)) A (.k 4) .big := by unfold runL runQ; kernel_rfl
theorem t4B (ρ : Nat → Int) (aR aS : Addr) (A : SlT) (ha : ∀ f ∈ bigF 90 (.k 4), f.ok ρ) (hb : ∀ f ∈ bigF 91 .big, f.ok ρ) : Runs ρ aR aS A (.k 4) .big := by
  cases h0 : cmpI .leq (IE.ev ρ (.bin .mul .i64 (.bin .mul .i64 (.bin .mul .i64 (.bin .mul .i64 (.lit 1) (.tri 2 (.lit 0) (.tri 3 (.var 1) (.lit 100) (.lit 0)) (.lit 0))) (.tri 2 (.lit 0) (.tri 3 (.var 3) (.lit 100) (.lit 0)) (.lit 0))) (.tri 2 (.lit 0) (.tri 3 (.var 5) (.lit 100) (.lit 0)) (.lit 0))) (.tri 2 (.lit 0) (.tri 3 (.var 7) (.lit 100) (.lit 0)) (.lit 0)))) (IE.ev ρ (.lit 64)) with
  | true =>
    exact ⟨_, all_app ha (all_app hb ((all_cons ⟨rfl, h0⟩ all_nil))), m4B_0 ρ aR aS A⟩
  | false =>
    exact ⟨_, all_app ha (all_app hb ((all_cons ⟨rfl, h0⟩ all_nil))), m4B_1 ρ aR aS A⟩
def MBN_0 : List CF := []
theorem mBN_0 (ρ : Nat → Int) (aR aS : Addr) (A : SlT) : runL ρ aR aS (bigF 90 .big ++ (bigF 91 .nil ++ MBN_0)) A .big .nil := by unfold runL runQ; kernel_rfl
theorem tBN (ρ : Nat → Int) (aR aS : Addr) (A : SlT) (ha : ∀ f ∈ bigF 90 .big, f.ok ρ) (hb : ∀ f ∈ bigF 91 .nil, f.ok ρ) : Runs ρ aR aS A .big .nil := by
  exact ⟨_, all_app ha (all_app hb (all_nil)), mBN_0 ρ aR aS A⟩
def MB0_0 : List CF := []
theorem mB0_0 (ρ : Nat → Int) (aR aS : Addr) (A : SlT) : runL ρ aR aS (bigF 90 .big ++ (bigF 91 (.k 0) ++ MB0_0)) A .big (.k 0) := by unfold runL runQ; kernel_rfl
theorem tB0 (ρ : Nat → Int) (aR aS : Addr) (A : SlT) (ha : ∀ f ∈ bigF 90 .big, f.ok ρ) (hb : ∀ f ∈ bigF 91 (.k 0), f.ok ρ) : Runs ρ aR aS A .big (.k 0) := by
  exact ⟨_, all_app ha (all_app hb (all_nil)), mB0_0 ρ aR aS A⟩
def MB1_0 : List CF := []
theorem mB1_0 (ρ : Nat → Int) (aR aS : Addr) (A : SlT) : runL ρ aR aS (bigF 90 .big ++ (bigF 91 (.k 1) ++ MB1_0)) A .big (.k 1) := by unfold runL runQ; kernel_rfl
theorem tB1 (ρ : Nat → Int) (aR aS : Addr) (A : SlT) (ha : ∀ f ∈ bigF 90 .big, f.ok ρ) (hb : ∀ f ∈ bigF 91 (.k 1), f.ok ρ) : Runs ρ aR aS A .big (.k 1) := by
  exact ⟨_, all_app ha (all_app hb (all_nil)), mB1_0 ρ aR aS A⟩
def MB2_0 : List CF := []
theorem mB2_0 (ρ : Nat → Int) (aR aS : Addr) (A : SlT) : runL ρ aR aS (bigF 90 .big ++ (bigF 91 (.k 2) ++ MB2_0)) A .big (.k 2) := by unfold runL runQ; kernel_rfl
theorem tB2 (ρ : Nat → Int) (aR aS : Addr) (A : SlT) (ha : ∀ f ∈ bigF 90 .big, f.ok ρ) (hb : ∀ f ∈ bigF 91 (.k 2), f.ok ρ) : Runs ρ aR aS A .big (.k 2) := by
  exact ⟨_, all_app ha (all_app hb (all_nil)), mB2_0 ρ aR aS A⟩
def MB3_0 : List CF := []
theorem mB3_0 (ρ : Nat → Int) (aR aS : Addr) (A : SlT) : runL ρ aR aS (bigF 90 .big ++ (bigF 91 (.k 3) ++ MB3_0)) A .big (.k 3) := by unfold runL runQ; kernel_rfl
theorem tB3 (ρ : Nat → Int) (aR aS : Addr) (A : SlT) (ha : ∀ f ∈ bigF 90 .big, f.ok ρ) (hb : ∀ f ∈ bigF 91 (.k 3), f.ok ρ) : Runs ρ aR aS A .big (.k 3) := by
  exact ⟨_, all_app ha (all_app hb (all_nil)), mB3_0 ρ aR aS A⟩
def MB4_0 : List CF := []
theorem mB4_0 (ρ : Nat → Int) (aR aS : Addr) (A : SlT) : runL ρ aR aS (bigF 90 .big ++ (bigF 91 (.k 4) ++ MB4_0)) A .big (.k 4) := by unfold runL runQ; kernel_rfl
theorem tB4 (ρ : Nat → Int) (aR aS : Addr) (A : SlT) (ha : ∀ f ∈ bigF 90 .big, f.ok ρ) (hb : ∀ f ∈ bigF 91 (.k 4), f.ok ρ) : Runs ρ aR aS A .big (.k 4) := by
  exact ⟨_, all_app ha (all_app hb (all_nil)), mB4_0 ρ aR aS A⟩
def MBB_0 : List CF := []
theorem mBB_0 (ρ : Nat → Int) (aR aS : Addr) (A : SlT) : runL ρ aR aS (bigF 90 .big ++ (bigF 91 .big ++ MBB_0)) A .big .big := by unfold runL runQ; kernel_rfl
theorem tBB (ρ : Nat → Int) (aR aS : Addr) (A : SlT) (ha : ∀ f ∈ bigF 90 .big, f.ok ρ) (hb : ∀ f ∈ bigF 91 .big, f.ok ρ) : Runs ρ aR aS A .big .big := by
  exact ⟨_, all_app ha (all_app hb (all_nil)), mBB_0 ρ aR aS A⟩
end
end Go.Proofs.YtdmbnllekmgnhaaDoor

namespace Go.Proofs.YtdmbnllekmgnhaaDoor
noncomputable section
open Go Go.RX
open Go.RowKit (Below)
set_option maxRecDepth 1000000
set_option maxHeartbeats 4000000
/-- A make of at most 4 elements, or a long one. -/
def Cl.ok : Cl → Prop
  | .k n => n ≤ 4
  | _ => True
theorem runs (ρ : Nat → Int) (aR aS : Addr) (A : SlT) : ∀ (a b : Cl), a.ok → b.ok → (∀ f ∈ bigF 90 a, f.ok ρ) → (∀ f ∈ bigF 91 b, f.ok ρ) → Runs ρ aR aS A a b
  | .nil, .nil, _, _, ha, hb => tNN ρ aR aS A ha hb
  | .nil, .k 0, _, _, ha, hb => tN0 ρ aR aS A ha hb
  | .nil, .k 1, _, _, ha, hb => tN1 ρ aR aS A ha hb
  | .nil, .k 2, _, _, ha, hb => tN2 ρ aR aS A ha hb
  | .nil, .k 3, _, _, ha, hb => tN3 ρ aR aS A ha hb
  | .nil, .k 4, _, _, ha, hb => tN4 ρ aR aS A ha hb
  | .nil, .big, _, _, ha, hb => tNB ρ aR aS A ha hb
  | .k 0, .nil, _, _, ha, hb => t0N ρ aR aS A ha hb
  | .k 0, .k 0, _, _, ha, hb => t00 ρ aR aS A ha hb
  | .k 0, .k 1, _, _, ha, hb => t01 ρ aR aS A ha hb
  | .k 0, .k 2, _, _, ha, hb => t02 ρ aR aS A ha hb
  | .k 0, .k 3, _, _, ha, hb => t03 ρ aR aS A ha hb
  | .k 0, .k 4, _, _, ha, hb => t04 ρ aR aS A ha hb
  | .k 0, .big, _, _, ha, hb => t0B ρ aR aS A ha hb
  | .k 1, .nil, _, _, ha, hb => t1N ρ aR aS A ha hb
  | .k 1, .k 0, _, _, ha, hb => t10 ρ aR aS A ha hb
  | .k 1, .k 1, _, _, ha, hb => t11 ρ aR aS A ha hb
  | .k 1, .k 2, _, _, ha, hb => t12 ρ aR aS A ha hb
  | .k 1, .k 3, _, _, ha, hb => t13 ρ aR aS A ha hb
  | .k 1, .k 4, _, _, ha, hb => t14 ρ aR aS A ha hb
  | .k 1, .big, _, _, ha, hb => t1B ρ aR aS A ha hb
  | .k 2, .nil, _, _, ha, hb => t2N ρ aR aS A ha hb
  | .k 2, .k 0, _, _, ha, hb => t20 ρ aR aS A ha hb
  | .k 2, .k 1, _, _, ha, hb => t21 ρ aR aS A ha hb
  | .k 2, .k 2, _, _, ha, hb => t22 ρ aR aS A ha hb
  | .k 2, .k 3, _, _, ha, hb => t23 ρ aR aS A ha hb
  | .k 2, .k 4, _, _, ha, hb => t24 ρ aR aS A ha hb
  | .k 2, .big, _, _, ha, hb => t2B ρ aR aS A ha hb
  | .k 3, .nil, _, _, ha, hb => t3N ρ aR aS A ha hb
  | .k 3, .k 0, _, _, ha, hb => t30 ρ aR aS A ha hb
  | .k 3, .k 1, _, _, ha, hb => t31 ρ aR aS A ha hb
  | .k 3, .k 2, _, _, ha, hb => t32 ρ aR aS A ha hb
  | .k 3, .k 3, _, _, ha, hb => t33 ρ aR aS A ha hb
  | .k 3, .k 4, _, _, ha, hb => t34 ρ aR aS A ha hb
  | .k 3, .big, _, _, ha, hb => t3B ρ aR aS A ha hb
  | .k 4, .nil, _, _, ha, hb => t4N ρ aR aS A ha hb
  | .k 4, .k 0, _, _, ha, hb => t40 ρ aR aS A ha hb
  | .k 4, .k 1, _, _, ha, hb => t41 ρ aR aS A ha hb
  | .k 4, .k 2, _, _, ha, hb => t42 ρ aR aS A ha hb
  | .k 4, .k 3, _, _, ha, hb => t43 ρ aR aS A ha hb
  | .k 4, .k 4, _, _, ha, hb => t44 ρ aR aS A ha hb
  | .k 4, .big, _, _, ha, hb => t4B ρ aR aS A ha hb
  | .big, .nil, _, _, ha, hb => tBN ρ aR aS A ha hb
  | .big, .k 0, _, _, ha, hb => tB0 ρ aR aS A ha hb
  | .big, .k 1, _, _, ha, hb => tB1 ρ aR aS A ha hb
  | .big, .k 2, _, _, ha, hb => tB2 ρ aR aS A ha hb
  | .big, .k 3, _, _, ha, hb => tB3 ρ aR aS A ha hb
  | .big, .k 4, _, _, ha, hb => tB4 ρ aR aS A ha hb
  | .big, .big, _, _, ha, hb => tBB ρ aR aS A ha hb
  | .k (n + 5), _, h, _, _, _ => absurd h (by show ¬ n + 5 ≤ 4; omega)
  | _, .k (n + 5), _, h, _, _ => absurd h (by show ¬ n + 5 ≤ 4; omega)
end
end Go.Proofs.YtdmbnllekmgnhaaDoor
