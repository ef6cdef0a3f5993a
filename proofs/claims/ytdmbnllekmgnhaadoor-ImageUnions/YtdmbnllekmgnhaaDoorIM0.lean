import Derived.Test.YtdmbnllekmgnhaaDoorIA
namespace Go.Proofs.YtdmbnllekmgnhaaDoor
noncomputable section
open Go Go.RX
open Go.RowKit (Below)
set_option maxRecDepth 1000000
set_option maxHeartbeats 4000000
def MNN_0 : List CF := []
theorem mNN_0 (ρ : Nat → Int) (aR aS : Addr) (A : SlT) : runL ρ aR aS (bigF 90 .nil ++ (bigF 91 .nil ++ MNN_0)) A .nil .nil := by unfold runL runQ; kernel_rfl
theorem tNN (ρ : Nat → Int) (aR aS : Addr) (A : SlT) (ha : ∀ f ∈ bigF 90 .nil, f.ok ρ) (hb : ∀ f ∈ bigF 91 .nil, f.ok ρ) : Runs ρ aR aS A .nil .nil := by
  exact ⟨_, all_app ha (all_app hb (all_nil)), mNN_0 ρ aR aS A⟩
def MN0_0 : List CF := []
theorem mN0_0 (ρ : Nat → Int) (aR aS : Addr) (A : SlT) : runL ρ aR aS (bigF 90 .nil ++ (bigF 91 (.k 0) ++ MN0_0)) A .nil (.k 0) := by unfold runL runQ; kernel_rfl
theorem tN0 (ρ : Nat → Int) (aR aS : Addr) (A : SlT) (ha : ∀ f ∈ bigF 90 .nil, f.ok ρ) (hb : ∀ f ∈ bigF 91 (.k 0), f.ok ρ) : Runs ρ aR aS A .nil (.k 0) := by
  exact ⟨_, all_app ha (all_app hb (all_nil)), mN0_0 ρ aR aS A⟩
def MN1_0 : List CF := [⟨.leq, (.bin .mul .i64 (.lit 1) (.tri 2 (.lit 0) (.tri 3 (.var 11) (.lit 100) (.lit 0)) (.lit 0))), (.lit 64), true⟩]
theorem mN1_0 (ρ : Nat → Int) (aR aS : Addr) (A : SlT) : runL ρ aR aS (bigF 90 .nil ++ (bigF 91 (.k 1) ++ MN1_0)) A .nil (.k 1) := by unfold runL runQ; kernel_rfl
def MN1_1 : List CF := [⟨.leq, (.bin .mul .i64 (.lit 1) (.tri 2 (.lit 0) (.tri 3 (.var 11) (.lit 100) (.lit 0)) (.lit 0))), (.lit 64), false⟩]
theorem mN1_1 (ρ : Nat → Int) (aR aS : Addr) (A : SlT) : runL ρ aR aS (bigF 90 .nil ++ (bigF 91 (.k 1) ++ MN1_1)) A .nil (.k 1) := by unfold runL runQ; kernel_rfl
theorem tN1 (ρ : Nat → Int) (aR aS : Addr) (A : SlT) (ha : ∀ f ∈ bigF 90 .nil, f.ok ρ) (hb : ∀ f ∈ bigF 91 (.k 1), f.ok ρ) : Runs ρ aR aS A .nil (.k 1) := by
  cases h0 : cmpI .leq (IE.ev ρ (.bin .mul .i64 (.lit 1) (.tri 2 (.lit 0) (.tri 3 (.var 11) (.lit 100) (.lit 0)) (.lit 0)))) (IE.ev ρ (.lit 64)) with
  | true =>
    exact ⟨_, all_app ha (all_app hb ((all_cons ⟨rfl, h0⟩ all_nil))), mN1_0 ρ aR aS A⟩
  | false =>
    exact ⟨_, all_app ha (all_app hb ((all_cons ⟨rfl, h0⟩ all_nil))), mN1_1 ρ aR aS A⟩
def MN2_0 : List CF := [⟨.leq, (.bin .mul .i64 (.bin .mul .i64 (.lit 1) (.tri 2 (.lit 0) (.tri 3 (.var 11) (.lit 100) (.lit 0)) (.lit 0))) (.tri 2 (.lit 0) (.tri 3 (.var 13) (.lit 100) (.lit 0)) (.lit 0))), (.lit 64), true⟩]
theorem mN2_0 (ρ : Nat → Int) (aR aS : Addr) (A : SlT) : runL ρ aR aS (bigF 90 .nil ++ (bigF 91 (.k 2) ++ MN2_0)) A .nil (.k 2) := by unfold runL runQ; kernel_rfl
def MN2_1 : List CF := [⟨.leq, (.bin .mul .i64 (.bin .mul .i64 (.lit 1) (.tri 2 (.lit 0) (.tri 3 (.var 11) (.lit 100) (.lit 0)) (.lit 0))) (.tri 2 (.lit 0) (.tri 3 (.var 13) (.lit 100) (.lit 0)) (.lit 0))), (.lit 64), false⟩]
theorem mN2_1 (ρ : Nat → Int) (aR aS : Addr) (A : SlT) : runL ρ aR aS (bigF 90 .nil ++ (bigF 91 (.k 2) ++ MN2_1)) A .nil (.k 2) := by unfold runL runQ; kernel_rfl
theorem tN2 (ρ : Nat → Int) (aR aS : Addr) (A : SlT) (ha : ∀ f ∈ bigF 90 .nil, f.ok ρ) (hb : ∀ f ∈ bigF 91 (.k 2), f.ok ρ) : Runs ρ aR aS A .nil (.k 2) := by
  cases h0 : cmpI .leq (IE.ev ρ (.bin .mul .i64 (.bin .mul .i64 (.lit 1) (.tri 2 (.lit 0) (.tri 3 (.var 11) (.lit 100) (.lit 0)) (.lit 0))) (.tri 2 (.lit 0) (.tri 3 (.var 13) (.lit 100) (.lit 0)) (.lit 0)))) (IE.ev ρ (.lit 64)) with
  | true =>
    exact ⟨_, all_app ha (all_app hb ((all_cons ⟨rfl, h0⟩ all_nil))), mN2_0 ρ aR aS A⟩
  | false =>
    exact ⟨_, all_app ha (all_app hb ((all_cons ⟨rfl, h0⟩ all_nil))), mN2_1 ρ aR aS A⟩
def MN3_0 : List CF := [⟨.leq, (.bin .mul .i64 (.bin .mul .i64 (.bin .mul .i64 (.lit 1) (.tri 2 (.lit 0) (.tri 3 (.var 11) (.lit 100) (.lit 0)) (.lit 0))) (.tri 2 (.lit 0) (.tri 3 (.var 13) (.lit 100) (.lit 0)) (.lit 0))) (.tri 2 (.lit 0) (.tri 3 (.var 15) (.lit 100) (.lit 0)) (.lit 0))), (.lit 64), true⟩]
theorem mN3_0 (ρ : Nat → Int) (aR aS : Addr) (A : SlT) : runL ρ aR aS (bigF 90 .nil ++ (bigF 91 (.k 3) ++ MN3_0)) A .nil (.k 3) := by unfold runL runQ; kernel_rfl
def MN3_1 : List CF := [⟨.leq, (.bin .mul .i64 (.bin .mul .i64 (.bin .mul .i64 (.lit 1) (.tri 2 (.lit 0) (.tri 3 (.var 11) (.lit 100) (.lit 0)) (.lit 0))) (.tri 2 (.lit 0) (.tri 3 (.var 13) (.lit 100) (.lit 0)) (.lit 0))) (.tri 2 (.lit 0) (.tri 3 (.var 15) (.lit 100) (.lit 0)) (.lit 0))), (.lit 64), false⟩]
theorem mN3_1 (ρ : Nat → Int) (aR aS : Addr) (A : SlT) : runL ρ aR aS (bigF 90 .nil ++ (bigF 91 (.k 3) ++ MN3_1)) A .nil (.k 3) := by unfold runL runQ; kernel_rfl
theorem tN3 (ρ : Nat → Int) (aR aS : Addr) (A : SlT) (ha : ∀ f ∈ bigF 90 .nil, f.ok ρ) (hb : ∀ f ∈ bigF 91 (.k 3), f.ok ρ) : Runs ρ aR aS A .nil (.k 3) := by
  cases h0 : cmpI .leq (IE.ev ρ (.bin .mul .i64 (.bin .mul .i64 (.bin .mul .i64 (.lit 1) (.tri 2 (.lit 0) (.tri 3 (.var 11) (.lit 100) (.lit 0)) (.lit 0))) (.tri 2 (.lit 0) (.tri 3 (.var 13) (.lit 100) (.lit 0)) (.lit 0))) (.tri 2 (.lit 0) (.tri 3 (.var 15) (.lit 100) (.lit 0)) (.lit 0)))) (IE.ev ρ (.lit 64)) with
  | true =>
    exact ⟨_, all_app ha (all_app hb ((all_cons ⟨rfl, h0⟩ all_nil))), mN3_0 ρ aR aS A⟩
  | false =>
    exact ⟨_, all_app ha (all_app hb ((all_cons ⟨rfl, h0⟩ all_nil))), mN3_1 ρ aR aS A⟩
def MN4_0 : List CF := [⟨.leq, (.bin .mul .i64 (.bin .mul .i64 (.bin .mul .i64 (.bin .mul .i64 (.lit 1) (.tri 2 (.lit 0) (.tri 3 (.var 11) (.lit 100) (.lit 0)) (.lit 0))) (.tri 2 (.lit 0) (.tri 3 (.var 13) (.lit 100) (.lit 0)) (.lit 0))) (.tri 2 (.lit 0) (.tri 3 (.var 15) (.lit 100) (.lit 0)) (.lit 0))) (.tri 2 (.lit 0) (.tri 3 (.var 17) (.lit 100) (.lit 0)) (.lit 0))), (.lit 64), true⟩]
theorem mN4_0 (ρ : Nat → Int) (aR aS : Addr) (A : SlT) : runL ρ aR aS (bigF 90 .nil ++ (bigF 91 (.k 4) ++ MN4_0)) A .nil (.k 4) := by unfold runL runQ; kernel_rfl
def MN4_1 : List CF := [⟨.leq, (.bin .mul .i64 (.bin .mul .i64 (.bin .mul .i64 (.bin .mul .i64 (.lit 1) (.tri 2 (.lit 0) (.tri 3 (.var 11) (.lit 100) (.lit 0)) (.lit 0))) (.tri 2 (.lit 0) (.tri 3 (.var 13) (.lit 100) (.lit 0)) (.lit 0))) (.tri 2 (.lit 0) (.tri 3 (.var 15) (.lit 100) (.lit 0)) (.lit 0))) (.tri 2 (.lit 0) (.tri 3 (.var 17) (.lit 100) (.lit 0)) (.lit 0))), (.lit 64), false⟩]
theorem mN4_1 (ρ : Nat → Int) (aR aS : Addr) (A : SlT) : runL ρ aR aS (bigF 90 .nil ++ (bigF 91 (.k 4) ++ MN4_1)) A .nil (.k 4) := by unfold runL runQ; kernel_rfl
theorem tN4 (ρ : Nat → Int) (aR aS : Addr) (A : SlT) (ha : ∀ f ∈ bigF 90 .nil, f.ok ρ) (hb : ∀ f ∈ bigF 91 (.k 4), f.ok ρ) : Runs ρ aR aS A .nil (.k 4) := by
  cases h0 : cmpI .leq (IE.ev ρ (.bin .mul .i64 (.bin .mul .i64 (.bin .mul .i64 (.bin .mul .i64 (.lit 1) (.tri 2 (.lit 0) (.tri 3 (.var 11) (.lit 100) (.lit 0)) (.lit 0))) (.tri 2 (.lit 0) (.tri 3 (.var 13) (.lit 100) (.lit 0)) (.lit 0))) (.tri 2 (.lit 0) (.tri 3 (.var 15) (.lit 100) (.lit 0)) (.lit 0))) (.tri 2 (.lit 0) (.tri 3 (.var 17) (.lit 100) (.lit 0)) (.lit 0)))) (IE.ev ρ (.lit 64)) with
  | true =>
    exact ⟨_, all_app ha (all_app hb ((all_cons ⟨rfl, h0⟩ all_nil))), mN4_0 ρ aR aS A⟩
  | false =>
    exact ⟨_, all_app ha (all_app hb ((all_cons ⟨rfl, h0⟩ all_nil))), mN4_1 ρ aR aS A⟩
end
end Go.Proofs.YtdmbnllekmgnhaaDoor

namespace Go.Proofs.YtdmbnllekmgnhaaDoor
noncomputable section
open Go Go.RX
open Go.RowKit (Below)
set_option maxRecDepth 1000000
set_option maxHeartbeats 4000000
def MNB_0 : List CF := []
theorem mNB_0 (ρ : Nat → Int) (aR aS : Addr) (A : SlT) : runL ρ aR aS (bigF 90 .nil ++ (bigF 91 .big ++ MNB_0)) A .nil .big := by unfold runL runQ; kernel_rfl
theorem tNB (ρ : Nat → Int) (aR aS : Addr) (A : SlT) (ha : ∀ f ∈ bigF 90 .nil, f.ok ρ) (hb : ∀ f ∈ bigF 91 .big, f.ok ρ) : Runs ρ aR aS A .nil .big := by
  exact ⟨_, all_app ha (all_app hb (all_nil)), mNB_0 ρ aR aS A⟩
def M0N_0 : List CF := []
theorem m0N_0 (ρ : Nat → Int) (aR aS : Addr) (A : SlT) : runL ρ aR aS (bigF 90 (.k 0) ++ (bigF 91 .nil ++ M0N_0)) A (.k 0) .nil := by unfold runL runQ; kernel_rfl
theorem t0N (ρ : Nat → Int) (aR aS : Addr) (A : SlT) (ha : ∀ f ∈ bigF 90 (.k 0), f.ok ρ) (hb : ∀ f ∈ bigF 91 .nil, f.ok ρ) : Runs ρ aR aS A (.k 0) .nil := by
  exact ⟨_, all_app ha (all_app hb (all_nil)), m0N_0 ρ aR aS A⟩
def M00_0 : List CF := []
theorem m00_0 (ρ : Nat → Int) (aR aS : Addr) (A : SlT) : runL ρ aR aS (bigF 90 (.k 0) ++ (bigF 91 (.k 0) ++ M00_0)) A (.k 0) (.k 0) := by unfold runL runQ; kernel_rfl
theorem t00 (ρ : Nat → Int) (aR aS : Addr) (A : SlT) (ha : ∀ f ∈ bigF 90 (.k 0), f.ok ρ) (hb : ∀ f ∈ bigF 91 (.k 0), f.ok ρ) : Runs ρ aR aS A (.k 0) (.k 0) := by
  exact ⟨_, all_app ha (all_app hb (all_nil)), m00_0 ρ aR aS A⟩
def M01_0 : List CF := [⟨.leq, (.bin .mul .i64 (.lit 1) (.tri 2 (.lit 0) (.tri 3 (.var 11) (.lit 100) (.lit 0)) (.lit 0))), (.lit 64), true⟩]
theorem m01_0 (ρ : Nat → Int) (aR aS : Addr) (A : SlT) : runL ρ aR aS (bigF 90 (.k 0) ++ (bigF 91 (.k 1) ++ M01_0)) A (.k 0) (.k 1) := by unfold runL runQ; kernel_rfl
def M01_1 : List CF := [⟨.leq, (.bin .mul .i64 (.lit 1) (.tri 2 (.lit 0) (.tri 3 (.var 11) (.lit 100) (.lit 0)) (.lit 0))), (.lit 64), false⟩]
theorem m01_1 (ρ : Nat → Int) (aR aS : Addr) (A : SlT) : runL ρ aR aS (bigF 90 (.k 0) ++ (bigF 91 (.k 1) ++ M01_1)) A (.k 0) (.k 1) := by unfold runL runQ; kernel_rfl
theorem t01 (ρ : Nat → Int) (aR aS : Addr) (A : SlT) (ha : ∀ f ∈ bigF 90 (.k 0), f.ok ρ) (hb : ∀ f ∈ bigF 91 (.k 1), f.ok ρ) : Runs ρ aR aS A (.k 0) (.k 1) := by
  cases h0 : cmpI .leq (IE.ev ρ (.bin .mul .i64 (.lit 1) (.tri 2 (.lit 0) (.tri 3 (.var 11) (.lit 100) (.lit 0)) (.lit 0)))) (IE.ev ρ (.lit 64)) with
  | true =>
    exact ⟨_, all_app ha (all_app hb ((all_cons ⟨rfl, h0⟩ all_nil))), m01_0 ρ aR aS A⟩
  | false =>
    exact ⟨_, all_app ha (all_app hb ((all_cons ⟨rfl, h0⟩ all_nil))), m01_1 ρ aR aS A⟩
def M02_0 : List CF := [⟨.leq, (.bin .mul .i64 (.bin .mul .i64 (.lit 1) (.tri 2 (.lit 0) (.tri 3 (.var 11) (.lit 100) (.lit 0)) (.lit 0))) (.tri 2 (.lit 0) (.tri 3 (.var 13) (.lit 100) (.lit 0)) (.lit 0))), (.lit 64), true⟩]
theorem m02_0 (ρ : Nat → Int) (aR aS : Addr) (A : SlT) : runL ρ aR aS (bigF 90 (.k 0) ++ (bigF 91 (.k 2) ++ M02_0)) A (.k 0) (.k 2) := by unfold runL runQ; kernel_rfl
def M02_1 : List CF := [⟨.leq, (.bin .mul .i64 (.bin .mul .i64 (.lit 1) (.tri 2 (.lit 0) (.tri 3 (.var 11) (.lit 100) (.lit 0)) (.lit 0))) (.tri 2 (.lit 0) (.tri 3 (.var 13) (.lit 100) (.lit 0)) (.lit 0))), (.lit 64), false⟩]
theorem m02_1 (ρ : Nat → Int) (aR aS : Addr) (A : SlT) : runL ρ aR aS (bigF 90 (.k 0) ++ (bigF 91 (.k 2) ++ M02_1)) A (.k 0) (.k 2) := by unfold runL runQ; kernel_rfl
theorem t02 (ρ : Nat → Int) (aR aS : Addr) (A : SlT) (ha : ∀ f ∈ bigF 90 (.k 0), f.ok ρ) (hb : ∀ f ∈ bigF 91 (.k 2), f.ok ρ) : Runs ρ aR aS A (.k 0) (.k 2) := by
  cases h0 : cmpI .leq (IE.ev ρ (.bin .mul .i64 (.bin .mul .i64 (.lit 1) (.tri 2 (.lit 0) (.tri 3 (.var 11) (.lit 100) (.lit 0)) (.lit 0))) (.tri 2 (.lit 0) (.tri 3 (.var 13) (.lit 100) (.lit 0)) (.lit 0)))) (IE.ev ρ (.lit 64)) with
  | true =>
    exact ⟨_, all_app ha (all_app hb ((all_cons ⟨rfl, h0⟩ all_nil))), m02_0 ρ aR aS A⟩
  | false =>
    exact ⟨_, all_app ha (all_app hb ((all_cons ⟨rfl, h0⟩ all_nil))), m02_1 ρ aR aS A⟩
def M03_0 : List CF := [⟨.leq, (.bin .mul .i64 (.bin .mul .i64 (.bin .mul .i64 (.lit 1) (.tri 2 (.lit 0) (.tri 3 (.var 11) (.lit 100) (.lit 0)) (.lit 0))) (.tri 2 (.lit 0) (.tri 3 (.var 13) (.lit 100) (.lit 0)) (.lit 0))) (.tri 2 (.lit 0) (.tri 3 (.var 15) (.lit 100) (.lit 0)) (.lit 0))), (.lit 64), true⟩]
theorem m03_0 (ρ : Nat → Int) (aR aS : Addr) (A : SlT) : runL ρ aR aS (bigF 90 (.k 0) ++ (bigF 91 (.k 3) ++ M03_0)) A (.k 0) (.k 3) := by unfold runL runQ; kernel_rfl
def M03_1 : List CF := [⟨.leq, (.bin .mul .i64 (.bin .mul .i64 (.bin .mul .i64 (.lit 1) (.tri 2 (.lit 0) (.tri 3 (.var 11) (.lit 100) (.lit 0)) (.lit 0))) (.tri 2 (.lit 0) (.tri 3 (.var 13) (.lit 100) (.lit 0)) (.lit 0))) (.tri 2 (.lit 0) (.tri 3 (.var 15) (.lit 100) (.lit 0)) (.lit 0))), (.lit 64), false⟩]
theorem m03_1 (ρ : Nat → Int) (aR aS : Addr) (A : SlT) : runL ρ aR aS (bigF 90 (.k 0) ++ (bigF 91 (.k 3) ++ M03_1)) A (.k 0) (.k 3) := by unfold runL runQ; kernel_rfl
theorem t03 (ρ : Nat → Int) (aR aS : Addr) (A : SlT) (ha : ∀ f ∈ bigF 90 (.k 0), f.ok ρ) (hb : ∀ f ∈ bigF 91 (.k 3), f.ok ρ) : Runs ρ aR aS A (.k 0) (.k 3) := by
  cases h0 : cmpI .leq (IE.ev ρ (.bin .mul .i64 (.bin .mul .i64 (.bin .mul .i64 (.lit 1) (.tri 2 (.lit 0) (.tri 3 (.var 11) (.lit 100) (.lit 0)) (.lit 0))) (.tri 2 (.lit 0) (.tri 3 (.var 13) (.lit 100) (.lit 0)) (.lit 0))) (.tri 2 (.lit 0) (.tri 3 (.var 15) (.lit 100) (.lit 0)) (.lit 0)))) (IE.ev ρ (.lit 64)) with
  | true =>
    exact ⟨_, all_app ha (all_app hb ((all_cons ⟨rfl, h0⟩ all_nil))), m03_0 ρ aR aS A⟩
  | false =>
    exact ⟨_, all_app ha (all_app hb ((all_cons ⟨rfl, h0⟩ all_nil))), m03_1 ρ aR aS A⟩
end
end Go.Proofs.YtdmbnllekmgnhaaDoor

namespace Go.Proofs.YtdmbnllekmgnhaaDoor
noncomputable section
open Go Go.RX
open Go.RowKit (Below)
set_option maxRecDepth 1000000
set_option maxHeartbeats 4000000
def M04_0 : List CF := [⟨.leq, (.bin .mul .i64 (.bin .mul .i64 (.bin .mul .i64 (.bin .mul .i64 (.lit 1) (.tri 2 (.lit 0) (.tri 3 (.var 11) (.lit 100) (.lit 0)) (.lit 0))) (.tri 2 (.lit 0) (.tri 3 (.var 13) (.lit 100) (.lit 0)) (.lit 0))) (.tri 2 (.lit 0) (.tri 3 (.var 15) (.lit 100) (.lit 0)) (.lit 0))) (.tri 2 (.lit 0) (.tri 3 (.var 17) (.lit 100) (.lit 0)) (.lit 0))), (.lit 64), true⟩]
theorem m04_0 (ρ : Nat → Int) (aR aS : Addr) (A : SlT) : runL ρ aR aS (bigF 90 (.k 0) ++ (bigF 91 (.k 4) ++ M04_0)) A (.k 0) (.k 4) := by unfold runL runQ; kernel_rfl
def M04_1 : List CF := [⟨.leq, (.bin .mul .i64 (.bin .mul .i64 (.bin .mul .i64 (.bin .mul .i64 (.lit 1) (.tri 2 (.lit 0) (.tri 3 (.var 11) (.lit 100) (.lit 0)) (.lit 0))) (.tri 2 (.lit 0) (.tri 3 (.var 13) (.lit 100) (.lit 0)) (.lit 0))) (.tri 2 (.lit 0) (.tri 3 (.var 15) (.lit 100) (.lit 0)) (.lit 0))) (.tri 2 (.lit 0) (.tri 3 (.var 17) (.lit 100) (.lit 0)) (.lit 0))), (.lit 64), false⟩]
theorem m04_1 (ρ : Nat → Int) (aR aS : Addr) (A : SlT) : runL ρ aR aS (bigF 90 (.k 0) ++ (bigF 91 (.k 4) ++ M04_1)) A (.k 0) (.k 4) := by unfold runL runQ; kernel_rfl
theorem t04 (ρ : Nat → Int) (aR aS : Addr) (A : SlT) (ha : ∀ f ∈ bigF 90 (.k 0), f.ok ρ) (hb : ∀ f ∈ bigF 91 (.k 4), f.ok ρ) : Runs ρ aR aS A (.k 0) (.k 4) := by
  cases h0 : cmpI .leq (IE.ev ρ (.bin .mul .i64 (.bin .mul .i64 (.bin .mul .i64 (.bin .mul .i64 (.lit 1) (.tri 2 (.lit 0) (.tri 3 (.var 11) (.lit 100) (.lit 0)) (.lit 0))) (.tri 2 (.lit 0) (.tri 3 (.var 13) (.lit 100) (.lit 0)) (.lit 0))) (.tri 2 (.lit 0) (.tri 3 (.var 15) (.lit 100) (.lit 0)) (.lit 0))) (.tri 2 (.lit 0) (.tri 3 (.var 17) (.lit 100) (.lit 0)) (.lit 0)))) (IE.ev ρ (.lit 64)) with
  | true =>
    exact ⟨_, all_app ha (all_app hb ((all_cons ⟨rfl, h0⟩ all_nil))), m04_0 ρ aR aS A⟩
  | false =>
    exact ⟨_, all_app ha (all_app hb ((all_cons ⟨rfl, h0⟩ all_nil))), m04_1 ρ aR aS A⟩
def M0B_0 : List CF := []
theorem m0B_0 (ρ : Nat → Int) (aR aS : Addr) (A : SlT) : runL ρ aR aS (bigF 90 (.k 0) ++ (bigF 91 .big ++ M0B_0)) A (.k 0) .big := by unfold runL runQ; kernel_rfl
theorem t0B (ρ : Nat → Int) (aR aS : Addr) (A : SlT) (ha : ∀ f ∈ bigF 90 (.k 0), f.ok ρ) (hb : ∀ f ∈ bigF 91 .big, f.ok ρ) : Runs ρ aR aS A (.k 0) .big := by
  exact ⟨_, all_app ha (all_app hb (all_nil)), m0B_0 ρ aR aS A⟩
def M1N_0 : List CF := [⟨.leq, (.bin .mul .i64 (.lit 1) (.tri 2 (.lit 0) (.tri 3 (.var 1) (.lit 100) (.lit 0)) (.lit 0))), (.lit 64), true⟩, ⟨.neq, (.var 20), (.lit 0), true⟩]
theorem m1N_0 (ρ : Nat → Int) (aR aS : Addr) (A : SlT) : runL ρ aR aS (bigF 90 (.k 1) ++ (bigF 91 .nil ++ M1N_0)) A (.k 1) .nil := by unfold runL runQ; kernel_rfl
def M1N_1 : List CF := [⟨.leq, (.bin .mul .i64 (.lit 1) (.tri 2 (.lit 0) (.tri 3 (.var 1) (.lit 100) (.lit 0)) (.lit 0))), (.lit 64), true⟩, ⟨.neq, (.var 20), (.lit 0), false⟩]
theorem m1N_1 (ρ : Nat → Int) (aR aS : Addr) (A : SlT) : runL ρ aR aS (bigF 90 (.k 1) ++ (bigF 91 .nil ++ M1N_1)) A (.k 1) .nil := by unfold runL runQ; kernel_rfl
def M1N_2 : List CF := [⟨.leq, (.bin .mul .i64 (.lit 1) (.tri 2 (.lit 0) (.tri 3 (.var 1) (.lit 100) (.lit 0)) (.lit 0))), (.lit 64), false⟩]
theorem m1N_2 (ρ : Nat → Int) (aR aS : Addr) (A : SlT) : runL ρ aR aS (bigF 90 (.k 1) ++ (bigF 91 .nil ++ M1N_2)) A (.k 1) .nil := by unfold runL runQ; kernel_rfl
theorem t1N (ρ : Nat → Int) (aR aS : Addr) (A : SlT) (ha : ∀ f ∈ bigF 90 (.k 1), f.ok ρ) (hb : ∀ f ∈ bigF 91 .nil, f.ok ρ) : Runs ρ aR aS A (.k 1) .nil := by
  cases h0 : cmpI .leq (IE.ev ρ (.bin .mul .i64 (.lit 1) (.tri 2 (.lit 0) (.tri 3 (.var 1) (.lit 100) (.lit 0)) (.lit 0)))) (IE.ev ρ (.lit 64)) with
  | true =>
    cases h1 : cmpI .neq (IE.ev ρ (.var 20)) (IE.ev ρ (.lit 0)) with
    | true =>
      exact ⟨_, all_app ha (all_app hb ((all_cons ⟨rfl, h0⟩ (all_cons ⟨rfl, h1⟩ all_nil)))), m1N_0 ρ aR aS A⟩
    | false =>
      exact ⟨_, all_app ha (all_app hb ((all_cons ⟨rfl, h0⟩ (all_cons ⟨rfl, h1⟩ all_nil)))), m1N_1 ρ aR aS A⟩
  | false =>
    exact ⟨_, all_app ha (all_app hb ((all_cons ⟨rfl, h0⟩ all_nil))), m1N_2 ρ aR aS A⟩
def M10_0 : List CF := [⟨.leq, (.bin .mul .i64 (.lit 1) (.tri 2 (.lit 0) (.tri 3 (.var 1) (.lit 100) (.lit 0)) (.lit 0))), (.lit 64), true⟩, ⟨.neq, (.var 20), (.lit 0), true⟩]
theorem m10_0 (ρ : Nat → Int) (aR aS : Addr) (A : SlT) : runL ρ aR aS (bigF 90 (.k 1) ++ (bigF 91 (.k 0) ++ M10_0)) A (.k 1) (.k 0) := by unfold runL runQ; kernel_rfl
def M10_1 : List CF := [⟨.leq, (.bin .mul .i64 (.lit 1) (.tri 2 (.lit 0) (.tri 3 (.var 1) (.lit 100) (.lit 0)) (.lit 0))), (.lit 64), true⟩, ⟨.neq, (.var 20), (.lit 0), false⟩]
theorem m10_1 (ρ : Nat → Int) (aR aS : Addr) (A : SlT) : runL ρ aR aS (bigF 90 (.k 1) ++ (bigF 91 (.k 0) ++ M10_1)) A (.k 1) (.k 0) := by unfold runL runQ; kernel_rfl
def M10_2 : List CF := [⟨.leq, (.bin .mul .i64 (.lit 1) (.tri 2 (.lit 0) (.tri 3 (.var 1) (.lit 100) (.lit 0)) (.lit 0))), (.lit 64), false⟩]
theorem m10_2 (ρ : Nat → Int) (aR aS : Addr) (A : SlT) : runL ρ aR aS (bigF 90 (.k 1) ++ (bigF 91 (.k 0) ++ M10_2)) A (.k 1) (.k 0) := by unfold runL runQ; kernel_rfl
theorem t10 (ρ : Nat → Int) (aR aS : Addr) (A : SlT) (ha : ∀ f ∈ bigF 90 (.k 1), f.ok ρ) (hb : ∀ f ∈ bigF 91 (.k 0), f.ok ρ) : Runs ρ aR aS A (.k 1) (.k 0) := by
  cases h0 : cmpI .leq (IE.ev ρ (.bin .mul .i64 (.lit 1) (.tri 2 (.lit 0) (.tri 3 (.var 1) (.lit 100) (.lit 0)) (.lit 0)))) (IE.ev ρ (.lit 64)) with
  | true =>
    cases h1 : cmpI .neq (IE.ev ρ (.var 20)) (IE.ev ρ (.lit 0)) with
    | true =>
      exact ⟨_, all_app ha (all_app hb ((all_cons ⟨rfl, h0⟩ (all_cons ⟨rfl, h1⟩ all_nil)))), m10_0 ρ aR aS A⟩
    | false =>
      exact ⟨_, all_app ha (all_app hb ((all_cons ⟨rfl, h0⟩ (all_cons ⟨rfl, h1⟩ all_nil)))), m10_1 ρ aR aS A⟩
  | false =>
    exact ⟨_, all_app ha (all_app hb ((all_cons ⟨rfl, h0⟩ all_nil))), m10_2 ρ aR aS A⟩
end
end Go.Proofs.YtdmbnllekmgnhaaDoor
