import Derived.Test.YtbhhdjlmbmeiaaaGreatDoorHM
import Derived.Test.YtbhhdjlmbmeiaaaGreatDoorHD
namespace Go.Proofs.YtbhhdjlmbmeiaaaGreatDoor
noncomputable section
open Go Go.RX
open Go.RowKit (Below)
set_option maxRecDepth 1000000
set_option maxHeartbeats 4000000
def OkV (aR aS : Addr) (vk b : Int) : Prop := (∃ n, Bnd vk b n ∧ IntV aR aS vk b n) ∨ (vk = 9 ∧ b < 4294967296 ∧ b / 8388608 % 256 ≠ 255 ∧ b ≠ 2147483648) ∨ vk = 10
theorem vE (aR aS : Addr) (vk b : Int) (hb0 : 0 ≤ b) (hb1 : b < 18446744073709551616) : ∃ e, Chk aR aS vk b e ∧ (e = 0 → OkV aR aS vk b) := by
  rcases vclass aR aS vk b hb0 hb1 with hv | hv | ⟨n, hB, hv, hi⟩ | ⟨h, hv⟩ | ⟨h, hv⟩
  · exact ⟨11, hv, fun h => absurd h (by decide)⟩
  · exact ⟨1, hv, fun h => absurd h (by decide)⟩
  · exact ⟨0, hv, fun _ => .inl ⟨n, hB, hi⟩⟩
  · exact ⟨0, hv, fun _ => .inr (.inl h)⟩
  · exact ⟨0, hv, fun _ => .inr (.inr h.1)⟩
theorem hn_of {vk : Nat} {b n : Int} (hk : vk < 9) (h : Bnd vk b n) : HN vk b n := by
  unfold Bnd at h
  have hv : vk = 0 ∨ vk = 1 ∨ vk = 2 ∨ vk = 3 ∨ vk = 4 ∨ vk = 5 ∨ vk = 6 ∨ vk = 7 ∨ vk = 8 := by omega
  rcases hv with rfl | rfl | rfl | rfl | rfl | rfl | rfl | rfl | rfl <;> refine ⟨?_, ?_, ?_, ?_, ?_⟩ <;> omega
theorem cmp_ok {aR aS : Addr} {k a b : Int} (a0 : 0 ≤ a) (b0 : 0 ≤ b) (h1 : Chk aR aS k a 0) (h2 : Chk aR aS k b 0) (v1 : OkV aR aS k a) (v2 : OkV aR aS k b) (hk : k ≠ 10) : CmpV aR aS k a k b := by
  rcases v1 with ⟨n, B1, i1⟩ | ⟨rfl, c1, c2, c3⟩ | h
  case inr.inr => exact absurd h hk
  · rcases v2 with ⟨m, B2, i2⟩ | ⟨rfl, _⟩ | h
    case inr.inr => exact absurd h hk
    · have hv : k = 0 ∨ k = 1 ∨ k = 2 ∨ k = 3 ∨ k = 4 ∨ k = 5 ∨ k = 6 ∨ k = 7 ∨ k = 8 := by
        unfold Bnd at B1
        omega
      rcases hv with rfl | rfl | rfl | rfl | rfl | rfl | rfl | rfl | rfl
      · exact cmp_0 (hn_of (vk := 0) (by decide) B1) (hn_of (vk := 0) (by decide) B2) h1 h2 i1 i2
      · exact cmp_1 (hn_of (vk := 1) (by decide) B1) (hn_of (vk := 1) (by decide) B2) h1 h2 i1 i2
      · exact cmp_2 (hn_of (vk := 2) (by decide) B1) (hn_of (vk := 2) (by decide) B2) h1 h2 i1 i2
      · exact cmp_3 (hn_of (vk := 3) (by decide) B1) (hn_of (vk := 3) (by decide) B2) h1 h2 i1 i2
      · exact cmp_4 (hn_of (vk := 4) (by decide) B1) (hn_of (vk := 4) (by decide) B2) h1 h2 i1 i2
      · exact cmp_5 (hn_of (vk := 5) (by decide) B1) (hn_of (vk := 5) (by decide) B2) h1 h2 i1 i2
      · exact cmp_6 (hn_of (vk := 6) (by decide) B1) (hn_of (vk := 6) (by decide) B2) h1 h2 i1 i2
      · exact cmp_7 (hn_of (vk := 7) (by decide) B1) (hn_of (vk := 7) (by decide) B2) h1 h2 i1 i2
      · exact cmp_8 (hn_of (vk := 8) (by decide) B1) (hn_of (vk := 8) (by decide) B2) h1 h2 i1 i2
    · unfold Bnd at B1
      omega
  · rcases v2 with ⟨m, B2, _⟩ | ⟨_, d1, d2, d3⟩ | h
    case inr.inr => exact absurd h hk
    · unfold Bnd at B2
      omega
    · obtain ⟨F, rfl⟩ := Int.eq_ofNat_of_zero_le a0
      obtain ⟨G, rfl⟩ := Int.eq_ofNat_of_zero_le b0
      exact cmp_g ⟨by omega, by omega, by omega⟩ ⟨by omega, by omega, by omega⟩ h1 h2
structure Fl where
  A : Bool
  B : Bool
  C : Bool
  r1 : Bool
  r2 : Bool
  r3 : Bool
  c1 : Bool
def rl (a ka ea b kb eb c kc ec k K X x S D y m : Int) : Nat → Int := fun i => match i with
  | 0 => a
  | 6 => ea
  | 7 => ka
  | 10 => b
  | 16 => eb
  | 17 => kb
  | 20 => c
  | 26 => ec
  | 27 => kc
  | 30 => k
  | 31 => K
  | 32 => X
  | 33 => x
  | 34 => S
  | 35 => D
  | 36 => y
  | 38 => m
  | _ => 0
def agC : SVal := .agg [.sym (.int .i64 (.var 27)), .sym (.int .u64 (.var 20))]
def sk : SVal := .sym (.int .i64 (.var 30))
def xsC : List SVal := [sk, agA, agB, agC]
def er (ok : Bool) (i : Nat) : SVal := if ok then .v (.int .i64 0) else .sym (.int .i64 (.var i))
def castR : SVal := .tuple [.agg [.sym (.int .i64 (.var 31)), .sym (.int .u64 (.var 32))], .sym (.int .i64 (.var 33))]
def satR : SVal := .tuple [.agg [.sym (.int .i64 (.var 34)), .sym (.int .u64 (.var 35))], .sym (.int .i64 (.var 36))]
def cmpR (p : Fl) : SVal := if !p.A then .tuple [.v (.int .i64 0), .sym (.int .i64 (.var 6))] else if !p.B then .tuple [.v (.int .i64 0), .sym (.int .i64 (.var 16))] else if p.r1 || p.r2 then .v (.tuple #[.int .i64 0, .int .i64 12]) else .tuple [.sym (.int .i64 (.var 38)), .v (.int .i64 0)]
def fine (p : Fl) : Bool := p.A && p.B && !p.r1 && !p.r2
def UL (p : Fl) : List SEntry := [(4, [], .v (.bool true)),
  (5, [sk, agA], castR), (6, [sk, agA], castR), (7, [sk, agA], satR), (8, [sk, agA], satR),
  (11, [agA], er p.A 6), (21, [agA], er p.A 6), (11, [agB], er p.B 16), (21, [agB], er p.B 16), (11, [agC], er p.C 26), (21, [agC], er p.C 26),
  (9, [agA, agB], cmpR p)] ++ (if fine p then [(13, [agA, agB], .sym (.int .i64 (.var 38)))] else [])
def LE (ok : Bool) (i : Nat) : List CF := if ok then [] else [⟨.neq, .var i, .lit 0, true⟩, ⟨.eql, .var i, .lit 0, false⟩]
def LL (p : Fl) : List CF := [⟨.neq, .var 7, .var 17, p.r1⟩, ⟨.neq, .var 17, .var 7, p.r1⟩, ⟨.eql, .var 7, .lit 10, p.r2⟩, ⟨.neq, .var 27, .lit 0, p.r3⟩, ⟨.eql, .var 20, .lit 1, p.c1⟩] ++ (LE p.A 6 ++ (LE p.B 16 ++ (LE p.C 26 ++ (if p.C && !p.r3 then [⟨.eql, .var 20, .lit 0, !p.c1⟩] else []))))
def bs : List Bool := [true, false]
def fls (A B : Bool) : List Fl := bs.flatMap fun C => bs.flatMap fun r1 => bs.flatMap fun r2 => bs.flatMap fun r3 => bs.map fun c1 => ⟨A, B, C, r1, r2, r3, c1⟩
noncomputable def lawR (W : Nat → Nat) (C : Nat → Nat × Nat) (ρ : Nat → Int) (aR aS : Addr) (p : Fl) : Option SVal := (@call (E W C ρ (LL p) []) Tryz.prog (glob aR aS) (tabS (UL p)) 300 60 (.fn 3) xsC []).map (fun r => nrm r.1)
theorem law_tt (W : Nat → Nat) (C : Nat → Nat × Nat) (ρ : Nat → Int) (aR aS : Addr) : (fls true true).map (lawR W C ρ aR aS) = (fls true true).map fun _ => some (.v (.bool true)) := by kernel_rfl
theorem law_tf (W : Nat → Nat) (C : Nat → Nat × Nat) (ρ : Nat → Int) (aR aS : Addr) : (fls true false).map (lawR W C ρ aR aS) = (fls true false).map fun _ => some (.v (.bool true)) := by kernel_rfl
theorem law_ft (W : Nat → Nat) (C : Nat → Nat × Nat) (ρ : Nat → Int) (aR aS : Addr) : (fls false true).map (lawR W C ρ aR aS) = (fls false true).map fun _ => some (.v (.bool true)) := by kernel_rfl
theorem law_ff (W : Nat → Nat) (C : Nat → Nat × Nat) (ρ : Nat → Int) (aR aS : Addr) : (fls false false).map (lawR W C ρ aR aS) = (fls false false).map fun _ => some (.v (.bool true)) := by kernel_rfl
theorem mem_bs (b : Bool) : b ∈ bs := by cases b <;> simp [bs]
theorem mem_fls (p : Fl) : p ∈ fls p.A p.B := by
  unfold fls
  refine List.mem_flatMap.2 ⟨p.C, mem_bs _, List.mem_flatMap.2 ⟨p.r1, mem_bs _, List.mem_flatMap.2 ⟨p.r2, mem_bs _, List.mem_flatMap.2 ⟨p.r3, mem_bs _, List.mem_map.2 ⟨p.c1, mem_bs _, rfl⟩⟩⟩⟩⟩
theorem law_all (W : Nat → Nat) (C : Nat → Nat × Nat) (ρ : Nat → Int) (aR aS : Addr) (p : Fl) : lawR W C ρ aR aS p = some (.v (.bool true)) := by
  have h := mem_fls p
  obtain ⟨A, B, c, r1, r2, r3, c1⟩ := p
  cases A <;> cases B
  · exact List.map_inj_left.1 (law_ff W C ρ aR aS) _ h
  · exact List.map_inj_left.1 (law_ft W C ρ aR aS) _ h
  · exact List.map_inj_left.1 (law_tf W C ρ aR aS) _ h
  · exact List.map_inj_left.1 (law_tt W C ρ aR aS) _ h
end
end Go.Proofs.YtbhhdjlmbmeiaaaGreatDoor
