import Derived.Test.YthlbienfimdkbaaGreatDoorKHZ
import Derived.Test.YthlbienfimdkbaaGreatDoorKF0
import Derived.Test.YthlbienfimdkbaaGreatDoorRXWd
namespace Go.Proofs.YthlbienfimdkbaaGreatDoor
open Go Go.RX
open Go.RowKit (Below)
set_option maxRecDepth 1000000
set_option maxHeartbeats 4000000
noncomputable section
/-! ### The law: an Op and a tail that are numbers or out of their ranges, a string that is one of the words or none -/
noncomputable def words : List ByteArray := [⟨#[115, 112, 108, 105, 116]⟩, ⟨#[102, 117, 115, 101]⟩, ⟨#[114, 101, 111, 114, 100, 101, 114]⟩, ⟨#[114, 101, 110, 97, 109, 101]⟩, ⟨#[117, 110, 114, 111, 108, 108]⟩, ⟨#[118, 101, 99, 116, 111, 114, 105, 122, 101]⟩, ⟨#[112, 97, 114, 97, 108, 108, 101, 108]⟩, ⟨#[98, 108, 111, 99, 107, 115]⟩, ⟨#[116, 104, 114, 101, 97, 100, 115]⟩, ⟨#[99, 111, 109, 112, 117, 116, 101, 95, 114, 111, 111, 116]⟩, ⟨#[99, 111, 109, 112, 117, 116, 101, 95, 97, 116]⟩, ⟨#[115, 116, 111, 114, 101, 95, 114, 111, 111, 116]⟩, ⟨#[115, 116, 111, 114, 101, 95, 97, 116]⟩, ⟨#[102, 111, 108, 100]⟩, ⟨#[98, 111, 117, 110, 100]⟩, ⟨#[109, 101, 109, 111, 105, 122, 101]⟩]
theorem empty_no : isWord words ⟨#[]⟩ = false := by kernel_rfl
noncomputable def nmW (s : ByteArray) : Nat → Value := fun i => match i with
  | 0 => .string s
  | _ => .bool false
theorem nmW_flat (s : ByteArray) : ∀ i, Flat (nmW s i) := fun i => by
  unfold nmW
  split <;> trivial
@[reducible] noncomputable def EW (s : ByteArray) (hn : isWord words s = false) (ρ : Nat → Int) (A B C : List CF) : Env := envW Tryz.prog words (nmW s) (nmW_flat s) ρ (know3 A B C) (extraN Tryz.prog words 2 (fun _ _ => none)) (rfl : nmW s 0 = .string s) hn
theorem namesW {s : ByteArray} {hn : isWord words s = false} {ρ : Nat → Int} {A B C : List CF} (h : ρ 2 = s.size) (hA : ∀ f ∈ A, f.ok ρ) (hB : ∀ f ∈ B, f.ok ρ) (hC : ∀ f ∈ C, f.ok ρ) : @NamesOk (EW s hn ρ A B C) Tryz.prog :=
  namesOkW rfl hn (namesOkS _ _ _ _ _ _ names1 (know3_ok hA hB hC) (extraN_ok rfl hn h (noExtra_ok _ _ _ _ _)))
noncomputable def U0 : List Entry := (4, [], .bool true) :: u_kf2
theorem U0_ok (aR aS : Addr) : TabOk Tryz.prog (glob aR aS) U0 := fun x hx w hG => by
  rcases List.mem_cons.1 hx with rfl | hx
  · exact awake_ok aR aS w hG
  · exact ok_kf2 aR aS x hx w hG
def nW : HEntry := ⟨9, [], [], .slice 0 0 16 16, [.cells [.v (.string ⟨#[115, 112, 108, 105, 116]⟩), .v (.string ⟨#[102, 117, 115, 101]⟩), .v (.string ⟨#[114, 101, 111, 114, 100, 101, 114]⟩), .v (.string ⟨#[114, 101, 110, 97, 109, 101]⟩), .v (.string ⟨#[117, 110, 114, 111, 108, 108]⟩), .v (.string ⟨#[118, 101, 99, 116, 111, 114, 105, 122, 101]⟩), .v (.string ⟨#[112, 97, 114, 97, 108, 108, 101, 108]⟩), .v (.string ⟨#[98, 108, 111, 99, 107, 115]⟩), .v (.string ⟨#[116, 104, 114, 101, 97, 100, 115]⟩), .v (.string ⟨#[99, 111, 109, 112, 117, 116, 101, 95, 114, 111, 111, 116]⟩), .v (.string ⟨#[99, 111, 109, 112, 117, 116, 101, 95, 97, 116]⟩), .v (.string ⟨#[115, 116, 111, 114, 101, 95, 114, 111, 111, 116]⟩), .v (.string ⟨#[115, 116, 111, 114, 101, 95, 97, 116]⟩), .v (.string ⟨#[102, 111, 108, 100]⟩), .v (.string ⟨#[98, 111, 117, 110, 100]⟩), .v (.string ⟨#[109, 101, 109, 111, 105, 122, 101]⟩)] 9 (0, 0)]⟩
def nT : HEntry := ⟨10, [], [], .slice 0 0 4 4, [.cells [.v (.string ⟨#[114, 111, 117, 110, 100, 95, 117, 112]⟩), .v (.string ⟨#[103, 117, 97, 114, 100]⟩), .v (.string ⟨#[115, 104, 105, 102, 116]⟩), .v (.string ⟨#[101, 120, 97, 99, 116]⟩)] 9 (0, 0)]⟩
theorem runNW (s : ByteArray) (hn : isWord words s = false) (ρ : Nat → Int) (A B C : List CF) (aR aS : Addr) : @callH (EW s hn ρ A B C) Tryz.prog (glob aR aS) (fun _ _ _ => none) nW.f nW.xs (put nW.H []) = some (nW.x, put nW.H' []) := by kernel_rfl
theorem runNT (s : ByteArray) (hn : isWord words s = false) (ρ : Nat → Int) (A B C : List CF) (aR aS : Addr) : @callH (EW s hn ρ A B C) Tryz.prog (glob aR aS) (fun _ _ _ => none) nT.f nT.xs (put nT.H []) = some (nT.x, put nT.H' []) := by kernel_rfl
noncomputable def OW : Orac := orO (tabO U0) (tabH [nW, nT])
theorem OW_holds {s : ByteArray} {hn : isWord words s = false} {ρ : Nat → Int} {A B C : List CF} (h : ρ 2 = s.size) (hA : ∀ f ∈ A, f.ok ρ) (hB : ∀ f ∈ B, f.ok ρ) (hC : ∀ f ∈ C, f.ok ρ) (aR aS : Addr) : @Orac.holds (EW s hn ρ A B C) Tryz.prog (glob aR aS) OW :=
  @orO_holds (EW s hn ρ A B C) _ _ _ _ (@tabO_holds (EW s hn ρ A B C) _ _ _ (U0_ok aR aS)) (@tabH_holds (EW s hn ρ A B C) _ _ _ fun e he => by
    rcases List.mem_cons.1 he with rfl | he
    · exact @hOk_of_run' (EW s hn ρ A B C) _ _ _ (@noO_holds (EW s hn ρ A B C) _ _) (namesW h hA hB hC) mixed _ (fun cs hc => by
        obtain rfl := lc0 (hc.trans (by kernel_rfl : (lcs nW.H).length = 0))
        exact runNW s hn ρ A B C aR aS)
    rcases List.mem_cons.1 he with rfl | he
    · exact @hOk_of_run' (EW s hn ρ A B C) _ _ _ (@noO_holds (EW s hn ρ A B C) _ _) (namesW h hA hB hC) mixed _ (fun cs hc => by
        obtain rfl := lc0 (hc.trans (by kernel_rfl : (lcs nT.H).length = 0))
        exact runNT s hn ρ A B C aR aS)
    · cases he)
abbrev si (i : Nat) : SVal := .sym (.int .i64 (.var i))
/-- An argument, and what is known of its symbol. -/
abbrev Pt := SVal × List CF
noncomputable def opLow : List CF := [⟨.geq, .var 0, .lit 0, false⟩]
noncomputable def opHigh : List CF := [⟨.geq, .var 0, .lit 0, true⟩, ⟨.lss, .var 0, .lit 16, false⟩]
noncomputable def tlLow : List CF := [⟨.lss, .var 1, .lit 0, true⟩, ⟨.geq, .var 1, .lit 0, false⟩]
noncomputable def tlHigh : List CF := [⟨.lss, .var 1, .lit 0, false⟩, ⟨.geq, .var 1, .lit 4, true⟩, ⟨.geq, .var 1, .lit 0, true⟩, ⟨.lss, .var 1, .lit 4, false⟩]
noncomputable def lnLow : List CF := [⟨.gtr, .var 2, .lit 60, false⟩]
noncomputable def lnHigh : List CF := [⟨.gtr, .var 2, .lit 60, true⟩]
abbrev opC (c : Nat) : Pt := (.v (.int .i64 c), [])
noncomputable def ops : List Pt := (List.range 16).map (fun c => (.v (.int .i64 c), [])) ++ [(si 0, opLow), (si 0, opHigh)]
noncomputable def tails : List Pt := (List.range 4).map (fun c => (.v (.int .i64 c), [])) ++ [(si 1, tlLow), (si 1, tlHigh)]
noncomputable def strs : List Pt := words.map fun s => (.v (.string s), [])
abbrev Tr : Option SVal := some (.v (.bool true))
/-! The body in pieces. -/
theorem bodyW : Tryz.f3.body.isSome = true := by kernel_rfl
noncomputable def cW : Code := Tryz.f3.body.get bodyW
noncomputable abbrev cfW (s : ByteArray) (hn : isWord words s = false) (ρ : Nat → Int) (A B C : List CF) (aR aS : Addr) : CallF := @call (EW s hn ρ A B C) Tryz.prog (glob aR aS) OW 300 59
/-- The pieces from a on, n of them. -/
noncomputable def R (s : ByteArray) (hn : isWord words s = false) (ρ : Nat → Int) (A B C : List CF) (aR aS : Addr) (l : List Code) (g : Nat → SVal) (H : SHeap) : Option (SEx × Sx) :=
  @runSegs (EW s hn ρ A B C) Tryz.prog (glob aR aS) (cfW s hn ρ A B C aR aS) 300 none l ((mkT 107 g, H), [])
abbrev N (g : Nat → SVal) (H : SHeap) : Option (SEx × Sx) := some (.normal, ((mkT 107 g, H), []))
end
end Go.Proofs.YthlbienfimdkbaaGreatDoor
