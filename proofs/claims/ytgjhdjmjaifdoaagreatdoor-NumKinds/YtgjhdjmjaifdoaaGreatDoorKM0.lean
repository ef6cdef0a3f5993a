import Derived.Test.YtgjhdjmjaifdoaaGreatDoorKN
import Derived.Test.YtgjhdjmjaifdoaaGreatDoorKK
namespace Go.Proofs.YtgjhdjmjaifdoaaGreatDoor
open Go Go.RX
open Go.RowKit (Below)
set_option maxRecDepth 1000000
noncomputable section
def tab15 : List Entry := [(4, [], .bool true)]
theorem tab15_ok (aR aS : Addr) : TabOk Tryz.prog (glob aR aS) tab15 := fun x hx w hG => by
  obtain rfl := List.mem_singleton.1 hx
  exact awake_ok aR aS w hG
def O15 : Orac := tabO (tab15 ++ tabK1 ++ tabK2)
theorem O15_holds (e : Env) (aR aS : Addr) : @Orac.holds e Tryz.prog (glob aR aS) O15 :=
  @tabO_holds e _ _ _ (app (app (tab15_ok aR aS) (tabK1_ok aR aS)) (tabK2_ok aR aS))
end

/-- What a run says of the law. -/
theorem law_of_run (e : Env) (hN : @NamesOk e Tryz.prog) {aR aS : Addr} {xs : List SVal} (h : (@call e Tryz.prog (glob aR aS) O15 300 60 (.fn 3) xs []).map (fun r => nrm r.1) = some (.v (.bool true)))
    (hx : nfL xs = true) {vs : Array Value} (hv : @denL e (fun _ => none) xs = some vs.toList) {w : World} (hG : (glob aR aS).holds w) :
    Calls Tryz.prog 3 vs w fun r w' => r = .returned (.bool true) ∧ Below w.heap.size w w' := by
  obtain ⟨v, h1, h2⟩ := @calls_of_run e Tryz.prog (glob aR aS) O15 (O15_holds e aR aS) hN mixed 300 60 3 xs (.v (.bool true)) h rfl (fun _ => none) vs hx hv w hG
  have : v = .bool true := by simpa [den] using h1.symm
  subst this
  exact h2

def cmp0 : BinOp → Int → Option Bool := fun _ _ => none
/-- Below 0. -/
def cmp1 : BinOp → Int → Option Bool := fun b c => if 0 ≤ c then (match b with
  | .lss | .leq | .neq => some true
  | .gtr | .geq | .eql => some false
  | _ => none) else none
/-- From 11 on. -/
def cmp2 : BinOp → Int → Option Bool := fun b c => if c ≤ 10 then (match b with
  | .gtr | .geq | .neq => some true
  | .lss | .leq | .eql => some false
  | _ => none) else if c = 11 then (match b with
  | .geq => some true
  | .lss => some false
  | _ => none) else none

theorem cmp0_ok (k : Int) : ∀ b c r, cmp0 b c = some r → isCmp b = true ∧ cmpI b k c = r := fun _ _ _ h => by cases h
theorem cmp1_ok {k : Int} (hk : k < 0) : ∀ b c r, cmp1 b c = some r → isCmp b = true ∧ cmpI b k c = r := fun b c r h => by
  unfold cmp1 at h
  split at h
  case isFalse => cases h
  cases b <;> simp only [Option.some.injEq, reduceCtorEq] at h <;> subst h <;> refine ⟨rfl, ?_⟩ <;> simp [cmpI] <;> omega
theorem cmp2_ok {k : Int} (hk : 11 ≤ k) : ∀ b c r, cmp2 b c = some r → isCmp b = true ∧ cmpI b k c = r := fun b c r h => by
  unfold cmp2 at h
  split at h
  · cases b <;> simp only [Option.some.injEq, reduceCtorEq] at h <;> subst h <;> refine ⟨rfl, ?_⟩ <;> simp [cmpI] <;> omega
  · split at h
    case isFalse => cases h
    rename_i hc
    subst hc
    cases b <;> simp only [Option.some.injEq, reduceCtorEq] at h <;> subst h <;> refine ⟨rfl, ?_⟩ <;> simp [cmpI] <;> omega
theorem empty_no : isName ⟨#[]⟩ = false := by kernel_rfl
abbrev Tr : Option SVal := some (.v (.bool true))
end Go.Proofs.YtgjhdjmjaifdoaaGreatDoor
