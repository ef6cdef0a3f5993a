import Derived.Test.YtljmnbkjhgnaiaaGreatDoorKA
import Derived.Test.YtljmnbkjhgnaiaaGreatDoorRXA
namespace Go.Proofs.YtljmnbkjhgnaiaaGreatDoor
noncomputable section
open Go Go.RX
open Go.RowKit (Below)
set_option maxRecDepth 1000000

def nm0 : Nat → Value := fun _ => .bool false
theorem nm0_flat (i : Nat) : Flat (nm0 i) := trivial
def noX : Op → List SVal → Option SVal := fun _ _ => none
/-- The symbols: integers by expressions; L: what is known of comparisons. -/
@[reducible] noncomputable def E (ρ : Nat → Int) (L : List CF) : Env := envS Tryz.prog nm0 nm0_flat ρ (knowL L) noX
theorem namesE {ρ : Nat → Int} {L : List CF} (h : ∀ f ∈ L, f.ok ρ) : @NamesOk (E ρ L) Tryz.prog := namesOkS _ _ _ _ _ _ names1 (knowL_ok h) (noExtra_ok _ _ _ _ _)
def rho (a b c d e f : Int) : Nat → Int := fun i => match i with
  | 0 => a
  | 1 => b
  | 2 => c
  | 3 => d
  | 4 => e
  | 5 => f
  | _ => 0
theorem rho_0 (a b c d e f : Int) : rho a b c d e f 0 = a := rfl
theorem rho_1 (a b c d e f : Int) : rho a b c d e f 1 = b := rfl
theorem rho_2 (a b c d e f : Int) : rho a b c d e f 2 = c := rfl
theorem rho_3 (a b c d e f : Int) : rho a b c d e f 3 = d := rfl
def Ret (v : Value) (w : World) : Ending → World → Prop := fun r w' => r = .returned v ∧ Below w.heap.size w w'
abbrev noO : Orac := fun _ _ => none

theorem calls_sym {ρ : Nat → Int} {L : List CF} (hL : ∀ f ∈ L, f.ok ρ) {aR aS : Addr} {O : Orac} (hO : @Orac.holds (E ρ L) Tryz.prog (glob aR aS) O) {T : List SEntry}
    (h : T.map (fun e => (@call (E ρ L) Tryz.prog (glob aR aS) O 300 60 (.fn e.1) e.2.1 []).map fun r => nrm r.1) = T.map fun e => some e.2.2) {e : SEntry} (he : e ∈ T) (hx : nfL e.2.1 = true) (hy : nf e.2.2 = true)
    {vs : List Value} {v : Value} (hv : @denL (E ρ L) (fun _ => none) e.2.1 = some vs) (hd : @den (E ρ L) (fun _ => none) e.2.2 = some v) {w : World} (hG : (glob aR aS).holds w) : Calls Tryz.prog e.1 vs.toArray w (Ret v w) := by
  have h1 := List.map_inj_left.1 h e he
  obtain ⟨v', h2, h3⟩ := @calls_of_run (E ρ L) Tryz.prog (glob aR aS) O hO (namesE hL) mixed 300 60 e.1 e.2.1 e.2.2 h1 hy (fun _ => none) vs.toArray hx (by simpa using hv) w hG
  rw [hd] at h2
  cases h2
  exact h3
theorem noO_ok (ρ : Nat → Int) (L : List CF) (aR aS : Addr) : @Orac.holds (E ρ L) Tryz.prog (glob aR aS) noO := @noO_holds (E ρ L) _ _

/-- What the functions say of a value: its error B, and the integer K with the error X. -/
def VIs (aR aS : Addr) (vk b B X K : Int) : Prop := ∀ w, (glob aR aS).holds w →
  Calls Tryz.prog 5 #[.agg #[.int .i64 vk, .int .u64 b]] w (Ret (.int .i64 B) w) ∧ Calls Tryz.prog 8 #[.agg #[.int .i64 vk, .int .u64 b]] w (Ret (.int .i64 B) w) ∧
  Calls Tryz.prog 6 #[.agg #[.int .i64 vk, .int .u64 b]] w (Ret (.tuple #[.int .i64 K, .int .i64 X]) w) ∧ (B = 0 → Calls Tryz.prog 7 #[.agg #[.int .i64 vk, .int .u64 b]] w (Ret (.tuple #[.int .i64 K, .int .i64 X]) w))
def v00 : Value := .agg #[.int .i64 0, .int .u64 0]
def WErr (aR aS : Addr) (k n : Int) : Prop := ∀ w, (glob aR aS).holds w → Calls Tryz.prog 9 #[.int .i64 k, .int .i64 n] w (Ret (.tuple #[v00, .int .i64 11]) w) ∧ Calls Tryz.prog 10 #[.int .i64 k] w (Ret (.int .i64 11) w)
def WTyp (aR aS : Addr) (k n : Int) : Prop := ∀ w, (glob aR aS).holds w → Calls Tryz.prog 9 #[.int .i64 k, .int .i64 n] w (Ret (.tuple #[v00, .int .i64 12]) w) ∧ Calls Tryz.prog 10 #[.int .i64 k] w (Ret (.int .i64 0) w)
def WOk (aR aS : Addr) (k n W : Int) : Prop := ∀ w, (glob aR aS).holds w → Calls Tryz.prog 9 #[.int .i64 k, .int .i64 n] w (Ret (.tuple #[.agg #[.int .i64 k, .int .u64 W], .int .i64 0]) w) ∧ Calls Tryz.prog 10 #[.int .i64 k] w (Ret (.int .i64 0) w) ∧
  Calls Tryz.prog 11 #[.int .i64 k, .int .i64 n] w (Ret (.agg #[.int .i64 k, .int .u64 W]) w)
end
end Go.Proofs.YtljmnbkjhgnaiaaGreatDoor
