import Derived.Test.YtonkcpmefnddaaaGreatDoorFG
import Derived.Test.YtonkcpmefnddaaaGreatDoorRXK
import Derived.Test.YtonkcpmefnddaaaGreatDoorRXA
namespace Go.Proofs.YtonkcpmefnddaaaGreatDoor
noncomputable section
open Go Go.RX
open Go.RowKit (Below)
set_option maxRecDepth 1000000
set_option maxHeartbeats 4000000

theorem ext_trunc : ExtF Tryz.prog 146 (Extern.MathFloor.toIntegral "math.archTrunc" .zero) := ⟨_, Tryz.func146, by kernel_rfl, by kernel_rfl, by kernel_rfl, by kernel_rfl⟩
/-- The high half of an integer. -/
def hiI (n : Int) : Int := if n < 0 then 18446744073709551615 else 0
def loI (n : Int) : Int := n % 18446744073709551616
theorem hiI_neg {n : Int} (h : n < 0) : hiI n = 18446744073709551615 := if_pos h
theorem hiI_pos {n : Int} (h : 0 ≤ n) : hiI n = 0 := if_neg (by omega)
abbrev agV (k b : Int) : Value := .agg #[.int .i64 k, .int .u64 b]
/-- The error of a value. -/
def Chk (aR aS : Addr) (vk b B : Int) : Prop := ∀ w, (glob aR aS).holds w → Calls Tryz.prog 35 #[agV vk b] w (Ret (.int .i64 B) w) ∧ Calls Tryz.prog 25 #[agV vk b] w (Ret (.int .i64 B) w)
/-- The number of a value. -/
def IntV (aR aS : Addr) (vk b n : Int) : Prop := ∀ w, (glob aR aS).holds w → Calls Tryz.prog 33 #[agV vk b] w (Ret (.agg #[.int .u64 (hiI n), .int .u64 (loI n)]) w) ∧ Calls Tryz.prog 126 #[agV vk b] w (Ret (.int .i64 (IntKind.wrap .i64 n)) w)
/-- Two functions of a kind and a value agree. -/
def Agree (aR aS : Addr) (f g : FuncId) (k vk b : Int) : Prop := ∃ K B e : Int, ∀ w, (glob aR aS).holds w → Calls Tryz.prog f #[.int .i64 k, agV vk b] w (Ret (.tuple #[agV K B, .int .i64 e]) w) ∧ Calls Tryz.prog g #[.int .i64 k, agV vk b] w (Ret (.tuple #[agV K B, .int .i64 e]) w)

/-- Symbols: 0 the bits, 2, 3 the halves of the number, 4 the number, 5 a further word, 6 an error, 7 the kind, 1 the other kind; 8 an integer. -/
def rc (b n F e vk k t : Int) : Nat → Int := fun i => match i with
  | 0 => b
  | 1 => k
  | 2 => hiI n
  | 3 => loI n
  | 4 => IntKind.wrap .i64 n
  | 5 => F
  | 6 => e
  | 7 => vk
  | 8 => t
  | _ => 0
section
variable (b n F e vk k t : Int)
theorem rc_0 : rc b n F e vk k t 0 = b := rfl
theorem rc_1 : rc b n F e vk k t 1 = k := rfl
theorem rc_2 : rc b n F e vk k t 2 = hiI n := rfl
theorem rc_3 : rc b n F e vk k t 3 = loI n := rfl
theorem rc_4 : rc b n F e vk k t 4 = IntKind.wrap .i64 n := rfl
theorem rc_5 : rc b n F e vk k t 5 = F := rfl
theorem rc_6 : rc b n F e vk k t 6 = e := rfl
theorem rc_7 : rc b n F e vk k t 7 = vk := rfl
theorem rc_8 : rc b n F e vk k t 8 = t := rfl
end
def wF (F : Nat) : Nat → Nat := fun _ => F
def cF (F : Nat) : Nat → Nat × Nat := fun i => if i = 40 then (conv64 F, 0) else if i = 41 then (trunc64 F, 0) else (F, 0)

abbrev runE (W : Nat → Nat) (C : Nat → Nat × Nat) (ρ : Nat → Int) (aR aS : Addr) (L : List CF) (T : List XE) (U : List SEntry) (J : List SEntry) : Prop := J.map (fun e => (@call (E W C ρ L T) Tryz.prog (glob aR aS) (tabS U) 300 60 (.fn e.1) e.2.1 []).map fun r => nrm r.1) = J.map fun e => some e.2.2
/-- Two functions, run at the same symbols. -/
theorem pair_of {W : Nat → Nat} {C : Nat → Nat × Nat} {ρ : Nat → Int} {L : List CF} {T : List XE} (hL : ∀ f ∈ L, f.ok ρ) (hT : XF W C ρ T) {aR aS : Addr} {U : List SEntry} (hU : ∀ e ∈ U, @SOk (E W C ρ L T) Tryz.prog (glob aR aS) e) {f g : FuncId} {xs : List SVal} {r1 r2 : SVal}
    (h : runE W C ρ aR aS L T U [(f, xs, r1), (g, xs, r2)]) (hx : nfL xs = true) (h1 : nf r1 = true) (h2 : nf r2 = true) {vs : List Value} {v v' : Value} (hv : @denL (E W C ρ L T) (fun _ => none) xs = some vs)
    (d1 : @den (E W C ρ L T) (fun _ => none) r1 = some v) (d2 : @den (E W C ρ L T) (fun _ => none) r2 = some v') (w : World) (hG : (glob aR aS).holds w) : Calls Tryz.prog f vs.toArray w (Ret v w) ∧ Calls Tryz.prog g vs.toArray w (Ret v' w) :=
  ⟨calls_symF hL hT hU h List.mem_cons_self hx h1 hv d1 hG, calls_symF hL hT hU h (List.mem_cons_of_mem _ List.mem_cons_self) hx h2 hv d2 hG⟩
end
end Go.Proofs.YtonkcpmefnddaaaGreatDoor
