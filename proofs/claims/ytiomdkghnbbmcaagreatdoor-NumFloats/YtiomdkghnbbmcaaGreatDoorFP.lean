import Derived.Test.YtiomdkghnbbmcaaGreatDoorFG
import Derived.Test.YtiomdkghnbbmcaaGreatDoorRXA
namespace Go.Proofs.YtiomdkghnbbmcaaGreatDoor
noncomputable section
open Go Go.RX
open Go.RowKit (Below)
set_option maxRecDepth 1000000
set_option maxHeartbeats 4000000

/-- What the functions say of a value: its error B, the float, the complex number and their errors. -/
def VF (aR aS : Addr) (vk b B : Int) (fv : Value) (fe : Int) (cv : Value) (ce : Int) : Prop := ∀ w, (glob aR aS).holds w →
  Calls Tryz.prog 5 #[.agg #[.int .i64 vk, .int .u64 b]] w (Ret (.int .i64 B) w) ∧ Calls Tryz.prog 6 #[.agg #[.int .i64 vk, .int .u64 b]] w (Ret (.tuple #[fv, .int .i64 fe]) w) ∧
  Calls Tryz.prog 7 #[.agg #[.int .i64 vk, .int .u64 b]] w (Ret (.tuple #[cv, .int .i64 ce]) w)
def W2 (x y : Nat) : Nat → Nat := fun i => match i with
  | 0 => x
  | _ => y
def C1 (x y : Nat) : Nat → Nat × Nat := fun _ => (x, y)
def noU : List SEntry := []
theorem noU_ok {W : Nat → Nat} {C : Nat → Nat × Nat} {ρ : Nat → Int} {L : List CF} {T : List XE} (aR aS : Addr) : ∀ e ∈ noU, @SOk (E W C ρ L T) Tryz.prog (glob aR aS) e := fun _ h => by cases h
noncomputable def T_o : List XE := []
noncomputable def T_b : List XE := []
noncomputable def T_f : List XE := [(kVal, [.v (.func (.func 61) #[] #[]), .sym (.int .u32 (.cv .u32 (.var 0)))], .sym (.nm 0))]
noncomputable def T_c : List XE := [(kVal, [.v (.func (.func 61) #[] #[]), .sym (.int .u32 (.cv .u32 (.var 0)))], .sym (.nm 0)), (kVal, [.v (.func (.func 61) #[] #[]), .sym (.int .u32 (.cv .u32 (.sh .shr .u64 (.var 0) (.lit 32))))], .sym (.nm 1)), (kCall .complex, [.sym (.nm 0), .sym (.nm 1)], .sym (.nm 20))]
theorem xf_o (W : Nat → Nat) (C : Nat → Nat × Nat) (ρ : Nat → Int) : XF W C ρ T_o := fun _ h => by cases h
theorem xf_b (W : Nat → Nat) (C : Nat → Nat × Nat) (ρ : Nat → Int) : XF W C ρ T_b := fun _ h => by cases h
theorem xf_f {b vk : Int} (hb0 : 0 ≤ b) (hb1 : b < 4294967296) : XF (W2 b.toNat 0) (C1 0 0) (rho b 0 vk 0 0 0) T_f := fun x hx => by
  obtain rfl := List.mem_singleton.1 hx
  refine xok_from ext_from (e := .cv .u32 (.var 0)) (c := b.toNat) rfl rfl ?_
  show IntKind.wrap .u32 b = _
  rw [wrap_u32]
  omega
theorem xf_c {b vk : Int} (hb0 : 0 ≤ b) (hb1 : b < 18446744073709551616) : XF (W2 (b % 4294967296).toNat (b / 4294967296).toNat) (C1 (b % 4294967296).toNat (b / 4294967296).toNat) (rho b 0 vk 0 0 0) T_c := fun x hx => by
  simp only [T_c, List.mem_cons, List.not_mem_nil, or_false] at hx
  rcases hx with rfl | rfl | rfl
  · refine xok_from ext_from (e := .cv .u32 (.var 0)) (c := (b % 4294967296).toNat) rfl rfl ?_
    show IntKind.wrap .u32 b = _
    rw [wrap_u32]
    omega
  · refine xok_from ext_from (e := .cv .u32 (.sh .shr .u64 (.var 0) (.lit 32))) (c := (b / 4294967296).toNat) rfl rfl ?_
    simp (disch := omega) only [IE.ev, rho_0, shr_u64_32, wrap_u32]
    omega
  · exact xok_complex (a := (b % 4294967296).toNat) (b := (b / 4294967296).toNat) rfl rfl rfl
end
end Go.Proofs.YtiomdkghnbbmcaaGreatDoor
