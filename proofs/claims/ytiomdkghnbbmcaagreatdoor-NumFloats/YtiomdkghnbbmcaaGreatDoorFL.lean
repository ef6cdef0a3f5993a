import Derived.Test.YtiomdkghnbbmcaaGreatDoorFV
namespace Go.Proofs.YtiomdkghnbbmcaaGreatDoor
noncomputable section
open Go Go.RX
open Go.RowKit (Below)
set_option maxRecDepth 1000000
set_option maxHeartbeats 4000000

/-! ### The law -/
def wl (b x y lo hi : Nat) : Nat → Nat := fun i => match i with
  | 0 => b
  | 1 => x
  | 2 => y
  | 3 => lo
  | _ => hi
def cl (x y lo hi : Nat) : Nat → Nat × Nat := fun i => if i = 20 then (lo, hi) else (x, y)
def aggV : SVal := .agg [.sym (.int .i64 (.var 0)), .sym (.int .u64 (.var 1))]
def xsL : List SVal := [aggV, .sym (.nm 1), .sym (.nm 2)]
def UA : SEntry := (4, [], .v (.bool true))
def Uo (B e : Int) : List SEntry := [(5, [aggV], .v (.int .i64 B)), (6, [aggV], .v (.tuple #[.float .f32 0, .int .i64 e])), (7, [aggV], .v (.tuple #[.complex .f32 0 0, .int .i64 e]))]
def Uf : List SEntry := [(5, [aggV], .v (.int .i64 0)), (6, [aggV], .tuple [.sym (.nm 0), .v (.int .i64 0)]), (7, [aggV], .v (.tuple #[.complex .f32 0 0, .int .i64 12])),
  (32, [.sym (.int .u64 (.var 1))], .sym (.nm 0))]
def Uc : List SEntry := [(5, [aggV], .v (.int .i64 0)), (6, [aggV], .v (.tuple #[.float .f32 0, .int .i64 12])), (7, [aggV], .tuple [.sym (.nm 20), .v (.int .i64 0)]),
  (32, [.sym (.int .u64 (.bin .rem .u64 (.var 1) (.lit 4294967296)))], .sym (.nm 3)), (32, [.sym (.int .u64 (.bin .quo .u64 (.var 1) (.lit 4294967296)))], .sym (.nm 4))]
def Ux (i : Nat) (nan : Bool) : List SEntry := if nan then [] else [(33, [.sym (.nm i)], .agg [.v (.int .i64 9), .sym (.int .u64 (.var (i + 1)))]), (14, [.sym (.nm i)], .agg [.v (.int .i64 9), .sym (.int .u64 (.var (i + 1)))])]
def tf : List XE := [(kBin .neq, [.sym (.nm 0), .sym (.nm 0)], .v (.bool false))]
def tc : List XE := [(kCall .complex, [.sym (.nm 3), .sym (.nm 4)], .sym (.nm 20)), (kBin .neq, [.sym (.nm 20), .sym (.nm 20)], .v (.bool false))]
def txy (p : Bool × Bool) : List XE := [(kBin .neq, [.sym (.nm 1), .sym (.nm 1)], .v (.bool p.1)), (kBin .neq, [.sym (.nm 2), .sym (.nm 2)], .v (.bool p.2)), (kCall .complex, [.sym (.nm 1), .sym (.nm 2)], .sym (.nm 21)), (kCall .real, [.sym (.nm 21)], .sym (.nm 1)), (kCall .imag, [.sym (.nm 21)], .sym (.nm 2))]
def LL (k : Bool × Bool) : List CF := [⟨.neq, .var 0, .lit 9, k.1⟩, ⟨.neq, .var 0, .lit 10, k.2⟩, ⟨.eql, .bin .or .u64 (.var 2) (.sh .shl .u64 (.var 3) (.lit 32)), .bin .add .u64 (.var 2) (.bin .mul .u64 (.var 3) (.lit 4294967296)), true⟩]
def combos : List (Bool × Bool) := [(true, true), (true, false), (false, true), (false, false)]
def UL (U : List SEntry) (p : Bool × Bool) : List SEntry := UA :: (U ++ (Ux 1 p.1 ++ Ux 2 p.2))
noncomputable def lawR (W : Nat → Nat) (C : Nat → Nat × Nat) (ρ : Nat → Int) (aR aS : Addr) (U : List SEntry) (T : List XE) (k p : Bool × Bool) : Option SVal := (@call (E W C ρ (LL k) (T ++ txy p)) Tryz.prog (glob aR aS) (tabS (UL U p)) 300 60 (.fn 3) xsL []).map (fun r => nrm r.1)
def kinds : List (Bool × Bool) := [(true, true), (false, true), (true, false)]
theorem law_e (W : Nat → Nat) (C : Nat → Nat × Nat) (ρ : Nat → Int) (aR aS : Addr) : kinds.map (fun k => combos.map (lawR W C ρ aR aS (Uo 11 11) [] k)) = kinds.map fun _ => combos.map fun _ => some (.v (.bool true)) := by kernel_rfl
theorem law_b (W : Nat → Nat) (C : Nat → Nat × Nat) (ρ : Nat → Int) (aR aS : Addr) : kinds.map (fun k => combos.map (lawR W C ρ aR aS (Uo 1 1) [] k)) = kinds.map fun _ => combos.map fun _ => some (.v (.bool true)) := by kernel_rfl
theorem law_o (W : Nat → Nat) (C : Nat → Nat × Nat) (ρ : Nat → Int) (aR aS : Addr) : combos.map (lawR W C ρ aR aS (Uo 0 12) [] (true, true)) = combos.map fun _ => some (.v (.bool true)) := by kernel_rfl
theorem law_f (W : Nat → Nat) (C : Nat → Nat × Nat) (ρ : Nat → Int) (aR aS : Addr) : combos.map (lawR W C ρ aR aS Uf tf (false, true)) = combos.map fun _ => some (.v (.bool true)) := by kernel_rfl
theorem law_c (W : Nat → Nat) (C : Nat → Nat × Nat) (ρ : Nat → Int) (aR aS : Addr) : combos.map (lawR W C ρ aR aS Uc tc (true, false)) = combos.map fun _ => some (.v (.bool true)) := by kernel_rfl
end
end Go.Proofs.YtiomdkghnbbmcaaGreatDoor
