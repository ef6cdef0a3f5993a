import Derived.Test.YtedbnohkkepajaaGreatDoorKA
import Derived.Test.YtedbnohkkepajaaGreatDoorRXV
namespace Go.Proofs.YtedbnohkkepajaaGreatDoor
noncomputable section
open Go Go.RX
open Go.RowKit (Below)
set_option maxRecDepth 1000000

def nm0 : Nat → Value := fun _ => .bool false
theorem nm0_flat (i : Nat) : Flat (nm0 i) := trivial
def XT : List (FuncId × Nat) := [(97, 0), (98, 1)]
theorem xt_ok : ExtsOk Tryz.prog XT := fun p hp => by
  simp only [XT, List.mem_cons, List.not_mem_nil, or_false] at hp
  rcases hp with rfl | rfl
  · exact ⟨_, Tryz.func97, by kernel_rfl, by kernel_rfl, by kernel_rfl, by kernel_rfl⟩
  · exact ⟨_, Tryz.func98, by kernel_rfl, by kernel_rfl, by kernel_rfl, by kernel_rfl⟩
/-- The symbols: integers by expressions; K: what is known of comparisons; V: of expressions. -/
@[reducible] noncomputable def E (ρ : Nat → Int) (K : Know) (V : List (IE × Int)) : Env := envV Tryz.prog nm0 nm0_flat ρ K (extraM XT K) V
theorem namesE {ρ : Nat → Int} {K : Know} (h : K.ok ρ) {V : List (IE × Int)} (hV : ∀ p ∈ V, p.1.ev ρ = p.2) : @NamesOk (E ρ K V) Tryz.prog := namesOkV (namesOkS _ _ _ _ _ _ names1 h (extraM_ok _ _ _ _ _ _ h xt_ok)) hV
def rho (a b x y : Int) : Nat → Int := fun i => match i with
  | 0 => a
  | 1 => b
  | 2 => x
  | 3 => y
  | _ => 0
theorem rho_0 (a b c d : Int) : rho a b c d 0 = a := rfl
theorem rho_1 (a b c d : Int) : rho a b c d 1 = b := rfl
theorem rho_2 (a b c d : Int) : rho a b c d 2 = c := rfl
theorem rho_3 (a b c d : Int) : rho a b c d 3 = d := rfl
def Ret (v : Value) (w : World) : Ending → World → Prop := fun r w' => r = .returned v ∧ Below w.heap.size w w'
abbrev noO : Orac := fun _ _ => none
theorem calls_sym {ρ : Nat → Int} {L : List CF} (hL : ∀ f ∈ L, f.ok ρ) {aR aS : Addr} {T : List SEntry}
    (h : T.map (fun e => (@call (E ρ (knowL L) []) Tryz.prog (glob aR aS) noO 300 60 (.fn e.1) e.2.1 []).map fun r => nrm r.1) = T.map fun e => some e.2.2) {e : SEntry} (he : e ∈ T) (hx : nfL e.2.1 = true) (hy : nf e.2.2 = true)
    {vs : List Value} {v : Value} (hv : @denL (E ρ (knowL L) []) (fun _ => none) e.2.1 = some vs) (hd : @den (E ρ (knowL L) []) (fun _ => none) e.2.2 = some v) {w : World} (hG : (glob aR aS).holds w) : Calls Tryz.prog e.1 vs.toArray w (Ret v w) := by
  have h1 := List.map_inj_left.1 h e he
  obtain ⟨v', h2, h3⟩ := @calls_of_run (E ρ (knowL L) []) Tryz.prog (glob aR aS) noO (@noO_holds (E ρ (knowL L) []) _ _) (namesE (knowL_ok hL) (fun _ h => by cases h)) mixed 300 60 e.1 e.2.1 e.2.2 h1 hy (fun _ => none) vs.toArray hx (by simpa using hv) w hG
  rw [hd] at h2
  cases h2
  exact h3

/-- What Apply and the law's exact say of x and y. -/
def APx (aR aS : Addr) (o kind rk x y R N : Int) (told : Bool) : Prop := ∀ w, (glob aR aS).holds w →
  Calls Tryz.prog 5 #[.int .i64 o, .agg #[.int .i64 kind, .int .u64 (x % 256)], .agg #[.int .i64 kind, .int .u64 (y % 256)]] w (Ret (.tuple #[.agg #[.int .i64 rk, .int .u64 R], .int .i64 0]) w) ∧
  Calls Tryz.prog 7 #[.int .i64 o, .int .i64 x, .int .i64 y] w (Ret (.tuple #[.int .i64 N, .bool told]) w)
def clampI (o lo hi n : Int) : Int := if o = 18 ∨ o = 19 then min hi (max lo n) else n
def toldI (o y : Int) : Bool := if o = 16 then decide (y % 256 < 24) else decide (o ≤ 12) || decide (18 ≤ o ∧ o ≤ 21)
/-- Both are right, and agree. -/
def Good (aR aS : Addr) (o kind rk lo hi x y : Int) : Prop := ∃ R N, APx aR aS o kind rk x y R N (toldI o y) ∧ (toldI o y = true → R = clampI o lo hi N % 256)
end
end Go.Proofs.YtedbnohkkepajaaGreatDoor
