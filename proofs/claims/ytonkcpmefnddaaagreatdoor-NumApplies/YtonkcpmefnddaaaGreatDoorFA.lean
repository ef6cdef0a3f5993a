import Derived.Test.YtonkcpmefnddaaaGreatDoorKA
import Derived.Test.YtonkcpmefnddaaaGreatDoorRXH
import Derived.Test.YtonkcpmefnddaaaGreatDoorRXW
namespace Go.Proofs.YtonkcpmefnddaaaGreatDoor
noncomputable section
open Go Go.RX
open Go.RowKit (Below)
set_option maxRecDepth 1000000

/-- The names: below 20 floats by their words, below 40 complex numbers, the others floats of 64 bits. -/
def nmF (W : Nat → Nat) (C : Nat → Nat × Nat) (i : Nat) : Value := if i < 20 then .float .f32 (W i) else if i < 40 then .complex .f32 (C i).1 (C i).2 else .float .f64 (C i).1
theorem nmF_flat (W : Nat → Nat) (C : Nat → Nat × Nat) (i : Nat) : Flat (nmF W C i) := by
  unfold nmF
  (repeat' split) <;> trivial
def XT : List (FuncId × Nat) := [(121, 0), (122, 1)]
theorem xt_ok : ExtsOk Tryz.prog XT := fun p hp => by
  simp only [XT, List.mem_cons, List.not_mem_nil, or_false] at hp
  rcases hp with rfl | rfl
  · exact ⟨_, Tryz.func121, by kernel_rfl, by kernel_rfl, by kernel_rfl, by kernel_rfl⟩
  · exact ⟨_, Tryz.func122, by kernel_rfl, by kernel_rfl, by kernel_rfl, by kernel_rfl⟩
theorem ext_from : ExtF Tryz.prog 89 Extern.MathFloatBits.float32frombits := ⟨_, Tryz.func89, by kernel_rfl, by kernel_rfl, by kernel_rfl, by kernel_rfl⟩
theorem ext_bits : ExtF Tryz.prog 87 Extern.MathFloatBits.float32bits := ⟨_, Tryz.func87, by kernel_rfl, by kernel_rfl, by kernel_rfl, by kernel_rfl⟩
/-- The symbols: integers by expressions; L: what is known of comparisons; T: what is known of operations on floats. -/
@[reducible] noncomputable def E (W : Nat → Nat) (C : Nat → Nat × Nat) (ρ : Nat → Int) (L : List CF) (T : List XE) : Env := envV Tryz.prog (nmF W C) (nmF_flat W C) ρ (knowL L) (extraT T (extraM XT (knowL L))) []
abbrev XF (W : Nat → Nat) (C : Nat → Nat × Nat) (ρ : Nat → Int) (T : List XE) : Prop := ∀ e ∈ T, XOk Tryz.prog (nmF W C) (nmF_flat W C) ρ e
theorem namesE {W : Nat → Nat} {C : Nat → Nat × Nat} {ρ : Nat → Int} {L : List CF} {T : List XE} (h : ∀ f ∈ L, f.ok ρ) (hT : XF W C ρ T) : @NamesOk (E W C ρ L T) Tryz.prog :=
  namesOkV (namesOkS _ _ _ _ _ _ names1 (knowL_ok h) (extraT_ok hT (extraM_ok _ _ _ _ _ _ (knowL_ok h) xt_ok))) (fun _ h => by cases h)
def Ret (v : Value) (w : World) : Ending → World → Prop := fun r w' => r = .returned v ∧ Below w.heap.size w w'
abbrev noO : Orac := fun _ _ => none
theorem calls_symF {W : Nat → Nat} {C : Nat → Nat × Nat} {ρ : Nat → Int} {L : List CF} {T : List XE} (hL : ∀ f ∈ L, f.ok ρ) (hT : XF W C ρ T) {aR aS : Addr} {U : List SEntry} (hU : ∀ e ∈ U, @SOk (E W C ρ L T) Tryz.prog (glob aR aS) e) {J : List SEntry}
    (h : J.map (fun e => (@call (E W C ρ L T) Tryz.prog (glob aR aS) (tabS U) 300 60 (.fn e.1) e.2.1 []).map fun r => nrm r.1) = J.map fun e => some e.2.2) {e : SEntry} (he : e ∈ J) (hx : nfL e.2.1 = true) (hy : nf e.2.2 = true)
    {vs : List Value} {v : Value} (hv : @denL (E W C ρ L T) (fun _ => none) e.2.1 = some vs) (hd : @den (E W C ρ L T) (fun _ => none) e.2.2 = some v) {w : World} (hG : (glob aR aS).holds w) : Calls Tryz.prog e.1 vs.toArray w (Ret v w) := by
  have h1 := List.map_inj_left.1 h e he
  obtain ⟨v', h2, h3⟩ := @calls_of_run (E W C ρ L T) Tryz.prog (glob aR aS) (tabS U) (@tabS_holds (E W C ρ L T) _ _ _ hU) (namesE hL hT) mixed 300 60 e.1 e.2.1 e.2.2 h1 hy (fun _ => none) vs.toArray hx (by simpa using hv) w hG
  rw [hd] at h2
  cases h2
  exact h3
theorem sokE {W : Nat → Nat} {C : Nat → Nat × Nat} {ρ : Nat → Int} {L : List CF} {T : List XE} {aR aS : Addr} {e : SEntry} {vs : List Value} {v : Value} (h1 : nfL e.2.1 = true) (h2 : nf e.2.2 = true) (h3 : @denL (E W C ρ L T) (fun _ => none) e.2.1 = some vs) (h4 : @den (E W C ρ L T) (fun _ => none) e.2.2 = some v)
    (h : ∀ w, (glob aR aS).holds w → Calls Tryz.prog e.1 vs.toArray w (Ret v w)) : @SOk (E W C ρ L T) Tryz.prog (glob aR aS) e := ⟨h1, h2, vs, v, h3, h4, h⟩

theorem len_of {e : Env} {dl : List Deferred} {w0 v : World} {ρ' : Ren} {t : List SVal} {H : SHeap} {b : Act} {n : Nat} (hA : @Acts e dl w0 ρ' t H b v) (hl : t.length = n) : b.tmps.toList.length = n := by
  rw [← hl]; exact @denL_length e ρ' t _ hA.tmps
theorem acts_below {e : Env} {dl : List Deferred} {w0 v : World} {ρ' : Ren} {t : List SVal} {H : SHeap} {b : Act} (hA : @Acts e dl w0 ρ' t H b v) : Below w0.heap.size w0 v :=
  letI : Env := e
  hA.rel.below
theorem acts_def {e : Env} {dl : List Deferred} {w0 v : World} {ρ' : Ren} {t : List SVal} {H : SHeap} {b : Act} (hA : @Acts e dl w0 ρ' t H b v) : b.defers = dl :=
  letI : Env := e
  hA.defers
theorem mk_nil {ρ' : Ren} {D : List Nat} {dl : List Deferred} (hM : Mk ρ' D dl) (h : D = []) : dl = [] := by subst h; exact hM
def rho (a b c d e f : Int) : Nat → Int := fun i => match i with
  | 0 => a
  | 1 => b
  | 2 => c
  | 3 => d
  | 4 => e
  | 5 => f
  | _ => 0
theorem rho_0 (a b c d e f : Int) : rho a b c d e f 0 = a := rfl
theorem rho_1 (a b c d e f : Int) : rho a b c d e f 1 = b := rfl
theorem rho_2 (a b c d e f : Int) : rho a b c d e f 2 = c := rfl
theorem rho_3 (a b c d e f : Int) : rho a b c d e f 3 = d := rfl
theorem rho_4 (a b c d e f : Int) : rho a b c d e f 4 = e := rfl
theorem rho_5 (a b c d e f : Int) : rho a b c d e f 5 = f := rfl
def w4 (a b c d : Nat) : Nat → Nat := fun i => match i with
  | 0 => a
  | 1 => b
  | 2 => c
  | _ => d
def c0 : Nat → Nat × Nat := fun _ => (0, 0)
end
end Go.Proofs.YtonkcpmefnddaaaGreatDoor
