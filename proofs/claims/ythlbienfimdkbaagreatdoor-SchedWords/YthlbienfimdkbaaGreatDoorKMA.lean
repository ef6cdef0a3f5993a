import Derived.Test.YthlbienfimdkbaaGreatDoorKP
import Derived.Test.YthlbienfimdkbaaGreatDoorKPF0
import Derived.Test.YthlbienfimdkbaaGreatDoorKPF1
import Derived.Test.YthlbienfimdkbaaGreatDoorKPF2
import Derived.Test.YthlbienfimdkbaaGreatDoorKPF3
import Derived.Test.YthlbienfimdkbaaGreatDoorKPF4
import Derived.Test.YthlbienfimdkbaaGreatDoorKPF5
namespace Go.Proofs.YthlbienfimdkbaaGreatDoor
open Go Go.RX
open Go.RowKit (Below)
set_option maxRecDepth 1000000
set_option maxHeartbeats 4000000
noncomputable section
/-! ### The pieces joined -/
def fine (k : Nat) : Bool := Nat.blt k 18 && !Nat.beq k 6
def okL (l : List (Nat × SVal)) : Bool := l.all fun p => Nat.ble 18 p.1 || Nat.beq p.1 6
theorem upds_ok {k : Nat} {l : List (Nat × SVal)} {g : Nat → SVal} (hl : okL l = true) (hk : fine k = true) : upds g l k = g k := by
  refine upds_other ?_
  unfold okL at hl
  rw [List.all_eq_true] at hl ⊢
  intro p hp
  have h1 := hl p hp
  simp only [fine, Bool.and_eq_true, Bool.not_eq_true'] at hk
  have h2 : k < 18 := by have := Nat.le_of_ble_eq_true hk.1; omega
  have h3 : k ≠ 6 := fun e => by subst e; cases hk.2
  have h4 : 18 ≤ p.1 ∨ p.1 = 6 := by
    rcases Bool.or_eq_true_iff.1 h1 with h | h
    · exact .inl (Nat.le_of_ble_eq_true h)
    · exact .inr (Nat.eq_of_beq_eq_true h)
  have h5 : k ≠ p.1 := by omega
  cases hb : Nat.beq k p.1 with
  | false => rfl
  | true => exact absurd (Nat.eq_of_beq_eq_true hb) h5
theorem upd_congr {g g' : Nat → SVal} {k j : Nat} {v : SVal} (h : g k = g' k) : upd g j v k = upd g' j v k := by
  unfold upd
  rw [h]
theorem okO : oL.all (fun o => okL o.r3 && okL o.r6) = true := by kernel_rfl
theorem okT : tL.all (fun t => okL t.r5 && okL (t.r9 true) && okL (t.r9 false)) = true := by kernel_rfl
theorem okX : xL.all (fun x => okL x.r0 && okL x.r4 && okL (x.r12 0) && okL (x.r12 1) && okL (x.r12 2)) = true := by kernel_rfl
section
variable (o : OC) (t : TC) (x : XC)
abbrev G0 : Nat → SVal := upd (upd (upd (fun _ => u) 0 o.o) 1 t.t) 2 x.x
abbrev G1 : Nat → SVal := upds (G0 o t x) x.r0
abbrev G2 : Nat → SVal := upd (upd (upds (upd (G1 o t x) 0 o.o) o.r3) 7 o.a) 8 o.e
abbrev G3 : Nat → SVal := upd (upd (upds (upd (G2 o t x) 2 x.x) x.r4) 9 x.b) 10 x.e
abbrev G4 : Nat → SVal := upd (upd (upds (upd (G3 o t x) 1 t.t) t.r5) 11 t.c) 12 t.e
abbrev G5 : Nat → SVal := upd (upd (upds (upd (G4 o t x) 0 o.o) o.r6) 13 o.w) 14 E0
abbrev G6 : Nat → SVal := upd (upd (upds (upd (upd (G5 o t x) 1 t.t) 14 E0) (t.r9 o.inr)) 14 t.nm) 15 t.is
abbrev G7 : Nat → SVal := upd (upd (upds (upd (G6 o t x) 2 x.x) (x.r12 (hWT o.inr t.inr).length)) 16 x.pl) 17 x.fd
abbrev E2 : Nat → SVal := upd (upd (upd (G0 o t x) 0 o.o) 7 o.a) 8 o.e
abbrev E3 : Nat → SVal := upd (upd (upd (E2 o t x) 2 x.x) 9 x.b) 10 x.e
abbrev E4 : Nat → SVal := upd (upd (upd (E3 o t x) 1 t.t) 11 t.c) 12 t.e
abbrev E5 : Nat → SVal := upd (upd (upd (E4 o t x) 0 o.o) 13 o.w) 14 E0
abbrev E6 : Nat → SVal := upd (upd (upd (upd (E5 o t x) 1 t.t) 14 E0) 14 t.nm) 15 t.is
abbrev E7 : Nat → SVal := upd (upd (upd (E6 o t x) 2 x.x) 16 x.pl) 17 x.fd
variable {o t x}
theorem rd1 (h0 : okL x.r0 = true) {k : Nat} (hk : fine k = true) : G1 o t x k = G0 o t x k := upds_ok h0 hk
theorem rd2 (h0 : okL x.r0 = true) (h1 : okL o.r3 = true) {k : Nat} (hk : fine k = true) : G2 o t x k = E2 o t x k := upd_congr (upd_congr ((upds_ok h1 hk).trans (upd_congr (rd1 h0 hk))))
theorem rd3 (h0 : okL x.r0 = true) (h1 : okL o.r3 = true) (h2 : okL x.r4 = true) {k : Nat} (hk : fine k = true) : G3 o t x k = E3 o t x k := upd_congr (upd_congr ((upds_ok h2 hk).trans (upd_congr (rd2 h0 h1 hk))))
theorem rd4 (h0 : okL x.r0 = true) (h1 : okL o.r3 = true) (h2 : okL x.r4 = true) (h3 : okL t.r5 = true) {k : Nat} (hk : fine k = true) : G4 o t x k = E4 o t x k := upd_congr (upd_congr ((upds_ok h3 hk).trans (upd_congr (rd3 h0 h1 h2 hk))))
theorem rd5 (h0 : okL x.r0 = true) (h1 : okL o.r3 = true) (h2 : okL x.r4 = true) (h3 : okL t.r5 = true) (h4 : okL o.r6 = true) {k : Nat} (hk : fine k = true) : G5 o t x k = E5 o t x k := upd_congr (upd_congr ((upds_ok h4 hk).trans (upd_congr (rd4 h0 h1 h2 h3 hk))))
theorem rd6 (h0 : okL x.r0 = true) (h1 : okL o.r3 = true) (h2 : okL x.r4 = true) (h3 : okL t.r5 = true) (h4 : okL o.r6 = true) (h5 : okL (t.r9 o.inr) = true) {k : Nat} (hk : fine k = true) : G6 o t x k = E6 o t x k := upd_congr (upd_congr ((upds_ok h5 hk).trans (upd_congr (upd_congr (rd5 h0 h1 h2 h3 h4 hk)))))
theorem rd7 (h0 : okL x.r0 = true) (h1 : okL o.r3 = true) (h2 : okL x.r4 = true) (h3 : okL t.r5 = true) (h4 : okL o.r6 = true) (h5 : okL (t.r9 o.inr) = true) (h6 : okL (x.r12 (hWT o.inr t.inr).length) = true) {k : Nat} (hk : fine k = true) : G7 o t x k = E7 o t x k := upd_congr (upd_congr ((upds_ok h6 hk).trans (upd_congr (rd6 h0 h1 h2 h3 h4 h5 hk))))
end
theorem gF_eq {g : Nat → SVal} {o : OC} {t : TC} {x : XC} (h0 : g 0 = o.o) (h7 : g 7 = o.a) (h8 : g 8 = o.e) (h9 : g 9 = x.b) (h10 : g 10 = x.e) (h11 : g 11 = t.c) (h12 : g 12 = t.e) (h13 : g 13 = o.w) (h14 : g 14 = t.nm) (h15 : g 15 = t.is) (h16 : g 16 = x.pl) (h17 : g 17 = x.fd) : mkT 107 (gF g o t x) = mkT 107 g := by
  unfold gF
  refine (mkT_upd ?_).trans ?_
  · exact h17
  refine (mkT_upd ?_).trans ?_
  · exact h16
  refine (mkT_upd ?_).trans ?_
  · exact h15
  refine (mkT_upd ?_).trans ?_
  · exact h14
  refine (mkT_upd ?_).trans ?_
  · exact h13
  refine (mkT_upd ?_).trans ?_
  · exact h12
  refine (mkT_upd ?_).trans ?_
  · exact h11
  refine (mkT_upd ?_).trans ?_
  · exact h10
  refine (mkT_upd ?_).trans ?_
  · exact h9
  refine (mkT_upd ?_).trans ?_
  · exact h8
  refine (mkT_upd ?_).trans ?_
  · exact h7
  exact mkT_upd h0
theorem init (a b c : SVal) : ([a, b, c] : List SVal) ++ List.replicate (Tryz.f3.ntmps - ([a, b, c] : List SVal).length) (.v undef) = mkT 107 (upd (upd (upd (fun _ => u) 0 a) 1 b) 2 c) := by kernel_rfl
section
variable {s : ByteArray} {hn : isWord words s = false} {ρ : Nat → Int} {A B C : List CF} {aR aS : Addr}
theorem R_upd {l : List Code} {g : Nat → SVal} {H : SHeap} {k : Nat} {v : SVal} (h : g k = v) : R s hn ρ A B C aR aS l g H = R s hn ρ A B C aR aS l (upd g k v) H := by
  unfold R
  rw [mkT_upd h]
theorem R_step {a n : Nat} {g g' : Nat → SVal} {H H' : SHeap} (h : R s hn ρ A B C aR aS (pc a n) g H = N g' H') : R s hn ρ A B C aR aS ((segs cW).drop a) g H = R s hn ρ A B C aR aS ((segs cW).drop (a + n)) g' H' := by
  have := @runSegs_split (EW s hn ρ A B C) _ _ _ _ _ _ _ _ n h
  rw [List.drop_drop] at this
  exact this
end
theorem f_all {o : OC} {t : TC} {x : XC} (ho : o ∈ oL) (ht : t ∈ tL) (hx : x ∈ xL) (s : ByteArray) (hn : isWord words s = false) (ρ : Nat → Int) (aR aS : Addr) (g : Nat → SVal) (H : SHeap) (B C : List CF) : last1 s hn ρ aR aS g H B C o t x = Tr := by
  simp only [oL, List.mem_cons, List.not_mem_nil, or_false] at ho
  rcases ho with rfl | rfl | rfl | rfl | rfl | rfl | rfl | rfl | rfl | rfl | rfl | rfl | rfl | rfl | rfl | rfl | rfl | rfl
  · exact List.map_inj_left.1 (List.map_inj_left.1 (f_0 s hn ρ aR aS g H B C) t ht) x hx
  · exact List.map_inj_left.1 (List.map_inj_left.1 (f_1 s hn ρ aR aS g H B C) t ht) x hx
  · exact List.map_inj_left.1 (List.map_inj_left.1 (f_2 s hn ρ aR aS g H B C) t ht) x hx
  · exact List.map_inj_left.1 (List.map_inj_left.1 (f_3 s hn ρ aR aS g H B C) t ht) x hx
  · exact List.map_inj_left.1 (List.map_inj_left.1 (f_4 s hn ρ aR aS g H B C) t ht) x hx
  · exact List.map_inj_left.1 (List.map_inj_left.1 (f_5 s hn ρ aR aS g H B C) t ht) x hx
  · exact List.map_inj_left.1 (List.map_inj_left.1 (f_6 s hn ρ aR aS g H B C) t ht) x hx
  · exact List.map_inj_left.1 (List.map_inj_left.1 (f_7 s hn ρ aR aS g H B C) t ht) x hx
  · exact List.map_inj_left.1 (List.map_inj_left.1 (f_8 s hn ρ aR aS g H B C) t ht) x hx
  · exact List.map_inj_left.1 (List.map_inj_left.1 (f_9 s hn ρ aR aS g H B C) t ht) x hx
  · exact List.map_inj_left.1 (List.map_inj_left.1 (f_10 s hn ρ aR aS g H B C) t ht) x hx
  · exact List.map_inj_left.1 (List.map_inj_left.1 (f_11 s hn ρ aR aS g H B C) t ht) x hx
  · exact List.map_inj_left.1 (List.map_inj_left.1 (f_12 s hn ρ aR aS g H B C) t ht) x hx
  · exact List.map_inj_left.1 (List.map_inj_left.1 (f_13 s hn ρ aR aS g H B C) t ht) x hx
  · exact List.map_inj_left.1 (List.map_inj_left.1 (f_14 s hn ρ aR aS g H B C) t ht) x hx
  · exact List.map_inj_left.1 (List.map_inj_left.1 (f_15 s hn ρ aR aS g H B C) t ht) x hx
  · exact List.map_inj_left.1 (List.map_inj_left.1 (f_16 s hn ρ aR aS g H B C) t ht) x hx
  · exact List.map_inj_left.1 (List.map_inj_left.1 (f_17 s hn ρ aR aS g H B C) t ht) x hx
theorem lookT_none {f : FuncId} {vs : List Value} : ∀ {T : List Entry}, (T.all fun e => !Nat.beq e.1 f) = true → lookT f vs T = none
  | [], _ => rfl
  | e :: es, h => by
    simp only [List.all_cons, Bool.and_eq_true] at h
    have hne : ¬ e.1 = f := fun e' => by
      have := h.1
      rw [e', Nat.beq_refl] at this
      cases this
    simp only [lookT, if_neg hne]
    exact lookT_none h.2
theorem OW_none (xs : List SVal) : OW 3 xs [] = none := by
  have h1 : tabO U0 3 xs [] = none := by
    cases hv : vOfL xs with
    | none => simp only [tabO, readO, hv]
    | some vs =>
      have h2 : lookT 3 vs U0 = none := lookT_none (by kernel_rfl)
      simp only [tabO, readO, hv, h2]
  have h3 : tabH [nW, nT] 3 xs [] = none := by kernel_rfl
  simp only [OW, orO, h1, h3]
theorem whole {o : OC} {t : TC} {x : XC} (ho : o ∈ oL) (ht : t ∈ tL) (hx : x ∈ xL) (s : ByteArray) (hn : isWord words s = false) (ρ : Nat → Int) (aR aS : Addr) :
    (@call (EW s hn ρ o.A t.B x.C) Tryz.prog (glob aR aS) OW 300 60 (.fn 3) [o.o, t.t, x.x] []).map (fun r => nrm r.1) = Tr := by
  have hb : Tryz.f3.body = some cW := (Option.some_get bodyW).symm
  have hno : OW 3 [o.o, t.t, x.x] [] = none := OW_none _
  rw [@call_segs (EW s hn ρ o.A t.B x.C) Tryz.prog (glob aR aS) OW 300 59 _ _ cW _ [] hno Tryz.func3 hb, init]
  have kO := List.all_eq_true.1 okO o ho
  have kT := List.all_eq_true.1 okT t ht
  have kX := List.all_eq_true.1 okX x hx
  simp only [Bool.and_eq_true] at kO kT kX
  obtain ⟨a1, a4⟩ := kO
  obtain ⟨⟨a3, b1⟩, b0⟩ := kT
  obtain ⟨⟨⟨⟨a0, a2⟩, c0⟩, c1⟩, c2⟩ := kX
  have a5 : okL (t.r9 o.inr) = true := by cases o.inr <;> assumption
  have a6 : okL (x.r12 (hWT o.inr t.inr).length) = true := by
    cases o.inr <;> cases t.inr
    · exact c0
    · exact c1
    · exact c1
    · exact c2
  have e0 : R s hn ρ o.A t.B x.C aR aS ((segs cW).drop 0) (G0 o t x) [] = _ := R_step (p0 x hx s hn ρ aR aS _ o.A t.B)
  have e1 := e0.trans ((R_upd (show G1 o t x 0 = o.o from rd1 a0 rfl)).trans (R_step (p3 o ho s hn ρ aR aS _ [] t.B x.C)))
  have e2 := e1.trans ((R_upd (show G2 o t x 2 = x.x from rd2 a0 a1 rfl)).trans (R_step (p4 x hx s hn ρ aR aS _ [] o.A t.B)))
  have e3 := e2.trans ((R_upd (show G3 o t x 1 = t.t from rd3 a0 a1 a2 rfl)).trans (R_step (p5 t ht s hn ρ aR aS _ [] o.A x.C)))
  have e4 := e3.trans ((R_upd (show G4 o t x 0 = o.o from rd4 a0 a1 a2 a3 rfl)).trans (R_step (p6 o ho s hn ρ aR aS _ t.B x.C)))
  have e5 := e4.trans ((R_upd (show G5 o t x 1 = t.t from rd5 a0 a1 a2 a3 a4 rfl)).trans ((R_upd (show upd (G5 o t x) 1 t.t 14 = E0 from rfl)).trans (R_step (p9 t ht s hn ρ aR aS _ o.A x.C o.inr))))
  obtain ⟨H, hp⟩ := p12 x hx s hn ρ aR aS (G6 o t x) o.A t.B o.inr t.inr
  have e6 := e5.trans ((R_upd (show G6 o t x 2 = x.x from rd6 a0 a1 a2 a3 a4 a5 rfl)).trans (R_step hp))
  have eF := gF_eq (g := G7 o t x) (o := o) (t := t) (x := x) (rd7 a0 a1 a2 a3 a4 a5 a6 rfl) (rd7 a0 a1 a2 a3 a4 a5 a6 rfl) (rd7 a0 a1 a2 a3 a4 a5 a6 rfl) (rd7 a0 a1 a2 a3 a4 a5 a6 rfl) (rd7 a0 a1 a2 a3 a4 a5 a6 rfl) (rd7 a0 a1 a2 a3 a4 a5 a6 rfl) (rd7 a0 a1 a2 a3 a4 a5 a6 rfl) (rd7 a0 a1 a2 a3 a4 a5 a6 rfl) (rd7 a0 a1 a2 a3 a4 a5 a6 rfl) (rd7 a0 a1 a2 a3 a4 a5 a6 rfl) (rd7 a0 a1 a2 a3 a4 a5 a6 rfl) (rd7 a0 a1 a2 a3 a4 a5 a6 rfl)
  have e7 : R s hn ρ o.A t.B x.C aR aS ((segs cW).drop 0) (G0 o t x) [] = R s hn ρ o.A t.B x.C aR aS ((segs cW).drop 15) (gF (G7 o t x) o t x) H := e6.trans (by
    unfold R
    rw [eF])
  have hl := f_all ho ht hx s hn ρ aR aS (G7 o t x) H t.B x.C
  unfold last1 at hl
  rw [← e7] at hl
  exact hl
end
end Go.Proofs.YthlbienfimdkbaaGreatDoor

namespace Go.Proofs.YthlbienfimdkbaaGreatDoor
open Go Go.RX
open Go.RowKit (Below)
set_option maxRecDepth 1000000
set_option maxHeartbeats 4000000
def mW (op tail n : Int) : Nat → Int := fun i => match i with
  | 0 => op
  | 1 => tail
  | _ => n
theorem op_pt {ρ : Nat → Int} {op : Int} (h : ρ 0 = op) : ∃ o ∈ oL, (∀ f ∈ o.A, f.ok ρ) ∧ nf o.o = true ∧ ∀ s hn A B C, @den (EW s hn ρ A B C) (fun _ => none) o.o = some (.int .i64 op) := by
  rcases Int.lt_or_le op 0 with h0 | h0
  · refine ⟨oc16, by simp [oL], fun f hf => ?_, rfl, fun _ _ _ _ _ => by rw [← h]; rfl⟩
    simp only [oc16, opLow, List.mem_cons, List.not_mem_nil, or_false] at hf
    subst hf
    exact ⟨rfl, by simp [cmpI, IE.ev, h]; omega⟩
  · rcases Int.lt_or_le op 16 with h1 | h1
    · obtain ⟨c, rfl⟩ := Int.eq_ofNat_of_zero_le h0
      have hc : c < 16 := by omega
      match c, hc with
      | 0, _ => exact ⟨oc0, by simp [oL], fun f hf => (by cases hf), rfl, fun _ _ _ _ _ => rfl⟩
      | 1, _ => exact ⟨oc1, by simp [oL], fun f hf => (by cases hf), rfl, fun _ _ _ _ _ => rfl⟩
      | 2, _ => exact ⟨oc2, by simp [oL], fun f hf => (by cases hf), rfl, fun _ _ _ _ _ => rfl⟩
      | 3, _ => exact ⟨oc3, by simp [oL], fun f hf => (by cases hf), rfl, fun _ _ _ _ _ => rfl⟩
      | 4, _ => exact ⟨oc4, by simp [oL], fun f hf => (by cases hf), rfl, fun _ _ _ _ _ => rfl⟩
      | 5, _ => exact ⟨oc5, by simp [oL], fun f hf => (by cases hf), rfl, fun _ _ _ _ _ => rfl⟩
      | 6, _ => exact ⟨oc6, by simp [oL], fun f hf => (by cases hf), rfl, fun _ _ _ _ _ => rfl⟩
      | 7, _ => exact ⟨oc7, by simp [oL], fun f hf => (by cases hf), rfl, fun _ _ _ _ _ => rfl⟩
      | 8, _ => exact ⟨oc8, by simp [oL], fun f hf => (by cases hf), rfl, fun _ _ _ _ _ => rfl⟩
      | 9, _ => exact ⟨oc9, by simp [oL], fun f hf => (by cases hf), rfl, fun _ _ _ _ _ => rfl⟩
      | 10, _ => exact ⟨oc10, by simp [oL], fun f hf => (by cases hf), rfl, fun _ _ _ _ _ => rfl⟩
      | 11, _ => exact ⟨oc11, by simp [oL], fun f hf => (by cases hf), rfl, fun _ _ _ _ _ => rfl⟩
      | 12, _ => exact ⟨oc12, by simp [oL], fun f hf => (by cases hf), rfl, fun _ _ _ _ _ => rfl⟩
      | 13, _ => exact ⟨oc13, by simp [oL], fun f hf => (by cases hf), rfl, fun _ _ _ _ _ => rfl⟩
      | 14, _ => exact ⟨oc14, by simp [oL], fun f hf => (by cases hf), rfl, fun _ _ _ _ _ => rfl⟩
      | 15, _ => exact ⟨oc15, by simp [oL], fun f hf => (by cases hf), rfl, fun _ _ _ _ _ => rfl⟩
      | c + 16, hc => omega
    · refine ⟨oc17, by simp [oL], fun f hf => ?_, rfl, fun _ _ _ _ _ => by rw [← h]; rfl⟩
      simp only [oc17, opHigh, List.mem_cons, List.not_mem_nil, or_false] at hf
      rcases hf with rfl | rfl <;> exact ⟨rfl, by simp [cmpI, IE.ev, h]; omega⟩
theorem tl_pt {ρ : Nat → Int} {tail : Int} (h : ρ 1 = tail) : ∃ t ∈ tL, (∀ f ∈ t.B, f.ok ρ) ∧ nf t.t = true ∧ ∀ s hn A B C, @den (EW s hn ρ A B C) (fun _ => none) t.t = some (.int .i64 tail) := by
  rcases Int.lt_or_le tail 0 with h0 | h0
  · refine ⟨tc4, by simp [tL], fun f hf => ?_, rfl, fun _ _ _ _ _ => by rw [← h]; rfl⟩
    simp only [tc4, tlLow, List.mem_cons, List.not_mem_nil, or_false] at hf
    rcases hf with rfl | rfl <;> exact ⟨rfl, by simp [cmpI, IE.ev, h]; omega⟩
  · rcases Int.lt_or_le tail 4 with h1 | h1
    · obtain ⟨c, rfl⟩ := Int.eq_ofNat_of_zero_le h0
      have hc : c < 4 := by omega
      match c, hc with
      | 0, _ => exact ⟨tc0, by simp [tL], fun f hf => (by cases hf), rfl, fun _ _ _ _ _ => rfl⟩
      | 1, _ => exact ⟨tc1, by simp [tL], fun f hf => (by cases hf), rfl, fun _ _ _ _ _ => rfl⟩
      | 2, _ => exact ⟨tc2, by simp [tL], fun f hf => (by cases hf), rfl, fun _ _ _ _ _ => rfl⟩
      | 3, _ => exact ⟨tc3, by simp [tL], fun f hf => (by cases hf), rfl, fun _ _ _ _ _ => rfl⟩
      | c + 4, hc => omega
    · refine ⟨tc5, by simp [tL], fun f hf => ?_, rfl, fun _ _ _ _ _ => by rw [← h]; rfl⟩
      simp only [tc5, tlHigh, List.mem_cons, List.not_mem_nil, or_false] at hf
      rcases hf with rfl | rfl | rfl | rfl <;> exact ⟨rfl, by simp [cmpI, IE.ev, h]; omega⟩
theorem word_pt {s : ByteArray} (h : s ∈ words) : ∃ x ∈ xL, x.x = .v (.string s) ∧ x.C = [] := by
  simp only [words, List.mem_cons, List.not_mem_nil, or_false] at h
  rcases h with rfl | rfl | rfl | rfl | rfl | rfl | rfl | rfl | rfl | rfl | rfl | rfl | rfl | rfl | rfl | rfl
  · exact ⟨xc0, by simp [xL], rfl, rfl⟩
  · exact ⟨xc1, by simp [xL], rfl, rfl⟩
  · exact ⟨xc2, by simp [xL], rfl, rfl⟩
  · exact ⟨xc3, by simp [xL], rfl, rfl⟩
  · exact ⟨xc4, by simp [xL], rfl, rfl⟩
  · exact ⟨xc5, by simp [xL], rfl, rfl⟩
  · exact ⟨xc6, by simp [xL], rfl, rfl⟩
  · exact ⟨xc7, by simp [xL], rfl, rfl⟩
  · exact ⟨xc8, by simp [xL], rfl, rfl⟩
  · exact ⟨xc9, by simp [xL], rfl, rfl⟩
  · exact ⟨xc10, by simp [xL], rfl, rfl⟩
  · exact ⟨xc11, by simp [xL], rfl, rfl⟩
  · exact ⟨xc12, by simp [xL], rfl, rfl⟩
  · exact ⟨xc13, by simp [xL], rfl, rfl⟩
  · exact ⟨xc14, by simp [xL], rfl, rfl⟩
  · exact ⟨xc15, by simp [xL], rfl, rfl⟩
theorem den3 {e : Env} {ρ : Ren} {x y z : SVal} {a b c : Value} (hx : @den e ρ x = some a) (hy : @den e ρ y = some b) (hz : @den e ρ z = some c) : @denL e ρ [x, y, z] = some (#[a, b, c] : Array Value).toList := by
  simp only [denL, hx, hy, hz]
theorem nf3 {x y z : SVal} (hx : nf x = true) (hy : nf y = true) (hz : nf z = true) : nfL [x, y, z] = true := by simp [nfL, hx, hy, hz]
/-- What a run says of the law. -/
theorem law_of_run {s : ByteArray} {hn : isWord words s = false} {ρ : Nat → Int} {A B C : List CF} {aR aS : Addr} {a b c : SVal}
    (h : (@call (EW s hn ρ A B C) Tryz.prog (glob aR aS) OW 300 60 (.fn 3) [a, b, c] []).map (fun r => nrm r.1) = some (.v (.bool true)))
    (hs : ρ 2 = s.size) (hA : ∀ f ∈ A, f.ok ρ) (hB : ∀ f ∈ B, f.ok ρ) (hC : ∀ f ∈ C, f.ok ρ) (hf : nfL [a, b, c] = true) {vs : Array Value}
    (hv : @denL (EW s hn ρ A B C) (fun _ => none) [a, b, c] = some vs.toList) {w : World} (hG : (glob aR aS).holds w) :
    Calls Tryz.prog 3 vs w fun r w' => r = .returned (.bool true) ∧ Below w.heap.size w w' := by
  obtain ⟨v, h1, h2⟩ := @calls_of_run (EW s hn ρ A B C) Tryz.prog (glob aR aS) OW (OW_holds hs hA hB hC aR aS) (namesW hs hA hB hC) mixed 300 60 3 [a, b, c] (.v (.bool true)) h rfl (fun _ => none) vs hf hv w hG
  have : v = .bool true := by simpa [den] using h1.symm
  subst this
  exact h2
theorem long (s : ByteArray) (hn : isWord words s = false) (ρ : Nat → Int) (aR aS : Addr) : (@call (EW s hn ρ [] [] lnHigh) Tryz.prog (glob aR aS) OW 300 60 (.fn 3) [si 0, si 1, .sym (.nm 0)] []).map (fun r => nrm r.1) = some (.v (.bool true)) := by kernel_rfl
/-- **The law, at every input.** -/
theorem schedWords_ok (aR aS : Addr) (op tail : Int) (s : ByteArray) (w : World) (hG : (glob aR aS).holds w) :
    Calls Tryz.prog 3 #[.int .i64 op, .int .i64 tail, .string s] w fun r w' => r = .returned (.bool true) ∧ Below w.heap.size w w' := by
  by_cases hn : isWord words s = true
  · generalize hρ : mW op tail 0 = ρ
    obtain ⟨o, hom, hoA, hon, hod⟩ := op_pt (ρ := ρ) (op := op) (by subst hρ; rfl)
    obtain ⟨t, htm, htB, htn, htd⟩ := tl_pt (ρ := ρ) (tail := tail) (by subst hρ; rfl)
    obtain ⟨x, hxm, hxx, hxC⟩ := word_pt (isWord_mem hn)
    have hw := whole hom htm hxm ⟨#[]⟩ empty_no ρ aR aS
    exact law_of_run hw (by subst hρ; rfl) hoA htB (fun f hf => by rw [hxC] at hf; cases hf) (nf3 hon htn (by rw [hxx]; rfl)) (den3 (hod _ _ _ _ _) (htd _ _ _ _ _) (by rw [hxx]; rfl)) hG
  · have hn : isWord words s = false := by simpa using hn
    generalize hρ : mW op tail s.size = ρ
    rcases Int.lt_or_le 60 (s.size : Int) with hl | hl
    · refine law_of_run (long s hn ρ aR aS) (by subst hρ; rfl) (fun f hf => by cases hf) (fun f hf => by cases hf) (fun f hf => ?_) rfl (den3 (a := .int .i64 op) (b := .int .i64 tail) (c := .string s) (by subst hρ; rfl) (by subst hρ; rfl) rfl) hG
      simp only [lnHigh, List.mem_cons, List.not_mem_nil, or_false] at hf
      subst hf hρ
      exact ⟨rfl, by simp [cmpI, IE.ev, mW]; omega⟩
    · obtain ⟨o, hom, hoA, hon, hod⟩ := op_pt (ρ := ρ) (op := op) (by subst hρ; rfl)
      obtain ⟨t, htm, htB, htn, htd⟩ := tl_pt (ρ := ρ) (tail := tail) (by subst hρ; rfl)
      have hw := whole hom htm (show xc16 ∈ xL by simp [xL]) s hn ρ aR aS
      refine law_of_run hw (by subst hρ; rfl) hoA htB (fun f hf => ?_) (nf3 hon htn rfl) (den3 (c := .string s) (hod _ _ _ _ _) (htd _ _ _ _ _) rfl) hG
      simp only [xc16, lnLow, List.mem_cons, List.not_mem_nil, or_false] at hf
      subst hf hρ
      exact ⟨rfl, by simp [cmpI, IE.ev, mW]; omega⟩
end Go.Proofs.YthlbienfimdkbaaGreatDoor
