import Derived.Test.YtedbnohkkepajaaGreatDoorGM
import Derived.Test.YtedbnohkkepajaaGreatDoorGP0
import Derived.Test.YtedbnohkkepajaaGreatDoorGP1
import Derived.Test.YtedbnohkkepajaaGreatDoorGP2
import Derived.Test.YtedbnohkkepajaaGreatDoorGP3
import Derived.Test.YtedbnohkkepajaaGreatDoorGP4
import Derived.Test.YtedbnohkkepajaaGreatDoorGP5
import Derived.Test.YtedbnohkkepajaaGreatDoorGP6
import Derived.Test.YtedbnohkkepajaaGreatDoorGP7
import Derived.Test.YtedbnohkkepajaaGreatDoorGH0
import Derived.Test.YtedbnohkkepajaaGreatDoorGH1
import Derived.Test.YtedbnohkkepajaaGreatDoorGH2
import Derived.Test.YtedbnohkkepajaaGreatDoorGH3
namespace Go.Proofs.YtedbnohkkepajaaGreatDoor
noncomputable section
open Go Go.RX
open Go.RowKit (Below)
set_option maxRecDepth 1000000
set_option maxHeartbeats 4000000
def J_int1 : List SEntry := [(6, [.v (.int .i64 1), .sym (.int .i64 (.var 2))], .agg [.v (.int .i64 1), .sym (.int .u64 (.bin .and .u64 (.cv .u64 (.var 2)) (.lit 255)))])]
theorem run_int1 (ρ : Nat → Int) (aR aS : Addr) : J_int1.map (fun e => (@call (E ρ (knowL []) []) Tryz.prog (glob aR aS) noO 300 60 (.fn e.1) e.2.1 []).map fun r => nrm r.1) = J_int1.map fun e => some e.2.2 := by kernel_rfl
theorem int_1 (aR aS : Addr) (n : Int) {w : World} (hG : (glob aR aS).holds w) : Calls Tryz.prog 6 #[.int .i64 1, .int .i64 n] w (Ret (.agg #[.int .i64 1, .int .u64 (n % 256)]) w) := by
  have e : IE.ev (rho 0 0 n 0) (.bin .and .u64 (.cv .u64 (.var 2)) (.lit 255)) = n % 256 := by
    have h := wrap64_range n
    simp only [IE.ev, rho_2]
    rw [and_u64_8 _ h.1 h.2, wrap_u64]
    omega
  rw [← e]
  exact calls_sym (ρ := rho 0 0 n 0) (L := []) (fun _ h => by cases h) (run_int1 _ aR aS) List.mem_cons_self rfl rfl rfl rfl hG
def J_int5 : List SEntry := [(6, [.v (.int .i64 5), .sym (.int .i64 (.var 2))], .agg [.v (.int .i64 5), .sym (.int .u64 (.bin .and .u64 (.cv .u64 (.var 2)) (.lit 255)))])]
theorem run_int5 (ρ : Nat → Int) (aR aS : Addr) : J_int5.map (fun e => (@call (E ρ (knowL []) []) Tryz.prog (glob aR aS) noO 300 60 (.fn e.1) e.2.1 []).map fun r => nrm r.1) = J_int5.map fun e => some e.2.2 := by kernel_rfl
theorem int_5 (aR aS : Addr) (n : Int) {w : World} (hG : (glob aR aS).holds w) : Calls Tryz.prog 6 #[.int .i64 5, .int .i64 n] w (Ret (.agg #[.int .i64 5, .int .u64 (n % 256)]) w) := by
  have e : IE.ev (rho 0 0 n 0) (.bin .and .u64 (.cv .u64 (.var 2)) (.lit 255)) = n % 256 := by
    have h := wrap64_range n
    simp only [IE.ev, rho_2]
    rw [and_u64_8 _ h.1 h.2, wrap_u64]
    omega
  rw [← e]
  exact calls_sym (ρ := rho 0 0 n 0) (L := []) (fun _ h => by cases h) (run_int5 _ aR aS) List.mem_cons_self rfl rfl rfl rfl hG

def KV (op a kind lo hi : Int) (i : Nat) (y : Int) (b : Act) : Prop := b.tmps.toList.getD 0 undef = .int .u8 op ∧ b.tmps.toList.getD 1 undef = .int .u8 a ∧ b.tmps.toList.getD 7 undef = .int .i64 (opI i) ∧ b.tmps.toList.getD 8 undef = .int .i64 kind ∧
  b.tmps.toList.getD 9 undef = .int .i64 lo ∧ b.tmps.toList.getD 10 undef = .int .i64 hi ∧ b.tmps.toList.getD 11 undef = .int .i64 y
def LInv (aR aS : Addr) (w : World) (op a kind lo hi : Int) (i : Nat) (k : Nat) (b : Act) (v : World) : Prop := ∃ y : Int, lo ≤ y ∧ y ≤ hi + 1 ∧ k = (hi + 1 - y).toNat ∧ b.tmps.toList.length = 92 ∧ b.defers = [] ∧ (glob aR aS).holds v ∧ Below w.heap.size w v ∧ KV op a kind lo hi i y b

theorem kv_of {ρ : Nat → Int} {K : Know} {V : List (IE × Int)} {op a kind lo hi y : Int} {i : Nat} {Y : SVal} {ρ' : Ren} {dl : List Deferred} {w0 v : World} {t : List SVal} {H : SHeap} {b : Act} (hA : @Acts (E ρ K V) dl w0 ρ' t H b v) (hp : psI.map (getS t) = stI kind lo hi i Y)
    (hY : @den (E ρ K V) ρ' Y = some (.int .i64 y)) (h9 : ρ 9 = op) (h8 : ρ 8 = a) : KV op a kind lo hi i y b := by
  letI : Env := E ρ K V
  simp only [psI, stI, List.map_cons, List.map_nil, List.cons.injEq, and_true] at hp
  obtain ⟨p0, p1, p2, p3, p4, p5, p6⟩ := hp
  subst h9 h8
  exact ⟨tmp_at hA.tmps 0 (by rw [p0]; rfl), tmp_at hA.tmps 1 (by rw [p1]; rfl), tmp_at hA.tmps 7 (by rw [p2]; rfl), tmp_at hA.tmps 8 (by rw [p3]; rfl), tmp_at hA.tmps 9 (by rw [p4]; rfl), tmp_at hA.tmps 10 (by rw [p5]; rfl), tmp_at hA.tmps 11 (by rw [p6]; exact hY)⟩

theorem known_den {ρ : Nat → Int} {K : Know} {V : List (IE × Int)} {op a kind lo hi y : Int} {i : Nat} {b : Act} (h : KV op a kind lo hi i y b) (h9 : ρ 9 = op) (h8 : ρ 8 = a) (h3 : ρ 3 = y) :
    ∀ p ∈ knownI kind lo hi i, @den (E ρ K V) (fun _ => none) p.2 = some (b.tmps.toList.getD p.1 undef) := by
  letI : Env := E ρ K V
  obtain ⟨k0, k1, k2, k3, k4, k5, k6⟩ := h
  subst h9 h8 h3
  intro p hp
  simp only [knownI, List.mem_cons, List.not_mem_nil, or_false] at hp
  rcases hp with rfl | rfl | rfl | rfl | rfl | rfl | rfl
  · rw [k0]; rfl
  · rw [k1]; rfl
  · rw [k2]; rfl
  · rw [k3]; rfl
  · rw [k4]; rfl
  · rw [k5]; rfl
  · rw [k6]; rfl

theorem len_of {e : Env} {dl : List Deferred} {w0 v : World} {ρ' : Ren} {t : List SVal} {H : SHeap} {b : Act} {n : Nat} (hA : @Acts e dl w0 ρ' t H b v) (hl : t.length = n) : b.tmps.toList.length = n := by
  rw [← hl]; exact @denL_length e ρ' t _ hA.tmps
theorem acts_below {e : Env} {dl : List Deferred} {w0 v : World} {ρ' : Ren} {t : List SVal} {H : SHeap} {b : Act} (hA : @Acts e dl w0 ρ' t H b v) : Below w0.heap.size w0 v :=
  letI : Env := e
  hA.rel.below
theorem acts_def {e : Env} {dl : List Deferred} {w0 v : World} {ρ' : Ren} {t : List SVal} {H : SHeap} {b : Act} (hA : @Acts e dl w0 ρ' t H b v) : b.defers = dl :=
  letI : Env := e
  hA.defers
theorem mk_nil {ρ' : Ren} {D : List Nat} {dl : List Deferred} (hM : Mk ρ' D dl) (h : D = []) : dl = [] := by subst h; exact hM

theorem told_mem {i : Nat} (hi : i < 20) {y : Int} (h : toldI (opI i) y = true) : i ∈ toldL := by
  have hc : i = 0 ∨ i = 1 ∨ i = 2 ∨ i = 3 ∨ i = 4 ∨ i = 5 ∨ i = 6 ∨ i = 7 ∨ i = 8 ∨ i = 9 ∨ i = 10 ∨ i = 11 ∨ i = 12 ∨ i = 13 ∨ i = 14 ∨ i = 15 ∨ i = 16 ∨ i = 17 ∨ i = 18 ∨ i = 19 := by omega
  rcases hc with rfl | rfl | rfl | rfl | rfl | rfl | rfl | rfl | rfl | rfl | rfl | rfl | rfl | rfl | rfl | rfl | rfl | rfl | rfl | rfl <;> first | (simp [toldL]; done) | (simp [toldI, opI] at h; done)
theorem not_mem {i : Nat} (hi : i < 20) {y : Int} (h : toldI (opI i) y = false) : i ∈ notL := by
  have hc : i = 0 ∨ i = 1 ∨ i = 2 ∨ i = 3 ∨ i = 4 ∨ i = 5 ∨ i = 6 ∨ i = 7 ∨ i = 8 ∨ i = 9 ∨ i = 10 ∨ i = 11 ∨ i = 12 ∨ i = 13 ∨ i = 14 ∨ i = 15 ∨ i = 16 ∨ i = 17 ∨ i = 18 ∨ i = 19 := by omega
  rcases hc with rfl | rfl | rfl | rfl | rfl | rfl | rfl | rfl | rfl | rfl | rfl | rfl | rfl | rfl | rfl | rfl | rfl | rfl | rfl | rfl <;> first | (simp [notL]; done) | (simp [toldI, opI] at h; done)

theorem sokE {ρ : Nat → Int} {K : Know} {V : List (IE × Int)} {aR aS : Addr} {e : SEntry} {vs : List Value} {v : Value} (h1 : nfL e.2.1 = true) (h2 : nf e.2.2 = true) (h3 : @denL (E ρ K V) (fun _ => none) e.2.1 = some vs) (h4 : @den (E ρ K V) (fun _ => none) e.2.2 = some v)
    (h : ∀ w, (glob aR aS).holds w → Calls Tryz.prog e.1 vs.toArray w (Ret v w)) : @SOk (E ρ K V) Tryz.prog (glob aR aS) e := ⟨h1, h2, vs, v, h3, h4, h⟩

theorem li_ok (lo hi op a y R N : Int) (i : Nat) (told : Bool) (_ : -200 ≤ lo) (_ : hi ≤ 300) (hy : y ≤ hi) (hR : told = true → R = clampI (opI i) lo hi N % 256) : ∀ f ∈ LI lo hi i told, f.ok (rhoI op a y R N lo) := by
  intro f hf
  have h1 : CF.ok (rhoI op a y R N lo) ⟨.leq, .var 3, .lit hi, true⟩ := ⟨rfl, cmp_leq_t hy⟩
  cases told with
  | false =>
    simp only [LI, Bool.false_eq_true, if_false, List.mem_cons, List.not_mem_nil, or_false] at hf
    subst hf
    exact h1
  | true =>
    simp only [LI, if_true, List.mem_cons, List.not_mem_nil, or_false] at hf
    rcases hf with rfl | rfl
    · exact h1
    · refine ⟨rfl, cmp_neq_f ?_⟩
      have hn : IE.ev (rhoI op a y R N lo) (nE lo hi i) = clampI (opI i) lo hi N := by
        unfold nE clampI
        by_cases hi' : i = 12 ∨ i = 13
        · rw [if_pos hi', if_pos (by rcases hi' with rfl | rfl <;> decide)]
          simp only [IE.ev, tri2, tri3, rhoI]
          omega
        · rw [if_neg hi', if_neg (by unfold opI; omega)]
          rfl
      show R = binI .and .u64 (IntKind.wrap .u64 (IE.ev (rhoI op a y R N lo) (nE lo hi i))) 255
      have h := wrap64_range (IE.ev (rhoI op a y R N lo) (nE lo hi i))
      rw [and_u64_8 _ h.1 h.2, wrap_u64, hn, hR rfl]
      omega
theorem goodAll_u (aR aS : Addr) (i : Nat) (hi : i < 20) (x y : Int) (hx0 : 0 ≤ x) (hx1 : x ≤ 255) (hy0 : 0 ≤ y) (hy1 : y ≤ 255) : Good aR aS (opI i) 1 (rkI 1 i) 0 255 x y := by
  match i, hi with
  | 0, _ => exact good_1_6 aR aS x y hx0 hx1 hy0 hy1
  | 1, _ => exact good_1_7 aR aS x y hx0 hx1 hy0 hy1
  | 2, _ => exact good_1_8 aR aS x y hx0 hx1 hy0 hy1
  | 3, _ => exact good_1_9 aR aS x y hx0 hx1 hy0 hy1
  | 4, _ => exact good_1_10 aR aS x y hx0 hx1 hy0 hy1
  | 5, _ => exact good_1_11 aR aS x y hx0 hx1 hy0 hy1
  | 6, _ => exact good_1_12 aR aS x y hx0 hx1 hy0 hy1
  | 7, _ => exact good_1_13 aR aS x y hx0 hx1 hy0 hy1
  | 8, _ => exact good_1_14 aR aS x y hx0 hx1 hy0 hy1
  | 9, _ => exact good_1_15 aR aS x y hx0 hx1 hy0 hy1
  | 10, _ => exact good_1_16 aR aS x y hx0 hx1 hy0 hy1
  | 11, _ => exact good_1_17 aR aS x y hx0 hx1 hy0 hy1
  | 12, _ => exact good_1_18 aR aS x y hx0 hx1 hy0 hy1
  | 13, _ => exact good_1_19 aR aS x y hx0 hx1 hy0 hy1
  | 14, _ => exact good_1_20 aR aS x y hx0 hx1 hy0 hy1
  | 15, _ => exact good_1_21 aR aS x y hx0 hx1 hy0 hy1
  | 16, _ => exact good_1_22 aR aS x y hx0 hx1 hy0 hy1
  | 17, _ => exact good_1_23 aR aS x y hx0 hx1 hy0 hy1
  | 18, _ => exact good_1_24 aR aS x y hx0 hx1 hy0 hy1
  | 19, _ => exact good_1_25 aR aS x y hx0 hx1 hy0 hy1
  | n + 20, hi => omega
theorem iterA_u (aR aS : Addr) (ρ : Nat → Int) (g : Nat → Value) {i : Nat} (hi : i < 20) {y : Int} {told : Bool} (ht : toldI (opI i) y = told) : view psI (iterI ρ aR aS 1 0 255 told g i) = some (0, 92, stI 1 0 255 i (.sym (.int .i64 (.bin .add .i64 (.var 3) (.lit 1)))), []) := by
  cases told with
  | true => exact List.map_inj_left.1 (iter_u_t ρ aR aS g) i (told_mem hi ht)
  | false => exact List.map_inj_left.1 (iter_u_n ρ aR aS g) i (not_mem hi ht)

theorem ti_u (aR aS : Addr) (op a y R N : Int) (ha0 : 0 ≤ a) (ha1 : a ≤ 255) (i : Nat) (told : Bool) (K : Know) (V : List (IE × Int)) (hAP : APx aR aS (opI i) 1 (rkI 1 i) (0 + a) y R N told) :
    ∀ e ∈ TI 1 0 i told, @SOk (E (rhoI op a y R N 0) K V) Tryz.prog (glob aR aS) e := by
  have ex : IE.ev (rhoI op a y R N 0) (exX 0) = 0 + a := by
    simp only [exX, IE.ev, rhoI, ev_add, wrap_i64]
    omega
  intro e he
  simp only [TI, List.mem_cons, List.not_mem_nil, or_false] at he
  rcases he with rfl | rfl | rfl | rfl
  · refine sokE (vs := [.int .i64 1, .int .i64 (IE.ev (rhoI op a y R N 0) (exX 0))]) (v := .agg #[.int .i64 1, .int .u64 ((0 + a) % 256)]) rfl rfl rfl rfl fun w hG => ?_
    rw [ex]
    exact int_1 aR aS (0 + a) hG
  · exact sokE (vs := [.int .i64 1, .int .i64 y]) (v := .agg #[.int .i64 1, .int .u64 (y % 256)]) rfl rfl rfl rfl fun w hG => int_1 aR aS y hG
  · exact sokE (vs := [.int .i64 (opI i), .agg #[.int .i64 1, .int .u64 ((0 + a) % 256)], .agg #[.int .i64 1, .int .u64 (y % 256)]]) (v := .tuple #[.agg #[.int .i64 (rkI 1 i), .int .u64 R], .int .i64 0]) rfl rfl rfl rfl fun w hG => (hAP w hG).1
  · refine sokE (vs := [.int .i64 (opI i), .int .i64 (IE.ev (rhoI op a y R N 0) (exX 0)), .int .i64 y]) (v := .tuple #[.int .i64 N, .bool told]) rfl rfl rfl rfl fun w hG => ?_
    rw [ex]
    exact (hAP w hG).2

/-- One round of the law's loop. -/
theorem step_u (aR aS : Addr) (op a : Int) (ha0 : 0 ≤ a) (ha1 : a ≤ 255) (i : Nat) (hi : i < 20) (w : World) (k : Nat) (b : Act) (v : World) (h : LInv aR aS w op a 1 0 255 i k b v) :
    bLaw.wpIn Fence.wide 0 Tryz.prog (Exit.then (fun a' w' => ∃ k', k' < k ∧ LInv aR aS w op a 1 0 255 i k' a' w') (after Tryz.prog cLaw (bodyPostM Fence.wide 0 Tryz.prog Tryz.f3 (Ret (.bool true) w)))) b v := by
  obtain ⟨y, hy0, hy1, hk, hlen, hd, hGv, hB, hKV⟩ := h
  rcases Int.lt_or_le 255 y with hgt | hle
  · have hL : ∀ f ∈ LX 255, f.ok (rhoI op a y 0 0 0) := fun f hf => by
      obtain rfl := List.mem_singleton.1 hf
      exact ⟨rfl, cmp_leq_f hgt⟩
    have hN := namesE (V := []) (knowL_ok hL) (fun _ h => by cases h)
    have hcf := @call_ok' (E (rhoI op a y 0 0 0) (knowL (LX 255)) []) Tryz.prog (glob aR aS) noO (@noO_holds (E (rhoI op a y 0 0 0) (knowL (LX 255)) []) _ _) hN mixed 300 60
    have hx := List.map_inj_left.1 (exit_u (rhoI op a y 0 0 0) aR aS (fun j => b.tmps.toList.getD j undef)) i (List.mem_range.2 hi)
    cases hr : exitI (rhoI op a y 0 0 0) aR aS 1 0 255 (fun j => b.tmps.toList.getD j undef) i with
    | none => rw [hr] at hx; cases hx
    | some r =>
      obtain ⟨e, s⟩ := r
      rw [hr] at hx
      simp only [backI] at hx
      split at hx
      · cases hx
      · rename_i e2 s2 hb
        simp only [Option.some.injEq, Prod.mk.injEq] at hx
        obtain ⟨x1, x2, x3, x4, x5⟩ := hx
        obtain rfl := viewE_2 (n := 0) x1
        obtain rfl := viewE_1 x2
        refine @round_wp (E (rhoI op a y 0 0 0) (knowL (LX 255)) []) Tryz.prog (glob aR aS) _ hcf hN mixed 300 bLaw 92 (knownI 1 0 255 i) b v hGv hd hlen (known_den hKV rfl rfl rfl) _ _ hr _ fun ρ' dl' a' w' hM hA => ?_
        refine @back_ok (E (rhoI op a y 0 0 0) (knowL (LX 255)) []) Tryz.prog (glob aR aS) _ hcf hN mixed 300 cLaw (.exit 0) s .ret s2 hb _ _ _ _ _ hM hGv hA _ fun ρ2 dl2 a2 w2 hM2 hA2 => ?_
        refine @end_wp (E (rhoI op a y 0 0 0) (knowL (LX 255)) []) Tryz.prog (glob aR aS) Tryz.f3 _ ρ2 dl2 v w2 s2 a2 hGv hM2 x4 hA2 .ret (.inr rfl) _ x5 fun u w3 hu hB3 => ?_
        have : Value.bool true = u := by simpa [resV, den] using hu
        subst this
        exact ⟨rfl, hB.trans (hB3.mono hB.size)⟩
  · obtain ⟨R, N, hAP, hRN⟩ := goodAll_u aR aS i hi (0 + a) y (by omega) (by omega) hy0 hle
    generalize ht : toldI (opI i) y = told at hAP hRN
    have hL := li_ok 0 255 op a y R N i told (by omega) (by omega) hle hRN
    have hN := namesE (V := []) (knowL_ok hL) (fun _ h => by cases h)
    have hT := ti_u aR aS op a y R N ha0 ha1 i told (knowL (LI 0 255 i told)) [] hAP
    have hcf := @call_ok' (E (rhoI op a y R N 0) (knowL (LI 0 255 i told)) []) Tryz.prog (glob aR aS) (tabS (TI 1 0 i told)) (@tabS_holds (E (rhoI op a y R N 0) (knowL (LI 0 255 i told)) []) _ _ _ hT) hN mixed 300 60
    obtain ⟨e, s, hr, he, hl, hp, hm⟩ := view_some (iterA_u aR aS (rhoI op a y R N 0) (fun j => b.tmps.toList.getD j undef) hi ht)
    obtain rfl := viewE_0 he
    refine @round_wp (E (rhoI op a y R N 0) (knowL (LI 0 255 i told)) []) Tryz.prog (glob aR aS) _ hcf hN mixed 300 bLaw 92 (knownI 1 0 255 i) b v hGv hd hlen (known_den hKV rfl rfl rfl) _ _ hr _ fun ρ' dl' a' w' hM hA => ?_
    show ∃ k', k' < k ∧ LInv aR aS w op a 1 0 255 i k' a' w'
    have hb := acts_below hA
    refine ⟨(255 + 1 - (y + 1)).toNat, by omega, y + 1, by omega, by omega, rfl, len_of hA hl, ?_, hGv.later hb, hB.trans (hb.mono hB.size), kv_of hA hp ?_ rfl rfl⟩
    · rw [acts_def hA]; exact mk_nil hM hm
    · show some (Value.int .i64 (IntKind.wrap .i64 (y + 1))) = _
      rw [wrapi_id _ (by omega) (by omega)]

theorem law_u (aR aS : Addr) (op a : Int) (ho0 : 0 ≤ op) (ho1 : op ≤ 255) (ha0 : 0 ≤ a) (ha1 : a ≤ 255) (w : World) (hG : (glob aR aS).holds w) : Calls Tryz.prog 3 #[.int .u8 op, .int .u8 a, .bool false] w (Ret (.bool true) w) := by
  obtain ⟨i, hi, hop⟩ : ∃ i : Nat, i < 20 ∧ op % 20 = (i : Int) := ⟨(op % 20).toNat, by omega, by omega⟩
  have hV : ∀ p ∈ [(opE, (i : Int))], p.1.ev (rhoI op a 0 0 0 0) = p.2 := by
    intro p hp
    obtain rfl := List.mem_singleton.1 hp
    show (IntKind.wrap .i64 op).tmod 20 = (i : Int)
    rw [wrapi_id _ (by omega) (by omega), Int.tmod_eq_emod_of_nonneg ho0]
    exact hop
  have hN := namesE (ρ := rhoI op a 0 0 0 0) (K := knowL []) (knowL_ok (fun _ h => by cases h)) hV
  have hT : ∀ e ∈ TA, @SOk (E (rhoI op a 0 0 0 0) (knowL []) [(opE, (i : Int))]) Tryz.prog (glob aR aS) e := fun e he => by
    obtain rfl := List.mem_singleton.1 he
    exact sokE (vs := []) (v := .bool true) rfl rfl rfl rfl fun w hG => awake_ok aR aS w hG
  have hcf := @call_ok' (E (rhoI op a 0 0 0 0) (knowL []) [(opE, (i : Int))]) Tryz.prog (glob aR aS) (tabS TA) (@tabS_holds (E (rhoI op a 0 0 0 0) (knowL []) [(opE, (i : Int))]) _ _ _ hT) hN mixed 300 60
  obtain ⟨e1, s1, hs1, he1, hl1, hp1, hm1⟩ := view_some (List.map_inj_left.1 (front_u (rhoI op a 0 0 0 0) aR aS) i (List.mem_range.2 hi))
  cases hfr : frontI (rhoI op a 0 0 0 0) aR aS false i with
  | none => rw [hfr] at hs1; cases hs1
  | some s =>
    rw [hfr] at hs1
    simp only [Option.some.injEq, Prod.mk.injEq] at hs1
    obtain ⟨_, rfl⟩ := hs1
    refine @calls_loop (E (rhoI op a 0 0 0 0) (knowL []) [(opE, (i : Int))]) Tryz.prog (glob aR aS) _ hcf hN mixed 300 3 Tryz.f3 cLaw bLaw Tryz.func3 body3 loop3 (argsI false) #[.int .u8 op, .int .u8 a, .bool false] w _ hG rfl _ hfr fun ρ' dl' a' w' hM hA => ?_
    have hb := acts_below hA
    refine loop_wp (LInv aR aS w op a 1 0 255 i) (fun k b v h => step_u aR aS op a ha0 ha1 i hi w k b v h) (k := (255 + 1 - 0 : Int).toNat) ⟨0, by omega, by omega, rfl, len_of hA hl1, ?_, hG.later hb, hb, kv_of hA hp1 rfl rfl rfl⟩
    rw [acts_def hA]
    exact mk_nil hM hm1
theorem goodAll_s (aR aS : Addr) (i : Nat) (hi : i < 20) (x y : Int) (hx0 : (-128) ≤ x) (hx1 : x ≤ 127) (hy0 : (-128) ≤ y) (hy1 : y ≤ 127) : Good aR aS (opI i) 5 (rkI 5 i) (-128) 127 x y := by
  match i, hi with
  | 0, _ => exact good_5_6 aR aS x y hx0 hx1 hy0 hy1
  | 1, _ => exact good_5_7 aR aS x y hx0 hx1 hy0 hy1
  | 2, _ => exact good_5_8 aR aS x y hx0 hx1 hy0 hy1
  | 3, _ => exact good_5_9 aR aS x y hx0 hx1 hy0 hy1
  | 4, _ => exact good_5_10 aR aS x y hx0 hx1 hy0 hy1
  | 5, _ => exact good_5_11 aR aS x y hx0 hx1 hy0 hy1
  | 6, _ => exact good_5_12 aR aS x y hx0 hx1 hy0 hy1
  | 7, _ => exact good_5_13 aR aS x y hx0 hx1 hy0 hy1
  | 8, _ => exact good_5_14 aR aS x y hx0 hx1 hy0 hy1
  | 9, _ => exact good_5_15 aR aS x y hx0 hx1 hy0 hy1
  | 10, _ => exact good_5_16 aR aS x y hx0 hx1 hy0 hy1
  | 11, _ => exact good_5_17 aR aS x y hx0 hx1 hy0 hy1
  | 12, _ => exact good_5_18 aR aS x y hx0 hx1 hy0 hy1
  | 13, _ => exact good_5_19 aR aS x y hx0 hx1 hy0 hy1
  | 14, _ => exact good_5_20 aR aS x y hx0 hx1 hy0 hy1
  | 15, _ => exact good_5_21 aR aS x y hx0 hx1 hy0 hy1
  | 16, _ => exact good_5_22 aR aS x y hx0 hx1 hy0 hy1
  | 17, _ => exact good_5_23 aR aS x y hx0 hx1 hy0 hy1
  | 18, _ => exact good_5_24 aR aS x y hx0 hx1 hy0 hy1
  | 19, _ => exact good_5_25 aR aS x y hx0 hx1 hy0 hy1
  | n + 20, hi => omega
theorem iterA_s (aR aS : Addr) (ρ : Nat → Int) (g : Nat → Value) {i : Nat} (hi : i < 20) {y : Int} {told : Bool} (ht : toldI (opI i) y = told) : view psI (iterI ρ aR aS 5 (-128) 127 told g i) = some (0, 92, stI 5 (-128) 127 i (.sym (.int .i64 (.bin .add .i64 (.var 3) (.lit 1)))), []) := by
  cases told with
  | true => exact List.map_inj_left.1 (iter_s_t ρ aR aS g) i (told_mem hi ht)
  | false => exact List.map_inj_left.1 (iter_s_n ρ aR aS g) i (not_mem hi ht)

theorem ti_s (aR aS : Addr) (op a y R N : Int) (ha0 : 0 ≤ a) (ha1 : a ≤ 255) (i : Nat) (told : Bool) (K : Know) (V : List (IE × Int)) (hAP : APx aR aS (opI i) 5 (rkI 5 i) ((-128) + a) y R N told) :
    ∀ e ∈ TI 5 (-128) i told, @SOk (E (rhoI op a y R N (-128)) K V) Tryz.prog (glob aR aS) e := by
  have ex : IE.ev (rhoI op a y R N (-128)) (exX (-128)) = (-128) + a := by
    simp only [exX, IE.ev, rhoI, ev_add, wrap_i64]
    omega
  intro e he
  simp only [TI, List.mem_cons, List.not_mem_nil, or_false] at he
  rcases he with rfl | rfl | rfl | rfl
  · refine sokE (vs := [.int .i64 5, .int .i64 (IE.ev (rhoI op a y R N (-128)) (exX (-128)))]) (v := .agg #[.int .i64 5, .int .u64 (((-128) + a) % 256)]) rfl rfl rfl rfl fun w hG => ?_
    rw [ex]
    exact int_5 aR aS ((-128) + a) hG
  · exact sokE (vs := [.int .i64 5, .int .i64 y]) (v := .agg #[.int .i64 5, .int .u64 (y % 256)]) rfl rfl rfl rfl fun w hG => int_5 aR aS y hG
  · exact sokE (vs := [.int .i64 (opI i), .agg #[.int .i64 5, .int .u64 (((-128) + a) % 256)], .agg #[.int .i64 5, .int .u64 (y % 256)]]) (v := .tuple #[.agg #[.int .i64 (rkI 5 i), .int .u64 R], .int .i64 0]) rfl rfl rfl rfl fun w hG => (hAP w hG).1
  · refine sokE (vs := [.int .i64 (opI i), .int .i64 (IE.ev (rhoI op a y R N (-128)) (exX (-128))), .int .i64 y]) (v := .tuple #[.int .i64 N, .bool told]) rfl rfl rfl rfl fun w hG => ?_
    rw [ex]
    exact (hAP w hG).2

/-- One round of the law's loop. -/
theorem step_s (aR aS : Addr) (op a : Int) (ha0 : 0 ≤ a) (ha1 : a ≤ 255) (i : Nat) (hi : i < 20) (w : World) (k : Nat) (b : Act) (v : World) (h : LInv aR aS w op a 5 (-128) 127 i k b v) :
    bLaw.wpIn Fence.wide 0 Tryz.prog (Exit.then (fun a' w' => ∃ k', k' < k ∧ LInv aR aS w op a 5 (-128) 127 i k' a' w') (after Tryz.prog cLaw (bodyPostM Fence.wide 0 Tryz.prog Tryz.f3 (Ret (.bool true) w)))) b v := by
  obtain ⟨y, hy0, hy1, hk, hlen, hd, hGv, hB, hKV⟩ := h
  rcases Int.lt_or_le 127 y with hgt | hle
  · have hL : ∀ f ∈ LX 127, f.ok (rhoI op a y 0 0 (-128)) := fun f hf => by
      obtain rfl := List.mem_singleton.1 hf
      exact ⟨rfl, cmp_leq_f hgt⟩
    have hN := namesE (V := []) (knowL_ok hL) (fun _ h => by cases h)
    have hcf := @call_ok' (E (rhoI op a y 0 0 (-128)) (knowL (LX 127)) []) Tryz.prog (glob aR aS) noO (@noO_holds (E (rhoI op a y 0 0 (-128)) (knowL (LX 127)) []) _ _) hN mixed 300 60
    have hx := List.map_inj_left.1 (exit_s (rhoI op a y 0 0 (-128)) aR aS (fun j => b.tmps.toList.getD j undef)) i (List.mem_range.2 hi)
    cases hr : exitI (rhoI op a y 0 0 (-128)) aR aS 5 (-128) 127 (fun j => b.tmps.toList.getD j undef) i with
    | none => rw [hr] at hx; cases hx
    | some r =>
      obtain ⟨e, s⟩ := r
      rw [hr] at hx
      simp only [backI] at hx
      split at hx
      · cases hx
      · rename_i e2 s2 hb
        simp only [Option.some.injEq, Prod.mk.injEq] at hx
        obtain ⟨x1, x2, x3, x4, x5⟩ := hx
        obtain rfl := viewE_2 (n := 0) x1
        obtain rfl := viewE_1 x2
        refine @round_wp (E (rhoI op a y 0 0 (-128)) (knowL (LX 127)) []) Tryz.prog (glob aR aS) _ hcf hN mixed 300 bLaw 92 (knownI 5 (-128) 127 i) b v hGv hd hlen (known_den hKV rfl rfl rfl) _ _ hr _ fun ρ' dl' a' w' hM hA => ?_
        refine @back_ok (E (rhoI op a y 0 0 (-128)) (knowL (LX 127)) []) Tryz.prog (glob aR aS) _ hcf hN mixed 300 cLaw (.exit 0) s .ret s2 hb _ _ _ _ _ hM hGv hA _ fun ρ2 dl2 a2 w2 hM2 hA2 => ?_
        refine @end_wp (E (rhoI op a y 0 0 (-128)) (knowL (LX 127)) []) Tryz.prog (glob aR aS) Tryz.f3 _ ρ2 dl2 v w2 s2 a2 hGv hM2 x4 hA2 .ret (.inr rfl) _ x5 fun u w3 hu hB3 => ?_
        have : Value.bool true = u := by simpa [resV, den] using hu
        subst this
        exact ⟨rfl, hB.trans (hB3.mono hB.size)⟩
  · obtain ⟨R, N, hAP, hRN⟩ := goodAll_s aR aS i hi ((-128) + a) y (by omega) (by omega) hy0 hle
    generalize ht : toldI (opI i) y = told at hAP hRN
    have hL := li_ok (-128) 127 op a y R N i told (by omega) (by omega) hle hRN
    have hN := namesE (V := []) (knowL_ok hL) (fun _ h => by cases h)
    have hT := ti_s aR aS op a y R N ha0 ha1 i told (knowL (LI (-128) 127 i told)) [] hAP
    have hcf := @call_ok' (E (rhoI op a y R N (-128)) (knowL (LI (-128) 127 i told)) []) Tryz.prog (glob aR aS) (tabS (TI 5 (-128) i told)) (@tabS_holds (E (rhoI op a y R N (-128)) (knowL (LI (-128) 127 i told)) []) _ _ _ hT) hN mixed 300 60
    obtain ⟨e, s, hr, he, hl, hp, hm⟩ := view_some (iterA_s aR aS (rhoI op a y R N (-128)) (fun j => b.tmps.toList.getD j undef) hi ht)
    obtain rfl := viewE_0 he
    refine @round_wp (E (rhoI op a y R N (-128)) (knowL (LI (-128) 127 i told)) []) Tryz.prog (glob aR aS) _ hcf hN mixed 300 bLaw 92 (knownI 5 (-128) 127 i) b v hGv hd hlen (known_den hKV rfl rfl rfl) _ _ hr _ fun ρ' dl' a' w' hM hA => ?_
    show ∃ k', k' < k ∧ LInv aR aS w op a 5 (-128) 127 i k' a' w'
    have hb := acts_below hA
    refine ⟨(127 + 1 - (y + 1)).toNat, by omega, y + 1, by omega, by omega, rfl, len_of hA hl, ?_, hGv.later hb, hB.trans (hb.mono hB.size), kv_of hA hp ?_ rfl rfl⟩
    · rw [acts_def hA]; exact mk_nil hM hm
    · show some (Value.int .i64 (IntKind.wrap .i64 (y + 1))) = _
      rw [wrapi_id _ (by omega) (by omega)]

theorem law_s (aR aS : Addr) (op a : Int) (ho0 : 0 ≤ op) (ho1 : op ≤ 255) (ha0 : 0 ≤ a) (ha1 : a ≤ 255) (w : World) (hG : (glob aR aS).holds w) : Calls Tryz.prog 3 #[.int .u8 op, .int .u8 a, .bool true] w (Ret (.bool true) w) := by
  obtain ⟨i, hi, hop⟩ : ∃ i : Nat, i < 20 ∧ op % 20 = (i : Int) := ⟨(op % 20).toNat, by omega, by omega⟩
  have hV : ∀ p ∈ [(opE, (i : Int))], p.1.ev (rhoI op a 0 0 0 (-128)) = p.2 := by
    intro p hp
    obtain rfl := List.mem_singleton.1 hp
    show (IntKind.wrap .i64 op).tmod 20 = (i : Int)
    rw [wrapi_id _ (by omega) (by omega), Int.tmod_eq_emod_of_nonneg ho0]
    exact hop
  have hN := namesE (ρ := rhoI op a 0 0 0 (-128)) (K := knowL []) (knowL_ok (fun _ h => by cases h)) hV
  have hT : ∀ e ∈ TA, @SOk (E (rhoI op a 0 0 0 (-128)) (knowL []) [(opE, (i : Int))]) Tryz.prog (glob aR aS) e := fun e he => by
    obtain rfl := List.mem_singleton.1 he
    exact sokE (vs := []) (v := .bool true) rfl rfl rfl rfl fun w hG => awake_ok aR aS w hG
  have hcf := @call_ok' (E (rhoI op a 0 0 0 (-128)) (knowL []) [(opE, (i : Int))]) Tryz.prog (glob aR aS) (tabS TA) (@tabS_holds (E (rhoI op a 0 0 0 (-128)) (knowL []) [(opE, (i : Int))]) _ _ _ hT) hN mixed 300 60
  obtain ⟨e1, s1, hs1, he1, hl1, hp1, hm1⟩ := view_some (List.map_inj_left.1 (front_s (rhoI op a 0 0 0 (-128)) aR aS) i (List.mem_range.2 hi))
  cases hfr : frontI (rhoI op a 0 0 0 (-128)) aR aS true i with
  | none => rw [hfr] at hs1; cases hs1
  | some s =>
    rw [hfr] at hs1
    simp only [Option.some.injEq, Prod.mk.injEq] at hs1
    obtain ⟨_, rfl⟩ := hs1
    refine @calls_loop (E (rhoI op a 0 0 0 (-128)) (knowL []) [(opE, (i : Int))]) Tryz.prog (glob aR aS) _ hcf hN mixed 300 3 Tryz.f3 cLaw bLaw Tryz.func3 body3 loop3 (argsI true) #[.int .u8 op, .int .u8 a, .bool true] w _ hG rfl _ hfr fun ρ' dl' a' w' hM hA => ?_
    have hb := acts_below hA
    refine loop_wp (LInv aR aS w op a 5 (-128) 127 i) (fun k b v h => step_s aR aS op a ha0 ha1 i hi w k b v h) (k := (127 + 1 - (-128) : Int).toNat) ⟨(-128), by omega, by omega, rfl, len_of hA hl1, ?_, hG.later hb, hb, kv_of hA hp1 rfl rfl rfl⟩
    rw [acts_def hA]
    exact mk_nil hM hm1
end
end Go.Proofs.YtedbnohkkepajaaGreatDoor
