import Derived.Test.YtbhhdjlmbmeiaaaGreatDoorHL
namespace Go.Proofs.YtbhhdjlmbmeiaaaGreatDoor
noncomputable section
open Go Go.RX
open Go.RowKit (Below)
set_option maxRecDepth 1000000
set_option maxHeartbeats 4000000
theorem er_den {W : Nat → Nat} {C : Nat → Nat × Nat} {ρ : Nat → Int} {L : List CF} {T : List XE} {ok : Bool} {i : Nat} {e : Int} (h : ρ i = e) (ho : decide (e = 0) = ok) : @den (E W C ρ L T) (fun _ => none) (er ok i) = some (.int .i64 e) := by
  cases ok with
  | true =>
    have := of_decide_eq_true ho
    subst this
    rfl
  | false =>
    show some (Value.int .i64 (ρ i)) = _
    rw [h]
theorem er_nf (ok : Bool) (i : Nat) : nf (er ok i) = true := by cases ok <;> rfl
theorem le_ok {ρ : Nat → Int} {ok : Bool} {i : Nat} {e : Int} (h : ρ i = e) (ho : decide (e = 0) = ok) : ∀ f ∈ LE ok i, f.ok ρ := fun f hf => by
  cases ok with
  | true => cases hf
  | false =>
    have hne := of_decide_eq_false ho
    simp only [LE, Bool.false_eq_true, if_false, List.mem_cons, List.not_mem_nil, or_false] at hf
    rcases hf with rfl | rfl
    · refine ⟨rfl, ?_⟩
      show (ρ i != 0) = true
      rw [h]
      exact bne_iff_ne.2 hne
    · refine ⟨rfl, ?_⟩
      show (ρ i == 0) = false
      rw [h]
      exact beq_false_of_ne hne
theorem cmpR_den {W : Nat → Nat} {C : Nat → Nat × Nat} {ρ : Nat → Int} {L : List CF} {T : List XE} {p : Fl} {ka kb ea eb m : Int} (q1 : p.A = decide (ea = 0)) (q2 : p.B = decide (eb = 0)) (q3 : p.r1 = (ka != kb)) (q4 : p.r2 = (ka == 10)) (g6 : ρ 6 = ea) (g16 : ρ 16 = eb) (g38 : ρ 38 = m) :
    @den (E W C ρ L T) (fun _ => none) (cmpR p) = some (if ea ≠ 0 then .tuple #[.int .i64 0, .int .i64 ea] else if eb ≠ 0 then .tuple #[.int .i64 0, .int .i64 eb] else if ka ≠ kb ∨ ka = 10 then .tuple #[.int .i64 0, .int .i64 12] else .tuple #[.int .i64 m, .int .i64 0]) := by
  subst g6 g16 g38
  unfold cmpR
  rw [q1, q2, q3, q4]
  by_cases h1 : ρ 6 = 0
  · by_cases h2 : ρ 16 = 0
    · by_cases h3 : ka ≠ kb ∨ ka = 10
      · have e1 : (ka != kb || ka == 10) = true := by
          rcases h3 with h3 | h3
          · simp [h3]
          · simp [h3]
        simp only [h1, h2, decide_true, Bool.not_true, Bool.false_eq_true, if_false, e1, if_true, ne_eq, not_true]
        rw [if_pos (by simpa using h3)]
        rfl
      · have h4 : ka = kb := by
          rcases Int.lt_trichotomy ka kb with h | h | h
          · exact absurd (.inl (by omega)) h3
          · exact h
          · exact absurd (.inl (by omega)) h3
        have h5 : ka ≠ 10 := fun h => h3 (.inr h)
        have e1 : (ka != kb || ka == 10) = false := by
          subst h4
          simp [h5]
        simp only [h1, h2, decide_true, Bool.not_true, Bool.false_eq_true, if_false, e1, ne_eq, not_true]
        rw [if_neg (by simpa using h3)]
        rfl
    · simp only [h1, h2, decide_true, decide_false, Bool.not_true, Bool.not_false, Bool.false_eq_true, if_false, if_true, ne_eq, not_true, not_false_eq_true]
      rfl
  · simp only [h1, decide_false, Bool.not_false, if_true, ne_eq, not_false_eq_true]
    rfl
theorem numCasts_ok (aR aS : Addr) (k ka a kb b kc c : Int) (a0 : 0 ≤ a) (a1 : a < 18446744073709551616) (b0 : 0 ≤ b) (b1 : b < 18446744073709551616) (c0' : 0 ≤ c) (c1' : c < 18446744073709551616) (w : World) (hG : (glob aR aS).holds w) :
    Calls Tryz.prog 3 #[.int .i64 k, agV ka a, agV kb b, agV kc c] w (Ret (.bool true) w) := by
  obtain ⟨ea, ha, va⟩ := vE aR aS ka a a0 a1
  obtain ⟨eb, hb, vb⟩ := vE aR aS kb b b0 b1
  obtain ⟨ec, hc, vc⟩ := vE aR aS kc c c0' c1'
  obtain ⟨K, X, x, hC⟩ := all_C aR aS k ka a a0 a1
  obtain ⟨S, D, y, hS⟩ := all_S aR aS k ka a a0 a1
  have hcmp : ∃ m : Int, ∀ w, (glob aR aS).holds w → Calls Tryz.prog 9 #[agV ka a, agV kb b] w (Ret (if ea ≠ 0 then .tuple #[.int .i64 0, .int .i64 ea] else if eb ≠ 0 then .tuple #[.int .i64 0, .int .i64 eb] else if ka ≠ kb ∨ ka = 10 then .tuple #[.int .i64 0, .int .i64 12] else .tuple #[.int .i64 m, .int .i64 0]) w) ∧
      (ea = 0 → eb = 0 → ka = kb → ka ≠ 10 → Calls Tryz.prog 13 #[agV ka a, agV kb b] w (Ret (.int .i64 m) w)) := by
    by_cases h1 : ea = 0
    · subst h1
      by_cases h2 : eb = 0
      · subst h2
        by_cases h3 : ka = kb
        · subst h3
          by_cases h4 : ka = 10
          · subst h4
            refine ⟨0, fun w hG => ⟨?_, fun _ _ _ h => absurd rfl h⟩⟩
            simp only [ne_eq, not_true, if_false, or_true, if_true]
            exact err_c ha hb w hG
          · obtain ⟨m, hm⟩ := cmp_ok a0 b0 ha hb (va rfl) (vb rfl) h4
            refine ⟨m, fun w hG => ⟨?_, fun _ _ _ _ => (hm w hG).2⟩⟩
            simp only [ne_eq, not_true, if_false, h4, or_self]
            exact (hm w hG).1
        · refine ⟨0, fun w hG => ⟨?_, fun _ _ h => absurd h h3⟩⟩
          simp only [ne_eq, not_true, if_false, h3, not_false_eq_true, true_or, if_true]
          exact err_k ha hb (fun h => h3 h.symm) w hG
      · refine ⟨0, fun w hG => ⟨?_, fun _ h => absurd h h2⟩⟩
        simp only [ne_eq, not_true, if_false, h2, not_false_eq_true, if_true]
        exact err_b ha hb h2 w hG
    · refine ⟨0, fun w hG => ⟨?_, fun h => absurd h h1⟩⟩
      simp only [ne_eq, h1, not_false_eq_true, if_true]
      exact err_a ha hb h1 w hG
  obtain ⟨m, hm⟩ := hcmp
  let p : Fl := ⟨decide (ea = 0), decide (eb = 0), decide (ec = 0), ka != kb, ka == 10, kc != 0, c == 1⟩
  have hL : ∀ f ∈ LL p, f.ok (rl a ka ea b kb eb c kc ec k K X x S D y m) := fun f hf => by
    rcases List.mem_append.1 hf with hf | hf
    · simp only [List.mem_cons, List.not_mem_nil, or_false] at hf
      rcases hf with rfl | rfl | rfl | rfl | rfl
      · exact ⟨rfl, rfl⟩
      · refine ⟨rfl, ?_⟩
        show (kb != ka) = (ka != kb)
        exact bne_comm
      · exact ⟨rfl, rfl⟩
      · exact ⟨rfl, rfl⟩
      · exact ⟨rfl, rfl⟩
    rcases List.mem_append.1 hf with hf | hf
    · exact le_ok (ok := decide (ea = 0)) (e := ea) rfl rfl f hf
    rcases List.mem_append.1 hf with hf | hf
    · exact le_ok (ok := decide (eb = 0)) (e := eb) rfl rfl f hf
    rcases List.mem_append.1 hf with hf | hf
    · exact le_ok (ok := decide (ec = 0)) (e := ec) rfl rfl f hf
    split at hf
    case isFalse => cases hf
    rename_i hh
    obtain rfl := List.mem_singleton.1 hf
    have h1 : ec = 0 := of_decide_eq_true (Bool.and_eq_true_iff.1 hh).1
    have h2 : kc = 0 := by
      have := (Bool.and_eq_true_iff.1 hh).2
      simpa [p] using this
    have hv := vc h1
    have h3 : c = 0 ∨ c = 1 := by
      rcases hv with ⟨n, B1, _⟩ | ⟨h, _⟩ | h
      · unfold Bnd at B1
        omega
      · omega
      · omega
    refine ⟨rfl, ?_⟩
    show (c == 0) = !(c == 1)
    rcases h3 with rfl | rfl <;> rfl
  have hU : ∀ e ∈ UL p, @SOk (E (wF 0) (cF 0) (rl a ka ea b kb eb c kc ec k K X x S D y m) (LL p) []) Tryz.prog (glob aR aS) e := fun e he => by
    rcases List.mem_append.1 he with he | he
    · simp only [List.mem_cons, List.not_mem_nil, or_false] at he
      rcases he with rfl | rfl | rfl | rfl | rfl | rfl | rfl | rfl | rfl | rfl | rfl | rfl
      · exact sokE (vs := []) (v := .bool true) rfl rfl rfl rfl fun w hG => awake_ok aR aS w hG
      · exact sokE (vs := [.int .i64 k, agV ka a]) (v := .tuple #[agV K X, .int .i64 x]) rfl rfl rfl rfl fun w hG => (hC w hG).1
      · exact sokE (vs := [.int .i64 k, agV ka a]) (v := .tuple #[agV K X, .int .i64 x]) rfl rfl rfl rfl fun w hG => (hC w hG).2
      · exact sokE (vs := [.int .i64 k, agV ka a]) (v := .tuple #[agV S D, .int .i64 y]) rfl rfl rfl rfl fun w hG => (hS w hG).1
      · exact sokE (vs := [.int .i64 k, agV ka a]) (v := .tuple #[agV S D, .int .i64 y]) rfl rfl rfl rfl fun w hG => (hS w hG).2
      · exact sokE (vs := [agV ka a]) (v := .int .i64 ea) rfl (er_nf _ _) rfl (er_den rfl rfl) fun w hG => (ha w hG).1
      · exact sokE (vs := [agV ka a]) (v := .int .i64 ea) rfl (er_nf _ _) rfl (er_den rfl rfl) fun w hG => (ha w hG).2
      · exact sokE (vs := [agV kb b]) (v := .int .i64 eb) rfl (er_nf _ _) rfl (er_den rfl rfl) fun w hG => (hb w hG).1
      · exact sokE (vs := [agV kb b]) (v := .int .i64 eb) rfl (er_nf _ _) rfl (er_den rfl rfl) fun w hG => (hb w hG).2
      · exact sokE (vs := [agV kc c]) (v := .int .i64 ec) rfl (er_nf _ _) rfl (er_den rfl rfl) fun w hG => (hc w hG).1
      · exact sokE (vs := [agV kc c]) (v := .int .i64 ec) rfl (er_nf _ _) rfl (er_den rfl rfl) fun w hG => (hc w hG).2
      · refine sokE (vs := [agV ka a, agV kb b]) (v := if ea ≠ 0 then .tuple #[.int .i64 0, .int .i64 ea] else if eb ≠ 0 then .tuple #[.int .i64 0, .int .i64 eb] else if ka ≠ kb ∨ ka = 10 then .tuple #[.int .i64 0, .int .i64 12] else .tuple #[.int .i64 m, .int .i64 0]) rfl ?_ rfl ?_ fun w hG => (hm w hG).1
        · unfold cmpR
          (repeat' split) <;> rfl
        · exact cmpR_den rfl rfl rfl rfl rfl rfl rfl
    · split at he
      case isFalse => cases he
      rename_i hh
      obtain rfl := List.mem_singleton.1 he
      have hf : (decide (ea = 0) && decide (eb = 0) && !(ka != kb) && !(ka == 10)) = true := hh
      simp only [Bool.and_eq_true, decide_eq_true_eq, Bool.not_eq_true', bne_eq_false_iff_eq, beq_eq_false_iff_ne] at hf
      exact sokE (vs := [agV ka a, agV kb b]) (v := .int .i64 m) rfl rfl rfl rfl fun w hG => (hm w hG).2 hf.1.1.1 hf.1.1.2 hf.1.2 hf.2
  obtain ⟨v', h3, h4⟩ := @calls_of_run (E (wF 0) (cF 0) (rl a ka ea b kb eb c kc ec k K X x S D y m) (LL p) []) Tryz.prog (glob aR aS) _ (@tabS_holds (E (wF 0) (cF 0) (rl a ka ea b kb eb c kc ec k K X x S D y m) (LL p) []) _ _ _ hU) (namesE hL (fun _ h => by cases h)) mixed 300 60
    3 xsC (.v (.bool true)) (law_all _ _ _ aR aS p) rfl (fun _ => none) #[.int .i64 k, agV ka a, agV kb b, agV kc c] rfl rfl w hG
  have : some (Value.bool true) = some v' := h3
  obtain rfl := Option.some.inj this
  exact h4
end
end Go.Proofs.YtbhhdjlmbmeiaaaGreatDoor
