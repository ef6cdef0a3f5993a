import Derived.Test.YthlbienfimdkbaaGreatDoorRXB
import Derived.Test.YthlbienfimdkbaaGreatDoorRXC
namespace Go.RX
noncomputable section
open Go.RowKit (Below)

/-! ### A string that is none of some words -/
def isWord (W : List ByteArray) (s : ByteArray) : Bool := W.any fun t => decide (t = s)
theorem isWord_mem {W : List ByteArray} {s : ByteArray} (h : isWord W s = true) : s ∈ W := by
  obtain ⟨t, ht, he⟩ := List.any_eq_true.1 h
  have := of_decide_eq_true he
  subst this
  exact ht
theorem not_word {W : List ByteArray} {s name : ByteArray} (hs : isWord W s = true) (hn : isWord W name = false) : s ≠ name := fun e => by subst e; rw [hs] at hn; cases hn

/-- The name 0 is a string that is none of the words, its length the number of the symbol n. -/
def extraN (P : Program) (W : List ByteArray) (n : Nat) (rest : Op → List SVal → Option SVal) (op : Op) (xs : List SVal) : Option SVal :=
  match op with
  | .binOp .eql _ _ _ _ => match xs with
    | [.v (.string s), .sym (.nm 0)] => if isWord W s then some (.v (.bool false)) else none
    | [.sym (.nm 0), .v (.string s)] => if isWord W s then some (.v (.bool false)) else none
    | _ => rest op xs
  | .call c => match c.callee, c.argTypes.toList, xs with
    | .builtin .len, [ty], [.sym (.nm 0)] => match P.underlying ty with
      | some .string => some (.sym (.int .i64 (.var n)))
      | _ => none
    | _, _, _ => rest op xs
  | _ => rest op xs

theorem extraN_ok {P : Program} {nmv : Nat → Value} {hnm : ∀ i, Flat (nmv i)} {ρ : Nat → Int} {K : Know} {W : List ByteArray} {n : Nat} {rest : Op → List SVal → Option SVal} {name : ByteArray} (h0 : nmv 0 = .string name) (hn : isWord W name = false) (hρ : ρ n = name.size)
    (hE : ExtraOk P nmv hnm ρ K rest) : ExtraOk P nmv hnm ρ K (extraN P W n rest) := by
  intro op xs y h r f o w ho hd
  have hv' : ∀ s, (envS P nmv hnm ρ K (extraN P W n rest)).val s = (envS P nmv hnm ρ K rest).val s := fun _ => rfl
  have back : rest op xs = some y → ∃ v, (execOp f o).run P w = .ok (.value v) w ∧ @den (envS P nmv hnm ρ K (extraN P W n rest)) r y = some v := fun h => by
    rw [denL_val hv'] at hd
    obtain ⟨v, h3, h4⟩ := hE op xs y h r f o w ho hd
    exact ⟨v, h3, by rw [den_val hv']; exact h4⟩
  have hnm0 : ∀ r, @den (envS P nmv hnm ρ K (extraN P W n rest)) r (.sym (.nm 0)) = some (.string name) := fun r => by
    show some (nmv 0) = _
    rw [h0]
  unfold extraN at h
  split at h
  · rename_i ty x1 x2 yt
    split at h
    · rename_i s
      split at h
      case isFalse => cases h
      rename_i hs
      cases h
      have hd2 : @denL (envS P nmv hnm ρ K (extraN P W n rest)) r [.v (.string s), .sym (.nm 0)] = some [f x1, f x2] := by simpa [Op.operands] using hd
      obtain ⟨d1, d2⟩ := denL_two hd2
      rw [hnm0] at d2
      refine ⟨_, run_eqS ho (Option.some.inj d1).symm (Option.some.inj d2).symm, ?_⟩
      rw [decide_eq_false (not_word hs hn)]
      rfl
    · rename_i s
      split at h
      case isFalse => cases h
      rename_i hs
      cases h
      have hd2 : @denL (envS P nmv hnm ρ K (extraN P W n rest)) r [.sym (.nm 0), .v (.string s)] = some [f x1, f x2] := by simpa [Op.operands] using hd
      obtain ⟨d1, d2⟩ := denL_two hd2
      rw [hnm0] at d1
      refine ⟨_, run_eqS ho (Option.some.inj d1).symm (Option.some.inj d2).symm, ?_⟩
      rw [decide_eq_false (fun e => not_word hs hn e.symm)]
      rfl
    · exact back h
  · rename_i c
    split at h
    · rename_i ty hc1 hc2
      split at h
      case h_2 => cases h
      rename_i hu
      cases h
      obtain ⟨callee, args, tys⟩ := c
      simp only at hc1 hc2
      subst hc1
      obtain rfl : tys = #[ty] := Array.toList_inj.1 hc2
      obtain ⟨x, rfl, hx⟩ : ∃ x, args = #[x] ∧ some (f x) = some (.string name) := by
        have hargs : @denL (envS P nmv hnm ρ K (extraN P W n rest)) r [.sym (.nm 0)] = some (args.toList.map f) := by simpa [Op.operands, Call.operands] using hd
        simp only [denL, hnm0] at hargs
        have hargs := (Option.some.inj hargs).symm
        rcases hh : args.toList with _ | ⟨x, _ | ⟨y, l⟩⟩
        · rw [hh] at hargs; simp at hargs
        · rw [hh] at hargs
          exact ⟨x, Array.toList_inj.1 (by rw [hh]), congrArg some (by simpa using hargs)⟩
        · rw [hh] at hargs; simp at hargs
      refine ⟨_, run_lenS ho rfl hu (Option.some.inj hx), ?_⟩
      show some (Value.int .i64 (ρ n)) = _
      rw [hρ]
      rfl
    · exact back h
  · exact back h

def keyW (W : List ByteArray) (i : Sy) (ks : List (Value × Nat)) : Option (Option Nat) :=
  match i with
  | .nm 0 => if ks.all (fun k => match k.1 with | .string s => isWord W s | _ => false) then some none else none
  | _ => none

theorem findNow_no {W : List ByteArray} {name : ByteArray} (hn : isWord W name = false) : ∀ (ks : List (Value × Nat)) (i : Nat), ks.all (fun k => match k.1 with | .string s => isWord W s | _ => false) = true → Instr.findNow .string (.string name) (bare ks) i = some none
  | [], _, _ => rfl
  | k :: ks, i, h => by
    simp only [List.all_cons, Bool.and_eq_true] at h
    obtain ⟨h1, h2⟩ := h
    obtain ⟨kv, b⟩ := k
    cases kv <;> simp at h1
    rename_i s
    have hne : (name == s) = false := by rw [beqB]; exact decide_eq_false (fun e => not_word h1 hn e.symm)
    simp only [bare, List.map_cons, Instr.findNow, Instr.sameNow, hne]
    exact findNow_no hn ks (i + 1) h2

/-- As envS, and no key of words is the name 0. -/
@[reducible] def envW (P : Program) (W : List ByteArray) (nmv : Nat → Value) (hnm : ∀ i, Flat (nmv i)) (ρ : Nat → Int) (K : Know) (extra : Op → List SVal → Option SVal) {name : ByteArray} (h0 : nmv 0 = .string name) (hn : isWord W name = false) : Env where
  val := valS nmv ρ
  flat i := match i with
    | .nm i => hnm i
    | .int _ _ => trivial
  fact op xs := factS P K extra op xs
  key := keyW W
  keyOk i ks r h := by
    unfold keyW at h
    split at h
    · split at h
      · rename_i hk
        cases h
        show Instr.findNow .string (nmv 0) (bare ks) 0 = _
        rw [h0]
        exact findNow_no hn ks 0 hk
      · cases h
    · cases h

theorem namesOkW {P : Program} {W : List ByteArray} {nmv : Nat → Value} {hnm : ∀ i, Flat (nmv i)} {ρ : Nat → Int} {K : Know} {extra : Op → List SVal → Option SVal} {name : ByteArray} (h0 : nmv 0 = .string name) (hn : isWord W name = false)
    (hN : @NamesOk (envS P nmv hnm ρ K extra) P) : @NamesOk (envW P W nmv hnm ρ K extra h0 hn) P :=
  @NamesOk.mk (envW P W nmv hnm ρ K extra h0 hn) P (@NamesOk.names (envS P nmv hnm ρ K extra) P hN) (by
    intro op xs y h r f o w ho hd
    have hv : ∀ s, (envW P W nmv hnm ρ K extra h0 hn).val s = (envS P nmv hnm ρ K extra).val s := fun _ => rfl
    rw [denL_val hv] at hd
    obtain ⟨v, h1, h2⟩ := @NamesOk.facts (envS P nmv hnm ρ K extra) P hN op xs y h r f o w ho hd
    exact ⟨v, h1, by rw [den_val hv]; exact h2⟩)
end
end Go.RX

namespace Go.RX
noncomputable section
/-! ### Temporaries as a function of their places: pieces of a body with all other temporaries free -/
def mkT (n : Nat) (g : Nat → SVal) : List SVal := (List.range n).map g
def upd (g : Nat → SVal) (k : Nat) (v : SVal) : Nat → SVal := fun i => bif Nat.beq i k then v else g i
theorem mkT_upd {n : Nat} {g : Nat → SVal} {k : Nat} {v : SVal} (h : g k = v) : mkT n (upd g k v) = mkT n g := by
  unfold mkT
  refine List.map_congr_left fun i _ => ?_
  unfold upd
  cases hb : Nat.beq i k with
  | false => rfl
  | true =>
    have := Nat.eq_of_beq_eq_true hb
    subst this
    exact h.symm
/-- What is known of three symbols, each by its own list. -/
def know3 (A B C : List CF) : Know := fun op a c => match a with
  | .var 0 => knowL A op a c
  | .var 1 => knowL B op a c
  | .var 2 => knowL C op a c
  | _ => none
theorem know3_ok {ρ : Nat → Int} {A B C : List CF} (hA : ∀ f ∈ A, f.ok ρ) (hB : ∀ f ∈ B, f.ok ρ) (hC : ∀ f ∈ C, f.ok ρ) : (know3 A B C).ok ρ := fun op a c r h => by
  unfold know3 at h
  split at h
  · exact knowL_ok hA op _ c r h
  · exact knowL_ok hB op _ c r h
  · exact knowL_ok hC op _ c r h
  · cases h
end
end Go.RX
