import Derived.Test.YtbjldpbngnnghaaGreatDoorKM1
import Derived.Test.YtbjldpbngnnghaaGreatDoorKM2
import Derived.Test.YtbjldpbngnnghaaGreatDoorKM3
import Derived.Test.YtbjldpbngnnghaaGreatDoorKM4
import Derived.Test.YtbjldpbngnnghaaGreatDoorKM5
import Derived.Test.YtbjldpbngnnghaaGreatDoorKM6
import Derived.Test.YtbjldpbngnnghaaGreatDoorKM7
import Derived.Test.YtbjldpbngnnghaaGreatDoorKM8
namespace Go.Proofs.YtbjldpbngnnghaaGreatDoor
noncomputable section
open Go Go.RX
open Go.RowKit (Below)
set_option maxRecDepth 1000000

theorem conc (aR aS : Addr) (c : Nat) (hc : c < 11) (s : ByteArray) (hs : s ∈ names) : (@call env0 Tryz.prog (glob aR aS) O15 300 60 (.fn 3) [.v (.int .i64 c), .v (.string s)] []).map (fun r => nrm r.1) = Tr := by
  have step : ∀ (lo n : Nat), (List.range' lo n).map (fun (c : Nat) => names.map fun s => (@call env0 Tryz.prog (glob aR aS) O15 300 60 (.fn 3) [.v (.int .i64 c), .v (.string s)] []).map fun r => nrm r.1) = (List.range' lo n).map (fun _ => names.map fun _ => Tr) → lo ≤ c → c < lo + n →
      (@call env0 Tryz.prog (glob aR aS) O15 300 60 (.fn 3) [.v (.int .i64 c), .v (.string s)] []).map (fun r => nrm r.1) = Tr := fun lo n h h1 h2 =>
    List.map_inj_left.1 (List.map_inj_left.1 h c (List.mem_range'_1.2 ⟨h1, h2⟩)) s hs
  rcases Nat.lt_or_ge c 2 with h | h
  · exact step 0 2 (conc0 aR aS) (by omega) (by omega)
  rcases Nat.lt_or_ge c 4 with h | h
  · exact step 2 2 (conc1 aR aS) (by omega) (by omega)
  rcases Nat.lt_or_ge c 6 with h | h
  · exact step 4 2 (conc2 aR aS) (by omega) (by omega)
  rcases Nat.lt_or_ge c 8 with h | h
  · exact step 6 2 (conc4 aR aS) (by omega) (by omega)
  rcases Nat.lt_or_ge c 9 with h | h
  · exact step 8 1 (conc5 aR aS) (by omega) (by omega)
  · exact step 9 2 (conc3 aR aS) (by omega) (by omega)

theorem isName_mem {s : ByteArray} (h : isName s = true) : s ∈ names := by
  unfold isName at h
  obtain ⟨t, ht, he⟩ := List.any_eq_true.1 h
  have := of_decide_eq_true he
  subst this
  exact ht

/-- **The law, at every input.** -/
theorem numKinds_ok (aR aS : Addr) (k : Int) (name : ByteArray) (w : World) (hG : (glob aR aS).holds w) :
    Calls Tryz.prog 3 #[.int .i64 k, .string name] w fun r w' => r = .returned (.bool true) ∧ Below w.heap.size w w' := by
  by_cases hn : isName name = true
  · have hs := isName_mem hn
    rcases Int.lt_or_le k 0 with hk | hk
    · exact law_of_run (envN ⟨#[]⟩ k cmp1 false empty_no) (namesOkN empty_no (cmp1_ok hk) rfl) (List.map_inj_left.1 (sym1 aR aS k) name hs) rfl rfl hG
    · rcases Int.lt_or_le k 11 with hk' | hk'
      · obtain ⟨c, rfl⟩ := Int.eq_ofNat_of_zero_le hk
        exact law_of_run env0 namesOk0 (conc aR aS c (by omega) name hs) rfl rfl hG
      · exact law_of_run (envN ⟨#[]⟩ k cmp2 false empty_no) (namesOkN empty_no (cmp2_ok hk') rfl) (List.map_inj_left.1 (sym2 aR aS k) name hs) rfl rfl hG
  · have hn : isName name = false := by simpa using hn
    by_cases hl : (name.size : Int) > 10
    · exact law_of_run (envN name k cmp0 true hn) (namesOkN hn (cmp0_ok k) (by simp [hl])) (symL aR aS name hn k) rfl rfl hG
    · rcases Int.lt_or_le k 0 with hk | hk
      · exact law_of_run (envN name k cmp1 false hn) (namesOkN hn (cmp1_ok hk) (by simp [hl])) (symB1 aR aS name hn k) rfl rfl hG
      · rcases Int.lt_or_le k 11 with hk' | hk'
        · obtain ⟨c, rfl⟩ := Int.eq_ofNat_of_zero_le hk
          exact law_of_run (envN name 0 cmp0 false hn) (namesOkN hn (cmp0_ok 0) (by simp [hl])) (List.map_inj_left.1 (symN aR aS name hn) c (List.mem_range.2 (by omega))) rfl rfl hG
        · exact law_of_run (envN name k cmp2 false hn) (namesOkN hn (cmp2_ok hk') (by simp [hl])) (symB2 aR aS name hn k) rfl rfl hG
end
end Go.Proofs.YtbjldpbngnnghaaGreatDoor
