import Derived.Test.YtgjhdjmjaifdoaaGreatDoorKM1
import Derived.Test.YtgjhdjmjaifdoaaGreatDoorKM2
import Derived.Test.YtgjhdjmjaifdoaaGreatDoorKM3
import Derived.Test.YtgjhdjmjaifdoaaGreatDoorKM5
import Derived.Test.YtgjhdjmjaifdoaaGreatDoorKM6
namespace Go.Proofs.YtgjhdjmjaifdoaaGreatDoor
noncomputable section
open Go Go.RX
open Go.RowKit (Below)
set_option maxRecDepth 1000000

theorem conc (aR aS : Addr) (c : Nat) (hc : c < 11) (s : ByteArray) (hs : s ∈ names) : (@call env0 Tryz.prog (glob aR aS) O15 300 60 (.fn 3) [.v (.int .i64 c), .v (.string s)] []).map (fun r => nrm r.1) = Tr := by
  match c, hc with
  | 0, _ => exact List.map_inj_left.1 (conc0 aR aS) s hs
  | 1, _ => exact List.map_inj_left.1 (conc1 aR aS) s hs
  | 2, _ => exact List.map_inj_left.1 (conc2 aR aS) s hs
  | 3, _ => exact List.map_inj_left.1 (conc3 aR aS) s hs
  | 4, _ => exact List.map_inj_left.1 (conc4 aR aS) s hs
  | 5, _ => exact List.map_inj_left.1 (conc5 aR aS) s hs
  | 6, _ => exact List.map_inj_left.1 (conc6 aR aS) s hs
  | 7, _ => exact List.map_inj_left.1 (conc7 aR aS) s hs
  | 8, _ => exact List.map_inj_left.1 (conc8 aR aS) s hs
  | 9, _ => exact List.map_inj_left.1 (conc9 aR aS) s hs
  | 10, _ => exact List.map_inj_left.1 (conc10 aR aS) s hs
  | n + 11, hc => omega

theorem isName_mem {s : ByteArray} (h : isName s = true) : s ∈ names := by
  unfold isName at h
  obtain ⟨t, ht, he⟩ := List.any_eq_true.1 h
  have := of_decide_eq_true he
  subst this
  exact ht

/-- **The law, at every input.** -/
theorem numKinds_ok (aR aS : Addr) (k : Int) (name : ByteArray) (w : World) (hG : (glob aR aS).holds w) :
    Calls Tryz.prog 3 #[.int .i64 k, .string name] w fun r w' => r = .returned (.bool true) ∧ Below w.heap.size w w' := by
  by_cases hn : isName name = true
  · have hs := isName_mem hn
    rcases Int.lt_or_le k 0 with hk | hk
    · exact law_of_run (envN ⟨#[]⟩ k cmp1 false empty_no) (namesOkN empty_no (cmp1_ok hk) rfl) (List.map_inj_left.1 (sym1 aR aS k) name hs) rfl rfl hG
    · rcases Int.lt_or_le k 11 with hk' | hk'
      · obtain ⟨c, rfl⟩ := Int.eq_ofNat_of_zero_le hk
        exact law_of_run env0 namesOk0 (conc aR aS c (by omega) name hs) rfl rfl hG
      · exact law_of_run (envN ⟨#[]⟩ k cmp2 false empty_no) (namesOkN empty_no (cmp2_ok hk') rfl) (List.map_inj_left.1 (sym2 aR aS k) name hs) rfl rfl hG
  · have hn : isName name = false := by simpa using hn
    by_cases hl : (name.size : Int) > 10
    · exact law_of_run (envN name k cmp0 true hn) (namesOkN hn (cmp0_ok k) (by simp [hl])) (symL aR aS name hn k) rfl rfl hG
    · rcases Int.lt_or_le k 0 with hk | hk
      · exact law_of_run (envN name k cmp1 false hn) (namesOkN hn (cmp1_ok hk) (by simp [hl])) (symB1 aR aS name hn k) rfl rfl hG
      · rcases Int.lt_or_le k 11 with hk' | hk'
        · obtain ⟨c, rfl⟩ := Int.eq_ofNat_of_zero_le hk
          exact law_of_run (envN name 0 cmp0 false hn) (namesOkN hn (cmp0_ok 0) (by simp [hl])) (List.map_inj_left.1 (symN aR aS name hn) c (List.mem_range.2 (by omega))) rfl rfl hG
        · exact law_of_run (envN name k cmp2 false hn) (namesOkN hn (cmp2_ok hk') (by simp [hl])) (symB2 aR aS name hn k) rfl rfl hG
end
end Go.Proofs.YtgjhdjmjaifdoaaGreatDoor
