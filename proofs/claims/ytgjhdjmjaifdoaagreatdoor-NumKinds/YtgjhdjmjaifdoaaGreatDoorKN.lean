import Derived.Test.YtgjhdjmjaifdoaaGreatDoorKA
import Derived.Test.YtgjhdjmjaifdoaaGreatDoorRXF
namespace Go.Proofs.YtgjhdjmjaifdoaaGreatDoor
noncomputable section
open Go Go.RX
open Go.RowKit (Below)
set_option maxRecDepth 1000000

def names : List ByteArray := [⟨#[98, 111, 111, 108]⟩, ⟨#[117, 56]⟩, ⟨#[117, 49, 54]⟩, ⟨#[117, 51, 50]⟩, ⟨#[117, 54, 52]⟩, ⟨#[105, 56]⟩, ⟨#[105, 49, 54]⟩, ⟨#[105, 51, 50]⟩, ⟨#[105, 54, 52]⟩, ⟨#[102, 51, 50]⟩, ⟨#[99, 54, 52]⟩]

def isName (s : ByteArray) : Bool := names.any fun t => decide (t = s)

theorem not_name {s name : ByteArray} (hs : isName s = true) (hn : isName name = false) : s ≠ name := fun e => by subst e; rw [hs] at hn; cases hn

def factN (cmpK : BinOp → Int → Option Bool) (long : Bool) (op : Op) (xs : List SVal) : Option SVal :=
  match op with
  | .binOp b _ _ _ _ => match xs with
    | [.v (.string s), .sym (.nm 0)] => match b with
      | .eql => if isName s then some (.v (.bool false)) else none
      | _ => none
    | [.sym (.nm 1), .v (.int .i64 c)] => match cmpK b c with
      | some r => some (.v (.bool r))
      | none => none
    | [.sym (.nm 2), .v (.int .i64 10)] => match b with
      | .gtr => some (.v (.bool long))
      | _ => none
    | _ => none
  | .call c => match c.callee, c.argTypes.toList, xs with
    | .builtin .len, [9], [.sym (.nm 0)] => some (.sym (.nm 2))
    | _, _, _ => none
  | _ => none

def keyN (i : Sy) (ks : List (Value × Nat)) : Option (Option Nat) :=
  match i with
  | .nm 0 => if ks.all (fun k => match k.1 with | .string s => isName s | _ => false) then some none else none
  | _ => none

theorem findNow_none {name : ByteArray} (hn : isName name = false) : ∀ (ks : List (Value × Nat)) (i : Nat), ks.all (fun k => match k.1 with | .string s => isName s | _ => false) = true → Instr.findNow .string (.string name) (bare ks) i = some none
  | [], _, _ => rfl
  | k :: ks, i, h => by
    simp only [List.all_cons, Bool.and_eq_true] at h
    obtain ⟨h1, h2⟩ := h
    obtain ⟨kv, b⟩ := k
    cases kv <;> simp at h1
    rename_i s
    have hne : (name == s) = false := by rw [beqB]; exact decide_eq_false (fun e => not_name h1 hn e.symm)
    simp only [bare, List.map_cons, Instr.findNow, Instr.sameNow, hne]
    exact findNow_none hn ks (i + 1) h2

@[reducible] def envN (name : ByteArray) (k : Int) (cmpK : BinOp → Int → Option Bool) (long : Bool) (hn : isName name = false) : Env where
  val i := match i with
    | .nm 0 => .string name
    | .nm 1 => .int .i64 k
    | .nm 2 => goInt name.size
    | _ => .bool false
  flat i := match i with
    | .nm 0 => trivial
    | .nm 1 => trivial
    | .nm 2 => trivial
    | .nm (_ + 3) => trivial
    | .int _ _ => trivial
  fact := factN cmpK long
  key := keyN
  keyOk i ks r h := by
    unfold keyN at h
    split at h
    · split at h
      · rename_i hk
        cases h
        exact findNow_none hn ks 0 hk
      · cases h
    · cases h

theorem namesOkN {name : ByteArray} {k : Int} {cmpK : BinOp → Int → Option Bool} {long : Bool} (hn : isName name = false) (hk : ∀ b c r, cmpK b c = some r → isCmp b = true ∧ cmpI b k c = r) (hl : long = decide ((name.size : Int) > 10)) :
    @NamesOk (envN name k cmpK long hn) Tryz.prog :=
  letI : Env := envN name k cmpK long hn
  { names := names1
    facts := by
      intro op xs y h ρ f o w ho hd
      change factN cmpK long op xs = some y at h
      unfold factN at h
      split at h
      · rename_i b ty x1 x2 yt
        have hd2 : denL ρ xs = some [f x1, f x2] := by simpa [Op.operands] using hd
        split at h
        · rename_i s
          obtain ⟨u, r, e1, e2, e3⟩ := denL_cons.1 hd2
          obtain ⟨u', r', e4, e5, e6⟩ := denL_cons.1 e2
          simp only [den, Option.some.injEq] at e1 e4
          simp only [List.cons.injEq] at e3
          obtain ⟨e7, e8⟩ := e3
          rw [e6] at e8
          simp only [List.cons.injEq] at e8
          split at h
          · split at h
            · rename_i hs
              cases h
              have hx : f x1 = .string s := by rw [e7, ← e1]
              have hy : f x2 = .string name := by rw [e8.1, ← e4]; rfl
              refine ⟨_, run_eqS ho hx hy, ?_⟩
              simp [den, decide_eq_false (not_name hs hn)]
            · cases h
          · cases h
        · rename_i c
          obtain ⟨u, r, e1, e2, e3⟩ := denL_cons.1 hd2
          obtain ⟨u', r', e4, e5, e6⟩ := denL_cons.1 e2
          simp only [den, Option.some.injEq] at e1 e4
          simp only [List.cons.injEq] at e3
          obtain ⟨e7, e8⟩ := e3
          rw [e6] at e8
          simp only [List.cons.injEq] at e8
          split at h
          · rename_i r hr
            cases h
            obtain ⟨h1, h2⟩ := hk _ _ _ hr
            have hx : f x1 = .int .i64 k := by rw [e7, ← e1]; rfl
            have hy : f x2 = .int .i64 c := by rw [e8.1, ← e4]
            refine ⟨_, run_cmp ho h1 hx hy, ?_⟩
            simp [den, h2]
          · cases h
        · obtain ⟨u, r, e1, e2, e3⟩ := denL_cons.1 hd2
          obtain ⟨u', r', e4, e5, e6⟩ := denL_cons.1 e2
          simp only [den, Option.some.injEq] at e1 e4
          simp only [List.cons.injEq] at e3
          obtain ⟨e7, e8⟩ := e3
          rw [e6] at e8
          simp only [List.cons.injEq] at e8
          split at h
          · cases h
            have hx : f x1 = .int .i64 name.size := by rw [e7, ← e1]; rfl
            have hy : f x2 = .int .i64 10 := by rw [e8.1, ← e4]
            refine ⟨_, run_cmp ho rfl hx hy, ?_⟩
            simp [den, hl, cmpI]
          · cases h
        · cases h
      · rename_i c
        split at h
        · rename_i hc1 hc2
          cases h
          obtain ⟨callee, args, tys⟩ := c
          simp only at hc1 hc2
          subst hc1
          obtain rfl : tys = #[9] := Array.toList_inj.1 hc2
          obtain ⟨u, r, e1, e2, e3⟩ := denL_cons.1 hd
          simp only [denL, Option.some.injEq] at e2
          subst e2
          simp only [den, Option.some.injEq] at e1
          have hargs : args.toList.map f = [u] := by simpa [Op.operands, Call.operands] using e3
          obtain ⟨x, rfl, hx⟩ : ∃ x, args = #[x] ∧ f x = u := by
            match hh : args.toList, hargs with
            | [x], hargs => exact ⟨x, Array.toList_inj.1 (by rw [hh]), by simpa using hargs⟩
          refine ⟨_, run_lenS ho rfl Tryz.underlying9 (hx.trans e1.symm), rfl⟩
        · cases h
      · cases h }
end
end Go.Proofs.YtgjhdjmjaifdoaaGreatDoor
