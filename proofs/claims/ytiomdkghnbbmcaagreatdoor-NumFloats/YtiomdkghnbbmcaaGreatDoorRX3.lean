import Derived.Test.YtiomdkghnbbmcaaGreatDoorRX2
namespace Go.RX
noncomputable section
open Go.RowKit (Below)

variable [Env]

section
variable {P : Program} {w0 w : World} {ρ : Ren} {H : SHeap} {t : List SVal} {a : Act} {o : Oper}

 omit [Env] in
theorem run_pure_bind {α β : Type} (x : α) (k : α → Sem β) (w : World) : ((pure x : Sem α) >>= k).run P w = (k x).run P w := rfl

theorem PSemOk.here {x : SVal} {v : Value} {s : Sem Value} (hr : s.run P w = .ok v w) (hx : den ρ x = some v) : PSemOk ρ x w (s.run P w) := ⟨v, hr, hx⟩

theorem SemOk.here {x : SVal} {v : Value} {s : Sem Value} (hR : Rel w0 ρ H w) (hr : s.run P w = .ok v w) (hx : den ρ x = some v) : SemOk w0 H ρ x H (s.run P w) :=
  ⟨ρ, v, w, hr, Ext.refl _ _, hx, hR⟩

theorem den_ptr {i off : Nat} {v : Value} (h : den ρ (.ptr i off) = some v) : ∃ p, ρ i = some p ∧ v = .pointer (some ⟨p.b, off, none⟩) := by
  simp only [den] at h
  split at h <;> simp at h
  rename_i b hb
  exact ⟨b, hb, h.symm⟩

theorem den_slice {i off len cap : Nat} {v : Value} (h : den ρ (.slice i off len cap) = some v) : ∃ p, ρ i = some p ∧ v = .slice (some ⟨p.b, off, none⟩) len cap := by
  simp only [den] at h
  split at h <;> simp at h
  rename_i b hb
  exact ⟨b, hb, h.symm⟩

theorem den_row {i off eoff len : Nat} {v : Value} (h : den ρ (.row i off eoff len) = some v) : ∃ p, ρ i = some p ∧ eoff + len ≤ p.c ∧ v = .slice (some ⟨p.b, off, none⟩) len (p.c - eoff) := by
  simp only [den] at h
  split at h
  · rename_i p hp
    split at h <;> simp at h
    rename_i hle
    exact ⟨p, hp, hle, h.symm⟩
  · cases h

theorem den_agg {l : List SVal} {v : Value} (h : den ρ (.agg l) = some v) : ∃ vs, denL ρ l = some vs ∧ v = .agg vs.toArray := by
  simp only [den] at h
  split at h <;> simp at h
  rename_i b hb
  exact ⟨b, hb, h.symm⟩

theorem den_tuple {l : List SVal} {v : Value} (h : den ρ (.tuple l) = some v) : ∃ vs, denL ρ l = some vs ∧ v = .tuple vs.toArray := by
  simp only [den] at h
  split at h <;> simp at h
  rename_i b hb
  exact ⟨b, hb, h.symm⟩

/-! ### Addresses -/
def fieldOff (P : Program) (s : TypeId) (f : Nat) : Option Nat :=
  match pureRun P (underlying s) with
  | some (.struct fields) => match fields[f]? with
    | some fl => match pureRun P (sizeOf fl.type) with
      | some (_ + 1) => some fl.offset
      | _ => none
    | none => none
  | _ => none

def fieldAddrE (P : Program) (s : TypeId) (f : Nat) : SVal → Option SVal
  | .ptr i off => match fieldOff P s f with
    | some d => some (.ptr i (off + d))
    | none => none
  | _ => none

theorem fieldAddr_ok {s : TypeId} {f : Nat} {x y : SVal} {v : Value} (hx : den ρ x = some v) (h : fieldAddrE P s f x = some y) :
    PSemOk ρ y w ((Instr.fieldAt s v f).run P w) := by
  unfold fieldAddrE at h
  split at h
  case h_2 => cases h
  rename_i i off
  obtain ⟨b, hb, rfl⟩ := den_ptr hx
  unfold fieldOff at h
  split at h
  case h_2 => cases h
  rename_i d hd
  cases h
  split at hd
  case h_2 => cases hd
  rename_i fields hf
  split at hd
  case h_2 => cases hd
  rename_i fl hfl
  split at hd
  case h_2 => cases hd
  rename_i n hn
  cases hd
  refine PSemOk.here (v := .pointer (some ⟨b.b, off + fl.offset, none⟩)) ?_ (by simp only [den, hb])
  unfold Instr.fieldAt
  rw [run_bind_pure hf]
  simp only [hfl]
  unfold Instr.sureAddr
  rw [run_pure_bind]
  unfold fieldPlace
  rw [run_bind_ok (a := (⟨b.b, off + fl.offset, none⟩ : Addr)) (w' := w)]
  · rfl
  · rw [run_bind_pure hn]
    rw [if_neg (Nat.succ_ne_zero n), addr_add _ _ rfl]
    rfl

def indexAddrE (P : Program) (ty : TypeId) (ix : SVal) : SVal → Option SVal
  | .ptr i off => match ix with
    | .v (.int _ n) => match pureRun P (underlying ty) with
      | some (.array len elem) => match pureRun P (sizeOf elem) with
        | some sz => if 0 ≤ n ∧ n < (len : Int) then some (.ptr i (off + n.toNat * sz)) else none
        | none => none
      | _ => none
    | _ => none
  | .slice i off len _ => match ix with
    | .v (.int _ n) => match pureRun P (underlying ty) with
      | some (.slice elem) => match pureRun P (sizeOf elem) with
        | some sz => if 0 ≤ n ∧ n < (len : Int) then some (.ptr i (off + n.toNat * sz)) else none
        | none => none
      | _ => none
    | _ => none
  | .row i off _ len => match ix with
    | .v (.int _ n) => match pureRun P (underlying ty) with
      | some (.slice elem) => match pureRun P (sizeOf elem) with
        | some sz => if 0 ≤ n ∧ n < (len : Int) then some (.ptr i (off + n.toNat * sz)) else none
        | none => none
      | _ => none
    | _ => none
  | _ => none

theorem indexAddr_ok {ty : TypeId} {ix x y : SVal} {v iv : Value} (hx : den ρ x = some v) (hix : den ρ ix = some iv) (h : indexAddrE P ty ix x = some y) :
    PSemOk ρ y w ((Instr.indexAt ty v iv).run P w) := by
  unfold indexAddrE at h
  split at h
  case h_4 => cases h
  case h_1 i off =>
    split at h
    case h_2 => cases h
    rename_i k n
    split at h
    case h_2 => cases h
    rename_i len elem hu
    split at h
    case h_2 => cases h
    rename_i sz hsz
    split at h
    case isFalse => cases h
    rename_i hr
    cases h
    obtain ⟨b, hb, rfl⟩ := den_ptr hx
    simp only [den, Option.some.injEq] at hix
    subst hix
    refine PSemOk.here (v := .pointer (some ⟨b.b, off + n.toNat * sz, none⟩)) ?_ (by simp only [den, hb])
    unfold Instr.indexAt asIntOf
    rw [run_pure_bind]
    simp only
    rw [run_bind_pure hu]
    simp only [Instr.sureAddr]
    rw [run_pure_bind, run_pure_bind]
    rw [run_bind_pure hu]
    simp only [hr, and_self, if_true]
    rw [run_bind_pure hsz, addr_add _ _ rfl]
    rfl
  case h_2 i off len cap =>
    split at h
    case h_2 => cases h
    rename_i k n
    split at h
    case h_2 => cases h
    rename_i elem hu
    split at h
    case h_2 => cases h
    rename_i sz hsz
    split at h
    case isFalse => cases h
    rename_i hr
    cases h
    obtain ⟨b, hb, rfl⟩ := den_slice hx
    simp only [den, Option.some.injEq] at hix
    subst hix
    refine PSemOk.here (v := .pointer (some ⟨b.b, off + n.toNat * sz, none⟩)) ?_ (by simp only [den, hb])
    unfold Instr.indexAt asIntOf
    rw [run_pure_bind]
    simp only
    rw [run_bind_pure hu]
    simp only
    rw [run_pure_bind]
    rw [run_bind_pure hu]
    simp only [hr, and_self, if_true]
    rw [run_bind_pure hsz, addr_add _ _ rfl]
    rfl
  case h_3 i off eoff len =>
    split at h
    case h_2 => cases h
    rename_i k n
    split at h
    case h_2 => cases h
    rename_i elem hu
    split at h
    case h_2 => cases h
    rename_i sz hsz
    split at h
    case isFalse => cases h
    rename_i hr
    cases h
    obtain ⟨b, hb, _, rfl⟩ := den_row hx
    simp only [den, Option.some.injEq] at hix
    subst hix
    refine PSemOk.here (v := .pointer (some ⟨b.b, off + n.toNat * sz, none⟩)) ?_ (by simp only [den, hb])
    unfold Instr.indexAt asIntOf
    rw [run_pure_bind]
    simp only
    rw [run_bind_pure hu]
    simp only
    rw [run_pure_bind]
    rw [run_bind_pure hu]
    simp only [hr, and_self, if_true]
    rw [run_bind_pure hsz, addr_add _ _ rfl]
    rfl

def optV (t : List SVal) : Option Operand → Option (Option Value)
  | none => some none
  | some x => match seval t x with
    | .v y => some (some y)
    | _ => none

theorem optV_ok (ht : denL ρ t = some a.tmps.toList) {x : Option Operand} {y : Option Value} (h : optV t x = some y) : x.map a.eval = y := by
  cases x with
  | none => simp only [optV, Option.some.injEq] at h; subst h; rfl
  | some x =>
    have hd := den_seval ht x
    unfold optV at h
    split at h
    · rename_i heq; cases heq
    · rename_i z heq
      cases heq
      split at h
      · rename_i u hu
        rw [hu] at hd
        simp only [den, Option.some.injEq] at hd
        cases h
        simp [hd]
      · cases h

def natOr (d : Nat) : Option Value → Option Nat
  | none => some d
  | some (.int _ n) => if 0 ≤ n then some n.toNat else none
  | _ => none

def sliceE (P : Program) (ty : TypeId) (lo hi mx : Option Value) : SVal → Option SVal
  | .ptr i off => match pureRun P (underlying ty) with
    | some (.array n elem) => match pureRun P (Instr.sliceBounds false n n lo hi mx) with
      | some (l, h, m) => match pureRun P (sizeOf elem) with
        | some sz => some (if m = l then .slice i off (h - l) (m - l) else .slice i (off + l * sz) (h - l) (m - l))
        | none => none
      | none => none
    | _ => none
  | .slice i off len cap => match pureRun P (underlying ty) with
    | some (.slice elem) => match pureRun P (Instr.sliceBounds true len cap lo hi mx) with
      | some (l, h, m) => match pureRun P (sizeOf elem) with
        | some sz => some (if m = l then .slice i off (h - l) (m - l) else .slice i (off + l * sz) (h - l) (m - l))
        | none => none
      | none => none
    | _ => none
  | .row i off eoff len => match pureRun P (underlying ty), mx with
    | some (.slice elem), none => match natOr 0 lo, natOr len hi with
      | some l, some h => match pureRun P (sizeOf elem) with
        | some sz => if l ≤ h ∧ h ≤ len ∧ l < len then some (.row i (off + l * sz) (eoff + l) (h - l)) else none
        | none => none
      | _, _ => none
    | _, _ => none
  | _ => none

theorem slice_ok {ty : TypeId} {lo hi mx : Option Value} {x y : SVal} {v : Value} (hx : den ρ x = some v) (h : sliceE P ty lo hi mx x = some y) :
    PSemOk ρ y w ((Instr.sliceAt ty v lo hi mx).run P w) := by
  unfold sliceE at h
  split at h
  case h_4 => cases h
  case h_1 i off =>
    split at h
    case h_2 => cases h
    rename_i n elem hu
    split at h
    case h_2 => cases h
    rename_i l h' m hb
    split at h
    case h_2 => cases h
    rename_i sz hsz
    cases h
    obtain ⟨b, hρ, rfl⟩ := den_ptr hx
    refine PSemOk.here (v := .slice (some (if m = l then ⟨b.b, off, none⟩ else ⟨b.b, off + l * sz, none⟩)) (h' - l) (m - l)) ?_ ?_
    · unfold Instr.sliceAt Instr.sureAddr
      rw [run_bind_pure hu]
      simp only
      rw [run_pure_bind, run_bind_pure hb]
      simp only
      rw [run_bind_pure hsz, addr_add _ _ rfl]
      rfl
    · split <;> simp only [den, hρ]
  case h_2 i off len cap =>
    split at h
    case h_2 => cases h
    rename_i elem hu
    split at h
    case h_2 => cases h
    rename_i l h' m hb
    split at h
    case h_2 => cases h
    rename_i sz hsz
    cases h
    obtain ⟨b, hρ, rfl⟩ := den_slice hx
    refine PSemOk.here (v := .slice (some (if m = l then ⟨b.b, off, none⟩ else ⟨b.b, off + l * sz, none⟩)) (h' - l) (m - l)) ?_ ?_
    · unfold Instr.sliceAt
      rw [run_bind_pure hu]
      simp only
      unfold Instr.slice
      rw [run_bind_pure hu]
      simp only
      rw [run_bind_pure hb]
      simp only
      rw [run_bind_pure hsz]
      simp only [Option.map_some]
      rw [addr_add _ _ rfl]
      split <;> rfl
    · split <;> simp only [den, hρ]
  case h_3 i off eoff len =>
    split at h
    case h_2 => cases h
    rename_i elem hu
    split at h
    case h_2 => cases h
    rename_i l h' hl hh
    split at h
    case h_2 => cases h
    rename_i sz hsz
    split at h
    case isFalse => cases h
    rename_i hb
    cases h
    obtain ⟨p, hρ, hle, rfl⟩ := den_row hx
    have hbs : (Instr.sliceBounds true len (p.c - eoff) lo hi none).run P w = .ok (l, h', p.c - eoff) w := by
      have e1 : ∀ {d : Nat} {x : Option Value} {n : Nat}, natOr d x = some n → (x = none ∧ n = d) ∨ ∃ k m, x = some (.int k m) ∧ 0 ≤ m ∧ n = m.toNat := by
        intro d x n h
        unfold natOr at h
        split at h
        · cases h; exact .inl ⟨rfl, rfl⟩
        · rename_i k m
          split at h
          · rename_i hm; cases h; exact .inr ⟨k, m, rfl, hm, rfl⟩
          · cases h
        · cases h
      have sb : ∀ {k : IntKind} {m : Int} {y : Nat} {code : BoundsCode}, 0 ≤ m → m.toNat ≤ y → (Instr.sliceBound (.int k m) y code).run P w = .ok m.toNat w := by
        intro k m y code h0 h1
        simp only [Instr.sliceBound, asIntOf]
        rw [run_pure_bind]
        simp only
        rw [if_pos ⟨h0, by omega⟩]
        rfl
      unfold Instr.sliceBounds
      rw [run_pure_bind]
      rcases e1 hh with ⟨rfl, rfl⟩ | ⟨k, m, rfl, hm, rfl⟩ <;> rcases e1 hl with ⟨rfl, rfl⟩ | ⟨k', m', rfl, hm', rfl⟩ <;> simp only
      · rfl
      · rw [run_pure_bind, run_bind_ok (sb hm' (by omega))]; rfl
      · rw [run_bind_ok (sb hm (by omega))]; rfl
      · rw [run_bind_ok (sb hm (by omega)), run_bind_ok (sb hm' (by omega))]; rfl
    refine PSemOk.here (v := .slice (some ⟨p.b, off + l * sz, none⟩) (h' - l) (p.c - eoff - l)) ?_ ?_
    · unfold Instr.sliceAt
      rw [run_bind_pure hu]
      simp only
      unfold Instr.slice
      rw [run_bind_pure hu]
      simp only
      rw [run_bind_ok hbs]
      simp only
      rw [run_bind_pure hsz]
      simp only [Option.map_some]
      rw [addr_add _ _ rfl, if_neg (by omega)]
      rfl
    · simp only [den, hρ]
      rw [if_pos (by omega), Nat.sub_sub]

/-! ### Parts of aggregates -/
def partE (P : Program) (ty : TypeId) (l : List SVal) (off : Nat) : Option SVal :=
  match pureRun P (isAgg ty) with
  | some true => match pureRun P (sizeOf ty) with
    | some n => some (mkAgg ((l.drop off).take n))
    | none => none
  | some false => l[off]?
  | none => none

theorem part_ok {ty : TypeId} {l : List SVal} {vs : List Value} (hl : denL ρ l = some vs) {off : Nat} {y : SVal} (h : partE P ty l off = some y) :
    ∃ u, (part ty vs.toArray off).run P w = .ok u w ∧ den ρ y = some u := by
  unfold partE at h
  split at h
  · rename_i hag
    split at h
    case h_2 => cases h
    rename_i n hn
    cases h
    refine ⟨.agg ((vs.drop off).take n).toArray, ?_, den_mkAgg (denL_take n (denL_drop off hl))⟩
    unfold part
    rw [run_bind_pure hag]
    simp only [if_true]
    rw [run_bind_pure hn]
    show Result.ok _ _ = _
    congr 2
    apply Array.toList_inj.1
    simp [List.take_drop]
  · rename_i hag
    obtain ⟨u, hu, hd⟩ := denL_get hl off y h
    refine ⟨u, ?_, hd⟩
    unfold part
    rw [run_bind_pure hag]
    simp [hu]
  · cases h

def fieldE (P : Program) (s : TypeId) (f : Nat) : SVal → Option SVal
  | .agg l => match pureRun P (underlying s) with
    | some (.struct fields) => match fields[f]? with
      | some fl => partE P fl.type l fl.offset
      | none => none
    | _ => none
  | _ => none

theorem field_ok {s : TypeId} {f : Nat} {x y : SVal} {v : Value} (hx : den ρ x = some v) (h : fieldE P s f x = some y) :
    PSemOk ρ y w ((Instr.field s v f).run P w) := by
  unfold fieldE at h
  split at h
  case h_2 => cases h
  rename_i l
  split at h
  case h_2 => cases h
  rename_i fields hf
  split at h
  case h_2 => cases h
  rename_i fl hfl
  obtain ⟨vs, hvs, rfl⟩ := den_agg hx
  obtain ⟨u, hu, hd⟩ := part_ok (w := w) hvs h
  refine PSemOk.here (v := u) ?_ hd
  unfold Instr.field asAgg
  rw [run_bind_pure hf]
  simp only [hfl]
  rw [run_pure_bind]
  exact hu

def indexE (P : Program) (ty : TypeId) (ix : SVal) : SVal → Option SVal
  | .agg l => match ix with
    | .v (.int _ n) => match pureRun P (underlying ty) with
      | some (.array len elem) => match pureRun P (sizeOf elem) with
        | some sz => if 0 ≤ n ∧ n < (len : Int) then partE P elem l (n.toNat * sz) else none
        | none => none
      | _ => none
    | _ => none
  | _ => none

theorem index_ok {ty : TypeId} {ix x y : SVal} {v iv : Value} (hx : den ρ x = some v) (hix : den ρ ix = some iv) (h : indexE P ty ix x = some y) :
    PSemOk ρ y w ((Instr.index ty v iv).run P w) := by
  unfold indexE at h
  split at h
  case h_2 => cases h
  rename_i l
  split at h
  case h_2 => cases h
  rename_i k n
  split at h
  case h_2 => cases h
  rename_i len elem hu
  split at h
  case h_2 => cases h
  rename_i sz hsz
  split at h
  case isFalse => cases h
  rename_i hr
  obtain ⟨vs, hvs, rfl⟩ := den_agg hx
  simp only [den, Option.some.injEq] at hix
  subst hix
  obtain ⟨u, hu', hd⟩ := part_ok (w := w) hvs h
  refine PSemOk.here (v := u) ?_ hd
  unfold Instr.index asIntOf
  rw [run_pure_bind]
  simp only
  rw [run_bind_pure hu]
  simp only [hr, and_self, if_true]
  rw [run_bind_pure hsz]
  exact hu'

def extractE (ix : Nat) : SVal → Option SVal
  | .tuple l => l[ix]?
  | _ => none

theorem extract_ok {ix : Nat} {x y : SVal} {v : Value} (hx : den ρ x = some v) (h : extractE ix x = some y) : PSemOk ρ y w ((Instr.extract v ix).run P w) := by
  unfold extractE at h
  split at h
  case h_2 => cases h
  rename_i l
  obtain ⟨vs, hvs, rfl⟩ := den_tuple hx
  obtain ⟨u, hu, hd⟩ := denL_get hvs ix y h
  refine PSemOk.here (v := u) ?_ hd
  simp [Instr.extract, hu]

/-! ### Building -/
def sevalL (t : List SVal) (l : List Operand) : List SVal := l.map (seval t)

theorem denL_sevalL (ht : denL ρ t = some a.tmps.toList) : ∀ (l : List Operand), denL ρ (sevalL t l) = some (l.map a.eval)
  | [] => by simp [sevalL, denL]
  | x :: xs => denL_cons.2 ⟨a.eval x, xs.map a.eval, den_seval ht x, denL_sevalL ht xs, rfl⟩

theorem setMany_den : ∀ (xs : List SVal) (us : List Value) {l : List SVal} {vs : List Value} (off : Nat), denL ρ xs = some us → denL ρ l = some vs →
    denL ρ (setMany l off xs) = some ((us.zipIdx 0).foldl (fun cs (c, j) => cs.set (off + j) c) vs)
  | [], us, l, vs, off, h, hl => by simp [denL] at h; subst h; simpa [setMany] using hl
  | x :: xs, us, l, vs, off, h, hl => by
    obtain ⟨u, us', hu, hus, rfl⟩ := denL_cons.1 h
    simp only [setMany, List.zipIdx_cons, List.foldl_cons, Nat.add_zero]
    have := setMany_den xs us' (off + 1) hus (denL_set hu hl off)
    rw [this]
    congr 1
    have e : ∀ (ys : List Value) (k : Nat) (cs : List Value), (ys.zipIdx k).foldl (fun cs (c, j) => cs.set (off + 1 + j) c) cs = (ys.zipIdx (k + 1)).foldl (fun cs (c, j) => cs.set (off + j) c) cs := by
      intro ys
      induction ys with
      | nil => intro k cs; rfl
      | cons y ys ih =>
        intro k cs
        simp only [List.zipIdx_cons, List.foldl_cons]
        rw [show off + 1 + k = off + (k + 1) by omega]
        exact ih _ _
    exact e us' 0 _

def sfill (place : Nat → Option (Nat × Nat)) (cells : List SVal) : List (Nat × SVal) → Option (List SVal)
  | [] => some cells
  | (i, v) :: rest => match place i with
    | none => none
    | some (off, size) =>
      let xs := scells v
      if xs.length = size then
        if off + size ≤ cells.length then sfill place (setMany cells off xs) rest else none
      else none

/-- Parts by number. -/
def PartsRel (ρ : Ren) : List (Nat × SVal) → List (Nat × Value) → Prop
  | [], [] => True
  | (i, x) :: xs, (j, v) :: vs => i = j ∧ den ρ x = some v ∧ PartsRel ρ xs vs
  | _, _ => False

 omit [Env] in
theorem foldl_toArray (f : Nat → Nat) : ∀ (us : List (Value × Nat)) (vs : List Value),
    us.foldl (fun (cs : Array Value) (c, j) => cs.setIfInBounds (f j) c) vs.toArray = (us.foldl (fun cs (c, j) => cs.set (f j) c) vs).toArray
  | [], vs => rfl
  | (u, j) :: us, vs => by
    simp only [List.foldl_cons]
    rw [show vs.toArray.setIfInBounds (f j) u = (vs.set (f j) u).toArray by simp]
    exact foldl_toArray f us _

theorem sfill_ok {place : Nat → Option (Nat × Nat)} : ∀ {parts : List (Nat × SVal)} {vparts : List (Nat × Value)} {cells : List SVal} {vs : List Value}, PartsRel ρ parts vparts → denL ρ cells = some vs →
    ∀ {r : List SVal}, sfill place cells parts = some r → ∃ us, denL ρ r = some us ∧ Instr.fill place vs.toArray vparts = some us.toArray
  | [], [], cells, vs, _, hc, r, h => by
    simp only [sfill, Option.some.injEq] at h
    subst h
    exact ⟨vs, hc, rfl⟩
  | [], _ :: _, _, _, hp, _, _, _ => hp.elim
  | _ :: _, [], _, _, hp, _, _, _ => by simp [PartsRel] at hp
  | (i, x) :: xs, (j, v) :: ys, cells, vs, hp, hc, r, h => by
    obtain ⟨rfl, hx, hp'⟩ := hp
    simp only [sfill] at h
    split at h
    case h_1 => cases h
    rename_i off size hpl
    split at h
    case isFalse => cases h
    rename_i hsz
    split at h
    case isFalse => cases h
    rename_i hoff
    have hxs := den_scells hx
    have hl := denL_length hxs
    have hlc := denL_length hc
    have hset := setMany_den (scells x) v.cells.toList off hxs hc
    obtain ⟨us, hu1, hu2⟩ := sfill_ok hp' hset h
    refine ⟨us, hu1, ?_⟩
    simp only [Instr.fill, hpl]
    have hvs : v.cells.size = size := by rw [← hsz, ← hl]; simp
    rw [if_neg (by simp [hvs]; omega)]
    rw [← hu2]
    congr 1
    rw [← foldl_toArray (fun j => off + j)]
    rw [show v.cells.zipIdx = (v.cells.toList.zipIdx 0).toArray by
      apply Array.toList_inj.1
      simp]
    simp

def partsOf (t : List SVal) (parts : List (Nat × Operand)) : List (Nat × SVal) := parts.map fun p => (p.1, seval t p.2)

theorem partsOf_rel (ht : denL ρ t = some a.tmps.toList) : ∀ (parts : List (Nat × Operand)), PartsRel ρ (partsOf t parts) (parts.map fun (i, x) => (i, a.eval x))
  | [] => trivial
  | (_, x) :: xs => ⟨rfl, den_seval ht x, partsOf_rel ht xs⟩

/-- The places of a struct's fields, or an array's elements. -/
def buildE (P : Program) (t : List SVal) (ty : TypeId) (parts : List (Nat × Operand)) : Option SVal :=
  match pureRun P (zeroValue ty) with
  | none => none
  | some z => match pureRun P (underlying ty) with
    | some (.struct fields) => match pureRun P (fields.mapM (m := Sem) fun f => do pure (f.offset, ← sizeOf f.type)) with
      | some places => match sfill (places[·]?) (z.cells.toList.map .v) (partsOf t parts) with
        | some l => some (mkAgg l)
        | none => none
      | none => none
    | some (.array _ elem) => match pureRun P (sizeOf elem) with
      | some size => match sfill (fun i => some (i * size, size)) (z.cells.toList.map .v) (partsOf t parts) with
        | some l => some (mkAgg l)
        | none => none
      | none => none
    | _ => none

theorem build_ok (ht : denL ρ t = some a.tmps.toList) {ty : TypeId} {parts : Array (Nat × Operand)} {y : SVal} (h : buildE P t ty parts.toList = some y) :
    PSemOk ρ y w ((Instr.build ty (parts.map fun (i, x) => (i, a.eval x))).run P w) := by
  unfold buildE at h
  split at h
  case h_1 => cases h
  rename_i z hz
  have hz' : denL ρ (z.cells.toList.map .v) = some z.cells.toList := denL_map_v _
  have hp := partsOf_rel ht parts.toList
  split at h
  case h_3 => cases h
  case h_1 fields hf =>
    split at h
    case h_2 => cases h
    rename_i places hpl
    split at h
    case h_2 => cases h
    rename_i l hl
    cases h
    obtain ⟨us, hu1, hu2⟩ := sfill_ok hp hz' hl
    refine PSemOk.here (v := .agg us.toArray) ?_ (den_mkAgg hu1)
    unfold Instr.build
    rw [run_bind_pure hz]
    simp only
    rw [run_bind_pure hf]
    simp only
    rw [run_bind_pure hpl]
    simp only [Array.toArray_toList] at hu2
    rw [Array.toList_map, hu2]
    rfl
  case h_2 n elem hf =>
    split at h
    case h_2 => cases h
    rename_i size hs
    split at h
    case h_2 => cases h
    rename_i l hl
    cases h
    obtain ⟨us, hu1, hu2⟩ := sfill_ok hp hz' hl
    refine PSemOk.here (v := .agg us.toArray) ?_ (den_mkAgg hu1)
    unfold Instr.build
    rw [run_bind_pure hz]
    simp only
    rw [run_bind_pure hf]
    simp only
    rw [run_bind_pure hs]
    simp only [Array.toArray_toList] at hu2
    rw [Array.toList_map, hu2]
    rfl

def zeroRow (z : Value) (n : Nat) : List Value := ((Array.range n).map (z.cells[· % z.cells.size]!)).toList

def buildSliceE (P : Program) (t : List SVal) (H : SHeap) (ty : TypeId) (len : Nat) (parts : List (Nat × Operand)) : Option Res :=
  match pureRun P (underlying ty) with
  | some (.slice elem) => match pureRun P (sizeOf elem) with
    | some size => match pureRun P (zeroValue elem) with
      | some z =>
        if len * size = 0 then none else
        if len * size ≤ 65536 then
          match sfill (fun i => some (i * size, size)) ((zeroRow z (len * size)).map .v) (partsOf t parts) with
          | some l => some (.val (.slice H.length 0 len len) (H ++ [.cells l elem (0, 0)]))
          | none => none
        else none
      | none => none
    | none => none
  | _ => none

theorem buildSlice_ok (hR : Rel w0 ρ H w) (ht : denL ρ t = some a.tmps.toList) {ty : TypeId} {len : Nat} {parts : Array (Nat × Operand)} {r : Res} (h : buildSliceE P t H ty len parts.toList = some r) :
    ∃ x H', r = .val x H' ∧ SemOk w0 H ρ x H' ((Instr.buildSlice ty len (parts.map fun (i, x) => (i, a.eval x))).run P w) := by
  unfold buildSliceE at h
  split at h
  case h_2 => cases h
  rename_i elem hu
  split at h
  case h_2 => cases h
  rename_i size hs
  split at h
  case h_2 => cases h
  rename_i z hz
  split at h
  case isTrue => cases h
  rename_i hne
  split at h
  case isFalse => cases h
  rename_i hle
  split at h
  case h_2 => cases h
  rename_i l hl
  cases h
  refine ⟨_, _, rfl, ?_⟩
  have hp := partsOf_rel ht parts.toList
  obtain ⟨us, hu1, hu2⟩ := sfill_ok hp (denL_map_v (ρ := ρ) (zeroRow z (len * size))) hl
  obtain ⟨h1, h2, h3, h4⟩ := newRow_ok (P := P) hR hu1 elem
  refine ⟨_, .slice (some ⟨w.heap.size, 0, none⟩) len len, _, ?_, h2, by simp only [den, h3], h4⟩
  unfold Instr.buildSlice
  rw [run_bind_pure hu]
  simp only
  rw [run_bind_pure hs]
  rw [if_neg (by omega)]
  rw [if_neg hne]
  rw [run_bind_pure hz, run_pure_bind]
  simp only [zeroRow, Array.toArray_toList] at hu2
  rw [Array.toList_map, hu2]
  simp only
  rw [run_bind_ok h1]
  rfl

end
end
end Go.RX
