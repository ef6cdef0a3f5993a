import Derived.Test.YtiomdkghnbbmcaaGreatDoorRX4
import Derived.Tactics
import Derived.TacticsIn
import Derived.RangeFuncLeaves
import Derived.OrdersIn
import Derived.LoopNIn
namespace Go.RX
noncomputable section
open Go.RowKit (Below)

variable [Env]

/-! ### Names moved -/
mutual
def shift (k : Nat) : SVal → SVal
  | .v x => .v x
  | .ptr i off => .ptr (k + i) off
  | .slice i off len cap => .slice (k + i) off len cap
  | .row i off eoff len => .row (k + i) off eoff len
  | .agg l => .agg (shiftL k l)
  | .tuple l => .tuple (shiftL k l)
  | .func fn f c => .func fn (shiftL k f) (shiftL k c)
  | .iface t x => .iface t (shift k x)
  | .yield i => .yield (k + i)
  | .map i => .map (k + i)
  | .sym i => .sym i
def shiftL (k : Nat) : List SVal → List SVal
  | [] => []
  | x :: xs => shift k x :: shiftL k xs
end

def Ren.comb (k : Nat) (ρ ρc : Ren) : Ren := fun i => if i < k then ρ i else ρc (i - k)

 omit [Env] in
theorem Ren.comb_add (k i : Nat) (ρ ρc : Ren) : Ren.comb k ρ ρc (k + i) = ρc i := by
  unfold Ren.comb
  rw [if_neg (by omega), Nat.add_sub_cancel_left]

mutual
theorem den_shift {k : Nat} {ρ ρc : Ren} : ∀ (x : SVal), den (Ren.comb k ρ ρc) (shift k x) = den ρc x
  | .v x => by simp [den, shift]
  | .ptr i off => by simp only [den, shift, Ren.comb_add]
  | .slice i off len cap => by simp only [den, shift, Ren.comb_add]
  | .row i off eoff len => by simp only [den, shift, Ren.comb_add]
  | .agg l => by simp only [den, shift, denL_shift l]
  | .tuple l => by simp only [den, shift, denL_shift l]
  | .func fn f c => by simp only [den, shift, denL_shift f, denL_shift c]
  | .iface t x => by simp only [den, shift, den_shift x]
  | .yield i => by simp only [den, shift, Ren.comb_add]
  | .map i => by simp only [den, shift, Ren.comb_add]
  | .sym i => rfl
theorem denL_shift {k : Nat} {ρ ρc : Ren} : ∀ (l : List SVal), denL (Ren.comb k ρ ρc) (shiftL k l) = denL ρc l
  | [] => by simp [denL, shiftL]
  | x :: xs => by simp only [denL, shiftL, den_shift x, denL_shift xs]
end

def shiftO (k : Nat) : SObj → SObj
  | .cells l e fz => .cells (shiftL k l) e fz
  | .row l e sz g => .row (shiftL k l) e sz (k + g)
  | .iter s pos => .iter s pos
  | .dead => .dead
  | .map ks l c => .map ks (shiftL k l) c
  | .marks => .marks
  | .loop st pend l ps assign body dj => .loop st pend (shiftL k l) ps assign body (k + dj)

 omit [Env] in
theorem shiftL_length (k : Nat) : ∀ l, (shiftL k l).length = l.length
  | [] => rfl
  | x :: xs => by simp [shiftL, shiftL_length k xs]

theorem objRel_shift {k : Nat} {ρ ρc : Ren} {p : Loc} {o : SObj} {ob : Obj} (h : ObjRel ρc p o ob) : ObjRel (Ren.comb k ρ ρc) p (shiftO k o) ob := by
  cases o with
  | cells l e fz => obtain ⟨vs, h1, h2⟩ := h; exact ⟨vs, by rw [denL_shift]; exact h1, h2⟩
  | row l e sz g => obtain ⟨vs, h1, h2⟩ := h; exact ⟨vs, by rw [denL_shift]; exact h1, h2⟩
  | iter s pos => exact h
  | dead => trivial
  | map ks l c => obtain ⟨vs, h1, h2, h3⟩ := h; exact ⟨vs, by rw [denL_shift]; exact h1, by rw [shiftL_length]; exact h2, h3⟩
  | marks => exact h
  | loop st pend l ps assign body dj => obtain ⟨fn, vs, pd, h1, h2, h3⟩ := h; exact ⟨fn, vs, pd, by rw [denL_shift]; exact h1, by rw [Ren.comb_add]; exact h2, h3⟩

section
variable {P : Program} {F : Fence} {dl : List Deferred} {w0 w : World} {ρ : Ren} {H : SHeap} {t : List SVal} {a : Act} {o : Oper}

/-- What lay before a call that turned nothing of it. -/
theorem Rel.later {w' : World} (hR : Rel w0 ρ H w) (hb : Below w.heap.size w w') : Rel w0 ρ H w' := by
  refine ⟨hR.below.trans (hb.mono hR.below.size), fun i b h => ?_, hR.inj, fun i b h => ?_⟩
  · obtain ⟨h1, h2⟩ := hR.fresh i b h
    exact ⟨h1, by have := hb.size; omega⟩
  · obtain ⟨o, ob, h1, h2, h3⟩ := hR.obj i b h
    exact ⟨o, ob, h1, by rw [hb.block b.b (hR.fresh i b h).2]; exact h2, h3⟩

/-- A call's own heap, laid behind the caller's. -/
theorem Rel.comb {w' : World} {ρc : Ren} {Hc : SHeap} (hR : Rel w0 ρ H w) (hc : Rel w ρc Hc w') : Rel w0 (Ren.comb H.length ρ ρc) (H ++ Hc.map (shiftO H.length)) w' := by
  have hR' := hR.later hc.below
  have hext : Ren.ext H.length ρ (Ren.comb H.length ρ ρc) := fun i hi => by simp [Ren.comb, hi]
  have hle := hext.le hR
  have at2 : ∀ i, ¬ i < H.length → (H ++ Hc.map (shiftO H.length))[i]? = (Hc[i - H.length]?).map (shiftO H.length) := fun i hi => by
    rw [List.getElem?_append_right (by omega), List.getElem?_map]
  refine ⟨hR'.below, fun i b h => ?_, fun i j p q hi hj hb => ?_, fun i b h => ?_⟩
  · unfold Ren.comb at h
    split at h
    · exact hR'.fresh i b h
    · obtain ⟨h1, h2⟩ := hc.fresh _ b h
      exact ⟨by have := hR.below.size; omega, h2⟩
  · unfold Ren.comb at hi hj
    split at hi <;> split at hj
    · exact (hR.inj i j p q hi hj hb).append
    · have h1 := (hR.fresh i p hi).2
      have h2 := (hc.fresh _ q hj).1
      omega
    · have h1 := (hR.fresh j q hj).2
      have h2 := (hc.fresh _ p hi).1
      omega
    · rename_i hi' hj'
      rcases hc.inj _ _ p q hi hj hb with e | ⟨l, e, sz, l', e', sz', g, h | h | h⟩
      · exact .inl (by omega)
      · exact .inr ⟨shiftL H.length l, e, sz, shiftL H.length l', e', sz', H.length + g, .inl ⟨by rw [at2 i hi', h.1]; rfl, by rw [at2 j hj', h.2]; rfl⟩⟩
      · exact .inr ⟨l, e, sz, l', e', sz', g, .inr (.inl (by rw [at2 i hi', h]; rfl))⟩
      · exact .inr ⟨l, e, sz, l', e', sz', g, .inr (.inr (by rw [at2 j hj', h]; rfl))⟩
  · by_cases hi : i < H.length
    · have h' : ρ i = some b := by simpa [Ren.comb, hi] using h
      obtain ⟨o, ob, h1, h2, h3⟩ := hR'.obj i b h'
      exact ⟨o, ob, by rw [List.getElem?_append_left hi]; exact h1, h2, h3.mono hle⟩
    · have h' : ρc (i - H.length) = some b := by simpa [Ren.comb, hi] using h
      obtain ⟨o, ob, h1, h2, h3⟩ := hc.obj _ b h'
      exact ⟨shiftO H.length o, ob, by rw [at2 i hi, h1]; rfl, h2, objRel_shift h3⟩

/-- The fences of a run: wide, within a round or not. -/
def Wd (F : Fence) : Prop := F = Fence.wide ∨ ∃ l, F = Fence.wide.inRound l

 omit [Env] in
theorem Wd.fn (hF : Wd F) (f : FuncId) : F.fn f := by rcases hF with rfl | ⟨l, rfl⟩ <;> trivial
 omit [Env] in
theorem Wd.depth (hF : Wd F) {n : Nat} : F.depth.isSome = true → 1 ≤ n := by rcases hF with rfl | ⟨l, rfl⟩ <;> exact fun h => by cases h
 omit [Env] in
theorem Wd.sem (hF : Wd F) {f : Operand → Value} (h : ∀ c, o.op ≠ .defer c) : o.semAt F.round f = execOp f o := by
  rcases hF with rfl | ⟨l, rfl⟩
  · rfl
  · exact Oper.semAt_some l f o h
 omit [Env] in
theorem Wd.calls (hF : Wd F) {n : Nat} {f : FuncId} {args : Array Value} {R : Ending → World → Prop} (h : Calls P f args w R) : CallsIn F n P f args w R := by
  rcases hF with rfl | ⟨l, rfl⟩
  · exact callsIn_wide.2 h
  · exact (callsIn_wide (n := n)).2 h
 omit [Env] in
theorem Wd.round (hF : Wd F) {n : Nat} {l : Nat} {f : FuncId} {tmps : Array Value} {assign body : Code} {R : Ending → World → Prop} (h : RoundIn Fence.wide n P l f tmps assign body w R) : RoundIn F n P l f tmps assign body w R := by
  rcases hF with rfl | ⟨l', rfl⟩
  · exact h
  · exact h

inductive Tgt where
  | fn (f : FuncId)
  | yield (i : Nat)

abbrev CallF := Tgt → List SVal → SHeap → Option (SVal × SHeap)

structure CallOk (P : Program) (G : Glob) (cf : CallF) : Prop where
  fn : ∀ f args H x H', cf (.fn f) args H = some (x, H') → H.length ≤ H'.length ∧
    ∀ w0 ρ w (vs : Array Value), G.holds w0 → Rel w0 ρ H w → denL ρ args = some vs.toList → Calls P f vs w fun e w' => ∃ ρ' v, e = .returned v ∧ Ext ρ H ρ' H' ∧ den ρ' x = some v ∧ Rel w0 ρ' H' w'
  yld : ∀ i args H x H', cf (.yield i) args H = some (x, H') → H.length ≤ H'.length ∧
    ∀ w0 ρ w p (vs : Array Value), G.holds w0 → Rel w0 ρ H w → ρ i = some p → denL ρ args = some vs.toList → ∃ r : Loop, w.heap[p.b]? = some (.loop r) ∧ vs.size = r.params.size ∧
      RoundIn Fence.wide 0 P p.b r.fn ((r.params.zip vs).foldl (fun tmps (t, a) => tmps.setIfInBounds t a) r.tmps) r.assign r.body w fun e w' => ∃ ρ' v, e = .returned v ∧ Ext ρ H ρ' H' ∧ den ρ' x = some v ∧ Rel w0 ρ' H' w'

def vHead : SVal → Bool
  | .v _ => true
  | _ => false

/-- A value that is known, as such. -/
def nrm (x : SVal) : SVal :=
  match vOf x with
  | some v => .v v
  | none => x

theorem den_nrm {x : SVal} {a : Value} (h : den ρ x = some a) : den ρ (nrm x) = some a := by
  unfold nrm
  split
  · rename_i v hv
    rw [den_of_vOf (ρ := ρ) _ hv] at h
    simpa [den] using h
  · exact h

theorem denL_nrm : ∀ {l : List SVal} {vs : List Value}, denL ρ l = some vs → denL ρ (l.map nrm) = some vs
  | [], vs, h => h
  | x :: xs, vs, h => by
    obtain ⟨a, b, ha, hb, rfl⟩ := denL_cons.1 h
    exact denL_cons.2 ⟨a, b, den_nrm ha, denL_nrm hb, rfl⟩

/-- A call: in a heap of its own, if no argument has a name in it. -/
def freshR (cf : CallF) (f : FuncId) (args : List SVal) : Option (SVal × SHeap) :=
  if nfL args then
    match cf (.fn f) (args.map nrm) [] with
    | none => none
    | some (x, Hc) => if nf x then some (nrm x, []) else some (x, Hc)
  else none

theorem freshR_ok {G : Glob} {cf : CallF} (hcf : CallOk P G cf) {f : FuncId} {args : List SVal} {x : SVal} {Hc : SHeap} (h : freshR cf f args = some (x, Hc)) (hG : G.holds w0) (hR : Rel w0 ρ H w)
    {vs : Array Value} (hv : denL ρ args = some vs.toList) : Calls P f vs w fun e w' => ∃ ρc v, e = .returned v ∧ den ρc x = some v ∧ Rel w ρc Hc w' := by
  unfold freshR at h
  split at h
  case isFalse => cases h
  rename_i hnf
  split at h
  · cases h
  rename_i y Hy hcall
  have h2 := (hcf.fn _ _ _ _ _ hcall).2 w (fun _ => none) w vs (hG.later hR.below) (Rel.start w) (denL_nrm (by rw [denL_nf args hnf (ρ' := ρ)]; exact hv))
  split at h
  · rename_i hy
    cases h
    refine h2.mono ?_
    rintro e w' ⟨ρ', u, rfl, _, hd, hR'⟩
    refine ⟨fun _ => none, u, rfl, den_nrm (by rw [den_nf y hy (ρ' := ρ')]; exact hd), ⟨hR'.below, fun i b h => by simp at h, fun i j p q h => by simp at h, fun i b h => by simp at h⟩⟩
  · cases h
    refine h2.mono ?_
    rintro e w' ⟨ρ', u, rfl, _, hd, hR'⟩
    exact ⟨ρ', u, rfl, hd, hR'⟩

def callR (cf : CallF) (f : FuncId) (args : List SVal) (H : SHeap) : Option (SVal × SHeap) :=
  if nfL args then match freshR cf f args with
    | none => none
    | some (x, Hc) => match Hc with
      | [] => some (x, H)
      | _ :: _ => some (shift H.length x, H ++ Hc.map (shiftO H.length))
  else cf (.fn f) args H

theorem callR_ok {G : Glob} {cf : CallF} (hcf : CallOk P G cf) : ∀ f args H x H', callR cf f args H = some (x, H') → H.length ≤ H'.length ∧
    ∀ w0 ρ w (vs : Array Value), G.holds w0 → Rel w0 ρ H w → denL ρ args = some vs.toList → Calls P f vs w fun e w' => ∃ ρ' v, e = .returned v ∧ Ext ρ H ρ' H' ∧ den ρ' x = some v ∧ Rel w0 ρ' H' w' := by
  intro f args H x H' h
  unfold callR at h
  split at h
  case isFalse => exact hcf.fn _ _ _ _ _ h
  split at h
  · cases h
  rename_i y Hc hfr
  split at h
  · cases h
    refine ⟨Nat.le_refl _, fun w0 ρ w vs hG hR hv => (freshR_ok hcf hfr hG hR hv).mono ?_⟩
    rintro e w' ⟨ρc, v, rfl, hd, hRc⟩
    refine ⟨ρ, v, rfl, Ext.refl _ _, ?_, hR.later hRc.below⟩
    refine den_mono (ρ := ρc) (fun i b hb => ?_) _ hd
    obtain ⟨o, ob, ho, _⟩ := hRc.obj i b hb
    simp at ho
  · rename_i o os
    cases h
    refine ⟨by simp, fun w0 ρ w vs hG hR hv => (freshR_ok hcf hfr hG hR hv).mono ?_⟩
    rintro e w' ⟨ρc, v, rfl, hd, hRc⟩
    exact ⟨Ren.comb H.length ρ ρc, v, rfl, fun i hi => ⟨by simp [Ren.comb, hi], fun _ l e fz hh => by rw [List.getElem?_append_left hi]; exact hh⟩, by rw [den_shift]; exact hd, hR.comb hRc⟩

/-! ### Steps -/
structure Acts (dl : List Deferred) (w0 : World) (ρ : Ren) (t : List SVal) (H : SHeap) (a : Act) (w : World) : Prop where
  tmps : denL ρ t = some a.tmps.toList
  defers : a.defers = dl
  rel : Rel w0 ρ H w

def putS (t : List SVal) (dst : Option Tmp) (x : SVal) : List SVal :=
  match dst with
  | some d => setS t d x
  | none => t

theorem Acts.put {w' : World} {ρ' : Ren} {H' : SHeap} (h : Acts dl w0 ρ t H a w) (hle : ρ.le ρ') (hR : Rel w0 ρ' H' w') (dst : Option Tmp) {x : SVal} {v : Value} (hx : den ρ' x = some v) :
    Acts dl w0 ρ' (putS t dst x) H' (a.put dst v) w' := by
  have ht := denL_mono hle _ h.tmps
  cases dst with
  | none => exact ⟨ht, h.defers, hR⟩
  | some d =>
    refine ⟨?_, h.defers, hR⟩
    simp only [putS, setS_eq, Act.put]
    rw [Array.toList_setIfInBounds]
    exact denL_set hx ht d

abbrev St := List SVal × SHeap

def stepR (P : Program) (G : Glob) (cf : CallF) (t : List SVal) (H : SHeap) (o : Oper) : Option St :=
  match opE P G t H o with
  | some (.val x H') => some (putS t o.dst x, H')
  | some (.skip H') => some (putS t o.dst (.v undef), H')
  | some (.call f args) => match callR cf f args H with
    | some (x, H') => some (putS t o.dst x, H')
    | none => none
  | some (.yld i args) => match cf (.yield i) args H with
    | some (x, H') => some (putS t o.dst x, H')
    | none => none
  | none => none

 omit [Env] in
theorem setMany_len_of_store {ty : TypeId} {p x : SVal} {H' : SHeap} (h : storeE P H ty p x = some H') : H'.length = H.length := by
  unfold storeE at h
  split at h
  case h_2 => cases h
  split at h
  case h_2 => cases h
  simp only at h
  split at h
  case isFalse => cases h
  exact writeE_len h

def Res.heap (H : SHeap) : Res → SHeap
  | .val _ H' => H'
  | .skip H' => H'
  | .call _ _ => H
  | .yld _ _ => H

theorem mapUpdate_len {ty : TypeId} {m k x : SVal} {H' : SHeap} (h : mapUpdateE P H ty m k x = some H') : H'.length = H.length := by
  unfold mapUpdateE at h
  repeat' (split at h)
  all_goals first | (cases h; simp; done) | cases h

theorem opE_len {G : Glob} {r : Res} (h : opE P G t H o = some r) : H.length ≤ (r.heap H).length := by
  have hH : ∀ {r}, opH P G t H o = some r → H.length ≤ (r.heap H).length := by
    intro r h
    obtain ⟨dst, op, type, pos, after, guard⟩ := o
    cases op with
    | alloc e =>
      simp only [opH, allocE] at h
      split at h <;> cases h
      simp [Res.heap]
    | box e x => simp only [opH, Option.some.injEq] at h; subst h; simp [Res.heap]
    | load ty x => simp only [opH] at h; split at h <;> cases h; simp [Res.heap]
    | store ty p x =>
      simp only [opH] at h
      split at h <;> cases h
      rename_i H' hH'
      simp [Res.heap, setMany_len_of_store hH']
    | buildSlice ty len parts =>
      simp only [opH, buildSliceE] at h
      repeat' (split at h)
      all_goals first | (cases h; simp [Res.heap]; done) | cases h
    | makeSlice ty l c =>
      simp only [opH, makeSliceE] at h
      repeat' (split at h)
      all_goals first | (cases h; simp [Res.heap]; done) | cases h
    | convert src dst x =>
      simp only [opH] at h
      split at h
      · cases h; simp [Res.heap]
      · simp only [strBytesE] at h
        repeat' (split at h)
        all_goals first | (cases h; simp [Res.heap]; done) | cases h
    | range ty x =>
      simp only [opH, rangeE] at h
      repeat' (split at h)
      all_goals first | (cases h; simp [Res.heap]; done) | cases h
    | next x s =>
      simp only [opH, nextE] at h
      repeat' (split at h)
      all_goals first | (cases h; simp [Res.heap]; done) | cases h
    | makeMap ty r =>
      simp only [opH, makeMapE] at h
      repeat' (split at h)
      all_goals first | (cases h; simp [Res.heap]; done) | cases h
    | mapUpdate ty m k x =>
      simp only [opH] at h
      split at h <;> cases h
      rename_i H' hH'
      simp [Res.heap, mapUpdate_len hH']
    | lookup ty x k ok => simp only [opH] at h; split at h <;> cases h; simp [Res.heap]
    | call c =>
      obtain ⟨callee, args, argTypes⟩ := c
      simp only [opH] at h
      split at h
      · simp only [copyOpE] at h
        split at h
        · simp only [copyE] at h
          repeat' (split at h)
          all_goals first | (rename_i hw; cases h; have := writeE_len hw; simp [Res.heap, this]; done) | cases h
        · simp only [appendE] at h
          repeat' (split at h)
          all_goals first | (rename_i hw; cases h; have := writeE_len hw; simp [Res.heap, this]; done) | (cases h; simp [Res.heap]; done) | cases h
        · simp only [strAtE] at h
          repeat' (split at h)
          all_goals first | (cases h; simp [Res.heap]; done) | cases h
        · cases h
      · cases h
    | _ => simp only [opH] at h; cases h
  unfold opE at h
  split at h
  · exact hH h
  · split at h
    · rename_i r' _
      cases h
      cases r' <;> simp [PRes.on, Res.heap]
    · exact hH h

theorem stepR_len {G : Glob} {cf : CallF} (hcf : CallOk P G cf) {t' : List SVal} {H' : SHeap} (h : stepR P G cf t H o = some (t', H')) : H.length ≤ H'.length := by
  unfold stepR at h
  split at h
  · rename_i x H1 he; cases h; exact opE_len he
  · rename_i H1 he; cases h; exact opE_len he
  · rename_i f args he
    split at h
    · rename_i x H1 hc; cases h; exact (callR_ok hcf _ _ _ _ _ hc).1
    · cases h
  · rename_i i args he
    split at h
    · rename_i x H1 hc; cases h; exact (hcf.yld _ _ _ _ _ hc).1
    · cases h
  · cases h

theorem stepR_ok {G : Glob} {cf : CallF} (hF : Wd F) (hcf : CallOk P G cf) (hG : G.holds w0) (hN : NamesOk P) {t' : List SVal} {H' : SHeap} (h : stepR P G cf t H o = some (t', H'))
    (hA : Acts dl w0 ρ t H a w) {next : Act → World → Prop} {Q : Exit → Act → World → Prop}
    (hn : ∀ ρ' a' w', Ext ρ H ρ' H' → Acts dl w0 ρ' t' H' a' w' → next a' w') : o.wpIn F 0 P a w next Q := by
  unfold stepR at h
  unfold Oper.wpIn
  refine ⟨fun f _ => hF.fn f, ?_⟩
  split at h
  · rename_i x H1 he
    cases h
    obtain ⟨ρ', v, w', h1, h2, h3, h4⟩ := opE_ok hG hN hA.rel hA.tmps he
    rw [hF.sem (opE_nd he), h1, Oper.uponIn_value]
    exact hn ρ' _ _ h2 (hA.put (h2.le hA.rel) h4 _ h3)
  · rename_i H1 he
    cases h
    obtain ⟨ρ', w', h1, h2, h3⟩ := opE_ok hG hN hA.rel hA.tmps he
    rw [hF.sem (opE_nd he), h1, Oper.uponIn_skip]
    exact hn ρ' _ _ h2 (hA.put (h2.le hA.rel) h3 _ (by simp [den]))
  · rename_i f args he
    obtain ⟨vs, h1, h2⟩ := opE_ok hG hN hA.rel hA.tmps he
    rw [hF.sem (opE_nd he), h1, Oper.uponIn_enter]
    split at h
    · rename_i x H1 hc
      cases h
      refine ⟨hF.depth, (hF.calls ((callR_ok hcf _ _ _ _ _ hc).2 w0 ρ w vs hG hA.rel h2)).mono ?_⟩
      rintro e w' ⟨ρ', v, rfl, h3, h4, h5⟩
      exact hn ρ' _ _ h3 (hA.put (h3.le hA.rel) h5 _ h4)
    · cases h
  · rename_i i args he
    obtain ⟨p, vs, h1, h2, h3⟩ := opE_ok hG hN hA.rel hA.tmps he
    split at h
    · rename_i x H1 hc
      cases h
      obtain ⟨r, k1, k2, k3⟩ := (hcf.yld _ _ _ _ _ hc).2 w0 ρ w p vs hG hA.rel h1 h2
      rw [hF.sem (opE_nd he), h3 r k1 k2, Oper.uponIn_round]
      refine ⟨hF.depth, (hF.round k3).mono ?_⟩
      rintro e w' ⟨ρ', v, rfl, h3, h4, h5⟩
      exact hn ρ' _ _ h3 (hA.put (h3.le hA.rel) h5 _ h4)
    · cases h
  · cases h

def boolOf : SVal → Option Bool
  | .v (.bool b) => some b
  | .sym i => match Env.val i with
    | .bool b => some b
    | _ => none
  | _ => none

def yieldedS (ops : Array Oper) (t : List SVal) (j : Nat) : Option Bool :=
  match (ops[j]?).bind (·.dst) with
  | some d => match t[d]? with
    | some x => boolOf x
    | none => none
  | none => none

theorem boolOf_eq {x : SVal} {v : Value} (hx : den ρ x = some v) : boolOf x = (match v with | .bool b => some b | _ => none) := by
  cases x with
  | v y => simp only [den, Option.some.injEq] at hx; subst hx; cases y <;> rfl
  | row i off eoff len => obtain ⟨p, _, _, rfl⟩ := den_row hx; rfl
  | ptr i off => obtain ⟨p, _, rfl⟩ := den_ptr hx; rfl
  | slice i off len cap => obtain ⟨p, _, rfl⟩ := den_slice hx; rfl
  | agg l => obtain ⟨p, _, rfl⟩ := den_agg hx; rfl
  | tuple l => obtain ⟨p, _, rfl⟩ := den_tuple hx; rfl
  | func fn f c =>
    simp only [den] at hx
    split at hx <;> simp at hx
    subst hx; rfl
  | iface t y =>
    simp only [den] at hx
    split at hx
    · cases hx; rfl
    · cases hx
  | yield i =>
    simp only [den] at hx
    split at hx
    · cases hx; rfl
    · cases hx
  | map i =>
    simp only [den] at hx
    split at hx
    · cases hx; rfl
    · cases hx
  | sym i =>
    have e : Env.val i = v := by simpa [den] using hx
    show (match Env.val i with | .bool b => some b | _ => none) = _
    rw [e]
    cases v <;> rfl

theorem yieldedS_eq (ht : denL ρ t = some a.tmps.toList) (ops : Array Oper) (j : Nat) : yieldedS ops t j = yielded ops a.tmps j := by
  unfold yieldedS yielded
  cases hd : (ops[j]?).bind (·.dst) with
  | none => rfl
  | some d =>
    simp only [Option.bind_some]
    have hlen := denL_length ht
    cases hx : t[d]? with
    | none =>
      have : a.tmps[d]? = none := by
        have h1 := List.getElem?_eq_none_iff.1 hx
        simp at hlen
        exact Array.getElem?_eq_none (by omega)
      rw [this]
    | some x =>
      obtain ⟨y, hy, hdx⟩ := denL_get ht d x hx
      have : a.tmps[d]? = some y := by simpa using hy
      rw [this]
      simp only [boolOf_eq hdx]
      cases y <;> rfl

theorem wanted_eq (ht : denL ρ t = some a.tmps.toList) (ops : Array Oper) (o : Oper) : Region.wanted o (yieldedS ops t) = Region.wanted o (yielded ops a.tmps) := by
  unfold Region.wanted
  cases o.guard with
  | none => rfl
  | some g => simp only [yieldedS_eq ht]

/-- A region whose operations go in their order. -/
def runList (P : Program) (G : Glob) (cf : CallF) (ops : Array Oper) : List Oper → List SVal → SHeap → Option St
  | [], t, H => some (t, H)
  | o :: rest, t, H =>
    if Region.wanted o (yieldedS ops t) then
      match stepR P G cf t H o with
      | some (t', H') => runList P G cf ops rest t' H'
      | none => none
    else runList P G cf ops rest (putS t o.dst (.v undef)) H

theorem runList_ok {G : Glob} {cf : CallF} (hF : Wd F) (hcf : CallOk P G cf) (hG : G.holds w0) (hN : NamesOk P) {ops : Array Oper} : ∀ (l : List Oper) {t : List SVal} {H : SHeap} {t' : List SVal} {H' : SHeap}, runList P G cf ops l t H = some (t', H') →
    H.length ≤ H'.length ∧ ∀ {ρ : Ren} {a : Act} {w : World}, Acts dl w0 ρ t H a w → ∀ {Q : Exit → Act → World → Prop}, (∀ ρ' a' w', Ext ρ H ρ' H' → Acts dl w0 ρ' t' H' a' w' → Q .normal a' w') → wpListIn F 0 P ops Q l a w
  | [], t, H, t', H', h => by
    cases h
    exact ⟨Nat.le_refl _, fun hA Q hQ => hQ _ _ _ (Ext.refl _ _) hA⟩
  | o :: rest, t, H, t', H', h => by
    simp only [runList] at h
    split at h
    · rename_i hw
      split at h
      case h_2 => cases h
      rename_i t1 H1 hs
      have h1 := stepR_len hcf hs
      obtain ⟨h2, h3⟩ := runList_ok hF hcf hG hN rest h
      refine ⟨Nat.le_trans h1 h2, fun {ρ a w} hA Q hQ => ?_⟩
      simp only [wpListIn]
      rw [← wanted_eq hA.tmps, if_pos hw]
      exact stepR_ok hF hcf hG hN hs hA fun ρ1 a1 w1 he hA1 => h3 hA1 fun ρ2 a2 w2 he2 hA2 => hQ _ _ _ (he.trans he2 h1) hA2
    · rename_i hw
      obtain ⟨h2, h3⟩ := runList_ok hF hcf hG hN rest h
      refine ⟨h2, fun {ρ a w} hA Q hQ => ?_⟩
      simp only [wpListIn]
      rw [← wanted_eq hA.tmps, if_neg hw]
      refine ⟨fun f _ => hF.fn f, ?_⟩
      exact h3 (hA.put (Ren.le.refl _) hA.rel _ (by simp [den])) hQ

end
end
end Go.RX
