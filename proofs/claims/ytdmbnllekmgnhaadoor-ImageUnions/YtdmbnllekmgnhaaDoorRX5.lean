import Derived.Test.YtdmbnllekmgnhaaDoorRX4
import Derived.Tactics
import Derived.TacticsIn
import Derived.RangeFuncLeaves
import Derived.OrdersIn
import Derived.LoopNIn
import Derived.Still
namespace Go.RX
noncomputable section
open Go.RowKit (Below)

variable [Env]

/-! ### Names moved -/
mutual
def shift (k : Nat) : SVal → SVal
  | .v x => .v x
  | .ptr i off => .ptr (k + i) off
  | .slice i off len cap => .slice (k + i) off len cap
  | .row i off eoff len => .row (k + i) off eoff len
  | .tail i alt off eoff => .tail (k + i) alt off eoff
  | .agg l => .agg (shiftL k l)
  | .tuple l => .tuple (shiftL k l)
  | .func fn f c => .func fn (shiftL k f) (shiftL k c)
  | .iface t x => .iface t (shift k x)
  | .yield i => .yield (k + i)
  | .map i => .map (k + i)
  | .sym i => .sym i
def shiftL (k : Nat) : List SVal → List SVal
  | [] => []
  | x :: xs => shift k x :: shiftL k xs
end

def Ren.comb (k : Nat) (ρ ρc : Ren) : Ren := fun i => if i < k then ρ i else ρc (i - k)

 omit [Env] in
theorem Ren.comb_add (k i : Nat) (ρ ρc : Ren) : Ren.comb k ρ ρc (k + i) = ρc i := by
  unfold Ren.comb
  rw [if_neg (by omega), Nat.add_sub_cancel_left]

mutual
theorem den_shift {k : Nat} {ρ ρc : Ren} : ∀ (x : SVal), den (Ren.comb k ρ ρc) (shift k x) = den ρc x
  | .v x => by simp [den, shift]
  | .ptr i off => by simp only [den, shift, Ren.comb_add]
  | .slice i off len cap => by simp only [den, shift, Ren.comb_add]
  | .row i off eoff len => by simp only [den, shift, Ren.comb_add]
  | .tail i alt off eoff => by simp only [den, shift, Ren.comb_add]
  | .agg l => by simp only [den, shift, denL_shift l]
  | .tuple l => by simp only [den, shift, denL_shift l]
  | .func fn f c => by simp only [den, shift, denL_shift f, denL_shift c]
  | .iface t x => by simp only [den, shift, den_shift x]
  | .yield i => by simp only [den, shift, Ren.comb_add]
  | .map i => by simp only [den, shift, Ren.comb_add]
  | .sym i => rfl
theorem denL_shift {k : Nat} {ρ ρc : Ren} : ∀ (l : List SVal), denL (Ren.comb k ρ ρc) (shiftL k l) = denL ρc l
  | [] => by simp [denL, shiftL]
  | x :: xs => by simp only [denL, shiftL, den_shift x, denL_shift xs]
end

def shiftO (k : Nat) : SObj → SObj
  | .cells l e fz => .cells (shiftL k l) e fz
  | .row l e sz g => .row (shiftL k l) e sz (k + g)
  | .iter s pos => .iter s pos
  | .dead => .dead
  | .map ks l c => .map ks (shiftL k l) c
  | .marks => .marks
  | .loop st pend l ps assign body dj => .loop st pend (shiftL k l) ps assign body (k + dj)

 omit [Env] in
theorem shiftL_length (k : Nat) : ∀ l, (shiftL k l).length = l.length
  | [] => rfl
  | x :: xs => by simp [shiftL, shiftL_length k xs]

theorem objRel_shift {k : Nat} {ρ ρc : Ren} {p : Loc} {o : SObj} {ob : Obj} (h : ObjRel ρc p o ob) : ObjRel (Ren.comb k ρ ρc) p (shiftO k o) ob := by
  cases o with
  | cells l e fz => obtain ⟨vs, h1, h2⟩ := h; exact ⟨vs, by rw [denL_shift]; exact h1, h2⟩
  | row l e sz g => obtain ⟨vs, h1, h2⟩ := h; exact ⟨vs, by rw [denL_shift]; exact h1, h2⟩
  | iter s pos => exact h
  | dead => trivial
  | map ks l c => obtain ⟨vs, h1, h2, h3⟩ := h; exact ⟨vs, by rw [denL_shift]; exact h1, by rw [shiftL_length]; exact h2, h3⟩
  | marks => exact h
  | loop st pend l ps assign body dj => obtain ⟨fn, vs, pd, h1, h2, h3⟩ := h; exact ⟨fn, vs, pd, by rw [denL_shift]; exact h1, by rw [Ren.comb_add]; exact h2, h3⟩

section
variable {P : Program} {F : Fence} {dl : List Deferred} {w0 w : World} {ρ : Ren} {H : SHeap} {t : List SVal} {a : Act} {o : Oper}

/-- What lay before a call that turned nothing of it. -/
theorem Rel.later {w' : World} (hR : Rel w0 ρ H w) (hb : Below w.heap.size w w') : Rel w0 ρ H w' := by
  refine ⟨hR.below.trans (hb.mono hR.below.size), fun i b h => ?_, hR.inj, fun i b h => ?_⟩
  · obtain ⟨h1, h2⟩ := hR.fresh i b h
    exact ⟨h1, by have := hb.size; omega⟩
  · obtain ⟨o, ob, h1, h2, h3⟩ := hR.obj i b h
    exact ⟨o, ob, h1, by rw [hb.block b.b (hR.fresh i b h).2]; exact h2, h3⟩

/-- A call's own heap, laid behind the caller's. -/
theorem Rel.comb {w' : World} {ρc : Ren} {Hc : SHeap} (hR : Rel w0 ρ H w) (hc : Rel w ρc Hc w') : Rel w0 (Ren.comb H.length ρ ρc) (H ++ Hc.map (shiftO H.length)) w' := by
  have hR' := hR.later hc.below.b
  have hext : Ren.ext H.length ρ (Ren.comb H.length ρ ρc) := fun i hi => by simp [Ren.comb, hi]
  have hle := hext.le hR
  have at2 : ∀ i, ¬ i < H.length → (H ++ Hc.map (shiftO H.length))[i]? = (Hc[i - H.length]?).map (shiftO H.length) := fun i hi => by
    rw [List.getElem?_append_right (by omega), List.getElem?_map]
  refine ⟨hR'.below, fun i b h => ?_, fun i j p q hi hj hb => ?_, fun i b h => ?_⟩
  · unfold Ren.comb at h
    split at h
    · exact hR'.fresh i b h
    · obtain ⟨h1, h2⟩ := hc.fresh _ b h
      exact ⟨by have := hR.below.size; omega, h2⟩
  · unfold Ren.comb at hi hj
    split at hi <;> split at hj
    · exact (hR.inj i j p q hi hj hb).append
    · have h1 := (hR.fresh i p hi).2
      have h2 := (hc.fresh _ q hj).1
      omega
    · have h1 := (hR.fresh j q hj).2
      have h2 := (hc.fresh _ p hi).1
      omega
    · rename_i hi' hj'
      rcases hc.inj _ _ p q hi hj hb with e | ⟨l, e, sz, l', e', sz', g, h | h | h⟩
      · exact .inl (by omega)
      · exact .inr ⟨shiftL H.length l, e, sz, shiftL H.length l', e', sz', H.length + g, .inl ⟨by rw [at2 i hi', h.1]; rfl, by rw [at2 j hj', h.2]; rfl⟩⟩
      · exact .inr ⟨l, e, sz, l', e', sz', g, .inr (.inl (by rw [at2 i hi', h]; rfl))⟩
      · exact .inr ⟨l, e, sz, l', e', sz', g, .inr (.inr (by rw [at2 j hj', h]; rfl))⟩
  · by_cases hi : i < H.length
    · have h' : ρ i = some b := by simpa [Ren.comb, hi] using h
      obtain ⟨o, ob, h1, h2, h3⟩ := hR'.obj i b h'
      exact ⟨o, ob, by rw [List.getElem?_append_left hi]; exact h1, h2, h3.mono hle⟩
    · have h' : ρc (i - H.length) = some b := by simpa [Ren.comb, hi] using h
      obtain ⟨o, ob, h1, h2, h3⟩ := hc.obj _ b h'
      exact ⟨shiftO H.length o, ob, by rw [at2 i hi, h1]; rfl, h2, objRel_shift h3⟩

/-- The fences of a run: wide, within a round or not. -/
def Wd (F : Fence) : Prop := F = Fence.wide ∨ ∃ l, F = Fence.wide.inRound l

 omit [Env] in
theorem Wd.fn (hF : Wd F) (f : FuncId) : F.fn f := by rcases hF with rfl | ⟨l, rfl⟩ <;> trivial
 omit [Env] in
theorem Wd.depth (hF : Wd F) {n : Nat} : F.depth.isSome = true → 1 ≤ n := by rcases hF with rfl | ⟨l, rfl⟩ <;> exact fun h => by cases h
 omit [Env] in
theorem Wd.sem (hF : Wd F) {f : Operand → Value} (h : ∀ c, o.op ≠ .defer c) : o.semAt F.round f = execOp f o := by
  rcases hF with rfl | ⟨l, rfl⟩
  · rfl
  · exact Oper.semAt_some l f o h
 omit [Env] in
theorem Wd.calls (hF : Wd F) {n : Nat} {f : FuncId} {args : Array Value} {R : Ending → World → Prop} (h : Calls P f args w R) : CallsIn F n P f args w R := by
  rcases hF with rfl | ⟨l, rfl⟩
  · exact callsIn_wide.2 h
  · exact (callsIn_wide (n := n)).2 h
 omit [Env] in
theorem Wd.round (hF : Wd F) {n : Nat} {l : Nat} {f : FuncId} {tmps : Array Value} {assign body : Code} {R : Ending → World → Prop} (h : RoundIn Fence.wide n P l f tmps assign body w R) : RoundIn F n P l f tmps assign body w R := by
  rcases hF with rfl | ⟨l', rfl⟩
  · exact h
  · exact h

inductive Tgt where
  | fn (f : FuncId)
  | yield (i : Nat)

abbrev CallF := Tgt → List SVal → SHeap → Option (SVal × SHeap)

structure CallOk (P : Program) (G : Glob) (cf : CallF) : Prop where
  fn : ∀ f args H x H', cf (.fn f) args H = some (x, H') → H.length ≤ H'.length ∧
    ∀ w0 ρ w (vs : Array Value), G.holds w0 → Rel w0 ρ H w → denL ρ args = some vs.toList → Calls P f vs w fun e w' => ∃ ρ' v, e = .returned v ∧ Ext ρ H ρ' H' ∧ den ρ' x = some v ∧ Rel w0 ρ' H' w'
  yld : ∀ i args H x H', cf (.yield i) args H = some (x, H') → H.length ≤ H'.length ∧
    ∀ w0 ρ w p (vs : Array Value), G.holds w0 → Rel w0 ρ H w → ρ i = some p → denL ρ args = some vs.toList → ∃ r : Loop, w.heap[p.b]? = some (.loop r) ∧ vs.size = r.params.size ∧
      RoundIn Fence.wide 0 P p.b r.fn ((r.params.zip vs).foldl (fun tmps (t, a) => tmps.setIfInBounds t a) r.tmps) r.assign r.body w fun e w' => ∃ ρ' v, e = .returned v ∧ Ext ρ H ρ' H' ∧ den ρ' x = some v ∧ Rel w0 ρ' H' w'

def vHead : SVal → Bool
  | .v _ => true
  | _ => false

/-- A value that is known, as such. -/
def nrm (x : SVal) : SVal :=
  match vOf x with
  | some v => .v v
  | none => x

theorem den_nrm {x : SVal} {a : Value} (h : den ρ x = some a) : den ρ (nrm x) = some a := by
  unfold nrm
  split
  · rename_i v hv
    rw [den_of_vOf (ρ := ρ) _ hv] at h
    simpa [den] using h
  · exact h

theorem denL_nrm : ∀ {l : List SVal} {vs : List Value}, denL ρ l = some vs → denL ρ (l.map nrm) = some vs
  | [], vs, h => h
  | x :: xs, vs, h => by
    obtain ⟨a, b, ha, hb, rfl⟩ := denL_cons.1 h
    exact denL_cons.2 ⟨a, b, den_nrm ha, denL_nrm hb, rfl⟩

/-- A call: in a heap of its own, if no argument has a name in it. -/
def freshR (cf : CallF) (f : FuncId) (args : List SVal) : Option (SVal × SHeap) :=
  if nfL args then
    match cf (.fn f) (args.map nrm) [] with
    | none => none
    | some (x, Hc) => if nf x then some (nrm x, []) else some (x, Hc)
  else none

theorem freshR_ok {G : Glob} {cf : CallF} (hcf : CallOk P G cf) {f : FuncId} {args : List SVal} {x : SVal} {Hc : SHeap} (h : freshR cf f args = some (x, Hc)) (hG : G.holds w0) (hR : Rel w0 ρ H w)
    {vs : Array Value} (hv : denL ρ args = some vs.toList) : Calls P f vs w fun e w' => ∃ ρc v, e = .returned v ∧ den ρc x = some v ∧ Rel w ρc Hc w' := by
  unfold freshR at h
  split at h
  case isFalse => cases h
  rename_i hnf
  split at h
  · cases h
  rename_i y Hy hcall
  have h2 := (hcf.fn _ _ _ _ _ hcall).2 w (fun _ => none) w vs (hG.later hR.below) (Rel.start w hR.below.here) (denL_nrm (by rw [denL_nf args hnf (ρ' := ρ)]; exact hv))
  split at h
  · rename_i hy
    cases h
    refine h2.mono ?_
    rintro e w' ⟨ρ', u, rfl, _, hd, hR'⟩
    refine ⟨fun _ => none, u, rfl, den_nrm (by rw [den_nf y hy (ρ' := ρ')]; exact hd), ⟨hR'.below, fun i b h => by simp at h, fun i j p q h => by simp at h, fun i b h => by simp at h⟩⟩
  · cases h
    refine h2.mono ?_
    rintro e w' ⟨ρ', u, rfl, _, hd, hR'⟩
    exact ⟨ρ', u, rfl, hd, hR'⟩

mutual
/-- All names are below n. -/
def ltS (n : Nat) : SVal → Bool
  | .v _ => true
  | .sym _ => true
  | .ptr i _ => Nat.blt i n
  | .slice i _ _ _ => Nat.blt i n
  | .row i _ _ _ => Nat.blt i n
  | .tail i _ _ _ => Nat.blt i n
  | .yield i => Nat.blt i n
  | .map i => Nat.blt i n
  | .agg l => ltL n l
  | .tuple l => ltL n l
  | .func _ f c => ltL n f && ltL n c
  | .iface _ x => ltS n x
def ltL (n : Nat) : List SVal → Bool
  | [] => true
  | x :: xs => ltS n x && ltL n xs
end
omit [Env] in
theorem blt_lt {i n : Nat} (h : Nat.blt i n = true) : i < n := by
  have := Nat.le_of_ble_eq_true h
  omega
mutual
theorem den_lt {n : Nat} {ρ ρ' : Ren} (hr : ∀ i, i < n → ρ i = ρ' i) : ∀ (x : SVal), ltS n x = true → den ρ x = den ρ' x
  | .v x, _ => rfl
  | .sym i, _ => rfl
  | .ptr i off, h => by simp only [den, hr i (blt_lt (by simpa [ltS] using h))]
  | .slice i off len cap, h => by simp only [den, hr i (blt_lt (by simpa [ltS] using h))]
  | .row i off eoff len, h => by simp only [den, hr i (blt_lt (by simpa [ltS] using h))]
  | .tail i alt off eoff, h => by simp only [den, hr i (blt_lt (by simpa [ltS] using h))]
  | .yield i, h => by simp only [den, hr i (blt_lt (by simpa [ltS] using h))]
  | .map i, h => by simp only [den, hr i (blt_lt (by simpa [ltS] using h))]
  | .agg l, h => by simp only [den]; rw [denL_lt hr l (by simpa [ltS] using h)]
  | .tuple l, h => by simp only [den]; rw [denL_lt hr l (by simpa [ltS] using h)]
  | .func fn f c, h => by
    simp only [ltS, Bool.and_eq_true] at h
    simp only [den]
    rw [denL_lt hr f h.1, denL_lt hr c h.2]
  | .iface t x, h => by simp only [den]; rw [den_lt hr x (by simpa [ltS] using h)]
theorem denL_lt {n : Nat} {ρ ρ' : Ren} (hr : ∀ i, i < n → ρ i = ρ' i) : ∀ (l : List SVal), ltL n l = true → denL ρ l = denL ρ' l
  | [], _ => rfl
  | x :: xs, h => by
    simp only [ltL, Bool.and_eq_true] at h
    simp only [denL]
    rw [den_lt hr x h.1, denL_lt hr xs h.2]
end
def ltO (n : Nat) : SObj → Bool
  | .cells l _ _ => ltL n l
  | .row l _ _ _ => ltL n l
  | .iter _ _ => true
  | .dead => true
  | .map _ vals _ => ltL n vals
  | .marks => true
  | .loop _ _ t _ _ _ dj => ltL n t && Nat.blt dj n
def ltH (n : Nat) : SHeap → Bool
  | [] => true
  | o :: os => ltO n o && ltH n os
omit [Env] in
theorem ltH_get {n : Nat} : ∀ {H : SHeap} {i : Nat} {o : SObj}, ltH n H = true → H[i]? = some o → ltO n o = true
  | [], i, o, _, h => by simp at h
  | x :: xs, i, o, h, hi => by
    simp only [ltH, Bool.and_eq_true] at h
    cases i with
    | zero => simp at hi; subst hi; exact h.1
    | succ i => exact ltH_get h.2 (by simpa using hi)
theorem ObjRel.lt {n : Nat} {ρ ρ' : Ren} (hr : ∀ i, i < n → ρ i = ρ' i) {p : Loc} : ∀ {x : SObj} {a : Obj}, ltO n x = true → ObjRel ρ p x a → ObjRel ρ' p x a
  | .cells l _ _, _, h, ⟨vs, h1, h2⟩ => ⟨vs, by rw [← denL_lt hr l h]; exact h1, h2⟩
  | .row l _ _ _, _, h, ⟨vs, h1, h2⟩ => ⟨vs, by rw [← denL_lt hr l h]; exact h1, h2⟩
  | .iter _ _, _, _, hh => hh
  | .dead, _, _, _ => trivial
  | .map _ l _, _, h, ⟨vs, h1, h2⟩ => ⟨vs, by rw [← denL_lt hr l h]; exact h1, h2⟩
  | .marks, _, _, hh => hh
  | .loop _ _ l _ _ _ dj, _, h, ⟨fn, vs, pd, h1, h2, h3⟩ => by
    simp only [ltO, Bool.and_eq_true] at h
    exact ⟨fn, vs, pd, by rw [← denL_lt hr l h.1]; exact h1, by rw [← hr dj (blt_lt h.2)]; exact h2, h3⟩

/-- What a call has laid, and nobody can reach any more, is dropped. -/
def gcAble (n : Nat) (x : SVal) (H' : SHeap) : Bool := Nat.blt (n + 4) H'.length && nf x && ltH n (H'.take n)
def cut (n : Nat) (ρ : Ren) : Ren := fun i => if i < n then ρ i else none
omit [Env] in
theorem cut_some {n : Nat} {ρ : Ren} {i : Nat} {p : Loc} (h : cut n ρ i = some p) : i < n ∧ ρ i = some p := by
  unfold cut at h
  split at h
  · exact ⟨by assumption, h⟩
  · cases h
omit [Env] in
theorem Alike.take {H : SHeap} {i j n : Nat} (hi : i < n) (hj : j < n) (h : Alike H i j) : Alike (H.take n) i j := by
  have e : ∀ k, k < n → (H.take n)[k]? = H[k]? := fun k hk => by rw [List.getElem?_take, if_pos hk]
  rcases h with h | ⟨l, e1, sz, l', e', sz', g, h | h | h⟩
  · exact .inl h
  · exact .inr ⟨l, e1, sz, l', e', sz', g, .inl ⟨by rw [e i hi]; exact h.1, by rw [e j hj]; exact h.2⟩⟩
  · exact .inr ⟨l, e1, sz, l', e', sz', g, .inr (.inl (by rw [e i hi]; exact h))⟩
  · exact .inr ⟨l, e1, sz, l', e', sz', g, .inr (.inr (by rw [e j hj]; exact h))⟩
theorem Rel.take {w0 w : World} {ρ : Ren} {H : SHeap} {n : Nat} (h : Rel w0 ρ H w) (hc : ltH n (H.take n) = true) : Rel w0 (cut n ρ) (H.take n) w := by
  refine ⟨h.below, fun i p hi => h.fresh i p (cut_some hi).2, fun i j p q hi hj hb => (h.inj i j p q (cut_some hi).2 (cut_some hj).2 hb).take (cut_some hi).1 (cut_some hj).1, fun i p hi => ?_⟩
  obtain ⟨hin, hi'⟩ := cut_some hi
  obtain ⟨o, ob, h1, h2, h3⟩ := h.obj i p hi'
  have h4 : (H.take n)[i]? = some o := by rw [List.getElem?_take, if_pos hin]; exact h1
  exact ⟨o, ob, h4, h2, ObjRel.lt (n := n) (fun k hk => by unfold cut; rw [if_pos hk]) (ltH_get hc h4) h3⟩

/-! ### What nobody can reach any more, at a call's return, is dead -/
 omit [Env] in
/-- Of a heap one may know less. -/
theorem Rel.weaker [Env] {w0 w : World} {ρ : Ren} {H H' : SHeap} (h : Rel w0 ρ H w) (hk : ∀ i : Nat, H'[i]? = H[i]? ∨ H'[i]? = some .dead) : Rel w0 ρ H' w := by
  refine ⟨h.below, h.fresh, fun i j p q hi hj hb => ?_, fun i p hi => ?_⟩
  · rcases h.inj i j p q hi hj hb with e | ⟨l, e1, sz, l', e', sz', g, hh⟩
    · exact .inl e
    · rcases hk i with ki | ki
      · rcases hk j with kj | kj
        · refine .inr ⟨l, e1, sz, l', e', sz', g, ?_⟩
          rw [ki, kj]
          exact hh
        · exact .inr ⟨l, e1, sz, l', e', sz', g, .inr (.inr kj)⟩
      · exact .inr ⟨l, e1, sz, l', e', sz', g, .inr (.inl ki)⟩
  · obtain ⟨o, ob, h1, h2, h3⟩ := h.obj i p hi
    rcases hk i with ki | ki
    · exact ⟨o, ob, by rw [ki]; exact h1, h2, h3⟩
    · exact ⟨.dead, ob, ki, h2, trivial⟩

/-- Those of the places from i on that the mask lacks are dead. -/
def deadIf (k : Nat) : Nat → SHeap → SHeap
  | _, [] => []
  | i, o :: os => (if Nat.testBit k i then o else .dead) :: deadIf k (i + 1) os
 omit [Env] in
theorem deadIf_get (k : Nat) : ∀ (H : SHeap) (i j : Nat), (deadIf k i H)[j]? = H[j]? ∨ (deadIf k i H)[j]? = some .dead
  | [], _, _ => .inl rfl
  | o :: os, i, 0 => by
    simp only [deadIf, List.getElem?_cons_zero]
    split
    · exact .inl rfl
    · exact .inr rfl
  | o :: os, i, j + 1 => by
    simp only [deadIf, List.getElem?_cons_succ]
    exact deadIf_get k os (i + 1) j
 omit [Env] in
theorem deadIf_length (k : Nat) : ∀ (H : SHeap) (i : Nat), (deadIf k i H).length = H.length
  | [], _ => rfl
  | o :: os, i => by simp [deadIf, deadIf_length k os (i + 1)]
mutual
/-- The names from n on that a value has, ahead of those of a list. -/
def refS (n : Nat) : SVal → List Nat → List Nat
  | .v _, a => a
  | .sym _, a => a
  | .ptr i _, a => if Nat.ble n i then (i - n) :: a else a
  | .slice i _ _ _, a => if Nat.ble n i then (i - n) :: a else a
  | .row i _ _ _, a => if Nat.ble n i then (i - n) :: a else a
  | .tail i alt _ _, a => if Nat.ble n i then (i - n) :: (if Nat.ble n alt then (alt - n) :: a else a) else if Nat.ble n alt then (alt - n) :: a else a
  | .yield i, a => if Nat.ble n i then (i - n) :: a else a
  | .map i, a => if Nat.ble n i then (i - n) :: a else a
  | .agg l, a => refL n l a
  | .tuple l, a => refL n l a
  | .func _ f c, a => refL n f (refL n c a)
  | .iface _ x, a => refS n x a
def refL (n : Nat) : List SVal → List Nat → List Nat
  | [], a => a
  | x :: xs, a => refS n x (refL n xs a)
end
def refO (n : Nat) : SObj → List Nat → List Nat
  | .cells l _ _, a => refL n l a
  | .row l _ _ _, a => refL n l a
  | .iter _ _, a => a
  | .dead, a => a
  | .map _ vals _, a => refL n vals a
  | .marks, a => a
  | .loop _ _ t _ _ _ dj, a => refL n t (if Nat.ble n dj then (dj - n) :: a else a)
/-- The mask of what is reached. -/
def reachM (n : Nat) (L : SHeap) : Nat → List Nat → Nat → Nat
  | 0, _, m => m
  | _ + 1, [], m => m
  | f + 1, i :: is, m => if Nat.testBit m i then reachM n L f is m else match L[i]? with
    | some o => reachM n L f (refO n o is) (m ||| (1 <<< i))
    | none => reachM n L f is m
/-- What a call has laid from the place n on, and its result does not reach, is dead, if nothing of what was there before reaches it (where it has laid much: to look costs time). -/
def sweep (n : Nat) (x : SVal) (H' : SHeap) : SHeap :=
  if Nat.blt (n + 16) H'.length && ltH n (H'.take n) then H'.take n ++ deadIf (reachM n (H'.drop n) 100000 (refS n x []) 0) 0 (H'.drop n) else H'
 omit [Env] in
theorem sweep_length (n : Nat) (x : SVal) (H' : SHeap) : (sweep n x H').length = H'.length := by
  unfold sweep
  split
  · simp only [List.length_append, deadIf_length, List.length_take, List.length_drop]
    omega
  · rfl
 omit [Env] in
theorem sweep_get (n : Nat) (x : SVal) (H' : SHeap) (i : Nat) : (sweep n x H')[i]? = H'[i]? ∨ (sweep n x H')[i]? = some .dead := by
  unfold sweep
  split
  · rcases Nat.lt_or_ge i (H'.take n).length with hi | hi
    · refine .inl ?_
      rw [List.getElem?_append_left hi, List.getElem?_take_of_lt (by rw [List.length_take] at hi; omega)]
    · rw [List.getElem?_append_right hi]
      rcases Nat.lt_or_ge i H'.length with hl | hl
      · have hn : (H'.take n).length = n := by rw [List.length_take] at hi ⊢; omega
        rw [hn] at hi ⊢
        have := deadIf_get (reachM n (H'.drop n) 100000 (refS n x []) 0) (H'.drop n) 0 (i - n)
        rw [List.getElem?_drop, show n + (i - n) = i by omega] at this
        exact this
      · refine .inl ?_
        rw [List.getElem?_eq_none hl, List.getElem?_eq_none (by rw [deadIf_length, List.length_drop, List.length_take]; omega)]
  · exact .inl rfl
 omit [Env] in
theorem sweep_old {n : Nat} (x : SVal) {H' : SHeap} {i : Nat} (hi : i < n) : (sweep n x H')[i]? = H'[i]? := by
  unfold sweep
  split
  · rcases Nat.lt_or_ge i H'.length with hl | hl
    · rw [List.getElem?_append_left (by rw [List.length_take]; omega), List.getElem?_take_of_lt hi]
    · rw [List.getElem?_eq_none hl, List.getElem?_eq_none (by rw [List.length_append, deadIf_length, List.length_drop, List.length_take]; omega)]
  · rfl

def callR (cf : CallF) (f : FuncId) (args : List SVal) (H : SHeap) : Option (SVal × SHeap) :=
  if nfL args then match freshR cf f args with
    | none => none
    | some (x, Hc) => match Hc with
      | [] => some (x, H)
      | _ :: _ => if nf x then some (x, H) else some (shift H.length x, H ++ (sweep 0 x Hc).map (shiftO H.length))
  else match cf (.fn f) args H with
    | some (x, H') => if gcAble H.length x H' then some (x, H'.take H.length) else some (x, sweep H.length x H')
    | none => none

theorem callR_ok {G : Glob} {cf : CallF} (hcf : CallOk P G cf) : ∀ f args H x H', callR cf f args H = some (x, H') → H.length ≤ H'.length ∧
    ∀ w0 ρ w (vs : Array Value), G.holds w0 → Rel w0 ρ H w → denL ρ args = some vs.toList → Calls P f vs w fun e w' => ∃ ρ' v, e = .returned v ∧ Ext ρ H ρ' H' ∧ den ρ' x = some v ∧ Rel w0 ρ' H' w' := by
  intro f args H x H' h
  unfold callR at h
  split at h
  case isFalse =>
    split at h
    case h_2 => cases h
    rename_i y K hy
    obtain ⟨k1, k2⟩ := hcf.fn _ _ _ _ _ hy
    split at h
    case isFalse =>
      cases h
      refine ⟨by rw [sweep_length]; exact k1, fun w0 ρ w vs hG hR hv => (k2 w0 ρ w vs hG hR hv).mono ?_⟩
      rintro e w' ⟨ρ', v, rfl, hE, hd, hR'⟩
      refine ⟨ρ', v, rfl, fun i hi => ?_, hd, hR'.weaker (sweep_get _ _ _)⟩
      obtain ⟨e1, e2⟩ := hE i hi
      refine ⟨e1, fun hn l el fz hc => ?_⟩
      rw [sweep_old _ hi]
      exact e2 hn l el fz hc
    rename_i hgc
    cases h
    simp only [gcAble, Bool.and_eq_true] at hgc
    refine ⟨by rw [List.length_take]; omega, fun w0 ρ w vs hG hR hv => (k2 w0 ρ w vs hG hR hv).mono ?_⟩
    rintro e w' ⟨ρ', v, rfl, hE, hd, hR'⟩
    refine ⟨cut H.length ρ', v, rfl, fun i hi => ?_, ?_, hR'.take hgc.2⟩
    · obtain ⟨e1, e2⟩ := hE i hi
      refine ⟨by unfold cut; rw [if_pos hi]; exact e1, fun hn l el fz hc => ?_⟩
      rw [List.getElem?_take, if_pos hi]
      exact e2 hn l el fz hc
    · rw [den_nf (ρ := cut H.length ρ') (ρ' := ρ') _ hgc.1.2]
      exact hd
  split at h
  · cases h
  rename_i y Hc hfr
  split at h
  · cases h
    refine ⟨Nat.le_refl _, fun w0 ρ w vs hG hR hv => (freshR_ok hcf hfr hG hR hv).mono ?_⟩
    rintro e w' ⟨ρc, v, rfl, hd, hRc⟩
    refine ⟨ρ, v, rfl, Ext.refl _ _, ?_, hR.later hRc.below.b⟩
    refine den_mono (ρ := ρc) (fun i b hb => ?_) _ hd
    obtain ⟨o, ob, ho, _⟩ := hRc.obj i b hb
    simp at ho
  · rename_i o os
    split at h
    · rename_i hnf
      cases h
      refine ⟨Nat.le_refl _, fun w0 ρ w vs hG hR hv => (freshR_ok hcf hfr hG hR hv).mono ?_⟩
      rintro e w' ⟨ρc, v, rfl, hd, hRc⟩
      exact ⟨ρ, v, rfl, Ext.refl _ _, by rw [den_nf (ρ := ρ) (ρ' := ρc) _ hnf]; exact hd, hR.later hRc.below.b⟩
    · cases h
      refine ⟨by simp, fun w0 ρ w vs hG hR hv => (freshR_ok hcf hfr hG hR hv).mono ?_⟩
      rintro e w' ⟨ρc, v, rfl, hd, hRc⟩
      exact ⟨Ren.comb H.length ρ ρc, v, rfl, fun i hi => ⟨by simp [Ren.comb, hi], fun _ l e fz hh => by rw [List.getElem?_append_left hi]; exact hh⟩, by rw [den_shift]; exact hd, hR.comb (hRc.weaker (sweep_get 0 _ _))⟩

/-! ### Steps -/
structure Acts (dl : List Deferred) (w0 : World) (ρ : Ren) (t : List SVal) (H : SHeap) (a : Act) (w : World) : Prop where
  tmps : denL ρ t = some a.tmps.toList
  defers : a.defers = dl
  rel : Rel w0 ρ H w

def putS (t : List SVal) (dst : Option Tmp) (x : SVal) : List SVal :=
  match dst with
  | some d => setS t d x
  | none => t

theorem Acts.put {w' : World} {ρ' : Ren} {H' : SHeap} (h : Acts dl w0 ρ t H a w) (hle : ρ.le ρ') (hR : Rel w0 ρ' H' w') (dst : Option Tmp) {x : SVal} {v : Value} (hx : den ρ' x = some v) :
    Acts dl w0 ρ' (putS t dst x) H' (a.put dst v) w' := by
  have ht := denL_mono hle _ h.tmps
  cases dst with
  | none => exact ⟨ht, h.defers, hR⟩
  | some d =>
    refine ⟨?_, h.defers, hR⟩
    simp only [putS, setS_eq, Act.put]
    rw [Array.toList_setIfInBounds]
    exact denL_set hx ht d

abbrev St := List SVal × SHeap

def stepR (P : Program) (G : Glob) (cf : CallF) (t : List SVal) (H : SHeap) (o : Oper) : Option St :=
  match opE P G t H o with
  | some (.val x H') => some (putS t o.dst x, H')
  | some (.skip H') => some (putS t o.dst (.v undef), H')
  | some (.call f args) => match callR cf f args H with
    | some (x, H') => some (putS t o.dst x, H')
    | none => none
  | some (.yld i args) => match cf (.yield i) args H with
    | some (x, H') => some (putS t o.dst x, H')
    | none => none
  | none => none

 omit [Env] in
theorem setMany_len_of_store {ty : TypeId} {p x : SVal} {H' : SHeap} (h : storeE P H ty p x = some H') : H'.length = H.length := by
  unfold storeE at h
  split at h
  case h_2 => cases h
  split at h
  case h_2 => cases h
  simp only at h
  split at h
  case isFalse => cases h
  exact writeE_len h

def Res.heap (H : SHeap) : Res → SHeap
  | .val _ H' => H'
  | .skip H' => H'
  | .call _ _ => H
  | .yld _ _ => H

theorem mapUpdate_len {ty : TypeId} {m k x : SVal} {H' : SHeap} (h : mapUpdateE P H ty m k x = some H') : H'.length = H.length := by
  unfold mapUpdateE at h
  repeat' (split at h)
  all_goals first | (cases h; simp; done) | cases h

theorem opE_len {G : Glob} {r : Res} (h : opE P G t H o = some r) : H.length ≤ (r.heap H).length := by
  have hH : ∀ {r}, opH P G t H o = some r → H.length ≤ (r.heap H).length := by
    intro r h
    obtain ⟨dst, op, type, pos, after, guard⟩ := o
    cases op with
    | alloc e =>
      simp only [opH, allocE] at h
      split at h <;> cases h
      simp [Res.heap]
    | box e x => simp only [opH, Option.some.injEq] at h; subst h; simp [Res.heap]
    | load ty x => simp only [opH] at h; split at h <;> cases h; simp [Res.heap]
    | store ty p x =>
      simp only [opH] at h
      split at h <;> cases h
      rename_i H' hH'
      simp [Res.heap, setMany_len_of_store hH']
    | buildSlice ty len parts =>
      simp only [opH, buildSliceE] at h
      repeat' (split at h)
      all_goals first | (cases h; simp [Res.heap]; done) | cases h
    | makeSlice ty l c =>
      simp only [opH, makeSliceE] at h
      repeat' (split at h)
      all_goals first | (cases h; simp [Res.heap]; done) | cases h
    | convert src dst x =>
      simp only [opH] at h
      split at h
      · cases h; simp [Res.heap]
      · simp only [strBytesE] at h
        repeat' (split at h)
        all_goals first | (cases h; simp [Res.heap]; done) | cases h
    | range ty x =>
      simp only [opH, rangeE] at h
      repeat' (split at h)
      all_goals first | (cases h; simp [Res.heap]; done) | cases h
    | next x s =>
      simp only [opH, nextE] at h
      repeat' (split at h)
      all_goals first | (cases h; simp [Res.heap]; done) | cases h
    | makeMap ty r =>
      simp only [opH, makeMapE] at h
      repeat' (split at h)
      all_goals first | (cases h; simp [Res.heap]; done) | cases h
    | mapUpdate ty m k x =>
      simp only [opH] at h
      split at h <;> cases h
      rename_i H' hH'
      simp [Res.heap, mapUpdate_len hH']
    | lookup ty x k ok => simp only [opH] at h; split at h <;> cases h; simp [Res.heap]
    | slice ty x lo hi mx =>
      simp only [opH] at h
      repeat' (split at h)
      all_goals first | (cases h; simp [Res.heap]; done) | cases h
    | call c =>
      obtain ⟨callee, args, argTypes⟩ := c
      simp only [opH] at h
      split at h
      · simp only [copyOpE] at h
        split at h
        · simp only [copyE] at h
          repeat' (split at h)
          all_goals first | (rename_i hw; cases h; have := writeE_len hw; simp [Res.heap, this]; done) | cases h
        · simp only [appendE] at h
          repeat' (split at h)
          all_goals first | (rename_i hw; cases h; have := writeE_len hw; simp [Res.heap, this]; done) | (cases h; simp [Res.heap]; done) | cases h
        · simp only [strAtE] at h
          repeat' (split at h)
          all_goals first | (cases h; simp [Res.heap, killFrom_len]; done) | cases h
        · simp only [clearE] at h
          repeat' (split at h)
          all_goals first | (rename_i hw; cases h; have := writeE_len hw; simp [Res.heap, this]; done) | (cases h; simp [Res.heap]; done) | cases h
        · cases h
      · cases h
    | _ => simp only [opH] at h; cases h
  unfold opE at h
  split at h
  · exact hH h
  · split at h
    · rename_i r' _
      cases h
      cases r' <;> simp [PRes.on, Res.heap]
    · exact hH h

theorem stepR_len {G : Glob} {cf : CallF} (hcf : CallOk P G cf) {t' : List SVal} {H' : SHeap} (h : stepR P G cf t H o = some (t', H')) : H.length ≤ H'.length := by
  unfold stepR at h
  split at h
  · rename_i x H1 he; cases h; exact opE_len he
  · rename_i H1 he; cases h; exact opE_len he
  · rename_i f args he
    split at h
    · rename_i x H1 hc; cases h; exact (callR_ok hcf _ _ _ _ _ hc).1
    · cases h
  · rename_i i args he
    split at h
    · rename_i x H1 hc; cases h; exact (hcf.yld _ _ _ _ _ hc).1
    · cases h
  · cases h

theorem stepR_ok {G : Glob} {cf : CallF} (hF : Wd F) (hcf : CallOk P G cf) (hG : G.holds w0) (hN : NamesOk P) {t' : List SVal} {H' : SHeap} (h : stepR P G cf t H o = some (t', H'))
    (hA : Acts dl w0 ρ t H a w) {next : Act → World → Prop} {Q : Exit → Act → World → Prop}
    (hn : ∀ ρ' a' w', Ext ρ H ρ' H' → Acts dl w0 ρ' t' H' a' w' → next a' w') : o.wpIn F 0 P a w next Q := by
  unfold stepR at h
  unfold Oper.wpIn
  refine ⟨fun f _ => hF.fn f, ?_⟩
  split at h
  · rename_i x H1 he
    cases h
    obtain ⟨ρ', v, w', h1, h2, h3, h4⟩ := opE_ok hG hN hA.rel hA.tmps he
    rw [hF.sem (opE_nd he), h1, Oper.uponIn_value]
    exact hn ρ' _ _ h2 (hA.put (h2.le hA.rel) h4 _ h3)
  · rename_i H1 he
    cases h
    obtain ⟨ρ', w', h1, h2, h3⟩ := opE_ok hG hN hA.rel hA.tmps he
    rw [hF.sem (opE_nd he), h1, Oper.uponIn_skip]
    exact hn ρ' _ _ h2 (hA.put (h2.le hA.rel) h3 _ (by simp [den]))
  · rename_i f args he
    obtain ⟨vs, h1, h2⟩ := opE_ok hG hN hA.rel hA.tmps he
    rw [hF.sem (opE_nd he), h1, Oper.uponIn_enter]
    split at h
    · rename_i x H1 hc
      cases h
      refine ⟨hF.depth, (hF.calls ((callR_ok hcf _ _ _ _ _ hc).2 w0 ρ w vs hG hA.rel h2)).mono ?_⟩
      rintro e w' ⟨ρ', v, rfl, h3, h4, h5⟩
      exact hn ρ' _ _ h3 (hA.put (h3.le hA.rel) h5 _ h4)
    · cases h
  · rename_i i args he
    obtain ⟨p, vs, h1, h2, h3⟩ := opE_ok hG hN hA.rel hA.tmps he
    split at h
    · rename_i x H1 hc
      cases h
      obtain ⟨r, k1, k2, k3⟩ := (hcf.yld _ _ _ _ _ hc).2 w0 ρ w p vs hG hA.rel h1 h2
      rw [hF.sem (opE_nd he), h3 r k1 k2, Oper.uponIn_round]
      refine ⟨hF.depth, (hF.round k3).mono ?_⟩
      rintro e w' ⟨ρ', v, rfl, h3, h4, h5⟩
      exact hn ρ' _ _ h3 (hA.put (h3.le hA.rel) h5 _ h4)
    · cases h
  · cases h

def boolOf : SVal → Option Bool
  | .v (.bool b) => some b
  | .sym i => match Env.val i with
    | .bool b => some b
    | _ => none
  | _ => none

def yieldedS (ops : Array Oper) (t : List SVal) (j : Nat) : Option Bool :=
  match (ops[j]?).bind (·.dst) with
  | some d => match t[d]? with
    | some x => boolOf x
    | none => none
  | none => none

theorem boolOf_eq {x : SVal} {v : Value} (hx : den ρ x = some v) : boolOf x = (match v with | .bool b => some b | _ => none) := by
  cases x with
  | v y => simp only [den, Option.some.injEq] at hx; subst hx; cases y <;> rfl
  | row i off eoff len => obtain ⟨p, _, _, rfl⟩ := den_row hx; rfl
  | tail i alt off eoff =>
    simp only [den] at hx
    split at hx
    · split at hx <;> simp at hx
      subst hx; rfl
    · cases hx
  | ptr i off => obtain ⟨p, _, rfl⟩ := den_ptr hx; rfl
  | slice i off len cap => obtain ⟨p, _, rfl⟩ := den_slice hx; rfl
  | agg l => obtain ⟨p, _, rfl⟩ := den_agg hx; rfl
  | tuple l => obtain ⟨p, _, rfl⟩ := den_tuple hx; rfl
  | func fn f c =>
    simp only [den] at hx
    split at hx <;> simp at hx
    subst hx; rfl
  | iface t y =>
    simp only [den] at hx
    split at hx
    · cases hx; rfl
    · cases hx
  | yield i =>
    simp only [den] at hx
    split at hx
    · cases hx; rfl
    · cases hx
  | map i =>
    simp only [den] at hx
    split at hx
    · cases hx; rfl
    · cases hx
  | sym i =>
    have e : Env.val i = v := by simpa [den] using hx
    show (match Env.val i with | .bool b => some b | _ => none) = _
    rw [e]
    cases v <;> rfl

theorem yieldedS_eq (ht : denL ρ t = some a.tmps.toList) (ops : Array Oper) (j : Nat) : yieldedS ops t j = yielded ops a.tmps j := by
  unfold yieldedS yielded
  cases hd : (ops[j]?).bind (·.dst) with
  | none => rfl
  | some d =>
    simp only [Option.bind_some]
    have hlen := denL_length ht
    cases hx : t[d]? with
    | none =>
      have : a.tmps[d]? = none := by
        have h1 := List.getElem?_eq_none_iff.1 hx
        simp at hlen
        exact Array.getElem?_eq_none (by omega)
      rw [this]
    | some x =>
      obtain ⟨y, hy, hdx⟩ := denL_get ht d x hx
      have : a.tmps[d]? = some y := by simpa using hy
      rw [this]
      simp only [boolOf_eq hdx]
      cases y <;> rfl

theorem wanted_eq (ht : denL ρ t = some a.tmps.toList) (ops : Array Oper) (o : Oper) : Region.wanted o (yieldedS ops t) = Region.wanted o (yielded ops a.tmps) := by
  unfold Region.wanted
  cases o.guard with
  | none => rfl
  | some g => simp only [yieldedS_eq ht]

/-- A region whose operations go in their order. -/
def runList (P : Program) (G : Glob) (cf : CallF) (ops : Array Oper) : List Oper → List SVal → SHeap → Option St
  | [], t, H => some (t, H)
  | o :: rest, t, H =>
    if Region.wanted o (yieldedS ops t) then
      match stepR P G cf t H o with
      | some (t', H') => runList P G cf ops rest t' H'
      | none => none
    else runList P G cf ops rest (putS t o.dst (.v undef)) H

theorem runList_ok {G : Glob} {cf : CallF} (hF : Wd F) (hcf : CallOk P G cf) (hG : G.holds w0) (hN : NamesOk P) {ops : Array Oper} : ∀ (l : List Oper) {t : List SVal} {H : SHeap} {t' : List SVal} {H' : SHeap}, runList P G cf ops l t H = some (t', H') →
    H.length ≤ H'.length ∧ ∀ {ρ : Ren} {a : Act} {w : World}, Acts dl w0 ρ t H a w → ∀ {Q : Exit → Act → World → Prop}, (∀ ρ' a' w', Ext ρ H ρ' H' → Acts dl w0 ρ' t' H' a' w' → Q .normal a' w') → wpListIn F 0 P ops Q l a w
  | [], t, H, t', H', h => by
    cases h
    exact ⟨Nat.le_refl _, fun hA Q hQ => hQ _ _ _ (Ext.refl _ _) hA⟩
  | o :: rest, t, H, t', H', h => by
    simp only [runList] at h
    split at h
    · rename_i hw
      split at h
      case h_2 => cases h
      rename_i t1 H1 hs
      have h1 := stepR_len hcf hs
      obtain ⟨h2, h3⟩ := runList_ok hF hcf hG hN rest h
      refine ⟨Nat.le_trans h1 h2, fun {ρ a w} hA Q hQ => ?_⟩
      simp only [wpListIn]
      rw [← wanted_eq hA.tmps, if_pos hw]
      exact stepR_ok hF hcf hG hN hs hA fun ρ1 a1 w1 he hA1 => h3 hA1 fun ρ2 a2 w2 he2 hA2 => hQ _ _ _ (he.trans he2 h1) hA2
    · rename_i hw
      obtain ⟨h2, h3⟩ := runList_ok hF hcf hG hN rest h
      refine ⟨h2, fun {ρ a w} hA Q hQ => ?_⟩
      simp only [wpListIn]
      rw [← wanted_eq hA.tmps, if_neg hw]
      refine ⟨fun f _ => hF.fn f, ?_⟩
      exact h3 (hA.put (Ren.le.refl _) hA.rel _ (by simp [den])) hQ

end
end
end Go.RX

namespace Go.RX
noncomputable section
open Go.RowKit (Below)

variable [Env]

section
variable {P : Program} {F : Fence} {dl : List Deferred} {w0 w : World} {ρ : Ren} {H : SHeap} {t : List SVal} {a : Act} {o : Oper}

/-! ### What an operation looks at -/
 omit [Env] in
theorem pureOp_congr {t t' : List SVal} (h : ∀ x ∈ o.op.operands, seval t x = seval t' x) : pureOp P t o = pureOp P t' o := by
  unfold pureOp
  have h1 : o.op.operands.toList.all (fun x => (vOf (seval t x)).isSome) = o.op.operands.toList.all (fun x => (vOf (seval t' x)).isSome) := by
    rw [Bool.eq_iff_iff]
    simp only [List.all_eq_true]
    constructor
    · intro hh x hx; rw [← h x (by simpa using hx)]; exact hh x hx
    · intro hh x hx; rw [h x (by simpa using hx)]; exact hh x hx
  rw [h1]
  by_cases hs : notSelect o.op = true
  · have h2 : execOp (vEval t) o = execOp (vEval t') o := execOp_congr o (fun cs b e => by rw [e] at hs; cases hs) fun x hx => by unfold vEval; rw [h x hx]
    rw [h2]
  · simp only [Bool.not_eq_true] at hs
    simp [hs]

 omit [Env] in
theorem orPure_congr {t t' : List SVal} (h : ∀ x ∈ o.op.operands, seval t x = seval t' x) {e e' : Option PRes} (he : e = e') : orPure P t o e = orPure P t' o e' := by
  subst he
  unfold orPure
  rw [pureOp_congr h]

 omit [Env] in
theorem sevalL_congr {t t' : List SVal} {l : List Operand} (h : ∀ x ∈ l, seval t x = seval t' x) : sevalL t l = sevalL t' l := List.map_congr_left h

 omit [Env] in
theorem optV_congr {t t' : List SVal} {x : Option Operand} (h : ∀ y ∈ x.toList, seval t y = seval t' y) : optV t x = optV t' x := by
  cases x with
  | none => rfl
  | some y => simp only [optV]; rw [h y (by simp)]

 omit [Env] in
theorem partsOf_congr {t t' : List SVal} {parts : List (Nat × Operand)} (h : ∀ x ∈ parts.map (·.2), seval t x = seval t' x) : partsOf t parts = partsOf t' parts := by
  unfold partsOf
  refine List.map_congr_left fun p hp => ?_
  rw [h p.2 (List.mem_map.2 ⟨p, hp, rfl⟩)]

 omit [Env] in
theorem opP0_congr {t t' : List SVal} (h : ∀ x ∈ o.op.operands, seval t x = seval t' x) : opP0 P t o = opP0 P t' o := by
  have hp := pureOp_congr (P := P) h
  have ho := fun {e e' : Option PRes} (he : e = e') => orPure_congr (P := P) h he
  obtain ⟨dst, op, type, pos, after, guard⟩ := o
  cases op with
  | move x => simp only [opP0]; rw [h x (by simp [Op.operands])]
  | assign x => simp only [opP0]; rw [h x (by simp [Op.operands])]
  | fieldAddr s x f => simp only [opP0]; exact ho (by rw [h x (by simp [Op.operands])])
  | indexAddr ty x ix => simp only [opP0]; exact ho (by rw [h x (by simp [Op.operands]), h ix (by simp [Op.operands])])
  | slice ty x lo hi mx =>
    simp only [opP0]
    rw [optV_congr (x := lo) (fun y hy => h y (by simp [Op.operands]; simp at hy; simp [hy])), optV_congr (x := hi) (fun y hy => h y (by simp [Op.operands]; simp at hy; simp [hy])),
      optV_congr (x := mx) (fun y hy => h y (by simp [Op.operands]; simp at hy; simp [hy]))]
    split
    · exact ho (by rw [h x (by simp [Op.operands])])
    · rfl
  | field s x f => simp only [opP0]; exact ho (by rw [h x (by simp [Op.operands])])
  | index ty x ix => simp only [opP0]; exact ho (by rw [h x (by simp [Op.operands]), h ix (by simp [Op.operands])])
  | extract x ix => simp only [opP0]; exact ho (by rw [h x (by simp [Op.operands])])
  | build ty parts =>
    simp only [opP0, buildE]
    rw [partsOf_congr (t := t) (t' := t') (fun x hx => h x (by simpa [Op.operands] using hx))]
  | nilCheck x => simp only [opP0]; exact ho (by rw [h x (by simp [Op.operands])])
  | makeFunc fn fs cs =>
    simp only [opP0]
    rw [sevalL_congr (l := fs.toList) (fun x hx => h x (by simp [Op.operands]; simp at hx; simp [hx])), sevalL_congr (l := cs.toList) (fun x hx => h x (by simp [Op.operands]; simp at hx; simp [hx]))]
  | makeInterface ty x => simp only [opP0]; exact ho (by rw [h x (by simp [Op.operands])])
  | binOp op ty x y yt => simp only [opP0]; exact ho (by rw [h x (by simp [Op.operands]), h y (by simp [Op.operands])])
  | call c =>
    obtain ⟨callee, args, argTypes⟩ := c
    simp only [opP0]
    cases callee with
    | value f =>
      simp only
      refine ho ?_
      unfold callE
      rw [h f (by simp [Op.operands, Call.operands]), sevalL_congr (l := args.toList) (fun x hx => h x (by simp [Op.operands, Call.operands]; simp at hx; simp [hx]))]
    | invoke r m => rfl
    | builtin b =>
      simp only
      refine ho ?_
      unfold lenOpE
      split
      · rename_i x ty' hargs _
        have : x ∈ args.toList := by rw [hargs]; simp
        rw [h x (by simp [Op.operands, Call.operands]; simpa using this)]
      · rename_i x hargs
        have : x ∈ args.toList := by rw [hargs]; simp
        rw [h x (by simp [Op.operands, Call.operands]; simpa using this)]
      · rfl
  | defer c => rfl
  | _ => exact hp

theorem factOf_congr {t t' : List SVal} (h : ∀ x ∈ o.op.operands, seval t x = seval t' x) : factOf t o = factOf t' o := by
  have e : o.op.operands.toList.map (seval t) = o.op.operands.toList.map (seval t') := List.map_congr_left fun x hx => h x (by simpa using hx)
  unfold factOf
  rw [e]

theorem opP_congr {t t' : List SVal} (h : ∀ x ∈ o.op.operands, seval t x = seval t' x) : opP P t o = opP P t' o := by
  unfold opP
  rw [opP0_congr h, factOf_congr h]

theorem opH_congr {G : Glob} {t t' : List SVal} (h : ∀ x ∈ o.op.operands, seval t x = seval t' x) : opH P G t H o = opH P G t' H o := by
  obtain ⟨dst, op, type, pos, after, guard⟩ := o
  cases op with
  | box e x => simp only [opH]; rw [h x (by simp [Op.operands])]
  | load ty x => simp only [opH]; rw [h x (by simp [Op.operands])]
  | store ty p x => simp only [opH]; rw [h p (by simp [Op.operands]), h x (by simp [Op.operands])]
  | buildSlice ty len parts =>
    simp only [opH, buildSliceE]
    rw [partsOf_congr (t := t) (t' := t') (fun x hx => h x (by simpa [Op.operands] using hx))]
  | makeSlice ty l c => simp only [opH]; rw [h l (by simp [Op.operands]), h c (by simp [Op.operands])]
  | convert src dst x => simp only [opH]; rw [h x (by simp [Op.operands])]
  | range ty x => simp only [opH]; rw [h x (by simp [Op.operands])]
  | next x s => simp only [opH]; rw [h x (by simp [Op.operands])]
  | makeMap ty r =>
    simp only [opH, makeMapE]
    split
    · rfl
    · rename_i x
      rw [h x (by simp [Op.operands])]
  | mapUpdate ty m k x => simp only [opH]; rw [h m (by simp [Op.operands]), h k (by simp [Op.operands]), h x (by simp [Op.operands])]
  | lookup ty x k ok => simp only [opH]; rw [h x (by simp [Op.operands]), h k (by simp [Op.operands])]
  | slice ty x lo hi mx =>
    simp only [opH]
    rw [optV_congr (x := lo) (fun y hy => h y (by simp [Op.operands]; simp at hy; simp [hy])), optV_congr (x := hi) (fun y hy => h y (by simp [Op.operands]; simp at hy; simp [hy])),
      optV_congr (x := mx) (fun y hy => h y (by simp [Op.operands]; simp at hy; simp [hy])), h x (by simp [Op.operands])]
  | call c =>
    obtain ⟨callee, args, argTypes⟩ := c
    simp only [opH]
    split
    · unfold copyOpE
      split
      · rename_i d s ty' ty2 hargs _
        have h1 : d ∈ args.toList := by rw [hargs]; simp
        have h2 : s ∈ args.toList := by rw [hargs]; simp
        rw [h d (by simp [Op.operands, Call.operands]; simpa using h1), h s (by simp [Op.operands, Call.operands]; simpa using h2)]
      · rename_i d s ty' ty2 hargs _
        have h1 : d ∈ args.toList := by rw [hargs]; simp
        have h2 : s ∈ args.toList := by rw [hargs]; simp
        rw [h d (by simp [Op.operands, Call.operands]; simpa using h1), h s (by simp [Op.operands, Call.operands]; simpa using h2)]
      · rename_i d s ty' ty2 hargs _
        have h1 : d ∈ args.toList := by rw [hargs]; simp
        have h2 : s ∈ args.toList := by rw [hargs]; simp
        rw [h d (by simp [Op.operands, Call.operands]; simpa using h1), h s (by simp [Op.operands, Call.operands]; simpa using h2)]
      · rename_i d ty' hargs _
        have h1 : d ∈ args.toList := by rw [hargs]; simp
        rw [h d (by simp [Op.operands, Call.operands]; simpa using h1)]
      · rfl
    · rfl
  | _ => rfl

theorem opE_congr {G : Glob} {t t' : List SVal} (h : ∀ x ∈ o.op.operands, seval t x = seval t' x) : opE P G t H o = opE P G t' H o := by
  unfold opE
  rw [opP_congr h, opH_congr h]

 omit [Env] in
theorem seval_putS {dst : Option Tmp} {x : SVal} {y : Operand} (h : ∀ d, dst = some d → y ≠ .tmp d) : seval (putS t dst x) y = seval t y := by
  cases dst with
  | none => rfl
  | some d =>
    cases y with
    | tmp k =>
      have : k ≠ d := fun e => h d rfl (by rw [e])
      simp only [seval, putS, getS_eq, setS_eq, List.getD_eq_getElem?_getD]
      rw [List.getElem?_set_ne (Ne.symm this)]
    | _ => rfl

 omit [Env] in
theorem seval_put_apart {ops : Array Oper} {oj : Oper} {dst : Option Tmp} {x : SVal} (h : ∀ d, dst = some d → d ∉ oj.looksAt ops) : ∀ y ∈ oj.op.operands, seval (putS t dst x) y = seval t y := fun y hy =>
  seval_putS fun d hd hyd => h d hd (by
    subst hyd
    exact List.mem_append_left _ (List.mem_filterMap.2 ⟨.tmp d, by simpa using hy, rfl⟩))

theorem wantedS_put {ops : Array Oper} {oj : Oper} {dst : Option Tmp} {x : SVal} (h : ∀ d, dst = some d → d ∉ oj.looksAt ops) :
    Region.wanted oj (yieldedS ops (putS t dst x)) = Region.wanted oj (yieldedS ops t) := by
  cases dst with
  | none => rfl
  | some d =>
    unfold Region.wanted
    cases hg : oj.guard with
    | none => rfl
    | some gw =>
      obtain ⟨g, want⟩ := gw
      have hy : yieldedS ops (putS t (some d) x) g = yieldedS ops t g := by
        unfold yieldedS
        cases ht : (ops[g]?).bind (·.dst) with
        | none => rfl
        | some e =>
          have hne : d ≠ e := fun he => h d rfl (by subst he; simp [Oper.looksAt, hg, ht])
          simp only [putS, setS_eq]
          rw [List.getElem?_set_ne hne]
      simp only [hy]

 omit [Env] in
theorem putS_comm {d d' : Option Tmp} {x y : SVal} (h : ∀ k, d = some k → d' ≠ some k) : putS (putS t d x) d' y = putS (putS t d' y) d x := by
  cases d with
  | none => cases d' <;> rfl
  | some i =>
    cases d' with
    | none => rfl
    | some j =>
      have : i ≠ j := fun e => h i rfl (by rw [e])
      simp only [putS, setS_eq]
      exact List.set_comm _ _ this

/-! ### The kinds of operations in a region that draws its order -/
inductive Kd where
  | p    -- looks at no heap
  | l    -- lays a new variable
  | a    -- loads
  | b    -- all else

/-- Comes j behind i, by the edges? -/
def reach (ops : Array Oper) : Nat → Nat → Nat → Bool
  | 0, _, _ => false
  | n + 1, j, i => match ops[j]? with
    | none => false
    | some o => o.after.any fun e => Region.binds .any e && (e.on == i || reach ops n e.on i)

def isHeapOp : Op → Bool
  | .box .. | .store .. | .buildSlice .. | .makeSlice .. | .range .. | .next .. | .makeMap .. | .mapUpdate .. | .lookup .. => true
  | .call { callee := .builtin .copy, .. } | .call { callee := .builtin .append, .. } | .call { callee := .builtin .unsafeString, .. } | .call { callee := .builtin .clear, .. } => true
  | _ => false

def baseKd (o : Oper) : Kd :=
  match o.op with
  | .alloc _ => match o.guard, o.dst with
    | none, some _ => .l
    | _, _ => .b
  | .load .. => .a
  | op => if isHeapOp op then .b else .p

def isCallOp (o : Oper) : Bool :=
  match o.op with
  | .call { callee := .value _, .. } => true
  | _ => false

/-- A number, reckoned before it is handed on. -/
def forceN {α : Type} (m : Nat) (k : Nat → α) : α :=
  match m with
  | 0 => k 0
  | n + 1 => k (n + 1)

 omit [Env] in
theorem forceN_eq {α : Type} (m : Nat) (k : Nat → α) : forceN m k = k m := by cases m <;> rfl

/-- Of an operation: the bits of those that it waits for, by an edge of its own, and by edges; the bits of the temporaries that it looks at. -/
structure Inf where
  edge : Nat
  anc : Nat
  look : Nat
  dst : Option Tmp
  base : Kd
  call : Bool

def edgeBits (f : Nat → Nat) : List Edge → Nat → Nat
  | [], m => m
  | e :: es, m => if Region.binds .any e then edgeBits f es (m ||| (1 <<< e.on) ||| f e.on) else edgeBits f es m

def lookBits : List Tmp → Nat → Nat
  | [], m => m
  | t :: ts, m => lookBits ts (m ||| (1 <<< t))

 omit [Env] in
theorem testBit_one_shift {n i : Nat} : (1 <<< n).testBit i = decide (n = i) := by
  rw [Nat.one_shiftLeft, Nat.testBit_two_pow]

 omit [Env] in
theorem edgeBits_ok {f : Nat → Nat} {i : Nat} : ∀ (es : List Edge) (m : Nat), (edgeBits f es m).testBit i = true → m.testBit i = true ∨ ∃ e ∈ es, Region.binds .any e = true ∧ (e.on = i ∨ (f e.on).testBit i = true)
  | [], m, h => .inl h
  | e :: es, m, h => by
    simp only [edgeBits] at h
    split at h
    · rename_i hb
      rcases edgeBits_ok es _ h with h1 | ⟨e', he', h2⟩
      · simp only [Nat.testBit_or, Bool.or_eq_true, testBit_one_shift, decide_eq_true_eq] at h1
        rcases h1 with (h1 | h1) | h1
        · exact .inl h1
        · exact .inr ⟨e, by simp, hb, .inl h1⟩
        · exact .inr ⟨e, by simp, hb, .inr h1⟩
      · exact .inr ⟨e', by simp [he'], h2⟩
    · rcases edgeBits_ok es _ h with h1 | ⟨e', he', h2⟩
      · exact .inl h1
      · exact .inr ⟨e', by simp [he'], h2⟩

 omit [Env] in
theorem edgeBits_mono {f : Nat → Nat} {i : Nat} : ∀ (es : List Edge) (m : Nat), m.testBit i = true → (edgeBits f es m).testBit i = true
  | [], m, h => h
  | e :: es, m, h => by
    simp only [edgeBits]
    split
    · exact edgeBits_mono es _ (by simp [Nat.testBit_or, h])
    · exact edgeBits_mono es _ h

 omit [Env] in
theorem edgeBits_has {f : Nat → Nat} {e : Edge} (hb : Region.binds .any e = true) : ∀ (es : List Edge) (m : Nat), e ∈ es → (edgeBits f es m).testBit e.on = true
  | [], m, h => by simp at h
  | e' :: es, m, h => by
    simp only [edgeBits]
    rcases List.mem_cons.1 h with rfl | h'
    · rw [if_pos hb]
      exact edgeBits_mono es _ (by simp [Nat.testBit_or])
    · split
      · exact edgeBits_has hb es _ h'
      · exact edgeBits_has hb es _ h'

 omit [Env] in
theorem lookBits_mono {i : Nat} : ∀ (ts : List Tmp) (m : Nat), m.testBit i = true → (lookBits ts m).testBit i = true
  | [], m, h => h
  | t :: ts, m, h => lookBits_mono ts _ (by simp [Nat.testBit_or, h])

 omit [Env] in
theorem lookBits_has {t : Tmp} : ∀ (ts : List Tmp) (m : Nat), t ∈ ts → (lookBits ts m).testBit t = true
  | [], m, h => by simp at h
  | t' :: ts, m, h => by
    rcases List.mem_cons.1 h with rfl | h'
    · exact lookBits_mono ts _ (by simp [Nat.testBit_or])
    · exact lookBits_has ts _ h'

def ancAt (k : Nat) (acc : List Nat) (x : Nat) : Nat := if x < k then acc.getD (k - 1 - x) 0 else 0

def infsGo (ops : Array Oper) : List Oper → Nat → List Nat → List Inf
  | [], _, _ => []
  | o :: os, k, acc => forceN (edgeBits (ancAt k acc) o.after.toList 0) fun m => forceN (edgeBits (fun _ => 0) o.after.toList 0) fun e => forceN (lookBits (o.looksAt ops) 0) fun l =>
      ⟨e, m, l, o.dst, baseKd o, isCallOp o⟩ :: infsGo ops os (k + 1) (m :: acc)

def infs (ops : Array Oper) : List Inf := infsGo ops ops.toList 0 []

def AncOk (ops : Array Oper) (m j : Nat) : Prop := ∀ i, m.testBit i = true → ∃ n, reach ops n j i = true

 omit [Env] in
theorem infsGo_get {ops : Array Oper} : ∀ (os : List Oper) (k : Nat) (acc : List Nat), acc.length = k → (∀ i, os[i]? = ops[k + i]?) → (∀ j, j < k → AncOk ops (acc.getD (k - 1 - j) 0) j) → ∀ (i : Nat) (o : Oper), os[i]? = some o →
    ∃ m, (infsGo ops os k acc)[i]? = some ⟨edgeBits (fun _ => 0) o.after.toList 0, m, lookBits (o.looksAt ops) 0, o.dst, baseKd o, isCallOp o⟩ ∧ AncOk ops m (k + i)
  | [], k, acc, _, _, _, i, o, h => by simp at h
  | o' :: os, k, acc, hl, hos, hacc, i, o, h => by
    simp only [infsGo, forceN_eq]
    have hk : ops[k]? = some o' := by have := hos 0; simpa using this.symm
    have hnew : AncOk ops (edgeBits (ancAt k acc) o'.after.toList 0) k := fun i' hi' => by
      rcases edgeBits_ok _ _ hi' with h1 | ⟨e, he, hb, h1⟩
      · simp at h1
      · rcases h1 with h1 | h1
        · refine ⟨1, ?_⟩
          simp only [reach, hk]
          exact Array.any_eq_true'.2 ⟨e, by simpa using he, by simp [hb, h1]⟩
        · unfold ancAt at h1
          split at h1
          · rename_i hek
            obtain ⟨n, hn⟩ := hacc e.on hek i' h1
            refine ⟨n + 1, ?_⟩
            simp only [reach, hk]
            exact Array.any_eq_true'.2 ⟨e, by simpa using he, by simp [hb, hn]⟩
          · simp at h1
    cases i with
    | zero =>
      simp only [List.getElem?_cons_zero, Option.some.injEq] at h
      subst h
      exact ⟨edgeBits (ancAt k acc) o'.after.toList 0, by simp, by simpa using hnew⟩
    | succ i =>
      simp only [List.getElem?_cons_succ] at h ⊢
      have := infsGo_get os (k + 1) (edgeBits (ancAt k acc) o'.after.toList 0 :: acc) (by simp [hl]) (fun i => by have := hos (i + 1); simpa [Nat.add_assoc, Nat.add_comm 1 i] using this) (fun j hj => by
        by_cases hjk : j = k
        · subst hjk
          simpa using hnew
        · have : k + 1 - 1 - j = (k - 1 - j) + 1 := by omega
          rw [this]
          simpa using hacc j (by omega)) i o h
      simpa [Nat.add_assoc, Nat.add_comm 1 i] using this

def tie (x : Inf) (i : Nat) (y : Inf) (j : Nat) : Bool := if i < j then y.anc.testBit i else x.anc.testBit j

/-- Does this call stand in order with all that touch the heap? -/
def ordered (L : List (Inf × Nat)) (x : Inf) (i : Nat) : Bool :=
  L.all fun (y, j) => j == i || match y.base with
    | .l => true
    | .p => !y.call || tie x i y j
    | _ => tie x i y j

def kdOf (L : List (Inf × Nat)) (x : Inf) (i : Nat) : Kd :=
  if x.call then (if ordered L x i then .b else .p) else x.base

def kds (ops : Array Oper) : List Kd := (infs ops).zipIdx.map fun (x, i) => kdOf (infs ops).zipIdx x i

/-- May the two be exchanged? -/
def Kd.comm : Kd → Kd → Bool
  | .p, _ | .l, _ | _, .p | _, .l => true
  | .a, .a => true
  | _, _ => false

def apartM (a b : Inf) : Bool :=
  (match a.dst with
   | some d => !b.look.testBit d && b.dst != some d
   | none => true) &&
  (match b.dst with
   | some d => !a.look.testBit d
   | none => true)

def pairOk (i : Nat) (a b : Inf) (ka kb : Kd) : Bool := (b.edge.testBit i || apartM a b) && (Kd.comm ka kb || b.anc.testBit i)

def pairsOk (K : List ((Inf × Kd) × Nat)) : Bool :=
  K.all fun (b, j) => (b.1.edge >>> j) == 0 && K.all fun (a, i) => !(decide (i < j)) || pairOk i a.1 b.1 a.2 b.2

def drawOk (ops : Array Oper) : Bool := pairsOk ((infs ops).zip (kds ops)).zipIdx

/-- What is asked of a region that draws its order. -/
structure Static (ops : Array Oper) (ks : List Kd) : Prop where
  low : ∀ j o e, ops[j]? = some o → e ∈ o.after → Region.binds .any e = true → e.on < j
  free : ∀ i j oi oj, i < j → ops[i]? = some oi → ops[j]? = some oj → (∀ e ∈ oj.after, Region.binds .any e = true → e.on ≠ i) → oi.apart ops oj = true
  comm : ∀ i j oi oj, i < j → ops[i]? = some oi → ops[j]? = some oj → Kd.comm (ks.getD i .b) (ks.getD j .b) = true ∨ ∃ n, reach ops n j i = true

 omit [Env] in
theorem infs_get {ops : Array Oper} {i : Nat} {o : Oper} (h : ops[i]? = some o) :
    ∃ m, (infs ops)[i]? = some ⟨edgeBits (fun _ => 0) o.after.toList 0, m, lookBits (o.looksAt ops) 0, o.dst, baseKd o, isCallOp o⟩ ∧ AncOk ops m i := by
  have := infsGo_get (ops := ops) ops.toList 0 [] rfl (fun i => by simp) (fun j hj => by omega) i o (by simpa using h)
  unfold infs
  simpa using this

 omit [Env] in
theorem kds_get {ops : Array Oper} {i : Nat} {x : Inf} (h : (infs ops)[i]? = some x) : (kds ops)[i]? = some ((kds ops).getD i .b) := by
  have hl : (kds ops).length = (infs ops).length := by simp [kds]
  have hi := (List.getElem?_eq_some_iff.1 h).1
  rw [List.getD_eq_getElem?_getD]
  rw [List.getElem?_eq_getElem (by omega)]
  rfl

 omit [Env] in
theorem drawOk_static {ops : Array Oper} (h : drawOk ops = true) : Static ops (kds ops) := by
  unfold drawOk pairsOk at h
  simp only [List.all_eq_true] at h
  have get : ∀ {i : Nat} {o : Oper}, ops[i]? = some o → ∃ m, AncOk ops m i ∧ (((⟨edgeBits (fun _ => 0) o.after.toList 0, m, lookBits (o.looksAt ops) 0, o.dst, baseKd o, isCallOp o⟩ : Inf), (kds ops).getD i .b), i) ∈ ((infs ops).zip (kds ops)).zipIdx := by
    intro i o ho
    obtain ⟨m, h1, h2⟩ := infs_get ho
    refine ⟨m, h2, ?_⟩
    rw [List.mem_iff_getElem?]
    refine ⟨i, ?_⟩
    have hz : ((infs ops).zip (kds ops))[i]? = some (⟨edgeBits (fun _ => 0) o.after.toList 0, m, lookBits (o.looksAt ops) 0, o.dst, baseKd o, isCallOp o⟩, (kds ops).getD i .b) := List.getElem?_zip_eq_some.2 ⟨h1, kds_get h1⟩
    rw [List.getElem?_zipIdx, hz]
    simp
  refine ⟨fun j o e ho he hb => ?_, fun i j oi oj hij hi hj hno => ?_, fun i j oi oj hij hi hj => ?_⟩
  · obtain ⟨m, _, hm⟩ := get ho
    have h1 := h _ hm
    simp only [Bool.and_eq_true, beq_iff_eq] at h1
    have h2 := edgeBits_has (f := fun _ => 0) hb o.after.toList 0 (by simpa using he)
    rcases Nat.lt_or_ge e.on j with h' | h'
    · exact h'
    · have h3 : (edgeBits (fun _ => 0) o.after.toList 0 >>> j).testBit (e.on - j) = true := by
        rw [Nat.testBit_shiftRight, show j + (e.on - j) = e.on by omega]
        exact h2
      rw [h1.1] at h3
      simp at h3
  all_goals
    obtain ⟨mi, hai, hmi⟩ := get hi
    obtain ⟨mj, haj, hmj⟩ := get hj
    have h1 := h _ hmj
    simp only [Bool.and_eq_true, List.all_eq_true] at h1
    have h2 := h1.2 _ hmi
    simp only [hij, decide_true, Bool.not_true, Bool.false_or, pairOk, Bool.and_eq_true, Bool.or_eq_true] at h2
  · rcases h2.1 with h3 | h3
    · rcases edgeBits_ok _ _ h3 with h4 | ⟨e, he, hb, h4⟩
      · simp at h4
      · rcases h4 with h4 | h4
        · exact absurd h4 (hno e (by simpa using he) hb)
        · simp at h4
    · unfold apartM at h3
      simp only [Bool.and_eq_true] at h3
      unfold Oper.apart
      simp only [Bool.and_eq_true]
      constructor
      · have h4 := h3.1
        cases hd : oi.dst with
        | none => rfl
        | some d =>
          simp only [hd, Bool.and_eq_true, Bool.not_eq_true'] at h4 ⊢
          refine ⟨?_, h4.2⟩
          rw [← Bool.not_eq_true]
          intro hc
          rw [lookBits_has _ _ (by simpa using hc)] at h4
          exact absurd h4.1 (by simp)
      · have h4 := h3.2
        cases hd : oj.dst with
        | none => rfl
        | some d =>
          simp only [hd, Bool.not_eq_true'] at h4 ⊢
          rw [← Bool.not_eq_true]
          intro hc
          rw [lookBits_has _ _ (by simpa using hc)] at h4
          exact absurd h4 (by simp)
  · rcases h2.2 with h3 | h3
    · exact .inl h3
    · exact .inr (haj i h3)

def pStep (P : Program) (cf : CallF) (t : List SVal) (o : Oper) : Option SVal :=
  match opP P t o with
  | some (.val x) => some x
  | some .skip => some (.v undef)
  | some (.call f args) => match freshR cf f args with
    | some (x, []) => some x
    | _ => none
  | some (.yld _ _) => none
  | none => none

def aStep (P : Program) (G : Glob) (t : List SVal) (H : SHeap) (o : Oper) : Option SVal :=
  match o.op with
  | .load ty x => loadE P G H ty (seval t x)
  | _ => none

def bStep (P : Program) (G : Glob) (cf : CallF) (t : List SVal) (H : SHeap) (o : Oper) : Option (SVal × SHeap) :=
  match opE P G t H o with
  | some (.val x H') => some (x, H')
  | some (.skip H') => some (.v undef, H')
  | some (.call f args) => callR cf f args H
  | some (.yld i args) => cf (.yield i) args H
  | none => none

/-- What operation number i yields, and the heap that it leaves. -/
def eff (P : Program) (G : Glob) (cf : CallF) (ops : Array Oper) (k : Kd) (nm : Nat) (o : Oper) (t : List SVal) (H : SHeap) : Option (SVal × SHeap) :=
  if Region.wanted o (yieldedS ops t) then
    match k with
    | .p => match pStep P cf t o with
      | some x => some (x, H)
      | none => none
    | .l => some (.ptr nm 0, H)
    | .a => match aStep P G t H o with
      | some x => some (x, H)
      | none => none
    | .b => bStep P G cf t H o
  else some (.v undef, H)

theorem eff_congr {G : Glob} {cf : CallF} {ops : Array Oper} {k : Kd} {nm : Nat} {t t' : List SVal} (h : ∀ x ∈ o.op.operands, seval t x = seval t' x)
    (hw : Region.wanted o (yieldedS ops t) = Region.wanted o (yieldedS ops t')) : eff P G cf ops k nm o t H = eff P G cf ops k nm o t' H := by
  unfold eff pStep aStep bStep
  rw [hw, opP_congr h, opE_congr h]
  cases k with
  | a =>
    cases hop : o.op with
    | load ty x => simp only; rw [h x (by rw [hop]; simp [Op.operands])]
    | _ => rfl
  | _ => rfl

theorem eff_put {G : Glob} {cf : CallF} {ops : Array Oper} {k : Kd} {nm : Nat} {dst : Option Tmp} {x : SVal} (h : ∀ d, dst = some d → d ∉ o.looksAt ops) :
    eff P G cf ops k nm o (putS t dst x) H = eff P G cf ops k nm o t H :=
  eff_congr (seval_put_apart h) (wantedS_put h)

/-- An operation of the first two kinds: the same in every heap, which it leaves. -/
theorem eff_pl {G : Glob} {cf : CallF} {ops : Array Oper} {k : Kd} {nm : Nat} (hk : k = .p ∨ k = .l) {x : SVal} {H' : SHeap} (h : eff P G cf ops k nm o t H = some (x, H')) :
    H' = H ∧ ∀ K, eff P G cf ops k nm o t K = some (x, K) := by
  unfold eff at *
  split at h
  · rename_i hw
    rcases hk with rfl | rfl
    · simp only at h
      split at h
      · rename_i y hy
        cases h
        exact ⟨rfl, fun K => by simp only [hw, if_true]⟩
      · cases h
    · cases h
      exact ⟨rfl, fun K => by simp only [hw, if_true]⟩
  · rename_i hw
    cases h
    exact ⟨rfl, fun K => by rw [if_neg hw]⟩

theorem eff_a {G : Glob} {cf : CallF} {ops : Array Oper} {nm : Nat} {x : SVal} {H' : SHeap} (h : eff P G cf ops .a nm o t H = some (x, H')) : H' = H := by
  unfold eff at h
  split at h
  · simp only at h
    split at h <;> cases h
    rfl
  · cases h; rfl

def dstep (P : Program) (G : Glob) (cf : CallF) (ops : Array Oper) (ks : List Kd) (nm : Nat → Nat) (i : Nat) (s : St) : Option St :=
  match ops[i]? with
  | none => none
  | some o => match eff P G cf ops (ks.getD i .b) (nm i) o s.1 s.2 with
    | some (x, H') => some (putS s.1 o.dst x, H')
    | none => none

theorem dstep_comm {G : Glob} {cf : CallF} {ops : Array Oper} {ks : List Kd} {nm : Nat → Nat} {i j : Nat} {oi oj : Oper} (hi : ops[i]? = some oi) (hj : ops[j]? = some oj) (hap : oi.apart ops oj = true)
    (hc : Kd.comm (ks.getD i .b) (ks.getD j .b) = true) {s s1 s2 : St} (h1 : dstep P G cf ops ks nm i s = some s1) (h2 : dstep P G cf ops ks nm j s1 = some s2) :
    ∃ s', dstep P G cf ops ks nm j s = some s' ∧ dstep P G cf ops ks nm i s' = some s2 := by
  obtain ⟨a1, a2, a3⟩ := Oper.apart_spec hap
  unfold dstep at *
  simp only [hi, hj] at *
  split at h1
  case h_2 => cases h1
  rename_i x H1 e1
  cases h1
  split at h2
  case h_2 => cases h2
  rename_i y H2 e2
  cases h2
  simp only at e2
  rw [eff_put a1] at e2
  have fin : ∀ {K : SHeap}, eff P G cf ops (ks.getD j .b) (nm j) oj s.1 s.2 = some (y, K) → eff P G cf ops (ks.getD i .b) (nm i) oi s.1 K = some (x, H2) →
      ∃ s', (match eff P G cf ops (ks.getD j .b) (nm j) oj s.1 s.2 with
        | some (x, H') => some (putS s.1 oj.dst x, H')
        | none => none) = some s' ∧ (match eff P G cf ops (ks.getD i .b) (nm i) oi s'.1 s'.2 with
        | some (x, H') => some (putS s'.1 oi.dst x, H')
        | none => none) = some (putS (putS s.1 oi.dst x) oj.dst y, H2) := by
    intro K k1 k2
    refine ⟨(putS s.1 oj.dst y, K), by rw [k1], ?_⟩
    simp only
    rw [eff_put a3, k2]
    simp only
    rw [putS_comm a2]
  by_cases hki : ks.getD i .b = .p ∨ ks.getD i .b = .l
  · obtain ⟨rfl, hall⟩ := eff_pl hki e1
    exact fin e2 (hall _)
  · by_cases hkj : ks.getD j .b = .p ∨ ks.getD j .b = .l
    · obtain ⟨rfl, hall⟩ := eff_pl hkj e2
      exact fin (hall _) e1
    · have hii : ks.getD i .b = .a := by revert hc hki hkj; cases ks.getD i .b <;> cases ks.getD j .b <;> simp [Kd.comm]
      have hjj : ks.getD j .b = .a := by revert hc hki hkj; cases ks.getD i .b <;> cases ks.getD j .b <;> simp [Kd.comm]
      have g1 := eff_a (by rw [hii] at e1; exact e1)
      subst g1
      have g2 := eff_a (by rw [hjj] at e2; exact e2)
      subst g2
      exact fin e2 e1

/-- Whatever order is picked: the end is R. -/
def AllS (P : Program) (G : Glob) (cf : CallF) (ops : Array Oper) (ks : List Kd) (nm : Nat → Nat) (R : St) : Nat → Array Bool → St → Prop
  | 0, listed, s => Region.ready .any ops listed = [] ∧ s = R
  | n + 1, listed, s => (Region.ready .any ops listed = [] → s = R) ∧
    ∀ i ∈ Region.ready .any ops listed, ∃ s', dstep P G cf ops ks nm i s = some s' ∧ AllS P G cf ops ks nm R n (listed.setIfInBounds i true) s'

/-- All that a listed operation waits for is listed. -/
def Closed (ops : Array Oper) (listed : Array Bool) : Prop :=
  ∀ j o, ops[j]? = some o → listed.getD j false = true → ∀ e ∈ o.after, Region.binds .any e = true → listed.getD e.on false = true

 omit [Env] in
theorem reach_listed {ops : Array Oper} {listed : Array Bool} (hc : Closed ops listed) : ∀ (n j i : Nat), (∀ o, ops[j]? = some o → ∀ e ∈ o.after, Region.binds .any e = true → listed.getD e.on false = true) →
    reach ops n j i = true → listed.getD i false = true
  | 0, j, i, _, h => by simp [reach] at h
  | n + 1, j, i, hp, h => by
    simp only [reach] at h
    split at h
    · cases h
    rename_i o ho
    obtain ⟨e, he, hb⟩ := Array.any_eq_true'.1 h
    simp only [Bool.and_eq_true, Bool.or_eq_true, beq_iff_eq] at hb
    have h1 := hp o ho e he hb.1
    rcases hb.2 with h2 | h2
    · rw [← h2]; exact h1
    · exact reach_listed hc n e.on i (fun o' ho' => hc e.on o' ho' h1) h2

 omit [Env] in
theorem Closed.put {ops : Array Oper} {listed : Array Bool} (hc : Closed ops listed) {j : Nat} (hj : j ∈ Region.ready .any ops listed) : Closed ops (listed.setIfInBounds j true) := by
  obtain ⟨_, o, ho, hall⟩ := mem_ready.1 hj
  intro k o' ho' hk e he hb
  by_cases hkj : k = j
  · subst hkj
    rw [ho] at ho'
    cases ho'
    exact getD_set_true (hall e he hb)
  · rw [getD_set_ne false (Ne.symm hkj)] at hk
    exact getD_set_true (hc k o' ho' hk e he hb)

theorem AllS_first {G : Glob} {cf : CallF} {ops : Array Oper} {ks : List Kd} {nm : Nat → Nat} {R : St} {i : Nat} {oi : Oper} (hi : ops[i]? = some oi) :
    ∀ (fuel : Nat) (listed : Array Bool) (s s1 : St), Closed ops listed →
      (∀ j oj, ops[j]? = some oj → j ≠ i → listed.getD j true = false → (∀ e ∈ oj.after, Region.binds .any e = true → e.on ≠ i) → oi.apart ops oj = true) →
      (∀ j oj, ops[j]? = some oj → j ≠ i → listed.getD j true = false → Kd.comm (ks.getD i .b) (ks.getD j .b) = true ∨ ∃ n, reach ops n j i = true) →
      i ∈ Region.ready .any ops listed → dstep P G cf ops ks nm i s = some s1 →
      AllS P G cf ops ks nm R fuel (listed.setIfInBounds i true) s1 → AllS P G cf ops ks nm R (fuel + 1) listed s := by
  intro fuel
  induction fuel with
  | zero =>
    intro listed s s1 _ _ _ hr hs H
    refine ⟨fun h => (by rw [h] at hr; cases hr), fun j hj => ?_⟩
    by_cases hji : j = i
    · subst hji; exact ⟨s1, hs, H⟩
    · have := ready_mono hj hji
      rw [H.1] at this
      cases this
  | succ fuel ih =>
    intro listed s s1 hcl hfree hcomm hr hs H
    refine ⟨fun h => (by rw [h] at hr; cases hr), fun j hj => ?_⟩
    by_cases hji : j = i
    · subst hji; exact ⟨s1, hs, H⟩
    · obtain ⟨s2, h2, hrest⟩ := H.2 j (ready_mono hj hji)
      obtain ⟨hjun, oj, hoj, hall⟩ := mem_ready.1 hj
      have hiun := (mem_ready.1 hr).1
      have hif : listed.getD i false = false := by
        rcases Nat.lt_or_ge i listed.size with h' | h'
        · simpa [h'] using hiun
        · simp [h']
      have hnot : ∀ e ∈ oj.after, Region.binds .any e = true → e.on ≠ i := fun e he hb heq => by
        have h1 := hall e he hb
        rw [heq, hif] at h1
        cases h1
      have hcm : Kd.comm (ks.getD i .b) (ks.getD j .b) = true := by
        rcases hcomm j oj hoj hji hjun with h' | h'
        · exact h'
        · obtain ⟨n, h'⟩ := h'
          have := reach_listed hcl _ j i (fun o ho => by rw [hoj] at ho; cases ho; exact hall) h'
          rw [hif] at this
          cases this
      obtain ⟨s', k1, k2⟩ := dstep_comm hi hoj (hfree j oj hoj hji hjun hnot) hcm hs h2
      have hset : ∀ k, k ≠ i → (listed.setIfInBounds j true).getD k true = false → listed.getD k true = false := fun k hk h => by
        by_cases hjk : j = k
        · subst hjk; exact hjun
        · rw [getD_set_ne true hjk] at h; exact h
      refine ⟨s', k1, ih (listed.setIfInBounds j true) s' s2 (hcl.put hj) (fun k ok hk hki hun hno => hfree k ok hk hki (hset k hki hun) hno) (fun k ok hk hki hun => hcomm k ok hk hki (hset k hki hun))
        (ready_mono hr (Ne.symm hji)) k2 ?_⟩
      rw [Array.setIfInBounds_comm _ _ hji]
      exact hrest

/-- The text's own order. -/
def lexRun (P : Program) (G : Glob) (cf : CallF) (ops : Array Oper) (ks : List Kd) (nm : Nat → Nat) : Nat → Nat → St → Option St
  | 0, _, s => some s
  | n + 1, k, s => match dstep P G cf ops ks nm k s with
    | some s' => lexRun P G cf ops ks nm n (k + 1) s'
    | none => none

theorem AllS_lex {G : Glob} {cf : CallF} {ops : Array Oper} {ks : List Kd} {nm : Nat → Nat} {R : St} (hst : Static ops ks) : ∀ (n k : Nat) (listed : Array Bool) (s : St), Closed ops listed → listed.size = ops.size → (∀ j, j < ops.size → listed[j]? = some (decide (j < k))) → k + n = ops.size →
    lexRun P G cf ops ks nm n k s = some R → AllS P G cf ops ks nm R n listed s
  | 0, k, listed, s, _, _, hlow, hk, h => by
    cases h
    refine ⟨?_, rfl⟩
    refine List.eq_nil_iff_forall_not_mem.2 fun j hj => ?_
    obtain ⟨h1, o, ho, _⟩ := mem_ready.1 hj
    have hjlt : j < ops.size := (Array.getElem?_eq_some_iff.1 ho).1
    rw [Array.getD_eq_getD_getElem?, hlow j hjlt] at h1
    simp at h1
    omega
  | n + 1, k, listed, s, hcl, hsize, hlow, hsz, h => by
    simp only [lexRun] at h
    split at h
    case h_2 => cases h
    rename_i s1 hs
    have hlt : k < ops.size := by omega
    have hk : ops[k]? = some ops[k] := by simp [hlt]
    have unl : ∀ j, j < ops.size → listed.getD j true = decide (j < k) := fun j hj => by rw [Array.getD_eq_getD_getElem?, hlow j hj]; rfl
    have unl' : ∀ j, j < ops.size → listed.getD j false = decide (j < k) := fun j hj => by rw [Array.getD_eq_getD_getElem?, hlow j hj]; rfl
    have hr' : k ∈ Region.ready .any ops listed := mem_ready.2 ⟨by rw [unl k hlt]; simp, ops[k], hk, fun e he hb => by
      have := hst.low k _ e hk he hb
      rw [unl' e.on (by omega)]
      simpa using this⟩
    have after : ∀ j oj, ops[j]? = some oj → j ≠ k → listed.getD j true = false → k < j := fun j oj hj hne hun => by
      have hjlt : j < ops.size := (Array.getElem?_eq_some_iff.1 hj).1
      rw [unl j hjlt] at hun
      simp at hun
      omega
    refine AllS_first hk n listed s s1 hcl (fun j oj hj hne hun hno => hst.free k j _ oj (after j oj hj hne hun) hk hj hno) (fun j oj hj hne hun => hst.comm k j _ oj (after j oj hj hne hun) hk hj) hr' hs ?_
    refine AllS_lex hst n (k + 1) _ _ (hcl.put hr') (by simpa using hsize) (fun j hj => ?_) (by omega) h
    by_cases hjk : j = k
    · subst hjk
      rw [Array.getElem?_setIfInBounds_self_of_lt (by omega)]
      simp
    · rw [Array.getElem?_setIfInBounds_ne (Ne.symm hjk), hlow j hj]
      simp only [Option.some.injEq, decide_eq_decide]
      omega

end
end
end Go.RX

namespace Go.RX
noncomputable section
open Go.RowKit (Below)

variable [Env]

section
variable {P : Program} {F : Fence} {dl : List Deferred} {w0 w : World} {ρ : Ren} {H : SHeap} {t : List SVal} {a : Act} {o : Oper}

def countL : List Kd → Nat
  | [] => 0
  | .l :: ks => countL ks + 1
  | _ :: ks => countL ks

def zeroObj (P : Program) (o : Oper) : Option SObj :=
  match o.op with
  | .alloc e => match pureRun P (zeroValue e) with
    | some z => some (.cells (z.cells.toList.map .v) e (0, 0))
    | none => none
  | _ => none

def zeros (P : Program) : List Oper → List Kd → Option SHeap
  | o :: os, .l :: ks => match zeroObj P o, zeros P os ks with
    | some x, some xs => some (x :: xs)
    | _, _ => none
  | _ :: os, _ :: ks => zeros P os ks
  | _, _ => some []

 omit [Env] in
theorem zeros_at : ∀ {os : List Oper} {ks : List Kd} {zs : SHeap}, zeros P os ks = some zs → ∀ i o, os[i]? = some o → ks[i]? = some .l → ∃ x, zeroObj P o = some x ∧ zs[countL (ks.take i)]? = some x
  | [], ks, zs, _, i, o, ho, _ => by simp at ho
  | o' :: os, [], zs, _, i, o, _, hk => by simp at hk
  | o' :: os, k :: ks, zs, h, i, o, ho, hk => by
    cases i with
    | zero =>
      simp at ho hk
      subst ho hk
      simp only [zeros] at h
      split at h
      · rename_i x xs h1 h2
        cases h
        exact ⟨x, h1, by simp [countL]⟩
      · cases h
    | succ i =>
      simp at ho hk
      cases k with
      | l =>
        simp only [zeros] at h
        split at h
        · rename_i x xs h1 h2
          cases h
          obtain ⟨y, hy, hz⟩ := zeros_at h2 i o ho hk
          exact ⟨y, hy, by simpa [countL] using hz⟩
        · cases h
      | _ =>
        simp only [zeros] at h
        obtain ⟨y, hy, hz⟩ := zeros_at h i o ho hk
        exact ⟨y, hy, by simpa [countL] using hz⟩

 omit [Env] in
theorem countL_append : ∀ (k l : List Kd), countL (k ++ l) = countL k + countL l
  | [], l => by simp [countL]
  | .p :: k, l => by simp only [List.cons_append, countL]; exact countL_append k l
  | .a :: k, l => by simp only [List.cons_append, countL]; exact countL_append k l
  | .b :: k, l => by simp only [List.cons_append, countL]; exact countL_append k l
  | .l :: k, l => by simp only [List.cons_append, countL, countL_append k l]; omega

 omit [Env] in
theorem countL_take (ks : List Kd) (n : Nat) : countL (ks.take n) ≤ countL ks := by
  conv => rhs; rw [← List.take_append_drop n ks]
  rw [countL_append]
  omega

 omit [Env] in
theorem countL_lt {ks : List Kd} {i j : Nat} (hi : ks[i]? = some .l) (hij : i < j) : countL (ks.take i) < countL (ks.take j) := by
  have h1 : countL (ks.take (i + 1)) = countL (ks.take i) + 1 := by
    rw [List.take_add_one, hi]
    simp [countL_append, countL]
  have h2 : countL ((ks.take j).take (i + 1)) ≤ countL (ks.take j) := countL_take _ _
  rw [List.take_take, Nat.min_eq_left (by omega)] at h2
  omega

 omit [Env] in
theorem countL_inj {ks : List Kd} {i j : Nat} (hi : ks[i]? = some .l) (hj : ks[j]? = some .l) (h : countL (ks.take i) = countL (ks.take j)) : i = j := by
  rcases Nat.lt_trichotomy i j with h' | h' | h'
  · have := countL_lt hi h'; omega
  · exact h'
  · have := countL_lt hj h'; omega

def nmOf (n0 : Nat) (ks : List Kd) (i : Nat) : Nat := n0 + countL (ks.take i)

/-- What has not been laid yet has no block; its cells stand ready. -/
def Pend (P : Program) (ops : Array Oper) (ks : List Kd) (n0 : Nat) (listed : Array Bool) (ρ : Ren) (H : SHeap) : Prop :=
  ∀ i o, ops[i]? = some o → ks[i]? = some .l → listed.getD i true = false → ρ (nmOf n0 ks i) = none ∧ ∃ l e fz, zeroObj P o = some (.cells l e fz) ∧ H[nmOf n0 ks i]? = some (.cells l e fz)

 omit [Env] in
theorem getD_set_self_ne {listed : Array Bool} {i : Nat} : (listed.setIfInBounds i true).getD i true = true := by
  rcases Nat.lt_or_ge i listed.size with h' | h'
  · simp [h']
  · simp [h']

theorem stepR_of_bStep {G : Glob} {cf : CallF} {x : SVal} {H' : SHeap} (he : bStep P G cf t H o = some (x, H')) : stepR P G cf t H o = some (putS t o.dst x, H') := by
  unfold bStep at he
  unfold stepR
  cases hz : opE P G t H o with
  | none => simp [hz] at he
  | some r =>
    cases r with
    | val z K => simp only [hz, Option.some.injEq, Prod.mk.injEq] at he ⊢; simp [he.1, he.2]
    | skip K => simp only [hz, Option.some.injEq, Prod.mk.injEq] at he ⊢; simp [he.1, he.2]
    | call f args => simp only [hz] at he ⊢; simp [he]
    | yld i args => simp only [hz] at he ⊢; simp [he]

theorem AllS_ok {G : Glob} {cf : CallF} (hF : Wd F) (hcf : CallOk P G cf) (hG : G.holds w0) (hN : NamesOk P) {ops : Array Oper} {ks : List Kd} {ρ0 : Ren} {H0 : SHeap} {R : St} {Q : Exit → Act → World → Prop}
    (hQ : ∀ ρ' a' w', H0.length ≤ R.2.length → Ext ρ0 H0 ρ' R.2 → Acts dl w0 ρ' R.1 R.2 a' w' → Q .normal a' w') :
    ∀ (n : Nat) (listed : Array Bool) (s : St), AllS P G cf ops ks (nmOf H0.length ks) R n listed s →
      ∀ (ρ : Ren) (a : Act) (w : World), Acts dl w0 ρ s.1 s.2 a w → Pend P ops ks H0.length listed ρ s.2 → H0.length ≤ s.2.length → Ext ρ0 H0 ρ s.2 → wpAnyIn F 0 P .any ops Q n listed a w := by
  intro n
  induction n with
  | zero =>
    intro listed s h ρ a w hA _ hlen hE
    obtain ⟨h1, rfl⟩ := h
    exact ⟨h1, hQ ρ a w hlen hE hA⟩
  | succ n ih =>
    intro listed s h ρ a w hA hP hlen hE
    refine ⟨fun h0 => ?_, fun i hi => ?_⟩
    · obtain rfl := h.1 h0
      exact hQ ρ a w hlen hE hA
    obtain ⟨s', hs, hrest⟩ := h.2 i hi
    have hiun := (mem_ready.1 hi).1
    unfold dstep at hs
    split at hs
    · cases hs
    rename_i o ho
    split at hs
    case h_2 => cases hs
    rename_i x H' he
    cases hs
    -- the pending ones stay, where no name and no heap turns
    have hpend : Pend P ops ks H0.length (listed.setIfInBounds i true) ρ s.2 := fun j oj hj hk hun => by
      have hji : j ≠ i := fun e => by subst e; rw [getD_set_self_ne] at hun; cases hun
      rw [getD_set_ne true (Ne.symm hji)] at hun
      exact hP j oj hj hk hun
    have same : ∀ (v : Value) (w' : World), den ρ x = some v → Rel w0 ρ s.2 w' → H' = s.2 → wpAnyIn F 0 P .any ops Q n (listed.setIfInBounds i true) (a.put o.dst v) w' := by
      intro v w' hd hR hH
      subst hH
      exact ih _ _ hrest ρ _ w' (hA.put (Ren.le.refl _) hR o.dst hd) hpend hlen hE
    unfold wpOpIn
    simp only [ho]
    unfold eff at he
    rw [wanted_eq hA.tmps] at he
    split at he
    case isFalse hw =>
      cases he
      rw [if_neg hw]
      exact ⟨fun f _ => hF.fn f, same undef w (by simp [den]) hA.rel rfl⟩
    case isTrue hw =>
      rw [if_pos hw]
      split at he
      · -- p
        split at he
        case h_2 => cases he
        rename_i y hy
        cases he
        unfold pStep at hy
        unfold Oper.wpIn
        refine ⟨fun f _ => hF.fn f, ?_⟩
        split at hy
        · rename_i z hz
          cases hy
          obtain ⟨v, h1, h2⟩ := opP_ok (w := w) hN hA.tmps hz
          rw [hF.sem (opP_nd hz), h1, Oper.uponIn_value]
          exact same v w h2 hA.rel rfl
        · rename_i hz
          cases hy
          have h1 := opP_ok (w := w) hN hA.tmps hz
          rw [hF.sem (opP_nd hz), show (execOp a.eval o).run P w = .ok .skip w from h1, Oper.uponIn_skip]
          exact same undef w (by simp [den]) hA.rel rfl
        · rename_i f args hz
          split at hy
          case h_2 => cases hy
          rename_i z hfr
          cases hy
          obtain ⟨vs, h1, h2⟩ := opP_ok (w := w) hN hA.tmps hz
          rw [hF.sem (opP_nd hz), h1, Oper.uponIn_enter]
          refine ⟨hF.depth, (hF.calls (freshR_ok hcf hfr hG hA.rel h2)).mono ?_⟩
          rintro e w' ⟨ρc, v, rfl, h3, h4⟩
          refine same v w' (den_mono (ρ := ρc) (fun i b hb => ?_) _ h3) (hA.rel.later h4.below) rfl
          obtain ⟨_, _, h5, _⟩ := h4.obj i b hb
          simp at h5
        · cases hy
        · cases hy
      · -- l
        rename_i hkd
        cases he
        have hks : ks[i]? = some .l := by
          rw [List.getD_eq_getElem?_getD] at hkd
          cases hh : ks[i]? with
          | none => rw [hh] at hkd; cases hkd
          | some k => rw [hh] at hkd; exact congrArg some hkd
        obtain ⟨hnone, zl, ze, zfz, hz, hHz⟩ := hP i o ho hks hiun
        unfold zeroObj at hz
        split at hz
        case h_2 => cases hz
        rename_i e hop
        split at hz
        case h_2 => cases hz
        rename_i zv hzv
        simp only [Option.some.injEq, SObj.cells.injEq] at hz
        obtain ⟨hz1, hz2, hz3⟩ := hz
        subst hz1
        subst hz2
        subst hz3
        unfold Oper.wpIn
        refine ⟨fun f _ => hF.fn f, ?_⟩
        rw [hF.sem (fun c e => by rw [hop] at e; cases e)]
        have hrun : (execOp a.eval o).run P w = .ok (.value (.pointer (some ⟨w.heap.size, 0, none⟩))) { w with heap := w.heap.push (.cells zv.cells e (0, 0)) } := by
          unfold execOp
          simp only [hop]
          show ((do pure (Next.value (← Instr.alloc e true (.tuple #[]))) : Sem Next)).run P w = _
          refine run_bind_ok (a := Value.pointer (some ⟨w.heap.size, 0, none⟩)) ?_
          unfold Instr.alloc
          rw [run_bind_pure hzv]
          rfl
        rw [hrun, Oper.uponIn_value]
        have hext : ρ.le (ρ.with (nmOf H0.length ks i) ⟨w.heap.size, 0⟩) := fun j b hb => by
          unfold Ren.with
          split
          · rename_i hj; subst hj; rw [hnone] at hb; cases hb
          · exact hb
        have hR : Rel w0 (ρ.with (nmOf H0.length ks i) ⟨w.heap.size, 0⟩) s.2 { w with heap := w.heap.push (.cells zv.cells e (0, 0)) } := by
          have hb0 := hA.rel.below
          refine ⟨hb0.trans ⟨rfl, rfl, rfl, by simp, fun k hk => ?_⟩, ?_, ?_, ?_⟩
          · show (w.heap.push _)[k]? = _
            rw [Array.getElem?_push, if_neg (by have := hb0.size; omega)]
          · intro j b hb
            unfold Ren.with at hb
            simp only [Array.size_push]
            split at hb
            · simp at hb; subst hb; exact ⟨hb0.size, by simp⟩
            · obtain ⟨h1, h2⟩ := hA.rel.fresh j b hb; exact ⟨h1, by omega⟩
          · intro j k p q hj hk hb
            unfold Ren.with at hj hk
            split at hj <;> split at hk
            · exact .inl (by omega)
            · simp at hj; subst hj; have := (hA.rel.fresh _ _ hk).2; simp at hb; omega
            · simp at hk; subst hk; have := (hA.rel.fresh _ _ hj).2; simp at hb; omega
            · exact hA.rel.inj _ _ _ _ hj hk hb
          · intro j b hb
            by_cases hj : j = nmOf H0.length ks i
            · subst hj
              simp only [Ren.with, if_true, Option.some.injEq] at hb
              subst hb
              exact ⟨_, .cells zv.cells e (0, 0), hHz, by simp, ⟨zv.cells.toList, denL_map_v _, by simp⟩⟩
            · have hb' : ρ j = some b := by simpa [Ren.with, hj] using hb
              obtain ⟨o', ob', h1, h2, h3⟩ := hA.rel.obj j b hb'
              have hlt := (hA.rel.fresh j b hb').2
              refine ⟨o', ob', h1, ?_, h3.mono hext⟩
              show (w.heap.push _)[b.b]? = _
              rw [Array.getElem?_push, if_neg (by omega)]
              exact h2
        refine ih _ _ hrest (ρ.with (nmOf H0.length ks i) ⟨w.heap.size, 0⟩) _ _ (hA.put hext hR o.dst (by simp [den, Ren.with])) ?_ hlen ?_
        · intro j oj hj hk hun
          obtain ⟨h1, h2⟩ := hpend j oj hj hk hun
          have hji : j ≠ i := fun e => by subst e; rw [getD_set_self_ne] at hun; cases hun
          refine ⟨?_, h2⟩
          unfold Ren.with
          rw [if_neg (fun e => hji (countL_inj hk hks (by unfold nmOf at e; omega)))]
          exact h1
        · intro j hj
          obtain ⟨h1, h2⟩ := hE j hj
          refine ⟨?_, h2⟩
          unfold Ren.with
          rw [if_neg (by unfold nmOf; omega)]
          exact h1
      · -- a
        split at he
        case h_2 => cases he
        rename_i y hy
        cases he
        unfold aStep at hy
        split at hy
        case h_2 => cases hy
        rename_i ty p hop
        obtain ⟨ρ', v, w', h1, h2, h3, h4⟩ := load_ok hG hA.rel (den_seval hA.tmps p) hy
        obtain ⟨ad, u, hpv, h5, h6⟩ := loadVar_ok hG hA.rel (den_seval hA.tmps p) hy
        unfold Oper.wpIn
        refine ⟨fun f _ => hF.fn f, ?_⟩
        rw [hF.sem (fun c e => by rw [hop] at e; cases e)]
        have hrun : (execOp a.eval o).run P w = .ok (.value u) w := by
          unfold execOp
          simp only [hop]
          show ((do pure (Next.value (← Instr.loadAt ty (a.eval p))) : Sem Next)).run P w = _
          refine run_bind_ok (a := u) ?_
          rw [hpv]
          exact h5
        rw [hrun, Oper.uponIn_value]
        exact same u w h6 hA.rel rfl
      · -- b
        have hs' := stepR_of_bStep he
        have hl := stepR_len hcf hs'
        refine stepR_ok hF hcf hG hN hs' hA fun ρ' a' w' hx hA' => ih _ _ hrest ρ' a' w' hA' ?_ (Nat.le_trans hlen hl) (hE.trans hx hlen)
        intro j oj hj hk hun
        obtain ⟨h1, zl, ze, zfz, h2, h3⟩ := hpend j oj hj hk hun
        have hlt : nmOf H0.length ks j < s.2.length := (List.getElem?_eq_some_iff.1 h3).1
        obtain ⟨e1, e2⟩ := hx _ hlt
        exact ⟨by rw [e1]; exact h1, zl, ze, zfz, h2, e2 h1 _ _ _ h3⟩

/-- A region that draws its order. -/
def drawRun (P : Program) (G : Glob) (cf : CallF) (ops : Array Oper) (t : List SVal) (H : SHeap) : Option St :=
  if drawOk ops then
    match zeros P ops.toList (kds ops) with
    | some zs => lexRun P G cf ops (kds ops) (nmOf H.length (kds ops)) ops.size 0 (t, H ++ zs)
    | none => none
  else none

theorem lexRun_len {G : Glob} {cf : CallF} (hcf : CallOk P G cf) {ops : Array Oper} {ks : List Kd} {nm : Nat → Nat} : ∀ (n k : Nat) (s s' : St), lexRun P G cf ops ks nm n k s = some s' → s.2.length ≤ s'.2.length
  | 0, k, s, s', h => by cases h; exact Nat.le_refl _
  | n + 1, k, s, s', h => by
    simp only [lexRun] at h
    split at h
    case h_2 => cases h
    rename_i s1 hs
    refine Nat.le_trans ?_ (lexRun_len hcf n (k + 1) s1 s' h)
    unfold dstep at hs
    split at hs
    · cases hs
    rename_i o ho
    split at hs
    case h_2 => cases hs
    rename_i x H' he
    cases hs
    simp only
    unfold eff at he
    split at he
    · split at he
      · split at he <;> cases he; exact Nat.le_refl _
      · cases he; exact Nat.le_refl _
      · split at he <;> cases he; exact Nat.le_refl _
      · exact stepR_len hcf (stepR_of_bStep he)
    · cases he; exact Nat.le_refl _

theorem drawRun_ok {G : Glob} {cf : CallF} (hF : Wd F) (hcf : CallOk P G cf) (hN : NamesOk P) (hm : P.follows .mixedOrders = true) {ops : Array Oper} {t' : List SVal} {H' : SHeap} (h : drawRun P G cf ops t H = some (t', H')) :
    H.length ≤ H'.length ∧ ∀ {w0 : World} {ρ : Ren} {a : Act} {w : World}, G.holds w0 → Acts dl w0 ρ t H a w → ∀ {Q : Exit → Act → World → Prop} (id : Nat), (∀ ρ' a' w', Ext ρ H ρ' H' → Acts dl w0 ρ' t' H' a' w' → Q .normal a' w') →
      (Code.region id ops true).wpIn F 0 P Q a w := by
  unfold drawRun at h
  split at h
  case isFalse => cases h
  rename_i hok
  split at h
  case h_2 => cases h
  rename_i zs hzs
  have hlen := lexRun_len hcf _ _ _ _ h
  refine ⟨by simp only [List.length_append] at hlen; omega, fun {w0 ρ a w} hG hA Q id hQ => ?_⟩
  refine wpIn_region_any hm ?_
  have hB : Below w.heap.size w { w with drawn := w.drawn + 1 } := ⟨rfl, rfl, rfl, Nat.le_refl _, fun _ _ => rfl⟩
  have hR0 := hA.rel.later hB
  have hall := AllS_lex (drawOk_static hok) ops.size 0 (Array.replicate ops.size false) (t, H ++ zs) (fun j o ho hj => by
    rw [Array.getD_eq_getD_getElem?] at hj
    rcases Nat.lt_or_ge j ops.size with h' | h'
    · simp [h'] at hj
    · simp [Nat.not_lt.2 h'] at hj) (by simp) (fun j hj => by simp [hj]) (by omega) h
  refine AllS_ok (ρ0 := ρ) (H0 := H) (R := (t', H')) hF hcf hG hN (fun ρ' a' w' _ hE hA' => hQ ρ' a' w' hE hA') ops.size (Array.replicate ops.size false) (t, H ++ zs) hall ρ a _ ⟨hA.tmps, hA.defers, ?_⟩ ?_ (by simp) ?_
  · refine ⟨hR0.below, hR0.fresh, fun i j p q hi hj hb => (hR0.inj i j p q hi hj hb).append, fun i b hb => ?_⟩
    obtain ⟨o, ob, h1, h2, h3⟩ := hR0.obj i b hb
    exact ⟨o, ob, by rw [List.getElem?_append_left (List.getElem?_eq_some_iff.1 h1).1]; exact h1, h2, h3⟩
  · intro i o ho hk _
    refine ⟨hA.rel.none_at (by unfold nmOf; omega), ?_⟩
    obtain ⟨x, h1, h2⟩ := zeros_at hzs i o (by simpa using ho) hk
    have hx : ∃ l e fz, x = .cells l e fz := by
      unfold zeroObj at h1
      split at h1
      · split at h1
        · cases h1; exact ⟨_, _, _, rfl⟩
        · cases h1
      · cases h1
    obtain ⟨l, e, fz, rfl⟩ := hx
    refine ⟨l, e, fz, h1, ?_⟩
    unfold nmOf
    rw [List.getElem?_append_right (by omega)]
    simpa using h2
  · intro i hi
    exact ⟨rfl, fun _ l e fz hh => by rw [List.getElem?_append_left hi]; exact hh⟩

end
end
end Go.RX
