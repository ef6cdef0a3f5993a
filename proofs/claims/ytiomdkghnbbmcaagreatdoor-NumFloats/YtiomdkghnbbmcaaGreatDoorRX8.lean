import Derived.Test.YtiomdkghnbbmcaaGreatDoorRX7
import Derived.Laws.Sem
namespace Go.RX
noncomputable section
open Go.RowKit (Below)

variable [Env]

section
variable {P : Program} {F : Fence} {dl : List Deferred} {w0 w : World} {ρ : Ren} {H : SHeap} {t : List SVal} {a : Act} {o : Oper}

 omit [Env] in
theorem stepR_scope {b : Frame} {k : List Item} {cs : List Frame} {c : Code} : step P (lone (b.atR a (.code (.scope c) :: k)) cs w) = .next (lone (b.atR a (.code c :: .inScope c :: k)) cs w) :=
  step_lone_go (by simp [stepG, stepG.exec, Frame.atR])
 omit [Env] in
theorem stepR_inScope {b : Frame} {k : List Item} {cs : List Frame} {c : Code} : step P (lone (b.atR a (.inScope c :: k)) cs w) = .next (lone (b.atR a k) cs w) :=
  step_lone_go (by simp [stepG, stepG.exec, Frame.atR])

 omit [Env] in
theorem wpIn_scope_straight {n : Nat} {c : Code} {Q : Exit → Act → World → Prop} (h : c.wpIn F n P (Exit.noGoto Q) a w) : (Code.scope c).wpIn F n P Q a w := by
  intro b k cs hro hb hr
  have h0 : (lone (b.atR a (.code (.scope c) :: k)) cs w).fenced P F := fenced_calm hb hr rfl
  obtain ⟨e, a₁, w₁, hq, harr⟩ := h b (.inScope c :: k) cs hro hb hr
  cases e with
  | normal => exact ⟨.normal, a₁, w₁, hq, .head h0 stepR_scope (StepsIn.trans harr (.one (fenced_calm hb hr rfl) stepR_inScope))⟩
  | exit id =>
    have hx : exitTo id (.inScope c :: k) = exitTo id k := by simp [exitTo]
    exact ⟨.exit id, a₁, w₁, hq, fun k' hk => .head h0 stepR_scope (harr.1 k' (by rw [hx]; exact hk)),
      fun hr' hk => let ⟨k₁, h1, h2⟩ := harr.2 hr' (by rw [hx]; exact hk); ⟨k₁, h1, .head h0 stepR_scope h2⟩⟩
  | goto l => exact hq.elim
  | ret => exact ⟨_, a₁, w₁, hq, .of_steps (.one h0 stepR_scope) harr⟩
  | panic ch => exact ⟨_, a₁, w₁, hq, .of_steps (.one h0 stepR_scope) harr⟩
  | outgrown => exact ⟨_, a₁, w₁, hq, .of_steps (.one h0 stepR_scope) harr⟩

inductive SEx where
  | normal
  | exit (id : Nat)
  | ret

def SEx.den : SEx → Exit
  | .normal => .normal
  | .exit id => .exit id
  | .ret => .ret

/-- The temporaries and the heap; the marks among the deferred calls, by name. -/
abbrev Sx := St × List Nat

def iterate (f : Sx → Option (SEx × Sx)) : Nat → Sx → Option (SEx × Sx)
  | 0, _ => none
  | n + 1, s => match f s with
    | none => none
    | some (.normal, s') => iterate f n s'
    | some (.exit id, s') => some (.exit id, s')
    | some (.ret, s') => some (.ret, s')

/-- The marks' block: (the heap, the marks, the block's name). -/
def markR (r : Option Nat) (H : SHeap) (D : List Nat) : Option (SHeap × List Nat × Nat) :=
  match r with
  | none => some (H ++ [.marks], H.length :: D, H.length)
  | some i => match H[i]? with
    | some (.loop _ _ _ _ _ _ dj) => some (H, D, dj)
    | _ => none

def notBusy : LoopState → Bool
  | .busy => false
  | _ => true

def jumpEx : Option Code → Option SEx
  | none => some .normal
  | some .ret => some .ret
  | some (.exit id) => some (.exit id)
  | _ => none

/-- A range over a function. -/
def rangeR (P : Program) (cf : CallF) (r : Option Nat) (g : Operand) (ps : Array Tmp) (assign body : Code) (s : Sx) : Option (SEx × Sx) :=
  match markR r s.1.2 s.2 with
  | none => none
  | some (H1, D', dj) => match calleeOf (seval s.1.1 g) with
    | none => none
    | some (f, fs, cs) => match P.funcs[f]? with
      | none => none
      | some fn => if fn.body.isSome then
          match cf (.fn f) (fs ++ [.yield H1.length] ++ cs) (H1 ++ [.loop .ready none s.1.1 ps assign body dj]) with
          | none => none
          | some (_, H3) => match H3[H1.length]? with
            | some (.loop st pend t' ps' as' bd' dj') => if notBusy st then
                match jumpEx pend with
                | some e => some (e, (s.1.1, H3.set H1.length (.loop .exhausted pend t' ps' as' bd' dj')), D')
                | none => none
              else none
            | _ => none
        else none

def runCode (P : Program) (G : Glob) (cf : CallF) (fuel : Nat) (r : Option Nat) : Code → Sx → Option (SEx × Sx)
  | .skip, s => some (.normal, s)
  | .label _, s => some (.normal, s)
  | .region _ ops true, s => match drawRun P G cf ops s.1.1 s.1.2 with
    | some s' => some (.normal, s', s.2)
    | none => none
  | .region _ ops false, s => match runList P G cf ops ops.toList s.1.1 s.1.2 with
    | some s' => some (.normal, s', s.2)
    | none => none
  | .seq x y, s => match runCode P G cf fuel r x s with
    | none => none
    | some (.normal, s') => runCode P G cf fuel r y s'
    | some (.exit id, s') => some (.exit id, s')
    | some (.ret, s') => some (.ret, s')
  | .cond c x y, s => match boolOf (seval s.1.1 c) with
    | some true => runCode P G cf fuel r x s
    | some false => runCode P G cf fuel r y s
    | none => none
  | .block id c, s => match runCode P G cf fuel r c s with
    | none => none
    | some (.normal, s') => some (.normal, s')
    | some (.exit id', s') => if id' = id then some (.normal, s') else some (.exit id', s')
    | some (.ret, s') => some (.ret, s')
  | .loop c, s => iterate (runCode P G cf fuel r c) fuel s
  | .rangeFunc g ps assign body, s => rangeR P cf r g ps assign body s
  | .exit id, s => some (.exit id, s)
  | .scope c, s => runCode P G cf fuel r c s
  | .ret, s => some (.ret, s)
  | _, _ => none

/-- The fence of a frame: that of a round, or none. -/
def FrOk (ρ : Ren) (r : Option Nat) (F : Fence) : Prop :=
  match r with
  | none => F = Fence.wide
  | some i => ∃ p, ρ i = some p ∧ F = Fence.wide.inRound p.b

 omit [Env] in
theorem FrOk.wd {r : Option Nat} (h : FrOk ρ r F) : Wd F := by
  cases r with
  | none => exact .inl h
  | some i => obtain ⟨p, _, h⟩ := h; exact .inr ⟨p.b, h⟩

 omit [Env] in
theorem FrOk.mono {ρ' : Ren} {r : Option Nat} (hle : ρ.le ρ') (h : FrOk ρ r F) : FrOk ρ' r F := by
  cases r with
  | none => exact h
  | some i => obtain ⟨p, h1, h⟩ := h; exact ⟨p, hle _ _ h1, h⟩

/-- The marks. -/
def Mk (ρ : Ren) : List Nat → List Deferred → Prop
  | [], dl => dl = []
  | i :: D, dl => ∃ (p : Loc) (dl' : List Deferred), ρ i = some p ∧ dl = { target := .collected p.b, args := #[] } :: dl' ∧ Mk ρ D dl'

 omit [Env] in
theorem Mk.mono {ρ' : Ren} (hle : ρ.le ρ') : ∀ {D : List Nat} {dl : List Deferred}, Mk ρ D dl → Mk ρ' D dl
  | [], _, h => h
  | _ :: _, _, ⟨p, dl', h1, h2, h3⟩ => ⟨p, dl', hle _ _ h1, h2, h3.mono hle⟩

/-- What the run of a piece of code means. -/
def CodeOk (P : Program) (G : Glob) (r : Option Nat) (c : Code) (s : Sx) (e : SEx) (s' : Sx) : Prop :=
  s.1.2.length ≤ s'.1.2.length ∧ ∀ {F : Fence} {dl : List Deferred} {w0 : World} {ρ : Ren} {a : Act} {w : World}, FrOk ρ r F → Mk ρ s.2 dl → G.holds w0 → Acts dl w0 ρ s.1.1 s.1.2 a w → ∀ {Q : Exit → Act → World → Prop},
    (∀ ρ' dl' a' w', Ext ρ s.1.2 ρ' s'.1.2 → Mk ρ' s'.2 dl' → Acts dl' w0 ρ' s'.1.1 s'.1.2 a' w' → Q e.den a' w') → c.wpIn F 0 P Q a w

theorem rounds_ok {G : Glob} {f : Sx → Option (SEx × Sx)} {r : Option Nat} {c : Code} (hc : ∀ s e s', f s = some (e, s') → CodeOk P G r c s e s') :
    ∀ (n : Nat) (s : Sx) (e : SEx) (s' : Sx), iterate f n s = some (e, s') →
      s.1.2.length ≤ s'.1.2.length ∧ ∀ {F : Fence} {dl : List Deferred} {w0 : World} {ρ : Ren} {a : Act} {w : World}, FrOk ρ r F → Mk ρ s.2 dl → G.holds w0 → Acts dl w0 ρ s.1.1 s.1.2 a w → ∀ {Q : Exit → Act → World → Prop},
        (∀ ρ' dl' a' w', Ext ρ s.1.2 ρ' s'.1.2 → Mk ρ' s'.2 dl' → Acts dl' w0 ρ' s'.1.1 s'.1.2 a' w' → Q e.den a' w') → Code.roundsIn F 0 P c Q n a w
  | 0, s, e, s', h => by cases h
  | n + 1, s, e, s', h => by
    simp only [iterate] at h
    split at h
    · cases h
    · rename_i s1 h1
      obtain ⟨l1, k1⟩ := hc _ _ _ h1
      obtain ⟨l2, k2⟩ := rounds_ok hc n s1 e s' h
      refine ⟨Nat.le_trans l1 l2, fun {F dl w0 ρ a w} hF hM hG hA Q hQ => ?_⟩
      rw [roundsIn_succ]
      exact k1 hF hM hG hA fun ρ1 d1 a1 w1 x1 hM1 hA1 => k2 (hF.mono (x1.le hA.rel)) hM1 hG hA1 fun ρ2 d2 a2 w2 x2 hM2 hA2 => hQ _ _ _ _ (x1.trans x2 l1) hM2 hA2
    · rename_i id s1 h1
      cases h
      obtain ⟨l1, k1⟩ := hc _ _ _ h1
      refine ⟨l1, fun {F dl w0 ρ a w} hF hM hG hA Q hQ => ?_⟩
      rw [roundsIn_succ]
      exact k1 hF hM hG hA hQ
    · rename_i s1 h1
      cases h
      obtain ⟨l1, k1⟩ := hc _ _ _ h1
      refine ⟨l1, fun {F dl w0 ρ a w} hF hM hG hA Q hQ => ?_⟩
      rw [roundsIn_succ]
      exact k1 hF hM hG hA hQ

theorem runList_len {G : Glob} {cf : CallF} (hcf : CallOk P G cf) {ops : Array Oper} : ∀ (l : List Oper) {t : List SVal} {H : SHeap} {s' : St}, runList P G cf ops l t H = some s' → H.length ≤ s'.2.length
  | [], t, H, s', h => by cases h; exact Nat.le_refl _
  | o :: rest, t, H, s', h => by
    simp only [runList] at h
    split at h
    · split at h
      case h_2 => cases h
      rename_i t1 H1 hs
      exact Nat.le_trans (stepR_len hcf hs) (runList_len hcf rest h)
    · exact runList_len hcf rest h

theorem boolOf_some {x : SVal} {v : Value} (hx : den ρ x = some v) {b : Bool} (h : boolOf x = some b) : v = .bool b := by
  rw [boolOf_eq hx] at h
  cases v <;> simp at h
  rw [h]

/-- The block of the marks, laid or found. -/
theorem markR_ok {r : Option Nat} {D D' : List Nat} {H1 : SHeap} {dj : Nat} (h : markR r H D = some (H1, D', dj)) (hF : FrOk ρ r F) (hM : Mk ρ D dl) (hR : Rel w0 ρ H w) :
    H.length ≤ H1.length ∧ ∃ (ρ1 : Ren) (w1 : World) (mark : List Deferred) (pd : Loc), Ext ρ H ρ1 H1 ∧ Rel w0 ρ1 H1 w1 ∧ ρ1 dj = some pd ∧ Mk ρ1 D' (mark ++ dl) ∧
      ∀ (fn : FuncId) (tmps : Array Value) (ps : Array Tmp) (assign body : Code), (Instr.enterLoop fn tmps ps assign body F.round).run P w =
        .ok (w1.heap.size, mark) (w1.alloc (.loop { state := .ready, pending := none, fn, tmps, params := ps, assign, body, defers := pd.b })) := by
  cases r with
  | none =>
    simp only [markR, Option.some.injEq, Prod.mk.injEq] at h
    obtain ⟨rfl, rfl, rfl⟩ := h
    obtain rfl : F = Fence.wide := hF
    have hle := Ren.le_with hR ⟨w.heap.size, 0⟩
    refine ⟨by simp, ρ.with H.length ⟨w.heap.size, 0⟩, w.alloc (.deferred (some [])), [{ target := .collected w.heap.size, args := #[] }], ⟨w.heap.size, 0⟩, Ext.push _ _ _ _,
      hR.push (o := .marks) (ob := .deferred (some [])) rfl, by simp [Ren.with], ⟨⟨w.heap.size, 0⟩, dl, by simp [Ren.with], rfl, hM.mono hle⟩, fun fn tmps ps assign body => ?_⟩
    rw [show Fence.wide.round = none from rfl, run_enterLoop_outer, World.size_alloc]
  | some i =>
    obtain ⟨p, hp, rfl⟩ := hF
    simp only [markR] at h
    split at h
    case h_2 => cases h
    rename_i st pend tm ps' as' bd' dj' hH
    cases h
    obtain ⟨o', ob, h1, h2, h3⟩ := hR.obj i p hp
    rw [hH] at h1
    cases h1
    obtain ⟨fn0, vs, pd, g1, g2, rfl⟩ := h3
    refine ⟨Nat.le_refl _, ρ, w, [], pd, Ext.refl _ _, hR, g2, hM, fun fn tmps ps assign body => ?_⟩
    rw [Fence.inRound_round]
    unfold Instr.enterLoop
    simp only [Sem.run_bind, run_getLoop h2, run_newObj_alloc, Result.andThen, Sem.run_pure]

theorem rangeR_ok {G : Glob} {cf : CallF} (hcf : CallOk P G cf) (hN : NamesOk P) {r : Option Nat} {g : Operand} {ps : Array Tmp} {assign body : Code} {s : Sx} {e : SEx} {s' : Sx}
    (h : rangeR P cf r g ps assign body s = some (e, s')) : CodeOk P G r (.rangeFunc g ps assign body) s e s' := by
  unfold rangeR at h
  split at h
  · cases h
  rename_i H1 D' dj hmark
  split at h
  · cases h
  rename_i f fs cs hcal
  split at h
  · cases h
  rename_i fn hfn
  split at h
  case isFalse => cases h
  rename_i hbody
  split at h
  · cases h
  rename_i x H3 hcall
  split at h
  case h_2 => cases h
  rename_i st pend t' ps' as' bd' dj' hH3
  split at h
  case isFalse => cases h
  rename_i hst
  split at h
  case h_2 => cases h
  rename_i e' hj
  cases h
  obtain ⟨l3, k3⟩ := hcf.fn _ _ _ _ _ hcall
  have lmark : s.1.2.length ≤ H1.length := by
    unfold markR at hmark
    split at hmark
    · cases hmark; simp
    · split at hmark
      · cases hmark; exact Nat.le_refl _
      · cases hmark
  have hlen3 : H1.length < H3.length := by simp at l3; omega
  refine ⟨by simp; omega, fun {F dl w0 ρ a w} hF hM hG hA Q hQ => ?_⟩
  obtain ⟨_, ρ1, w1, mark, pd, hx1, hR1, hpd, hM1, hent⟩ := markR_ok (P := P) hmark hF hM hA.rel
  refine wpIn_rangeFunc fun fn' _ => ?_
  obtain ⟨us, ws, hv, h1, h2⟩ := calleeOf_ok (den_seval hA.tmps g) hcal
  have hle1 := hx1.le hA.rel
  have hob : ObjRel ρ1 ⟨w1.heap.size, 0⟩ (.loop .ready none s.1.1 ps assign body dj) (.loop { state := .ready, pending := none, fn := fn', tmps := a.tmps, params := ps, assign, body, defers := pd.b }) :=
    ⟨fn', a.tmps.toList, pd, denL_mono hle1 _ hA.tmps, hpd, by simp⟩
  have hR2 := hR1.push hob
  generalize hwl : w1.alloc (.loop { state := .ready, pending := none, fn := fn', tmps := a.tmps, params := ps, assign, body, defers := pd.b }) = wl at *
  have hR2' : Rel w0 (ρ1.with H1.length ⟨w1.heap.size, 0⟩) (H1 ++ [.loop .ready none s.1.1 ps assign body dj]) wl := by rw [← hwl]; exact hR2
  have hle2 := Ren.le_with hR1 ⟨w1.heap.size, 0⟩
  have hx2 : Ext ρ1 H1 (ρ1.with H1.length ⟨w1.heap.size, 0⟩) (H1 ++ [.loop .ready none s.1.1 ps assign body dj]) := Ext.push _ _ _ _
  refine ⟨w1.heap.size, mark, wl, { target := .fn (.func f) ws, args := us ++ #[.func (.yield w1.heap.size) #[] #[]] }, wl, f, us ++ #[.func (.yield w1.heap.size) #[] #[]] ++ ws, wl, (hent fn' a.tmps ps assign body).trans (by rw [hwl]), ?_, fun f' _ => hF.wd.fn f', ?_, hF.wd.depth, ?_⟩
  · simp only [resolve, hv, Deferred.ofValue, List.map_toArray, List.map_cons, List.map_nil]
    rfl
  · simp only [invoke, callFunc]
    show (Sem.program .pure >>= _ : Sem Next).run P _ = _
    rw [run_bind_pure (a := P) rfl]
    simp only [hfn, hN.names f fn hfn hbody, Bool.false_eq_true, if_false]
    have hb : fn.body.isNone = false := by cases hh : fn.body <;> simp_all
    simp only [hb, Bool.false_eq_true, if_false]
    rfl
  · have hargs : denL (ρ1.with H1.length ⟨w1.heap.size, 0⟩) (fs ++ [.yield H1.length] ++ cs) = some (us ++ #[Value.func (.yield w1.heap.size) #[] #[]] ++ ws).toList := by
      simp only [Array.toList_append]
      refine denL_append (denL_mono (hle1.trans hle2) _ h2) (denL_append ?_ (denL_mono (hle1.trans hle2) _ h1))
      exact denL_cons.2 ⟨_, [], by simp [den, Ren.with], rfl, rfl⟩
    have hcalls := hF.wd.calls (n := 0 - 1) (k3 w0 _ wl _ hG hR2' hargs)
    refine CallsIn.mono hcalls ?_
    · rintro e w3 ⟨ρ3, v, rfl, hx3, _, hR3⟩
      have hli : ρ3 H1.length = some ⟨w1.heap.size, 0⟩ := by rw [(hx3 H1.length (by simp)).1]; simp [Ren.with]
      obtain ⟨o', ob, g1, g2, g3⟩ := hR3.obj _ _ hli
      rw [hH3] at g1
      cases g1
      obtain ⟨fn3, vs3, pd3, f1, f2, rfl⟩ := g3
      have hlt : w1.heap.size < w3.heap.size := (hR3.fresh _ _ hli).2
      have hx : Ext ρ s.1.2 ρ3 (H3.set H1.length (.loop .exhausted pend t' ps' as' bd' dj')) := ((hx1.trans hx2 lmark).trans hx3 (by simp; omega)).trans (Ext.set hli _) (by omega)
      have hle3 := hx3.le hR2'
      have hMf : Mk ρ3 D' (mark ++ dl) := hM1.mono (hle2.trans hle3)
      have hRf : Rel w0 ρ3 (H3.set H1.length (.loop .exhausted pend t' ps' as' bd' dj')) (w3.putObj w1.heap.size (.loop { state := .exhausted, pending := pend, fn := fn3, tmps := vs3.toArray, params := ps', assign := as', body := bd', defers := pd3.b })) :=
        hR3.setObj hli (hR3.own hli hH3 (fun _ _ _ _ e => by cases e) (fun e => by cases e)) ⟨fn3, vs3, pd3, f1, f2, rfl⟩ rfl rfl rfl (by simp) (fun k hk => World.putObj_heap_other hk) (World.putObj_heap_same hlt)
      refine ⟨pend, _, run_endLoop g2 (by cases st <;> simp [notBusy] at hst ⊢), ?_⟩
      have hAf : Acts (mark ++ dl) w0 ρ3 s.1.1 (H3.set H1.length (.loop .exhausted pend t' ps' as' bd' dj')) { a with defers := mark ++ a.defers } _ := ⟨denL_mono ((hle1.trans hle2).trans hle3) _ hA.tmps, by simp [hA.defers], hRf⟩
      have hq := hQ ρ3 _ _ _ hx hMf hAf
      unfold jumpEx at hj
      split at hj
      · cases hj; exact hq
      · cases hj; exact wpIn_ret hq
      · cases hj; exact wpIn_exit hq
      · cases hj

theorem runCode_ok {G : Glob} {cf : CallF} (hcf : CallOk P G cf) (hN : NamesOk P) (hm : P.follows .mixedOrders = true) {fuel : Nat} {r : Option Nat} : ∀ (c : Code) (s : Sx) (e : SEx) (s' : Sx), runCode P G cf fuel r c s = some (e, s') → CodeOk P G r c s e s' := by
  intro c
  induction c with
  | skip => intro s e s' h; cases h; exact ⟨Nat.le_refl _, fun hF hM hG hA Q hQ => wpIn_skip (hQ _ _ _ _ (Ext.refl _ _) hM hA)⟩
  | label l => intro s e s' h; cases h; exact ⟨Nat.le_refl _, fun hF hM hG hA Q hQ => wpIn_label (hQ _ _ _ _ (Ext.refl _ _) hM hA)⟩
  | region id ops draw =>
    intro s e s' h
    cases draw with
    | true =>
      simp only [runCode] at h
      split at h
      case h_2 => cases h
      rename_i s1 h1
      cases h
      refine ⟨?_, fun {F dl w0 ρ a w} hF hM hG hA Q hQ => ?_⟩
      · exact (drawRun_ok (F := Fence.wide) (dl := []) (.inl rfl) hcf hN hm h1).1
      · exact (drawRun_ok hF.wd hcf hN hm h1).2 hG hA id fun ρ' a' w' hx hA' => hQ _ _ _ _ hx (hM.mono (hx.le hA.rel)) hA'
    | false =>
      simp only [runCode] at h
      split at h
      case h_2 => cases h
      rename_i s1 h1
      cases h
      exact ⟨runList_len hcf _ h1, fun {F dl w0 ρ a w} hF hM hG hA Q hQ => wpIn_region_list ((runList_ok hF.wd hcf hG hN _ h1).2 hA fun ρ' a' w' hx hA' => hQ _ _ _ _ hx (hM.mono (hx.le hA.rel)) hA')⟩
  | seq x y ihx ihy =>
    intro s e s' h
    simp only [runCode] at h
    split at h
    · cases h
    · rename_i s1 h1
      obtain ⟨l1, k1⟩ := ihx _ _ _ h1
      obtain ⟨l2, k2⟩ := ihy _ _ _ h
      refine ⟨Nat.le_trans l1 l2, fun {F dl w0 ρ a w} hF hM hG hA Q hQ => wpIn_seq (k1 hF hM hG hA fun ρ1 d1 a1 w1 x1 hM1 hA1 => ?_)⟩
      exact k2 (hF.mono (x1.le hA.rel)) hM1 hG hA1 fun ρ2 d2 a2 w2 x2 hM2 hA2 => hQ _ _ _ _ (x1.trans x2 l1) hM2 hA2
    · rename_i id s1 h1
      cases h
      obtain ⟨l1, k1⟩ := ihx _ _ _ h1
      exact ⟨l1, fun hF hM hG hA Q hQ => wpIn_seq (k1 hF hM hG hA hQ)⟩
    · rename_i s1 h1
      cases h
      obtain ⟨l1, k1⟩ := ihx _ _ _ h1
      exact ⟨l1, fun hF hM hG hA Q hQ => wpIn_seq (k1 hF hM hG hA hQ)⟩
  | cond c x y ihx ihy =>
    intro s e s' h
    simp only [runCode] at h
    split at h
    · rename_i hb
      obtain ⟨l1, k1⟩ := ihx _ _ _ h
      refine ⟨l1, fun {F dl w0 ρ a w} hF hM hG hA Q hQ => ?_⟩
      exact wpIn_cond_true (boolOf_some (den_seval hA.tmps c) hb) (k1 hF hM hG hA hQ)
    · rename_i hb
      obtain ⟨l1, k1⟩ := ihy _ _ _ h
      refine ⟨l1, fun {F dl w0 ρ a w} hF hM hG hA Q hQ => ?_⟩
      exact wpIn_cond_false (boolOf_some (den_seval hA.tmps c) hb) (k1 hF hM hG hA hQ)
    · cases h
  | block id c ih =>
    intro s e s' h
    simp only [runCode] at h
    split at h
    · cases h
    · rename_i s1 h1
      cases h
      obtain ⟨l1, k1⟩ := ih _ _ _ h1
      exact ⟨l1, fun hF hM hG hA Q hQ => wpIn_block (k1 hF hM hG hA hQ)⟩
    · rename_i id' s1 h1
      obtain ⟨l1, k1⟩ := ih _ _ _ h1
      split at h
      · rename_i hid
        cases h
        exact ⟨l1, fun hF hM hG hA Q hQ => wpIn_block (k1 hF hM hG hA fun ρ' d' a' w' hx hM' hA' => by
          simp only [SEx.den, Exit.inBlock, hid, if_true]
          exact hQ _ _ _ _ hx hM' hA')⟩
      · rename_i hid
        cases h
        exact ⟨l1, fun hF hM hG hA Q hQ => wpIn_block (k1 hF hM hG hA fun ρ' d' a' w' hx hM' hA' => by
          simp only [SEx.den, Exit.inBlock, hid, if_false]
          exact hQ _ _ _ _ hx hM' hA')⟩
    · rename_i s1 h1
      cases h
      obtain ⟨l1, k1⟩ := ih _ _ _ h1
      exact ⟨l1, fun hF hM hG hA Q hQ => wpIn_block (k1 hF hM hG hA hQ)⟩
  | loop c ih =>
    intro s e s' h
    simp only [runCode] at h
    obtain ⟨l1, k1⟩ := rounds_ok ih fuel s e s' h
    exact ⟨l1, fun hF hM hG hA Q hQ => wpIn_loop_rounds fuel (k1 hF hM hG hA hQ)⟩
  | rangeFunc f ps as body ih1 ih2 => intro s e s' h; exact rangeR_ok hcf hN h
  | exit id => intro s e s' h; cases h; exact ⟨Nat.le_refl _, fun hF hM hG hA Q hQ => wpIn_exit (hQ _ _ _ _ (Ext.refl _ _) hM hA)⟩
  | scope c ih =>
    intro s e s' h
    simp only [runCode] at h
    obtain ⟨l1, k1⟩ := ih _ _ _ h
    refine ⟨l1, fun {F dl w0 ρ a w} hF hM hG hA Q hQ => wpIn_scope_straight (k1 hF hM hG hA fun ρ' d' a' w' hx hM' hA' => ?_)⟩
    have := hQ ρ' d' a' w' hx hM' hA'
    cases e <;> exact this
  | goto l => intro s e s' h; cases h
  | ret => intro s e s' h; cases h; exact ⟨Nat.le_refl _, fun hF hM hG hA Q hQ => wpIn_ret (hQ _ _ _ _ (Ext.refl _ _) hM hA)⟩
  | refuse why => intro s e s' h; cases h

/-! ### Calls -/
def resE (P : Program) (G : Glob) (t : List SVal) (H : SHeap) : List ResultVar → Option (List SVal)
  | [] => some []
  | .tmp k :: rs => match resE P G t H rs with
    | some xs => some (getS t k :: xs)
    | none => none
  | .cell k ty :: rs => match loadE P G H ty (getS t k) with
    | none => none
    | some x => match resE P G t H rs with
      | some xs => some (x :: xs)
      | none => none

def resV : List SVal → SVal
  | [x] => x
  | l => mkTuple l

 omit [Env] in
theorem run_mapM {α β : Type} {f : α → Sem β} : ∀ (l : List α) (ys : List β), ys.length = l.length → (∀ (i : Nat) (x : α) (y : β), l[i]? = some x → ys[i]? = some y → (f x).run P w = .ok y w) → (l.mapM f).run P w = .ok ys w
  | [], ys, hl, _ => by
    have : ys = [] := by simpa using hl
    subst this
    rfl
  | x :: xs, ys, hl, h => by
    cases ys with
    | nil => simp at hl
    | cons y ys =>
      rw [List.mapM_cons]
      rw [run_bind_ok (h 0 x y rfl rfl)]
      rw [run_bind_ok (run_mapM xs ys (by simpa using hl) (fun i x' y' hx hy => h (i + 1) x' y' (by simpa using hx) (by simpa using hy)))]
      rfl

theorem resE_ok {G : Glob} (hG : G.holds w0) (hA : Acts dl w0 ρ t H a w) : ∀ {rs : List ResultVar} {xs : List SVal}, resE P G t H rs = some xs →
    ∃ ys : List Value, denL ρ xs = some ys ∧ ys.length = rs.length ∧ ∀ (i : Nat) (r : ResultVar) (y : Value), rs[i]? = some r → ys[i]? = some y →
      ((match r with
        | .tmp t => pure (a.tmps.getD t undef)
        | .cell ad t => do loadVar t (← asAddr (a.tmps.getD ad undef)) : Sem Value)).run P w = .ok y w
  | [], xs, h => by cases h; exact ⟨[], rfl, rfl, fun i r y hr => by simp at hr⟩
  | .tmp k :: rs, xs, h => by
    simp only [resE] at h
    split at h
    case h_2 => cases h
    rename_i xs' hxs
    cases h
    obtain ⟨ys, h1, h2, h3⟩ := resE_ok hG hA hxs
    have hd := den_seval hA.tmps (.tmp k)
    refine ⟨a.tmps.getD k undef :: ys, denL_cons.2 ⟨_, _, hd, h1, rfl⟩, by simp [h2], fun i r y hr hy => ?_⟩
    cases i with
    | zero =>
      simp only [List.getElem?_cons_zero, Option.some.injEq] at hr hy
      subst hr hy
      rfl
    | succ i => exact h3 i r y (by simpa using hr) (by simpa using hy)
  | .cell k ty :: rs, xs, h => by
    simp only [resE] at h
    split at h
    · cases h
    rename_i x hx
    split at h
    case h_2 => cases h
    rename_i xs' hxs
    cases h
    obtain ⟨ys, h1, h2, h3⟩ := resE_ok hG hA hxs
    have hd := den_seval hA.tmps (.tmp k)
    obtain ⟨ad, u, e1, e2, e3⟩ := loadVar_ok hG hA.rel hd hx
    refine ⟨u :: ys, denL_cons.2 ⟨_, _, e3, h1, rfl⟩, by simp [h2], fun i r y hr hy => ?_⟩
    cases i with
    | zero =>
      simp at hr hy
      subst hr hy
      simp only
      have e1' : a.tmps.getD k undef = .pointer (some ad) := e1
      rw [e1']
      unfold asAddr
      rw [run_pure_bind]
      exact e2
    | succ i => exact h3 i r y (by simpa using hr) (by simpa using hy)

theorem results_ok {G : Glob} (hG : G.holds w0) (hA : Acts dl w0 ρ t H a w) {fn : Func} {xs : List SVal} (h : resE P G t H fn.results.toList = some xs) :
    ∃ v, (results fn a.tmps).run P w = .ok v w ∧ den ρ (resV xs) = some v := by
  obtain ⟨ys, h1, h2, h3⟩ := resE_ok (P := P) hG hA h
  have hrun := run_mapM (P := P) (w := w) fn.results.toList ys h2 h3
  have hl := denL_length h1
  refine ⟨if h : ys.toArray.size = 1 then ys.toArray[0] else .tuple ys.toArray, ?_, ?_⟩
  · unfold results
    rw [run_bind_ok (a := ys.toArray) (w' := w)]
    · rfl
    · rw [Array.mapM_eq_mapM_toList]
      rw [map_eq_pure_bind]
      exact run_bind_ok (k := fun a => pure a.toArray) hrun
  · match xs, ys, h1, hl with
    | [], ys, h1, hl =>
      have : ys = [] := by simpa using hl
      subst this
      rfl
    | [x], ys, h1, hl =>
      obtain ⟨y, zs, e1, e2, rfl⟩ := denL_cons.1 h1
      simp [denL] at e2
      subst e2
      simpa [resV] using e1
    | x :: x' :: xs, ys, h1, hl =>
      have : ¬ ys.toArray.size = 1 := by simp at hl ⊢; omega
      rw [dif_neg this]
      exact den_mkTuple h1

abbrev Orac := FuncId → List SVal → Option SVal

/-- What the given contracts say. -/
def Orac.holds (P : Program) (G : Glob) (O : Orac) : Prop := ∀ f xs y, O f xs = some y → ∀ ρ (vs : Array Value) w, G.holds w → denL ρ xs = some vs.toList →
  ∃ v, den ρ y = some v ∧ Calls P f vs w fun e w' => e = .returned v ∧ Below w.heap.size w w'

/-- The marks are taken: nothing was deferred. -/
def takeMarks : List Nat → SHeap → Option SHeap
  | [], H => some H
  | i :: D, H => match H[i]? with
    | some .marks => takeMarks D (H.set i .dead)
    | _ => none

def body (P : Program) (G : Glob) (cf : CallF) (fuel : Nat) (f : FuncId) (args : List SVal) (H : SHeap) : Option (SVal × SHeap) :=
  match P.funcs[f]? with
  | none => none
  | some fn => match fn.body with
    | none => none
    | some c => match runCode P G cf fuel none c ((args ++ List.replicate (fn.ntmps - args.length) (.v undef), H), []) with
      | none => none
      | some (.exit _, _) => none
      | some (_, s) => match takeMarks s.2 s.1.2 with
        | none => none
        | some H' => match resE P G s.1.1 H' fn.results.toList with
          | some xs => some (resV xs, H')
          | none => none

def jumpOf : SEx → Option Code
  | .normal => none
  | .ret => some .ret
  | .exit id => some (.exit id)

/-- One round of a range over a function. -/
def round (P : Program) (G : Glob) (cf : CallF) (fuel : Nat) (i : Nat) (args : List SVal) (H : SHeap) : Option (SVal × SHeap) :=
  match H[i]? with
  | some (.loop _ _ tm ps assign body _) => if args.length = ps.size then
      match runCode P G cf fuel (some i) assign (((ps.toList.zip args).foldl (fun l x => l.set x.1 x.2) tm, H), []) with
      | some (.normal, s1) => match s1.1.2[i]? with
        | some (.loop .ready pend1 tm1 ps1 as1 bd1 dj1) => match runCode P G cf fuel (some i) body ((s1.1.1, s1.1.2.set i (.loop .busy pend1 tm1 ps1 as1 bd1 dj1)), s1.2) with
          | some (e, s3) => match s3.1.2[i]? with
            | some (.loop _ _ tm3 ps3 as3 bd3 dj3) => some (.v (.bool (jumpOf e).isNone), s3.1.2.set i (.loop (if (jumpOf e).isNone then .ready else .done) (jumpOf e) tm3 ps3 as3 bd3 dj3))
            | _ => none
          | none => none
        | _ => none
      | _ => none
    else none
  | _ => none

def call (P : Program) (G : Glob) (O : Orac) (fuel : Nat) : Nat → CallF
  | 0, _, _, _ => none
  | n + 1, .fn f, args, H => match O f args with
    | some y => some (y, H)
    | none => body P G (call P G O fuel n) fuel f args H
  | n + 1, .yield i, args, H => round P G (call P G O fuel n) fuel i args H

 omit [Env] in
theorem takeMarks_len : ∀ {D : List Nat} {H H' : SHeap}, takeMarks D H = some H' → H'.length = H.length
  | [], H, H', h => by cases h; rfl
  | i :: D, H, H', h => by
    simp only [takeMarks] at h
    split at h
    · rw [takeMarks_len h]; simp
    · cases h

theorem takeMarks_ok {fn : Func} {tmps : Array Value} {R : Ending → World → Prop} : ∀ {D : List Nat} {H H' : SHeap} {dl : List Deferred} {w : World}, takeMarks D H = some H' → Mk ρ D dl → Rel w0 ρ H w →
    (∀ w', Ext ρ H ρ H' → Rel w0 ρ H' w' → ∃ v, (results fn tmps).run P w' = .ok v w' ∧ R (.returned v) w') → LeavesInM Fence.wide 0 P fn tmps R dl .returning w
  | [], H, H', dl, w, h, hM, hR, hgo => by
    cases h
    obtain rfl : dl = [] := hM
    exact hgo w (Ext.refl _ _) hR
  | i :: D, H, H', dl, w, h, hM, hR, hgo => by
    obtain ⟨p, dl', hp, rfl, hM'⟩ := hM
    simp only [takeMarks] at h
    split at h
    case h_2 => cases h
    rename_i hH
    obtain ⟨o', ob, g1, g2, g3⟩ := hR.obj i p hp
    rw [hH] at g1
    cases g1
    obtain rfl : ob = .deferred (some []) := g3
    have hlt : p.b < w.heap.size := (hR.fresh _ _ hp).2
    have hR' : Rel w0 ρ (H.set i .dead) (w.putObj p.b (.deferred none)) :=
      hR.setObj hp (hR.own hp hH (fun _ _ _ _ e => by cases e) (fun e => by cases e)) (o := .dead) trivial rfl rfl rfl (by simp) (fun k hk => World.putObj_heap_other hk) (World.putObj_heap_same hlt)
    refine ⟨by simp, .inl ⟨p.b, _, rfl, run_takeDeferred g2, ?_⟩⟩
    exact takeMarks_ok h hM' hR' fun w' hx hRw => hgo w' ((Ext.set hp _).trans hx (by simp)) hRw

theorem body_ok {G : Glob} {cf : CallF} (hcf : CallOk P G cf) (hN : NamesOk P) (hm : P.follows .mixedOrders = true) {fuel : Nat} {f : FuncId} {args : List SVal} {H : SHeap} {x : SVal} {H' : SHeap}
    (h : body P G cf fuel f args H = some (x, H')) : H.length ≤ H'.length ∧
    ∀ w0 ρ w (vs : Array Value), G.holds w0 → Rel w0 ρ H w → denL ρ args = some vs.toList → Calls P f vs w fun e w' => ∃ ρ' v, e = .returned v ∧ Ext ρ H ρ' H' ∧ den ρ' x = some v ∧ Rel w0 ρ' H' w' := by
  unfold body at h
  split at h
  · cases h
  rename_i fn hfn
  split at h
  · cases h
  rename_i c hc
  have key : ∀ (e : SEx) (s : Sx), (e = .normal ∨ e = .ret) → runCode P G cf fuel none c ((args ++ List.replicate (fn.ntmps - args.length) (.v undef), H), []) = some (e, s) →
      ∀ {H' : SHeap} {xs : List SVal}, takeMarks s.2 s.1.2 = some H' → resE P G s.1.1 H' fn.results.toList = some xs → H.length ≤ H'.length ∧ ∀ w0 ρ w (vs : Array Value), G.holds w0 → Rel w0 ρ H w → denL ρ args = some vs.toList →
        Calls P f vs w fun e w' => ∃ ρ' v, e = .returned v ∧ Ext ρ H ρ' H' ∧ den ρ' (resV xs) = some v ∧ Rel w0 ρ' H' w' := by
    intro e s he hrun H' xs htake hres
    obtain ⟨l1, k1⟩ := runCode_ok hcf hN hm c _ _ _ hrun
    refine ⟨by rw [takeMarks_len htake]; exact l1, fun w0 ρ w vs hG hR hv => (callsIn_wide (n := 0)).1 (callsIn_of_wp_marks hfn hc trivial ?_)⟩
    have hlen := denL_length hv
    refine k1 (F := Fence.wide) (dl := []) (ρ := ρ) rfl rfl hG ⟨?_, rfl, hR⟩ fun ρ' dl' a' w' hx hM' hA' => ?_
    · simp only [Array.toList_append, Array.toList_replicate]
      refine denL_append ?_ hv
      simp only [Array.length_toList] at hlen
      rw [hlen]
      exact denL_replicate_v _ _
    · have : LeavesInM Fence.wide 0 P fn a'.tmps (fun e w' => ∃ ρ' v, e = .returned v ∧ Ext ρ H ρ' H' ∧ den ρ' (resV xs) = some v ∧ Rel w0 ρ' H' w') a'.defers .returning w' := by
        rw [hA'.defers]
        refine takeMarks_ok htake hM' hA'.rel fun w2 hx2 hR2 => ?_
        obtain ⟨v, h1, h2⟩ := results_ok (dl := []) (a := { a' with defers := [] }) hG ⟨hA'.tmps, rfl, hR2⟩ hres
        exact ⟨v, h1, ρ', v, rfl, hx.trans hx2 l1, h2, hR2⟩
      rcases he with rfl | rfl
      · exact this
      · exact this
  split at h
  · cases h
  · cases h
  · rename_i e s hne hrun
    split at h
    · cases h
    rename_i H1 htake
    split at h
    case h_2 => cases h
    rename_i xs hres
    cases h
    refine key e s ?_ hrun htake hres
    cases e with
    | normal => exact .inl rfl
    | ret => exact .inr rfl
    | exit id => exact (hne id rfl).elim

theorem denL_fold : ∀ (ps : List Tmp) (args : List SVal) (vs : List Value) {l : List SVal} {ts : Array Value}, denL ρ args = some vs → denL ρ l = some ts.toList →
    denL ρ ((ps.zip args).foldl (fun l x => l.set x.1 x.2) l) = some (((ps.zip vs).foldl (fun (tmps : Array Value) (x : Tmp × Value) => tmps.setIfInBounds x.1 x.2) ts).toList)
  | [], args, vs, l, ts, ha, hl => by simpa using hl
  | p :: ps, [], vs, l, ts, ha, hl => by
    simp only [denL, Option.some.injEq] at ha
    subst ha
    simpa using hl
  | p :: ps, x :: xs, vs, l, ts, ha, hl => by
    obtain ⟨y, ys, h1, h2, rfl⟩ := denL_cons.1 ha
    simp only [List.zip_cons_cons, List.foldl_cons]
    refine denL_fold ps xs ys h2 ?_
    rw [Array.toList_setIfInBounds]
    exact denL_set h1 hl p

theorem round_ok {G : Glob} {cf : CallF} (hcf : CallOk P G cf) (hN : NamesOk P) (hm : P.follows .mixedOrders = true) {fuel : Nat} {i : Nat} {args : List SVal} {H : SHeap} {x : SVal} {H' : SHeap}
    (h : round P G cf fuel i args H = some (x, H')) : H.length ≤ H'.length ∧
    ∀ w0 ρ w p (vs : Array Value), G.holds w0 → Rel w0 ρ H w → ρ i = some p → denL ρ args = some vs.toList → ∃ r : Loop, w.heap[p.b]? = some (.loop r) ∧ vs.size = r.params.size ∧
      RoundIn Fence.wide 0 P p.b r.fn ((r.params.zip vs).foldl (fun tmps (t, a) => tmps.setIfInBounds t a) r.tmps) r.assign r.body w fun e w' => ∃ ρ' v, e = .returned v ∧ Ext ρ H ρ' H' ∧ den ρ' x = some v ∧ Rel w0 ρ' H' w' := by
  unfold round at h
  split at h
  case h_2 => cases h
  rename_i st0 pend0 tm ps assign bd dj hH
  split at h
  case isFalse => cases h
  rename_i hargs
  split at h
  case h_2 => cases h
  rename_i s1 hs1
  split at h
  case h_2 => cases h
  rename_i pend1 tm1 ps1 as1 bd1 dj1 hH1
  split at h
  case h_2 => cases h
  rename_i e s3 hs3
  split at h
  case h_2 => cases h
  rename_i st3 pend3 tm3 ps3 as3 bd3 dj3 hH3
  cases h
  obtain ⟨l1, k1⟩ := runCode_ok hcf hN hm _ _ _ _ hs1
  obtain ⟨l3, k3⟩ := runCode_ok hcf hN hm _ _ _ _ hs3
  simp only [List.length_set] at l3
  refine ⟨by simp only [List.length_set]; exact Nat.le_trans l1 l3, fun w0 ρ w p vs hG hR hp hv => ?_⟩
  obtain ⟨o', ob, g1, g2, g3⟩ := hR.obj i p hp
  rw [hH] at g1
  cases g1
  obtain ⟨fn0, ts, pd, f1, f2, rfl⟩ := g3
  have hlen := denL_length hv
  simp only [Array.length_toList] at hlen
  refine ⟨_, g2, by simp only; omega, roundIn_of_wpIn trivial ?_⟩
  simp only
  refine k1 (F := Fence.wide.inRound p.b) (dl := []) (ρ := ρ) ⟨p, hp, rfl⟩ rfl hG ⟨?_, rfl, hR⟩ fun ρ1 dl1 a1 w1 hx1 hM1 hA1 => ?_
  · simp only
    have := denL_fold (ρ := ρ) ps.toList args vs.toList (l := tm) (ts := ts.toArray) hv (by simpa using f1)
    rw [this]
    rw [← Array.foldl_toList, Array.toList_zip]
  · have hp1 : ρ1 i = some p := by rw [(hx1 i (hR.lt hp)).1]; exact hp
    obtain ⟨o', ob, g1, g2, g3⟩ := hA1.rel.obj i p hp1
    rw [hH1] at g1
    cases g1
    obtain ⟨fn1, ts1, pd1, e1, e2, rfl⟩ := g3
    have hlt : p.b < w1.heap.size := (hA1.rel.fresh _ _ hp1).2
    refine ⟨_, run_beginRound g2 rfl, ?_⟩
    have hR2 : Rel w0 ρ1 (s1.1.2.set i (.loop .busy pend1 tm1 ps1 as1 bd1 dj1)) (w1.putObj p.b (.loop { state := .busy, pending := pend1, fn := fn1, tmps := ts1.toArray, params := ps1, assign := as1, body := bd1, defers := pd1.b })) :=
      hA1.rel.setObj hp1 (hA1.rel.own hp1 hH1 (fun _ _ _ _ e => by cases e) (fun e => by cases e)) ⟨fn1, ts1, pd1, e1, e2, rfl⟩ rfl rfl rfl (by simp) (fun k hk => World.putObj_heap_other hk) (World.putObj_heap_same hlt)
    refine k3 (F := Fence.wide.inRound p.b) (dl := dl1) (ρ := ρ1) ⟨p, hp1, rfl⟩ hM1 hG ⟨hA1.tmps, hA1.defers, hR2⟩ fun ρ3 dl3 a3 w3 hx3 hM3 hA3 => ?_
    have hp3 : ρ3 i = some p := by rw [(hx3 i (by simp only [List.length_set]; exact hA1.rel.lt hp1)).1]; exact hp1
    obtain ⟨o', ob, g1, g2, g3⟩ := hA3.rel.obj i p hp3
    rw [hH3] at g1
    cases g1
    obtain ⟨fn3, ts3, pd3, e1, e2, rfl⟩ := g3
    have hlt : p.b < w3.heap.size := (hA3.rel.fresh _ _ hp3).2
    have fin : ∀ jump : Option Code, ∃ v w', (Instr.endRound p.b jump).run P w3 = .ok v w' ∧ ∃ ρ' v', Ending.returned v = .returned v' ∧ Ext ρ H ρ' (s3.1.2.set i (.loop (if jump.isNone then .ready else .done) jump tm3 ps3 as3 bd3 dj3)) ∧
        den ρ' (.v (.bool jump.isNone)) = some v' ∧ Rel w0 ρ' (s3.1.2.set i (.loop (if jump.isNone then .ready else .done) jump tm3 ps3 as3 bd3 dj3)) w' := fun jump => by
      refine ⟨_, _, run_endRound jump g2, ρ3, _, rfl, ?_, by simp [den], ?_⟩
      · exact ((hx1.trans ((Ext.set hp1 _).trans hx3 (by simp)) l1).trans (Ext.set hp3 _) (Nat.le_trans l1 l3))
      · exact hA3.rel.setObj hp3 (hA3.rel.own hp3 hH3 (fun _ _ _ _ e => by cases e) (fun e => by cases e)) ⟨fn3, ts3, pd3, e1, e2, rfl⟩ rfl rfl rfl (by simp) (fun k hk => World.putObj_heap_other hk) (World.putObj_heap_same hlt)
    cases e with
    | normal => exact fin none
    | ret => exact fin (some .ret)
    | exit id => exact fin (some (.exit id))

theorem call_ok' {G : Glob} {O : Orac} (hO : O.holds P G) (hN : NamesOk P) (hm : P.follows .mixedOrders = true) {fuel : Nat} : ∀ n, CallOk P G (call P G O fuel n)
  | 0 => ⟨(fun f args H x H' h => by cases h), (fun i args H x H' h => by cases h)⟩
  | n + 1 => by
    refine ⟨fun f args H x H' h => ?_, fun i args H x H' h => ?_⟩
    · simp only [call] at h
      split at h
      · rename_i y hy
        cases h
        refine ⟨Nat.le_refl _, fun w0 ρ w us hG hR hus => ?_⟩
        obtain ⟨v, hd, hc⟩ := hO f args x hy ρ us w (hG.later hR.below) hus
        refine hc.mono ?_
        rintro e w' ⟨rfl, hb⟩
        exact ⟨ρ, v, rfl, Ext.refl _ _, hd, hR.later hb⟩
      · exact body_ok (call_ok' hO hN hm n) hN hm h
    · simp only [call] at h
      exact round_ok (call_ok' hO hN hm n) hN hm h

/-- **A call at values that bear no name: the run of the symbolic machine is what the call does, in every world.** -/
theorem calls_of_run {G : Glob} {O : Orac} (hO : O.holds P G) (hN : NamesOk P) (hm : P.follows .mixedOrders = true) {fuel n : Nat} {f : FuncId} {xs : List SVal} {y : SVal}
    (h : (call P G O fuel n (.fn f) xs []).map (fun r => nrm r.1) = some y) (hy : nf y = true) {ρ : Ren} {vs : Array Value} (hxs : nfL xs = true) (hvs : denL ρ xs = some vs.toList) {w : World} (hG : G.holds w) :
    ∃ v, den ρ y = some v ∧ Calls P f vs w fun e w' => e = .returned v ∧ Below w.heap.size w w' := by
  cases hc : call P G O fuel n (.fn f) xs [] with
  | none => simp [hc] at h
  | some r =>
    obtain ⟨x, H'⟩ := r
    simp only [hc, Option.map_some, Option.some.injEq] at h
    have h1 := ((call_ok' hO hN hm n).fn _ _ _ _ _ hc).2 w (fun _ => none) w vs hG (Rel.start w) (by rw [denL_nf xs hxs (ρ' := ρ)]; exact hvs)
    have key : ∀ {ρ' : Ren} {u : Value}, den ρ' x = some u → den ρ y = some u := fun {ρ' u} hd => by
      have := den_nrm hd
      rw [h] at this
      rw [den_nf y hy (ρ' := ρ')]
      exact this
    cases hd : den ρ y with
    | none =>
      refine ⟨undef, ?_, h1.mono ?_⟩
      · exfalso
        obtain ⟨e, w', _, ⟨ρ', u, _, _, hd', _⟩, _⟩ := h1 []
        rw [key hd'] at hd
        cases hd
      · rintro e w' ⟨ρ', u, rfl, _, hd', hR⟩
        rw [key hd'] at hd
        cases hd
    | some v =>
      refine ⟨v, rfl, h1.mono ?_⟩
      rintro e w' ⟨ρ', u, rfl, _, hd', hR⟩
      have := key hd'
      rw [hd] at this
      exact ⟨by rw [Option.some.inj this], hR.below⟩

end

/-- No symbols. -/
@[reducible] def noEnv : Env where
  val _ := .bool false
  flat _ := trivial
  fact _ _ := none
  key _ _ := none
  keyOk _ _ _ h := by cases h

end
end Go.RX
