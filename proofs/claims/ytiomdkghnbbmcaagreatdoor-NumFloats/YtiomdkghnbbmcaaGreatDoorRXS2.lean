import Derived.Test.YtiomdkghnbbmcaaGreatDoorRXS
import Derived.Laws.StructEq
namespace Go.RX
noncomputable section
open Go.RowKit (Below)

theorem run_und {P : Program} {w : World} {t : TypeId} {d : TypeDesc} (h : P.underlying t = some d) : (underlying t).run P w = .ok d w := by
  unfold underlying
  show (Sem.program .pure >>= _ : Sem TypeDesc).run P w = _
  rw [run_bind_pure (a := P) rfl]
  simp only [h]
  rfl

theorem run_binop {P : Program} {w : World} {f : Operand → Value} {o : Oper} {op : BinOp} {ty : TypeId} {x y : Operand} {yt : TypeId} {v : Value} (ho : o.op = .binOp op ty x y yt)
    (h1 : (eqGuard op ty x y (f x) (f y)).run P w = .ok () w) (h2 : (Go.binOp op ty (f x) (f y)).run P w = .ok v w) : (execOp f o).run P w = .ok (.value v) w := by
  unfold execOp
  simp only [ho]
  show ((do pure (Next.value (← (do eqGuard op ty x y (f x) (f y); Go.binOp op ty (f x) (f y) : Sem Value))) : Sem Next)).run P w = _
  refine run_bind_ok (a := v) (w' := w) ?_
  rw [run_bind_ok h1]
  exact h2

theorem guard_int {P : Program} {w : World} {op : BinOp} {ty : TypeId} {x y : Operand} {k k' : IntKind} {a b : Int} : (eqGuard op ty x y (.int k a) (.int k' b)).run P w = .ok () w := by
  cases op <;> rfl

theorem binop_int {P : Program} {w : World} {op : BinOp} {ty : TypeId} {k : IntKind} {a b : Int} (h : isCmp op = true) : (Go.binOp op ty (.int k a) (.int k b)).run P w = .ok (.bool (cmpI op a b)) w := by
  cases op <;> first | (simp [isCmp] at h; done) | (simp [Go.binOp, Op.intCmp, cmpI])

theorem binop_arith {P : Program} {w : World} {op : BinOp} {ty : TypeId} {k : IntKind} {a b : Int} (h : isArith op = true) : (Go.binOp op ty (.int k a) (.int k b)).run P w = .ok (.int k (binI op k a b)) w := by
  cases op <;> first | (simp [isArith] at h; done) | (simp [Go.binOp, Op.intArith, Op.intBits, binI])

theorem binop_div {P : Program} {w : World} {op : BinOp} {ty : TypeId} {k : IntKind} {a b : Int} (h1 : isCmp op = false) (h2 : isArith op = false) (h3 : op ≠ .shl) (h4 : op ≠ .shr) (hb : b ≠ 0) :
    (Go.binOp op ty (.int k a) (.int k b)).run P w = .ok (.int k (binI op k a b)) w := by
  cases op <;> first | (simp [isCmp] at h1; done) | (simp [isArith] at h2; done) | (exact absurd rfl h3) | (exact absurd rfl h4) | (simp [Go.binOp, Op.intDiv, binI, hb])

theorem binop_shift {P : Program} {w : World} {op : BinOp} {ty : TypeId} {k k' : IntKind} {a b : Int} (h : op = .shl ∨ op = .shr) (hb : 0 ≤ b) :
    (Go.binOp op ty (.int k a) (.int k' b)).run P w = .ok (.int k (shI op k a b)) w := by
  have : ¬ b < 0 := by omega
  rcases h with rfl | rfl <;> simp [Go.binOp, Op.shift, shI, this]

theorem nonneg_ok {ρ : Nat → Int} {K : Know} (hL : K.ok ρ) {c : IE} (h : nonneg K c = true) : 0 ≤ c.ev ρ := by
  unfold nonneg at h
  split at h
  · rename_i hr
    have := (cmpS_ok hL hr).2
    simpa [cmpI, IE.ev] using this
  · cases h

theorem nonzero_ok {ρ : Nat → Int} {K : Know} (hL : K.ok ρ) {c : IE} (h : nonzero K c = true) : c.ev ρ ≠ 0 := by
  unfold nonzero at h
  split at h
  · rename_i hr
    have := (cmpS_ok hL hr).2
    simpa [cmpI, IE.ev] using this
  · cases h

section
variable (P : Program) (nmv : Nat → Value) (hnm : ∀ i, Flat (nmv i)) (ρ : Nat → Int) (K : Know) (extra : Op → List SVal → Option SVal)

theorem ieOf_den {x : SVal} {k : IntKind} {a : IE} (h : ieOf x = some (k, a)) (r : Ren) : @den (envS P nmv hnm ρ K extra) r x = some (.int k (a.ev ρ)) := by
  letI : Env := envS P nmv hnm ρ K extra
  unfold ieOf at h
  split at h
  · simp only [Option.some.injEq, Prod.mk.injEq] at h
    obtain ⟨rfl, rfl⟩ := h
    rfl
  · simp only [Option.some.injEq, Prod.mk.injEq] at h
    obtain ⟨rfl, rfl⟩ := h
    rfl
  · cases h

theorem binS_ok (hL : K.ok ρ) {b : BinOp} {k k' : IntKind} {a c : IE} {y : SVal} (h : binS K b k a k' c = some y) (r : Ren) (w : World) (ty : TypeId) :
    ∃ v, (Go.binOp b ty (.int k (a.ev ρ)) (.int k' (c.ev ρ))).run P w = .ok v w ∧ @den (envS P nmv hnm ρ K extra) r y = some v := by
  letI : Env := envS P nmv hnm ρ K extra
  unfold binS at h
  split at h
  · split at h
    · rename_i hn; cases h; exact ⟨_, binop_shift (.inl rfl) (nonneg_ok hL hn), rfl⟩
    · cases h
  · split at h
    · rename_i hn; cases h; exact ⟨_, binop_shift (.inr rfl) (nonneg_ok hL hn), rfl⟩
    · cases h
  · rename_i h3 h4
    split at h
    case isFalse => cases h
    rename_i hk
    subst hk
    split at h
    · rename_i hc
      split at h
      · rename_i rr hr
        cases h
        have := cmpS_ok hL hr
        exact ⟨_, binop_int hc, by rw [this.2]; rfl⟩
      · cases h
    · rename_i hc
      split at h
      · rename_i ha; cases h; exact ⟨_, binop_arith ha, rfl⟩
      · rename_i ha
        split at h
        · rename_i hz
          cases h
          exact ⟨_, binop_div (by simpa using hc) (by simpa using ha) h3 h4 (nonzero_ok hL hz), rfl⟩
        · cases h

def flatTy : TypeDesc → Bool
  | .struct _ | .array _ _ => false
  | _ => true

theorem run_part_flat {w : World} {t : TypeId} {d : TypeDesc} (hu : P.underlying t = some d) (hd : flatTy d = true) {cs : Array Value} {off : Nat} {v : Value} (hv : cs[off]? = some v) :
    (part t cs off).run P w = .ok v w := by
  unfold part
  have h1 : (isAgg t).run P w = .ok false w := by
    unfold isAgg
    rw [run_bind_ok (run_und hu)]
    cases d <;> first | rfl | (simp [flatTy] at hd; done)
  rw [run_bind_ok h1]
  simp only [Bool.false_eq_true, if_false, hv]
  rfl

theorem eqCell_ok (hL : K.ok ρ) {t : TypeId} {x y : Option SVal} {u : Option Bool} (h : eqCell K (P.underlying t) x y = some u) (r : Ren) (w : World) (d : Nat) :
    ∃ x' y' a b e, x = some x' ∧ y = some y' ∧ @den (envS P nmv hnm ρ K extra) r x' = some a ∧ @den (envS P nmv hnm ρ K extra) r y' = some b ∧ (match P.underlying t with | some (.struct _) | some (.array _ _) | none => False | _ => True) ∧
      (Op.equalIn (d + 1) t a b).run P w = .ok e w ∧ ∀ e', u = some e' → e = e' := by
  letI : Env := envS P nmv hnm ρ K extra
  unfold eqCell at h
  split at h
  · rename_i k x y hu
    split at h
    case h_2 => cases h
    rename_i j a j' c hx hy
    split at h
    case isFalse => cases h
    rename_i hj
    subst hj
    refine ⟨x, y, _, _, _, rfl, rfl, ieOf_den P nmv hnm ρ K extra hx r, ieOf_den P nmv hnm ρ K extra hy r, by rw [hu]; trivial, run_equalIn_int w d t j k _ _ hu, fun e' he => ?_⟩
    cases h
    exact (cmpS_ok hL he).2
  · rename_i a b hu
    cases h
    exact ⟨_, _, .bool a, .bool b, _, rfl, rfl, rfl, rfl, by rw [hu]; trivial, run_equalIn_bool w d t a b hu, fun e' he => by cases he; rfl⟩
  · rename_i a b hu
    cases h
    exact ⟨_, _, .string a, .string b, _, rfl, rfl, rfl, rfl, by rw [hu]; trivial, run_equalIn_string w d t a b hu, fun e' he => by cases he; rfl⟩
  · cases h

theorem eqCells_ok (hL : K.ok ρ) {xs ys : List SVal} {as bs : Array Value} {r : Ren} (hx : @denL (envS P nmv hnm ρ K extra) r xs = some as.toList) (hy : @denL (envS P nmv hnm ρ K extra) r ys = some bs.toList) (w : World) (d : Nat) :
    ∀ {fs : List Field} {e : Bool}, eqCells P K xs ys fs = some e → (Op.eqFields (d + 1) as bs fs).run P w = .ok e w
  | [], e, h => by cases h; rfl
  | f :: fs, e, h => by
    letI : Env := envS P nmv hnm ρ K extra
    simp only [eqCells] at h
    by_cases hn : f.name ≠ "_"
    · rw [if_pos hn] at h
      have step : ∀ u, eqCell K (P.underlying f.type) xs[f.offset]? ys[f.offset]? = some u → ∃ e1, (∀ e', u = some e' → e1 = e') ∧ (Op.eqFields (d + 1) as bs (f :: fs)).run P w = (if (!e1) = true then .ok false w else (Op.eqFields (d + 1) as bs fs).run P w) := by
        intro u hu
        obtain ⟨x', y', a, b, e1, hx', hy', da, db, hd, hrun, he⟩ := eqCell_ok P nmv hnm ρ K extra hL hu r w d
        obtain ⟨a1, ha1, ha2⟩ := denL_get hx _ _ hx'
        obtain ⟨b1, hb1, hb2⟩ := denL_get hy _ _ hy'
        rw [da] at ha2
        rw [db] at hb2
        cases ha2
        cases hb2
        refine ⟨e1, he, ?_⟩
        simp only [Op.eqFields]
        rw [if_pos hn]
        cases hh : P.underlying f.type with
        | none => rw [hh] at hd; exact hd.elim
        | some dd =>
          have hd' : flatTy dd = true := by
            rw [hh] at hd
            cases dd <;> first | rfl | exact hd.elim
          rw [run_bind_ok (run_part_flat P hh hd' (by simpa using ha1)), run_bind_ok (run_part_flat P hh hd' (by simpa using hb1)), run_bind_ok hrun]
          cases e1 <;> rfl
      split at h
      · rename_i hu
        obtain ⟨e1, he, hr⟩ := step _ hu
        rw [hr, he true rfl]
        simpa using eqCells_ok hL hx hy w d h
      · rename_i hu
        cases h
        obtain ⟨e1, he, hr⟩ := step _ hu
        rw [hr, he false rfl]
        rfl
      · rename_i hu
        obtain ⟨e1, he, hr⟩ := step _ hu
        split at h
        · rename_i hf
          cases h
          rw [hr]
          cases e1
          · rfl
          · simpa using eqCells_ok hL hx hy w d hf
        · cases h
      · cases h
    · rw [if_neg hn] at h
      simp only [Op.eqFields]
      rw [if_neg hn]
      exact eqCells_ok hL hx hy w d h

theorem cellsS_ok {x : SVal} {l : List SVal} (h : cellsS x = some l) (r : Ren) {v : Value} (hv : @den (envS P nmv hnm ρ K extra) r x = some v) : ∃ as : Array Value, v = .agg as ∧ @denL (envS P nmv hnm ρ K extra) r l = some as.toList := by
  letI : Env := envS P nmv hnm ρ K extra
  unfold cellsS at h
  split at h
  · cases h
    simp only [den] at hv
    split at hv
    · rename_i vs hvs
      cases hv
      exact ⟨vs.toArray, rfl, by simpa using hvs⟩
    · cases hv
  · cases h
    simp only [den, Option.some.injEq] at hv
    exact ⟨_, hv.symm, denL_map_v _⟩
  · cases h

theorem eqAgg_ok (hL : K.ok ρ) {ty : TypeId} {x y : SVal} {e : Bool} (h : eqAgg P K ty x y = some e) {r : Ren} {a b : Value} (ha : @den (envS P nmv hnm ρ K extra) r x = some a) (hb : @den (envS P nmv hnm ρ K extra) r y = some b) (w : World) :
    ∃ as bs, a = .agg as ∧ b = .agg bs ∧ P.eqGuardType P.depth ty = false ∧ (Op.equalIn 10000 ty (.agg as) (.agg bs)).run P w = .ok e w := by
  unfold eqAgg at h
  split at h
  case h_2 => cases h
  rename_i fs xs ys hu hx hy
  split at h
  case isFalse => cases h
  rename_i hc
  simp only [Bool.and_eq_true, Bool.not_eq_true'] at hc
  obtain ⟨as, rfl, h1⟩ := cellsS_ok P nmv hnm ρ K extra hx r ha
  obtain ⟨bs, rfl, h2⟩ := cellsS_ok P nmv hnm ρ K extra hy r hb
  refine ⟨as, bs, rfl, rfl, hc.2, ?_⟩
  have hf : P.fieldsOf ty = fs := by simp only [Program.fieldsOf, hu]
  rw [show (10000 : Nat) = 9998 + 1 + 1 from rfl, run_equalIn_agg w (9998 + 1) ty as bs (by rw [hf]; exact hu) hc.1, hf]
  exact eqCells_ok P nmv hnm ρ K extra hL h1 h2 w 9998 h

/-- What an extra table of facts has to keep. -/
def ExtraOk : Prop := ∀ (op : Op) (xs : List SVal) (y : SVal), extra op xs = some y → ∀ (r : Ren) (f : Operand → Value) (o : Oper) (w : World), o.op = op → @denL (envS P nmv hnm ρ K extra) r xs = some (op.operands.toList.map f) →
    ∃ v, (execOp f o).run P w = .ok (.value v) w ∧ @den (envS P nmv hnm ρ K extra) r y = some v

theorem noExtra_ok : ExtraOk P nmv hnm ρ K (fun _ _ => none) := fun _ _ _ h => by cases h

theorem denL_two {E : Env} {r : Ren} {x y : SVal} {a b : Value} (h : @denL E r [x, y] = some [a, b]) : @den E r x = some a ∧ @den E r y = some b := by
  obtain ⟨u, l, e1, e2, e3⟩ := (@denL_cons E _ _ _ _).1 h
  obtain ⟨u', l', e4, e5, e6⟩ := (@denL_cons E _ _ _ _).1 e2
  simp only [List.cons.injEq] at e3
  obtain ⟨rfl, rfl⟩ := e3
  simp only [List.cons.injEq] at e6
  obtain ⟨rfl, rfl⟩ := e6
  exact ⟨e1, e4⟩

theorem denL_one {E : Env} {r : Ren} {x : SVal} {a : Value} (h : @denL E r [x] = some [a]) : @den E r x = some a := by
  obtain ⟨u, l, e1, e2, e3⟩ := (@denL_cons E _ _ _ _).1 h
  simp only [List.cons.injEq] at e3
  obtain ⟨rfl, rfl⟩ := e3
  exact e1

theorem namesOkS (names : ∀ (f : FuncId) (fn : Func), P.funcs[f]? = some fn → fn.body.isSome = true → (fn.name == "runtime.NumGoroutine") = false) (hL : K.ok ρ) (hE : ExtraOk P nmv hnm ρ K extra) :
    @NamesOk (envS P nmv hnm ρ K extra) P :=
  letI : Env := envS P nmv hnm ρ K extra
  { names := names
    facts := by
      intro op xs y h r f o w ho hd
      change factS P K extra op xs = some y at h
      have hX := hE op xs y
      unfold factS at h
      split at h
      · rename_i b ty x1 x2 yt
        split at h
        case h_2 => cases h
        rename_i x y'
        have hd2 : denL r [x, y'] = some [f x1, f x2] := by simpa [Op.operands] using hd
        obtain ⟨d1, d2⟩ := denL_two hd2
        split at h
        · rename_i k a k' c hx hy
          have e1 := ieOf_den P nmv hnm ρ K extra hx r
          have e2 := ieOf_den P nmv hnm ρ K extra hy r
          rw [d1] at e1
          rw [d2] at e2
          obtain ⟨v, hv, hv2⟩ := binS_ok P nmv hnm ρ K extra hL h r w ty
          refine ⟨v, run_binop ho ?_ ?_, hv2⟩
          · rw [Option.some.inj e1, Option.some.inj e2]; exact guard_int
          · rw [Option.some.inj e1, Option.some.inj e2]; exact hv
        · split at h
          · split at h
            · rename_i e he
              cases h
              obtain ⟨as, bs, ha, hb, hg, hr⟩ := eqAgg_ok P nmv hnm ρ K extra hL he d1 d2 w
              refine ⟨.bool e, run_binop ho ?_ ?_, rfl⟩
              · rw [ha, hb]; exact run_eqGuard_agg w _ ty x1 x2 as bs hg
              · rw [ha, hb, run_eql_struct, hr]; rfl
            · exact hX h r f o w ho hd
          · split at h
            · rename_i e he
              cases h
              obtain ⟨as, bs, ha, hb, hg, hr⟩ := eqAgg_ok P nmv hnm ρ K extra hL he d1 d2 w
              refine ⟨.bool (!e), run_binop ho ?_ ?_, rfl⟩
              · rw [ha, hb]; exact run_eqGuard_agg w _ ty x1 x2 as bs hg
              · rw [ha, hb, run_neq_struct, hr]; rfl
            · exact hX h r f o w ho hd
          · exact hX h r f o w ho hd
      · rename_i u ty x1
        split at h
        case h_2 => cases h
        rename_i x
        have hd2 : denL r [x] = some [f x1] := by simpa [Op.operands] using hd
        have d1 := denL_one hd2
        split at h
        · rename_i k a hx
          have e1 := ieOf_den P nmv hnm ρ K extra hx r
          rw [d1] at e1
          have e1 := Option.some.inj e1
          have hrun : ∀ v, (Op.unary u (f x1)).run P w = .ok v w → (execOp f o).run P w = .ok (.value v) w := fun v hv => by
            unfold execOp
            simp only [ho]
            exact run_bind_ok hv
          split at h
          · cases h
            exact ⟨_, hrun (.int k (binI .sub k 0 (a.ev ρ))) (by rw [e1]; rfl), rfl⟩
          · cases h
            refine ⟨_, hrun (.int k (binI .xor k (if k.signed then -1 else k.max) (a.ev ρ))) (by rw [e1]; rfl), rfl⟩
          · cases h
        · exact hX h r f o w ho hd
      · rename_i src dst x1
        split at h
        case h_2 => cases h
        rename_i x
        have hd2 : denL r [x] = some [f x1] := by simpa [Op.operands] using hd
        have d1 := denL_one hd2
        split at h
        · rename_i k a hx
          have e1 := ieOf_den P nmv hnm ρ K extra hx r
          rw [d1] at e1
          have e1 := Option.some.inj e1
          split at h
          · rename_i sd k' hs hk
            cases h
            refine ⟨.int k' (k'.wrap (a.ev ρ)), ?_, rfl⟩
            unfold execOp
            simp only [ho]
            refine run_bind_ok (a := Value.int k' (k'.wrap (a.ev ρ))) (w' := w) ?_
            unfold convert
            rw [run_bind_ok (run_und hs), run_bind_ok (run_und hk), e1]
            rfl
          · exact hX h r f o w ho hd
        · exact hX h r f o w ho hd
      · exact hX h r f o w ho hd }
end
end
end Go.RX
