import Derived.Test.YtiomdkghnbbmcaaGreatDoorRX5
import Derived.Still
namespace Go.RX
noncomputable section
open Go.RowKit (Below)

variable [Env]

section
variable {P : Program} {F : Fence} {dl : List Deferred} {w0 w : World} {ρ : Ren} {H : SHeap} {t : List SVal} {a : Act} {o : Oper}

/-! ### What an operation looks at -/
 omit [Env] in
theorem pureOp_congr {t t' : List SVal} (h : ∀ x ∈ o.op.operands, seval t x = seval t' x) : pureOp P t o = pureOp P t' o := by
  unfold pureOp
  have h1 : o.op.operands.toList.all (fun x => (vOf (seval t x)).isSome) = o.op.operands.toList.all (fun x => (vOf (seval t' x)).isSome) := by
    rw [Bool.eq_iff_iff]
    simp only [List.all_eq_true]
    constructor
    · intro hh x hx; rw [← h x (by simpa using hx)]; exact hh x hx
    · intro hh x hx; rw [h x (by simpa using hx)]; exact hh x hx
  rw [h1]
  by_cases hs : notSelect o.op = true
  · have h2 : execOp (vEval t) o = execOp (vEval t') o := execOp_congr o (fun cs b e => by rw [e] at hs; cases hs) fun x hx => by unfold vEval; rw [h x hx]
    rw [h2]
  · simp only [Bool.not_eq_true] at hs
    simp [hs]

 omit [Env] in
theorem orPure_congr {t t' : List SVal} (h : ∀ x ∈ o.op.operands, seval t x = seval t' x) {e e' : Option PRes} (he : e = e') : orPure P t o e = orPure P t' o e' := by
  subst he
  unfold orPure
  rw [pureOp_congr h]

 omit [Env] in
theorem sevalL_congr {t t' : List SVal} {l : List Operand} (h : ∀ x ∈ l, seval t x = seval t' x) : sevalL t l = sevalL t' l := List.map_congr_left h

 omit [Env] in
theorem optV_congr {t t' : List SVal} {x : Option Operand} (h : ∀ y ∈ x.toList, seval t y = seval t' y) : optV t x = optV t' x := by
  cases x with
  | none => rfl
  | some y => simp only [optV]; rw [h y (by simp)]

 omit [Env] in
theorem partsOf_congr {t t' : List SVal} {parts : List (Nat × Operand)} (h : ∀ x ∈ parts.map (·.2), seval t x = seval t' x) : partsOf t parts = partsOf t' parts := by
  unfold partsOf
  refine List.map_congr_left fun p hp => ?_
  rw [h p.2 (List.mem_map.2 ⟨p, hp, rfl⟩)]

 omit [Env] in
theorem opP0_congr {t t' : List SVal} (h : ∀ x ∈ o.op.operands, seval t x = seval t' x) : opP0 P t o = opP0 P t' o := by
  have hp := pureOp_congr (P := P) h
  have ho := fun {e e' : Option PRes} (he : e = e') => orPure_congr (P := P) h he
  obtain ⟨dst, op, type, pos, after, guard⟩ := o
  cases op with
  | move x => simp only [opP0]; rw [h x (by simp [Op.operands])]
  | assign x => simp only [opP0]; rw [h x (by simp [Op.operands])]
  | fieldAddr s x f => simp only [opP0]; exact ho (by rw [h x (by simp [Op.operands])])
  | indexAddr ty x ix => simp only [opP0]; exact ho (by rw [h x (by simp [Op.operands]), h ix (by simp [Op.operands])])
  | slice ty x lo hi mx =>
    simp only [opP0]
    rw [optV_congr (x := lo) (fun y hy => h y (by simp [Op.operands]; simp at hy; simp [hy])), optV_congr (x := hi) (fun y hy => h y (by simp [Op.operands]; simp at hy; simp [hy])),
      optV_congr (x := mx) (fun y hy => h y (by simp [Op.operands]; simp at hy; simp [hy]))]
    split
    · exact ho (by rw [h x (by simp [Op.operands])])
    · rfl
  | field s x f => simp only [opP0]; exact ho (by rw [h x (by simp [Op.operands])])
  | index ty x ix => simp only [opP0]; exact ho (by rw [h x (by simp [Op.operands]), h ix (by simp [Op.operands])])
  | extract x ix => simp only [opP0]; exact ho (by rw [h x (by simp [Op.operands])])
  | build ty parts =>
    simp only [opP0, buildE]
    rw [partsOf_congr (t := t) (t' := t') (fun x hx => h x (by simpa [Op.operands] using hx))]
  | nilCheck x => simp only [opP0]; exact ho (by rw [h x (by simp [Op.operands])])
  | makeFunc fn fs cs =>
    simp only [opP0]
    rw [sevalL_congr (l := fs.toList) (fun x hx => h x (by simp [Op.operands]; simp at hx; simp [hx])), sevalL_congr (l := cs.toList) (fun x hx => h x (by simp [Op.operands]; simp at hx; simp [hx]))]
  | makeInterface ty x => simp only [opP0]; exact ho (by rw [h x (by simp [Op.operands])])
  | binOp op ty x y yt => simp only [opP0]; exact ho (by rw [h x (by simp [Op.operands]), h y (by simp [Op.operands])])
  | call c =>
    obtain ⟨callee, args, argTypes⟩ := c
    simp only [opP0]
    cases callee with
    | value f =>
      simp only
      refine ho ?_
      unfold callE
      rw [h f (by simp [Op.operands, Call.operands]), sevalL_congr (l := args.toList) (fun x hx => h x (by simp [Op.operands, Call.operands]; simp at hx; simp [hx]))]
    | invoke r m => rfl
    | builtin b =>
      simp only
      refine ho ?_
      unfold lenOpE
      split
      · rename_i x ty' hargs _
        have : x ∈ args.toList := by rw [hargs]; simp
        rw [h x (by simp [Op.operands, Call.operands]; simpa using this)]
      · rfl
  | defer c => rfl
  | _ => exact hp

theorem factOf_congr {t t' : List SVal} (h : ∀ x ∈ o.op.operands, seval t x = seval t' x) : factOf t o = factOf t' o := by
  have e : o.op.operands.toList.map (seval t) = o.op.operands.toList.map (seval t') := List.map_congr_left fun x hx => h x (by simpa using hx)
  unfold factOf
  rw [e]

theorem opP_congr {t t' : List SVal} (h : ∀ x ∈ o.op.operands, seval t x = seval t' x) : opP P t o = opP P t' o := by
  unfold opP
  rw [opP0_congr h, factOf_congr h]

theorem opH_congr {G : Glob} {t t' : List SVal} (h : ∀ x ∈ o.op.operands, seval t x = seval t' x) : opH P G t H o = opH P G t' H o := by
  obtain ⟨dst, op, type, pos, after, guard⟩ := o
  cases op with
  | box e x => simp only [opH]; rw [h x (by simp [Op.operands])]
  | load ty x => simp only [opH]; rw [h x (by simp [Op.operands])]
  | store ty p x => simp only [opH]; rw [h p (by simp [Op.operands]), h x (by simp [Op.operands])]
  | buildSlice ty len parts =>
    simp only [opH, buildSliceE]
    rw [partsOf_congr (t := t) (t' := t') (fun x hx => h x (by simpa [Op.operands] using hx))]
  | makeSlice ty l c => simp only [opH]; rw [h l (by simp [Op.operands]), h c (by simp [Op.operands])]
  | convert src dst x => simp only [opH]; rw [h x (by simp [Op.operands])]
  | range ty x => simp only [opH]; rw [h x (by simp [Op.operands])]
  | next x s => simp only [opH]; rw [h x (by simp [Op.operands])]
  | mapUpdate ty m k x => simp only [opH]; rw [h m (by simp [Op.operands]), h k (by simp [Op.operands]), h x (by simp [Op.operands])]
  | lookup ty x k ok => simp only [opH]; rw [h x (by simp [Op.operands]), h k (by simp [Op.operands])]
  | call c =>
    obtain ⟨callee, args, argTypes⟩ := c
    simp only [opH]
    split
    · unfold copyOpE
      split
      · rename_i d s ty' ty2 hargs _
        have h1 : d ∈ args.toList := by rw [hargs]; simp
        have h2 : s ∈ args.toList := by rw [hargs]; simp
        rw [h d (by simp [Op.operands, Call.operands]; simpa using h1), h s (by simp [Op.operands, Call.operands]; simpa using h2)]
      · rename_i d s ty' ty2 hargs _
        have h1 : d ∈ args.toList := by rw [hargs]; simp
        have h2 : s ∈ args.toList := by rw [hargs]; simp
        rw [h d (by simp [Op.operands, Call.operands]; simpa using h1), h s (by simp [Op.operands, Call.operands]; simpa using h2)]
      · rename_i d s ty' ty2 hargs _
        have h1 : d ∈ args.toList := by rw [hargs]; simp
        have h2 : s ∈ args.toList := by rw [hargs]; simp
        rw [h d (by simp [Op.operands, Call.operands]; simpa using h1), h s (by simp [Op.operands, Call.operands]; simpa using h2)]
      · rfl
    · rfl
  | _ => rfl

theorem opE_congr {G : Glob} {t t' : List SVal} (h : ∀ x ∈ o.op.operands, seval t x = seval t' x) : opE P G t H o = opE P G t' H o := by
  unfold opE
  rw [opP_congr h, opH_congr h]

 omit [Env] in
theorem seval_putS {dst : Option Tmp} {x : SVal} {y : Operand} (h : ∀ d, dst = some d → y ≠ .tmp d) : seval (putS t dst x) y = seval t y := by
  cases dst with
  | none => rfl
  | some d =>
    cases y with
    | tmp k =>
      have : k ≠ d := fun e => h d rfl (by rw [e])
      simp only [seval, putS, getS_eq, setS_eq, List.getD_eq_getElem?_getD]
      rw [List.getElem?_set_ne (Ne.symm this)]
    | _ => rfl

 omit [Env] in
theorem seval_put_apart {ops : Array Oper} {oj : Oper} {dst : Option Tmp} {x : SVal} (h : ∀ d, dst = some d → d ∉ oj.looksAt ops) : ∀ y ∈ oj.op.operands, seval (putS t dst x) y = seval t y := fun y hy =>
  seval_putS fun d hd hyd => h d hd (by
    subst hyd
    exact List.mem_append_left _ (List.mem_filterMap.2 ⟨.tmp d, by simpa using hy, rfl⟩))

theorem wantedS_put {ops : Array Oper} {oj : Oper} {dst : Option Tmp} {x : SVal} (h : ∀ d, dst = some d → d ∉ oj.looksAt ops) :
    Region.wanted oj (yieldedS ops (putS t dst x)) = Region.wanted oj (yieldedS ops t) := by
  cases dst with
  | none => rfl
  | some d =>
    unfold Region.wanted
    cases hg : oj.guard with
    | none => rfl
    | some gw =>
      obtain ⟨g, want⟩ := gw
      have hy : yieldedS ops (putS t (some d) x) g = yieldedS ops t g := by
        unfold yieldedS
        cases ht : (ops[g]?).bind (·.dst) with
        | none => rfl
        | some e =>
          have hne : d ≠ e := fun he => h d rfl (by subst he; simp [Oper.looksAt, hg, ht])
          simp only [putS, setS_eq]
          rw [List.getElem?_set_ne hne]
      simp only [hy]

 omit [Env] in
theorem putS_comm {d d' : Option Tmp} {x y : SVal} (h : ∀ k, d = some k → d' ≠ some k) : putS (putS t d x) d' y = putS (putS t d' y) d x := by
  cases d with
  | none => cases d' <;> rfl
  | some i =>
    cases d' with
    | none => rfl
    | some j =>
      have : i ≠ j := fun e => h i rfl (by rw [e])
      simp only [putS, setS_eq]
      exact List.set_comm _ _ this

/-! ### The kinds of operations in a region that draws its order -/
inductive Kd where
  | p    -- looks at no heap
  | l    -- lays a new variable
  | a    -- loads
  | b    -- all else

/-- Comes j behind i, by the edges? -/
def reach (ops : Array Oper) : Nat → Nat → Nat → Bool
  | 0, _, _ => false
  | n + 1, j, i => match ops[j]? with
    | none => false
    | some o => o.after.any fun e => Region.binds .any e && (e.on == i || reach ops n e.on i)

def isHeapOp : Op → Bool
  | .box .. | .store .. | .buildSlice .. | .makeSlice .. | .range .. | .next .. | .makeMap .. | .mapUpdate .. | .lookup .. => true
  | .call { callee := .builtin .copy, .. } | .call { callee := .builtin .append, .. } | .call { callee := .builtin .unsafeString, .. } => true
  | _ => false

def baseKd (o : Oper) : Kd :=
  match o.op with
  | .alloc _ => match o.guard, o.dst with
    | none, some _ => .l
    | _, _ => .b
  | .load .. => .a
  | op => if isHeapOp op then .b else .p

def isCallOp (o : Oper) : Bool :=
  match o.op with
  | .call { callee := .value _, .. } => true
  | _ => false

/-- A number, reckoned before it is handed on. -/
def forceN {α : Type} (m : Nat) (k : Nat → α) : α :=
  match m with
  | 0 => k 0
  | n + 1 => k (n + 1)

 omit [Env] in
theorem forceN_eq {α : Type} (m : Nat) (k : Nat → α) : forceN m k = k m := by cases m <;> rfl

/-- Of an operation: the bits of those that it waits for, by an edge of its own, and by edges; the bits of the temporaries that it looks at. -/
structure Inf where
  edge : Nat
  anc : Nat
  look : Nat
  dst : Option Tmp
  base : Kd
  call : Bool

def edgeBits (f : Nat → Nat) : List Edge → Nat → Nat
  | [], m => m
  | e :: es, m => if Region.binds .any e then edgeBits f es (m ||| (1 <<< e.on) ||| f e.on) else edgeBits f es m

def lookBits : List Tmp → Nat → Nat
  | [], m => m
  | t :: ts, m => lookBits ts (m ||| (1 <<< t))

 omit [Env] in
theorem testBit_one_shift {n i : Nat} : (1 <<< n).testBit i = decide (n = i) := by
  rw [Nat.one_shiftLeft, Nat.testBit_two_pow]

 omit [Env] in
theorem edgeBits_ok {f : Nat → Nat} {i : Nat} : ∀ (es : List Edge) (m : Nat), (edgeBits f es m).testBit i = true → m.testBit i = true ∨ ∃ e ∈ es, Region.binds .any e = true ∧ (e.on = i ∨ (f e.on).testBit i = true)
  | [], m, h => .inl h
  | e :: es, m, h => by
    simp only [edgeBits] at h
    split at h
    · rename_i hb
      rcases edgeBits_ok es _ h with h1 | ⟨e', he', h2⟩
      · simp only [Nat.testBit_or, Bool.or_eq_true, testBit_one_shift, decide_eq_true_eq] at h1
        rcases h1 with (h1 | h1) | h1
        · exact .inl h1
        · exact .inr ⟨e, by simp, hb, .inl h1⟩
        · exact .inr ⟨e, by simp, hb, .inr h1⟩
      · exact .inr ⟨e', by simp [he'], h2⟩
    · rcases edgeBits_ok es _ h with h1 | ⟨e', he', h2⟩
      · exact .inl h1
      · exact .inr ⟨e', by simp [he'], h2⟩

 omit [Env] in
theorem edgeBits_mono {f : Nat → Nat} {i : Nat} : ∀ (es : List Edge) (m : Nat), m.testBit i = true → (edgeBits f es m).testBit i = true
  | [], m, h => h
  | e :: es, m, h => by
    simp only [edgeBits]
    split
    · exact edgeBits_mono es _ (by simp [Nat.testBit_or, h])
    · exact edgeBits_mono es _ h

 omit [Env] in
theorem edgeBits_has {f : Nat → Nat} {e : Edge} (hb : Region.binds .any e = true) : ∀ (es : List Edge) (m : Nat), e ∈ es → (edgeBits f es m).testBit e.on = true
  | [], m, h => by simp at h
  | e' :: es, m, h => by
    simp only [edgeBits]
    rcases List.mem_cons.1 h with rfl | h'
    · rw [if_pos hb]
      exact edgeBits_mono es _ (by simp [Nat.testBit_or])
    · split
      · exact edgeBits_has hb es _ h'
      · exact edgeBits_has hb es _ h'

 omit [Env] in
theorem lookBits_mono {i : Nat} : ∀ (ts : List Tmp) (m : Nat), m.testBit i = true → (lookBits ts m).testBit i = true
  | [], m, h => h
  | t :: ts, m, h => lookBits_mono ts _ (by simp [Nat.testBit_or, h])

 omit [Env] in
theorem lookBits_has {t : Tmp} : ∀ (ts : List Tmp) (m : Nat), t ∈ ts → (lookBits ts m).testBit t = true
  | [], m, h => by simp at h
  | t' :: ts, m, h => by
    rcases List.mem_cons.1 h with rfl | h'
    · exact lookBits_mono ts _ (by simp [Nat.testBit_or])
    · exact lookBits_has ts _ h'

def ancAt (k : Nat) (acc : List Nat) (x : Nat) : Nat := if x < k then acc.getD (k - 1 - x) 0 else 0

def infsGo (ops : Array Oper) : List Oper → Nat → List Nat → List Inf
  | [], _, _ => []
  | o :: os, k, acc => forceN (edgeBits (ancAt k acc) o.after.toList 0) fun m => forceN (edgeBits (fun _ => 0) o.after.toList 0) fun e => forceN (lookBits (o.looksAt ops) 0) fun l =>
      ⟨e, m, l, o.dst, baseKd o, isCallOp o⟩ :: infsGo ops os (k + 1) (m :: acc)

def infs (ops : Array Oper) : List Inf := infsGo ops ops.toList 0 []

def AncOk (ops : Array Oper) (m j : Nat) : Prop := ∀ i, m.testBit i = true → ∃ n, reach ops n j i = true

 omit [Env] in
theorem infsGo_get {ops : Array Oper} : ∀ (os : List Oper) (k : Nat) (acc : List Nat), acc.length = k → (∀ i, os[i]? = ops[k + i]?) → (∀ j, j < k → AncOk ops (acc.getD (k - 1 - j) 0) j) → ∀ (i : Nat) (o : Oper), os[i]? = some o →
    ∃ m, (infsGo ops os k acc)[i]? = some ⟨edgeBits (fun _ => 0) o.after.toList 0, m, lookBits (o.looksAt ops) 0, o.dst, baseKd o, isCallOp o⟩ ∧ AncOk ops m (k + i)
  | [], k, acc, _, _, _, i, o, h => by simp at h
  | o' :: os, k, acc, hl, hos, hacc, i, o, h => by
    simp only [infsGo, forceN_eq]
    have hk : ops[k]? = some o' := by have := hos 0; simpa using this.symm
    have hnew : AncOk ops (edgeBits (ancAt k acc) o'.after.toList 0) k := fun i' hi' => by
      rcases edgeBits_ok _ _ hi' with h1 | ⟨e, he, hb, h1⟩
      · simp at h1
      · rcases h1 with h1 | h1
        · refine ⟨1, ?_⟩
          simp only [reach, hk]
          exact Array.any_eq_true'.2 ⟨e, by simpa using he, by simp [hb, h1]⟩
        · unfold ancAt at h1
          split at h1
          · rename_i hek
            obtain ⟨n, hn⟩ := hacc e.on hek i' h1
            refine ⟨n + 1, ?_⟩
            simp only [reach, hk]
            exact Array.any_eq_true'.2 ⟨e, by simpa using he, by simp [hb, hn]⟩
          · simp at h1
    cases i with
    | zero =>
      simp only [List.getElem?_cons_zero, Option.some.injEq] at h
      subst h
      exact ⟨edgeBits (ancAt k acc) o'.after.toList 0, by simp, by simpa using hnew⟩
    | succ i =>
      simp only [List.getElem?_cons_succ] at h ⊢
      have := infsGo_get os (k + 1) (edgeBits (ancAt k acc) o'.after.toList 0 :: acc) (by simp [hl]) (fun i => by have := hos (i + 1); simpa [Nat.add_assoc, Nat.add_comm 1 i] using this) (fun j hj => by
        by_cases hjk : j = k
        · subst hjk
          simpa using hnew
        · have : k + 1 - 1 - j = (k - 1 - j) + 1 := by omega
          rw [this]
          simpa using hacc j (by omega)) i o h
      simpa [Nat.add_assoc, Nat.add_comm 1 i] using this

def tie (x : Inf) (i : Nat) (y : Inf) (j : Nat) : Bool := if i < j then y.anc.testBit i else x.anc.testBit j

/-- Does this call stand in order with all that touch the heap? -/
def ordered (L : List (Inf × Nat)) (x : Inf) (i : Nat) : Bool :=
  L.all fun (y, j) => j == i || match y.base with
    | .l => true
    | .p => !y.call || tie x i y j
    | _ => tie x i y j

def kdOf (L : List (Inf × Nat)) (x : Inf) (i : Nat) : Kd :=
  if x.call then (if ordered L x i then .b else .p) else x.base

def kds (ops : Array Oper) : List Kd := (infs ops).zipIdx.map fun (x, i) => kdOf (infs ops).zipIdx x i

/-- May the two be exchanged? -/
def Kd.comm : Kd → Kd → Bool
  | .p, _ | .l, _ | _, .p | _, .l => true
  | .a, .a => true
  | _, _ => false

def apartM (a b : Inf) : Bool :=
  (match a.dst with
   | some d => !b.look.testBit d && b.dst != some d
   | none => true) &&
  (match b.dst with
   | some d => !a.look.testBit d
   | none => true)

def pairOk (i : Nat) (a b : Inf) (ka kb : Kd) : Bool := (b.edge.testBit i || apartM a b) && (Kd.comm ka kb || b.anc.testBit i)

def pairsOk (K : List ((Inf × Kd) × Nat)) : Bool :=
  K.all fun (b, j) => (b.1.edge >>> j) == 0 && K.all fun (a, i) => !(decide (i < j)) || pairOk i a.1 b.1 a.2 b.2

def drawOk (ops : Array Oper) : Bool := pairsOk ((infs ops).zip (kds ops)).zipIdx

/-- What is asked of a region that draws its order. -/
structure Static (ops : Array Oper) (ks : List Kd) : Prop where
  low : ∀ j o e, ops[j]? = some o → e ∈ o.after → Region.binds .any e = true → e.on < j
  free : ∀ i j oi oj, i < j → ops[i]? = some oi → ops[j]? = some oj → (∀ e ∈ oj.after, Region.binds .any e = true → e.on ≠ i) → oi.apart ops oj = true
  comm : ∀ i j oi oj, i < j → ops[i]? = some oi → ops[j]? = some oj → Kd.comm (ks.getD i .b) (ks.getD j .b) = true ∨ ∃ n, reach ops n j i = true

 omit [Env] in
theorem infs_get {ops : Array Oper} {i : Nat} {o : Oper} (h : ops[i]? = some o) :
    ∃ m, (infs ops)[i]? = some ⟨edgeBits (fun _ => 0) o.after.toList 0, m, lookBits (o.looksAt ops) 0, o.dst, baseKd o, isCallOp o⟩ ∧ AncOk ops m i := by
  have := infsGo_get (ops := ops) ops.toList 0 [] rfl (fun i => by simp) (fun j hj => by omega) i o (by simpa using h)
  unfold infs
  simpa using this

 omit [Env] in
theorem kds_get {ops : Array Oper} {i : Nat} {x : Inf} (h : (infs ops)[i]? = some x) : (kds ops)[i]? = some ((kds ops).getD i .b) := by
  have hl : (kds ops).length = (infs ops).length := by simp [kds]
  have hi := (List.getElem?_eq_some_iff.1 h).1
  rw [List.getD_eq_getElem?_getD]
  rw [List.getElem?_eq_getElem (by omega)]
  rfl

 omit [Env] in
theorem drawOk_static {ops : Array Oper} (h : drawOk ops = true) : Static ops (kds ops) := by
  unfold drawOk pairsOk at h
  simp only [List.all_eq_true] at h
  have get : ∀ {i : Nat} {o : Oper}, ops[i]? = some o → ∃ m, AncOk ops m i ∧ (((⟨edgeBits (fun _ => 0) o.after.toList 0, m, lookBits (o.looksAt ops) 0, o.dst, baseKd o, isCallOp o⟩ : Inf), (kds ops).getD i .b), i) ∈ ((infs ops).zip (kds ops)).zipIdx := by
    intro i o ho
    obtain ⟨m, h1, h2⟩ := infs_get ho
    refine ⟨m, h2, ?_⟩
    rw [List.mem_iff_getElem?]
    refine ⟨i, ?_⟩
    have hz : ((infs ops).zip (kds ops))[i]? = some (⟨edgeBits (fun _ => 0) o.after.toList 0, m, lookBits (o.looksAt ops) 0, o.dst, baseKd o, isCallOp o⟩, (kds ops).getD i .b) := List.getElem?_zip_eq_some.2 ⟨h1, kds_get h1⟩
    rw [List.getElem?_zipIdx, hz]
    simp
  refine ⟨fun j o e ho he hb => ?_, fun i j oi oj hij hi hj hno => ?_, fun i j oi oj hij hi hj => ?_⟩
  · obtain ⟨m, _, hm⟩ := get ho
    have h1 := h _ hm
    simp only [Bool.and_eq_true, beq_iff_eq] at h1
    have h2 := edgeBits_has (f := fun _ => 0) hb o.after.toList 0 (by simpa using he)
    rcases Nat.lt_or_ge e.on j with h' | h'
    · exact h'
    · have h3 : (edgeBits (fun _ => 0) o.after.toList 0 >>> j).testBit (e.on - j) = true := by
        rw [Nat.testBit_shiftRight, show j + (e.on - j) = e.on by omega]
        exact h2
      rw [h1.1] at h3
      simp at h3
  all_goals
    obtain ⟨mi, hai, hmi⟩ := get hi
    obtain ⟨mj, haj, hmj⟩ := get hj
    have h1 := h _ hmj
    simp only [Bool.and_eq_true, List.all_eq_true] at h1
    have h2 := h1.2 _ hmi
    simp only [hij, decide_true, Bool.not_true, Bool.false_or, pairOk, Bool.and_eq_true, Bool.or_eq_true] at h2
  · rcases h2.1 with h3 | h3
    · rcases edgeBits_ok _ _ h3 with h4 | ⟨e, he, hb, h4⟩
      · simp at h4
      · rcases h4 with h4 | h4
        · exact absurd h4 (hno e (by simpa using he) hb)
        · simp at h4
    · unfold apartM at h3
      simp only [Bool.and_eq_true] at h3
      unfold Oper.apart
      simp only [Bool.and_eq_true]
      constructor
      · have h4 := h3.1
        cases hd : oi.dst with
        | none => rfl
        | some d =>
          simp only [hd, Bool.and_eq_true, Bool.not_eq_true'] at h4 ⊢
          refine ⟨?_, h4.2⟩
          rw [← Bool.not_eq_true]
          intro hc
          rw [lookBits_has _ _ (by simpa using hc)] at h4
          exact absurd h4.1 (by simp)
      · have h4 := h3.2
        cases hd : oj.dst with
        | none => rfl
        | some d =>
          simp only [hd, Bool.not_eq_true'] at h4 ⊢
          rw [← Bool.not_eq_true]
          intro hc
          rw [lookBits_has _ _ (by simpa using hc)] at h4
          exact absurd h4 (by simp)
  · rcases h2.2 with h3 | h3
    · exact .inl h3
    · exact .inr (haj i h3)

def pStep (P : Program) (cf : CallF) (t : List SVal) (o : Oper) : Option SVal :=
  match opP P t o with
  | some (.val x) => some x
  | some .skip => some (.v undef)
  | some (.call f args) => match freshR cf f args with
    | some (x, []) => some x
    | _ => none
  | some (.yld _ _) => none
  | none => none

def aStep (P : Program) (G : Glob) (t : List SVal) (H : SHeap) (o : Oper) : Option SVal :=
  match o.op with
  | .load ty x => loadE P G H ty (seval t x)
  | _ => none

def bStep (P : Program) (G : Glob) (cf : CallF) (t : List SVal) (H : SHeap) (o : Oper) : Option (SVal × SHeap) :=
  match opE P G t H o with
  | some (.val x H') => some (x, H')
  | some (.skip H') => some (.v undef, H')
  | some (.call f args) => callR cf f args H
  | some (.yld i args) => cf (.yield i) args H
  | none => none

/-- What operation number i yields, and the heap that it leaves. -/
def eff (P : Program) (G : Glob) (cf : CallF) (ops : Array Oper) (k : Kd) (nm : Nat) (o : Oper) (t : List SVal) (H : SHeap) : Option (SVal × SHeap) :=
  if Region.wanted o (yieldedS ops t) then
    match k with
    | .p => match pStep P cf t o with
      | some x => some (x, H)
      | none => none
    | .l => some (.ptr nm 0, H)
    | .a => match aStep P G t H o with
      | some x => some (x, H)
      | none => none
    | .b => bStep P G cf t H o
  else some (.v undef, H)

theorem eff_congr {G : Glob} {cf : CallF} {ops : Array Oper} {k : Kd} {nm : Nat} {t t' : List SVal} (h : ∀ x ∈ o.op.operands, seval t x = seval t' x)
    (hw : Region.wanted o (yieldedS ops t) = Region.wanted o (yieldedS ops t')) : eff P G cf ops k nm o t H = eff P G cf ops k nm o t' H := by
  unfold eff pStep aStep bStep
  rw [hw, opP_congr h, opE_congr h]
  cases k with
  | a =>
    cases hop : o.op with
    | load ty x => simp only; rw [h x (by rw [hop]; simp [Op.operands])]
    | _ => rfl
  | _ => rfl

theorem eff_put {G : Glob} {cf : CallF} {ops : Array Oper} {k : Kd} {nm : Nat} {dst : Option Tmp} {x : SVal} (h : ∀ d, dst = some d → d ∉ o.looksAt ops) :
    eff P G cf ops k nm o (putS t dst x) H = eff P G cf ops k nm o t H :=
  eff_congr (seval_put_apart h) (wantedS_put h)

/-- An operation of the first two kinds: the same in every heap, which it leaves. -/
theorem eff_pl {G : Glob} {cf : CallF} {ops : Array Oper} {k : Kd} {nm : Nat} (hk : k = .p ∨ k = .l) {x : SVal} {H' : SHeap} (h : eff P G cf ops k nm o t H = some (x, H')) :
    H' = H ∧ ∀ K, eff P G cf ops k nm o t K = some (x, K) := by
  unfold eff at *
  split at h
  · rename_i hw
    rcases hk with rfl | rfl
    · simp only at h
      split at h
      · rename_i y hy
        cases h
        exact ⟨rfl, fun K => by simp only [hw, if_true]⟩
      · cases h
    · cases h
      exact ⟨rfl, fun K => by simp only [hw, if_true]⟩
  · rename_i hw
    cases h
    exact ⟨rfl, fun K => by rw [if_neg hw]⟩

theorem eff_a {G : Glob} {cf : CallF} {ops : Array Oper} {nm : Nat} {x : SVal} {H' : SHeap} (h : eff P G cf ops .a nm o t H = some (x, H')) : H' = H := by
  unfold eff at h
  split at h
  · simp only at h
    split at h <;> cases h
    rfl
  · cases h; rfl

def dstep (P : Program) (G : Glob) (cf : CallF) (ops : Array Oper) (ks : List Kd) (nm : Nat → Nat) (i : Nat) (s : St) : Option St :=
  match ops[i]? with
  | none => none
  | some o => match eff P G cf ops (ks.getD i .b) (nm i) o s.1 s.2 with
    | some (x, H') => some (putS s.1 o.dst x, H')
    | none => none

theorem dstep_comm {G : Glob} {cf : CallF} {ops : Array Oper} {ks : List Kd} {nm : Nat → Nat} {i j : Nat} {oi oj : Oper} (hi : ops[i]? = some oi) (hj : ops[j]? = some oj) (hap : oi.apart ops oj = true)
    (hc : Kd.comm (ks.getD i .b) (ks.getD j .b) = true) {s s1 s2 : St} (h1 : dstep P G cf ops ks nm i s = some s1) (h2 : dstep P G cf ops ks nm j s1 = some s2) :
    ∃ s', dstep P G cf ops ks nm j s = some s' ∧ dstep P G cf ops ks nm i s' = some s2 := by
  obtain ⟨a1, a2, a3⟩ := Oper.apart_spec hap
  unfold dstep at *
  simp only [hi, hj] at *
  split at h1
  case h_2 => cases h1
  rename_i x H1 e1
  cases h1
  split at h2
  case h_2 => cases h2
  rename_i y H2 e2
  cases h2
  simp only at e2
  rw [eff_put a1] at e2
  have fin : ∀ {K : SHeap}, eff P G cf ops (ks.getD j .b) (nm j) oj s.1 s.2 = some (y, K) → eff P G cf ops (ks.getD i .b) (nm i) oi s.1 K = some (x, H2) →
      ∃ s', (match eff P G cf ops (ks.getD j .b) (nm j) oj s.1 s.2 with
        | some (x, H') => some (putS s.1 oj.dst x, H')
        | none => none) = some s' ∧ (match eff P G cf ops (ks.getD i .b) (nm i) oi s'.1 s'.2 with
        | some (x, H') => some (putS s'.1 oi.dst x, H')
        | none => none) = some (putS (putS s.1 oi.dst x) oj.dst y, H2) := by
    intro K k1 k2
    refine ⟨(putS s.1 oj.dst y, K), by rw [k1], ?_⟩
    simp only
    rw [eff_put a3, k2]
    simp only
    rw [putS_comm a2]
  by_cases hki : ks.getD i .b = .p ∨ ks.getD i .b = .l
  · obtain ⟨rfl, hall⟩ := eff_pl hki e1
    exact fin e2 (hall _)
  · by_cases hkj : ks.getD j .b = .p ∨ ks.getD j .b = .l
    · obtain ⟨rfl, hall⟩ := eff_pl hkj e2
      exact fin (hall _) e1
    · have hii : ks.getD i .b = .a := by revert hc hki hkj; cases ks.getD i .b <;> cases ks.getD j .b <;> simp [Kd.comm]
      have hjj : ks.getD j .b = .a := by revert hc hki hkj; cases ks.getD i .b <;> cases ks.getD j .b <;> simp [Kd.comm]
      have g1 := eff_a (by rw [hii] at e1; exact e1)
      subst g1
      have g2 := eff_a (by rw [hjj] at e2; exact e2)
      subst g2
      exact fin e2 e1

/-- Whatever order is picked: the end is R. -/
def AllS (P : Program) (G : Glob) (cf : CallF) (ops : Array Oper) (ks : List Kd) (nm : Nat → Nat) (R : St) : Nat → Array Bool → St → Prop
  | 0, listed, s => Region.ready .any ops listed = [] ∧ s = R
  | n + 1, listed, s => (Region.ready .any ops listed = [] → s = R) ∧
    ∀ i ∈ Region.ready .any ops listed, ∃ s', dstep P G cf ops ks nm i s = some s' ∧ AllS P G cf ops ks nm R n (listed.setIfInBounds i true) s'

/-- All that a listed operation waits for is listed. -/
def Closed (ops : Array Oper) (listed : Array Bool) : Prop :=
  ∀ j o, ops[j]? = some o → listed.getD j false = true → ∀ e ∈ o.after, Region.binds .any e = true → listed.getD e.on false = true

 omit [Env] in
theorem reach_listed {ops : Array Oper} {listed : Array Bool} (hc : Closed ops listed) : ∀ (n j i : Nat), (∀ o, ops[j]? = some o → ∀ e ∈ o.after, Region.binds .any e = true → listed.getD e.on false = true) →
    reach ops n j i = true → listed.getD i false = true
  | 0, j, i, _, h => by simp [reach] at h
  | n + 1, j, i, hp, h => by
    simp only [reach] at h
    split at h
    · cases h
    rename_i o ho
    obtain ⟨e, he, hb⟩ := Array.any_eq_true'.1 h
    simp only [Bool.and_eq_true, Bool.or_eq_true, beq_iff_eq] at hb
    have h1 := hp o ho e he hb.1
    rcases hb.2 with h2 | h2
    · rw [← h2]; exact h1
    · exact reach_listed hc n e.on i (fun o' ho' => hc e.on o' ho' h1) h2

 omit [Env] in
theorem Closed.put {ops : Array Oper} {listed : Array Bool} (hc : Closed ops listed) {j : Nat} (hj : j ∈ Region.ready .any ops listed) : Closed ops (listed.setIfInBounds j true) := by
  obtain ⟨_, o, ho, hall⟩ := mem_ready.1 hj
  intro k o' ho' hk e he hb
  by_cases hkj : k = j
  · subst hkj
    rw [ho] at ho'
    cases ho'
    exact getD_set_true (hall e he hb)
  · rw [getD_set_ne false (Ne.symm hkj)] at hk
    exact getD_set_true (hc k o' ho' hk e he hb)

theorem AllS_first {G : Glob} {cf : CallF} {ops : Array Oper} {ks : List Kd} {nm : Nat → Nat} {R : St} {i : Nat} {oi : Oper} (hi : ops[i]? = some oi) :
    ∀ (fuel : Nat) (listed : Array Bool) (s s1 : St), Closed ops listed →
      (∀ j oj, ops[j]? = some oj → j ≠ i → listed.getD j true = false → (∀ e ∈ oj.after, Region.binds .any e = true → e.on ≠ i) → oi.apart ops oj = true) →
      (∀ j oj, ops[j]? = some oj → j ≠ i → listed.getD j true = false → Kd.comm (ks.getD i .b) (ks.getD j .b) = true ∨ ∃ n, reach ops n j i = true) →
      i ∈ Region.ready .any ops listed → dstep P G cf ops ks nm i s = some s1 →
      AllS P G cf ops ks nm R fuel (listed.setIfInBounds i true) s1 → AllS P G cf ops ks nm R (fuel + 1) listed s := by
  intro fuel
  induction fuel with
  | zero =>
    intro listed s s1 _ _ _ hr hs H
    refine ⟨fun h => (by rw [h] at hr; cases hr), fun j hj => ?_⟩
    by_cases hji : j = i
    · subst hji; exact ⟨s1, hs, H⟩
    · have := ready_mono hj hji
      rw [H.1] at this
      cases this
  | succ fuel ih =>
    intro listed s s1 hcl hfree hcomm hr hs H
    refine ⟨fun h => (by rw [h] at hr; cases hr), fun j hj => ?_⟩
    by_cases hji : j = i
    · subst hji; exact ⟨s1, hs, H⟩
    · obtain ⟨s2, h2, hrest⟩ := H.2 j (ready_mono hj hji)
      obtain ⟨hjun, oj, hoj, hall⟩ := mem_ready.1 hj
      have hiun := (mem_ready.1 hr).1
      have hif : listed.getD i false = false := by
        rcases Nat.lt_or_ge i listed.size with h' | h'
        · simpa [h'] using hiun
        · simp [h']
      have hnot : ∀ e ∈ oj.after, Region.binds .any e = true → e.on ≠ i := fun e he hb heq => by
        have h1 := hall e he hb
        rw [heq, hif] at h1
        cases h1
      have hcm : Kd.comm (ks.getD i .b) (ks.getD j .b) = true := by
        rcases hcomm j oj hoj hji hjun with h' | h'
        · exact h'
        · obtain ⟨n, h'⟩ := h'
          have := reach_listed hcl _ j i (fun o ho => by rw [hoj] at ho; cases ho; exact hall) h'
          rw [hif] at this
          cases this
      obtain ⟨s', k1, k2⟩ := dstep_comm hi hoj (hfree j oj hoj hji hjun hnot) hcm hs h2
      have hset : ∀ k, k ≠ i → (listed.setIfInBounds j true).getD k true = false → listed.getD k true = false := fun k hk h => by
        by_cases hjk : j = k
        · subst hjk; exact hjun
        · rw [getD_set_ne true hjk] at h; exact h
      refine ⟨s', k1, ih (listed.setIfInBounds j true) s' s2 (hcl.put hj) (fun k ok hk hki hun hno => hfree k ok hk hki (hset k hki hun) hno) (fun k ok hk hki hun => hcomm k ok hk hki (hset k hki hun))
        (ready_mono hr (Ne.symm hji)) k2 ?_⟩
      rw [Array.setIfInBounds_comm _ _ hji]
      exact hrest

/-- The text's own order. -/
def lexRun (P : Program) (G : Glob) (cf : CallF) (ops : Array Oper) (ks : List Kd) (nm : Nat → Nat) : Nat → Nat → St → Option St
  | 0, _, s => some s
  | n + 1, k, s => match dstep P G cf ops ks nm k s with
    | some s' => lexRun P G cf ops ks nm n (k + 1) s'
    | none => none

theorem AllS_lex {G : Glob} {cf : CallF} {ops : Array Oper} {ks : List Kd} {nm : Nat → Nat} {R : St} (hst : Static ops ks) : ∀ (n k : Nat) (listed : Array Bool) (s : St), Closed ops listed → listed.size = ops.size → (∀ j, j < ops.size → listed[j]? = some (decide (j < k))) → k + n = ops.size →
    lexRun P G cf ops ks nm n k s = some R → AllS P G cf ops ks nm R n listed s
  | 0, k, listed, s, _, _, hlow, hk, h => by
    cases h
    refine ⟨?_, rfl⟩
    refine List.eq_nil_iff_forall_not_mem.2 fun j hj => ?_
    obtain ⟨h1, o, ho, _⟩ := mem_ready.1 hj
    have hjlt : j < ops.size := (Array.getElem?_eq_some_iff.1 ho).1
    rw [Array.getD_eq_getD_getElem?, hlow j hjlt] at h1
    simp at h1
    omega
  | n + 1, k, listed, s, hcl, hsize, hlow, hsz, h => by
    simp only [lexRun] at h
    split at h
    case h_2 => cases h
    rename_i s1 hs
    have hlt : k < ops.size := by omega
    have hk : ops[k]? = some ops[k] := by simp [hlt]
    have unl : ∀ j, j < ops.size → listed.getD j true = decide (j < k) := fun j hj => by rw [Array.getD_eq_getD_getElem?, hlow j hj]; rfl
    have unl' : ∀ j, j < ops.size → listed.getD j false = decide (j < k) := fun j hj => by rw [Array.getD_eq_getD_getElem?, hlow j hj]; rfl
    have hr' : k ∈ Region.ready .any ops listed := mem_ready.2 ⟨by rw [unl k hlt]; simp, ops[k], hk, fun e he hb => by
      have := hst.low k _ e hk he hb
      rw [unl' e.on (by omega)]
      simpa using this⟩
    have after : ∀ j oj, ops[j]? = some oj → j ≠ k → listed.getD j true = false → k < j := fun j oj hj hne hun => by
      have hjlt : j < ops.size := (Array.getElem?_eq_some_iff.1 hj).1
      rw [unl j hjlt] at hun
      simp at hun
      omega
    refine AllS_first hk n listed s s1 hcl (fun j oj hj hne hun hno => hst.free k j _ oj (after j oj hj hne hun) hk hj hno) (fun j oj hj hne hun => hst.comm k j _ oj (after j oj hj hne hun) hk hj) hr' hs ?_
    refine AllS_lex hst n (k + 1) _ _ (hcl.put hr') (by simpa using hsize) (fun j hj => ?_) (by omega) h
    by_cases hjk : j = k
    · subst hjk
      rw [Array.getElem?_setIfInBounds_self_of_lt (by omega)]
      simp
    · rw [Array.getElem?_setIfInBounds_ne (Ne.symm hjk), hlow j hj]
      simp only [Option.some.injEq, decide_eq_decide]
      omega

end
end
end Go.RX
