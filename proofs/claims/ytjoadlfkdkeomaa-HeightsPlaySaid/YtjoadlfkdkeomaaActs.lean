/- A region that draws its order and holds calls, appends and the like that change what lies in memory, one behind the other: one walk in the order of the text, of all but these; then each of these in its turn, whatever order the rest takes. No condition. -/
import Derived.Test.YtjoadlfkdkeomaaRegion
namespace Go.Proofs.Ytjoadlfkdkeomaa
set_option linter.unusedSimpArgs false
set_option linter.unusedVariables false
set_option linter.unusedSectionVars false
open Go.RowKit

/-- the operation as the walk sees it: one of the acts is its value, the tail does nothing -/
def actOp (n : Nat) (acts : List (Nat × Value)) (i : Nat) (o : Oper) : Oper :=
  if n ≤ i then { o with dst := none, op := .move (.const undef) } else match acts.lookup i with | some v => { o with op := .move (.const v) } | none => o
def actFrom (n : Nat) (acts : List (Nat × Value)) : Nat → List Oper → List Oper
  | _, [] => []
  | i, o :: l => actOp n acts i o :: actFrom n acts (i + 1) l
theorem actFrom_get (n : Nat) (acts : List (Nat × Value)) : ∀ (l : List Oper) (k j : Nat), (actFrom n acts k l)[j]? = (l[j]?).map (actOp n acts (k + j))
  | [], _, _ => by simp [actFrom]
  | o :: l, k, 0 => by simp [actFrom]
  | o :: l, k, j + 1 => by
    simp only [actFrom, List.getElem?_cons_succ]
    rw [actFrom_get n acts l (k + 1) j, show k + 1 + j = k + (j + 1) by omega]
theorem actFrom_length (n : Nat) (acts : List (Nat × Value)) : ∀ (l : List Oper) (k : Nat), (actFrom n acts k l).length = l.length
  | [], _ => rfl
  | o :: l, k => by simp [actFrom, actFrom_length n acts l (k + 1)]
theorem actOp_after (n : Nat) (acts : List (Nat × Value)) (i : Nat) (o : Oper) : (actOp n acts i o).after = o.after := by
  unfold actOp
  split
  · rfl
  · split <;> rfl
theorem actOp_guard (n : Nat) (acts : List (Nat × Value)) (i : Nat) (o : Oper) : (actOp n acts i o).guard = o.guard := by
  unfold actOp
  split
  · rfl
  · split <;> rfl
theorem actOp_dst (n : Nat) (acts : List (Nat × Value)) (i : Nat) (o : Oper) (h : i < n) : (actOp n acts i o).dst = o.dst := by
  unfold actOp
  rw [if_neg (by omega)]
  split <;> rfl
theorem actOp_tail (n : Nat) (acts : List (Nat × Value)) (i : Nat) (o : Oper) (h : n ≤ i) : (actOp n acts i o).dst = none := by
  unfold actOp
  rw [if_pos h]
theorem actOp_plain (n : Nat) (acts : List (Nat × Value)) (i : Nat) (o : Oper) (h : i < n) (ha : acts.lookup i = none) : actOp n acts i o = o := by
  unfold actOp
  rw [if_neg (by omega), ha]
theorem actOp_act (n : Nat) (acts : List (Nat × Value)) (i : Nat) (o : Oper) (v : Value) (h : i < n) (ha : acts.lookup i = some v) : actOp n acts i o = { o with op := .move (.const v) } := by
  unfold actOp
  rw [if_neg (by omega), ha]

/-- all that is asked of the region's form -/
def actB (l : List Oper) (n : Nat) (is : List Nat) : Bool :=
  Region.noSelect l.toArray && decide (n ≤ l.length) &&
  ((List.range l.length).all fun i => match l[i]? with | some o => o.after.all fun e => !Region.binds .any e || decide (e.on < i) | none => true) &&
  ((List.range n).all fun i => match l[i]? with | some o => (match o.guard with | some (g, _) => decide (g < n) | none => true) | none => true) &&
  (is.all fun i => decide (i < n) &&
    match l[i]? with
    | some o => (List.range n).all fun j => match (l[j]?).bind (·.dst) with
        | some t => !(o.looksAt l.toArray).contains t || o.after.any fun ed => Region.binds .any ed && ed.on == j
        | none => true
    | none => false) &&
  ((List.range (is.length - 1)).all fun k => match l[is.getD (k + 1) 0]? with | some o => o.after.any fun ed => Region.binds .any ed && ed.on == is.getD k 0 | none => false) &&
  ((List.range is.length).all fun j => (List.range is.length).all fun k => j == k || is.getD j 0 != is.getD k 0) &&
  ((List.range n).all fun i => (List.range n).all fun j => i == j || match (l[i]?).bind (·.dst), (l[j]?).bind (·.dst) with | some d, some d' => d != d' | _, _ => true) &&
  (n == l.length || (Region.sinkB .any l.toArray n && Region.chainB .any l.toArray n)) &&
  Region.seqB .any l.toArray (l.length - n) n (Array.replicate n true ++ Array.replicate (l.length - n) false)

section
variable {P : Program} {l : List Oper} {n : Nat} {acts : List (Nat × Value)}

theorem ready_act (listed : Array Bool) : Region.ready .any (actFrom n acts 0 l).toArray listed = Region.ready .any l.toArray listed := by
  unfold Region.ready
  rw [List.size_toArray, List.size_toArray, actFrom_length]
  congr 1
  funext i
  rw [List.getElem?_toArray, List.getElem?_toArray, actFrom_get]
  cases l[i]? with
  | none => rfl
  | some o => simp only [Option.map_some, actOp_after]

structure ActOk (l : List Oper) (n : Nat) (acts : List (Nat × Value)) : Prop where
  sel : Region.noSelect l.toArray = true
  nle : n ≤ l.length
  back : ∀ (i : Nat) (o : Oper), l[i]? = some o → ∀ e ∈ o.after, Region.binds .any e = true → e.on < i
  guard : ∀ (i : Nat) (o : Oper), i < n → l[i]? = some o → ∀ g b, o.guard = some (g, b) → g < n
  made : ∀ e ∈ acts, e.1 < n ∧ ∀ o, l[e.1]? = some o → ∀ (j : Nat) (o' : Oper), j < n → l[j]? = some o' → ∀ t, o'.dst = some t → t ∈ o.looksAt l.toArray → ∃ ed ∈ o.after, Region.binds .any ed = true ∧ ed.on = j
  chain : ∀ (k : Nat) (h : k + 1 < acts.length), ∀ o, l[acts[k + 1].1]? = some o → ∃ ed ∈ o.after, Region.binds .any ed = true ∧ ed.on = acts[k].1
  nodup : ∀ (j k : Nat) (hj : j < acts.length) (hk : k < acts.length), acts[j].1 = acts[k].1 → j = k
  dsts : ∀ i j : Nat, i < n → j < n → i ≠ j → ∀ o o' : Oper, l[i]? = some o → l[j]? = some o' → ∀ d, o.dst = some d → o'.dst ≠ some d
  tail : n = l.length ∨ (Region.sinkB .any l.toArray n = true ∧ Region.chainB .any l.toArray n = true)
  seq : Region.seqB .any l.toArray (l.length - n) n (Array.replicate n true ++ Array.replicate (l.length - n) false) = true
theorem getD_acts {k : Nat} (h : k < acts.length) : (acts.map (·.1)).getD k 0 = acts[k].1 := by simp [h]
theorem actOk (h : actB l n (acts.map (·.1)) = true) : ActOk l n acts := by
  unfold actB at h
  simp only [Bool.and_eq_true] at h
  obtain ⟨⟨⟨⟨⟨⟨⟨⟨⟨h1, h2⟩, h3⟩, h4⟩, h5⟩, h6⟩, h7⟩, h8⟩, h9⟩, h10⟩ := h
  refine ⟨h1, by simpa using h2, ?_, ?_, ?_, ?_, ?_, ?_, ?_, h10⟩
  · intro i o ho e he hb
    have hi : i < l.length := (List.getElem?_eq_some_iff.1 ho).1
    have := List.all_eq_true.1 h3 i (List.mem_range.2 hi)
    rw [ho] at this
    have := Array.all_eq_true'.1 this e he
    simpa [hb] using this
  · intro i o hi ho g b hg
    have := List.all_eq_true.1 h4 i (List.mem_range.2 hi)
    rw [ho] at this
    simp only [hg] at this
    simpa using this
  · intro e he
    have := List.all_eq_true.1 h5 e.1 (List.mem_map.2 ⟨e, he, rfl⟩)
    rw [Bool.and_eq_true] at this
    refine ⟨by simpa using this.1, fun o ho j o' hj ho' t ht hlt => ?_⟩
    have g3 := this.2
    rw [ho] at g3
    have := List.all_eq_true.1 g3 j (List.mem_range.2 hj)
    rw [ho', Option.bind_some, ht] at this
    simp only [Bool.or_eq_true, Bool.not_eq_true', List.contains_eq_mem, decide_eq_false_iff_not, Array.any_eq_true', Bool.and_eq_true, beq_iff_eq] at this
    rcases this with h | ⟨ed, h, hb⟩
    · exact absurd hlt h
    · exact ⟨ed, h, hb⟩
  · intro k hk o ho
    have := List.all_eq_true.1 h6 k (List.mem_range.2 (by rw [List.length_map]; omega))
    rw [getD_acts hk, getD_acts (by omega), ho] at this
    simp only [Array.any_eq_true', Bool.and_eq_true, beq_iff_eq] at this
    obtain ⟨ed, h, hb⟩ := this
    exact ⟨ed, h, hb⟩
  · intro j k hj hk he
    have := List.all_eq_true.1 (List.all_eq_true.1 h7 j (List.mem_range.2 (by rw [List.length_map]; exact hj))) k (List.mem_range.2 (by rw [List.length_map]; exact hk))
    rw [getD_acts hj, getD_acts hk, he] at this
    simpa using this
  · intro i j hi hj hij o o' ho ho' d hd hd'
    have := List.all_eq_true.1 (List.all_eq_true.1 h8 i (List.mem_range.2 hi)) j (List.mem_range.2 hj)
    rw [ho, ho'] at this
    simp [hij, hd, hd'] at this
  · rcases Bool.or_eq_true_iff.1 h9 with h | h
    · exact .inl (by simpa using h)
    · exact .inr (by simpa only [Bool.and_eq_true] using h)

/-- no operation of the tail comes up ahead of the head's end -/
theorem head_only_act (hm : ActOk l n acts) {listed : Array Bool} (inv : HeadInv .any l.toArray n listed) {i : Nat} (hi : i < n) (hun : listed.getD i true = false) : ∀ t ∈ Region.ready .any l.toArray listed, t < n := by
  intro t ht
  rcases Nat.lt_or_ge t n with h | h
  · exact h
  · obtain ⟨_, o, ho, _⟩ := mem_ready.1 ht
    have htl : t < l.length := by have := (Array.getElem?_eq_some_iff.1 ho).1; simpa using this
    rcases hm.tail with he | ⟨hs, hc⟩
    · omega
    · exact absurd ht (tail_waits hs hc (by simp; omega) inv _ i rfl hi hun t h)

/-- one of the acts, in the frame as it will stand: from the state ahead of it to the one behind it -/
def ActStep (P : Program) (F : Act) (o : Oper) (v : Value) (w : World) (R : World → Prop) : Prop :=
  match (execOp F.eval o).run P w with
  | .ok (.value u) w' => u = v ∧ R w'
  | .ok .skip w' => v = undef ∧ R w'
  | .ok (.enter f args) w' => w' = w ∧ Calls P f args w fun e w'' => e = .returned v ∧ R w''
  | _ => False
theorem lookup_get {i : Nat} {v : Value} : ∀ {acts : List (Nat × Value)}, acts.lookup i = some v → ∃ j, ∃ h : j < acts.length, acts[j] = (i, v)
  | [], h => by simp at h
  | (k, u) :: r, h => by
    rw [List.lookup_cons] at h
    split at h
    · rename_i hk
      cases h
      exact ⟨0, by simp, by rw [eq_of_beq hk]; rfl⟩
    · obtain ⟨j, hj, e⟩ := lookup_get h
      exact ⟨j + 1, by simpa using hj, by simpa using e⟩

/-- **the run** -/
theorem act_run {Q : Exit → Act → World → Prop} {F : Act} {C : World → Prop} {St : Nat → World → Prop} (hm : ActOk l n acts)
    (hact : ∀ (j : Nat) (h : j < acts.length), ∀ o, l[acts[j].1]? = some o → Region.wanted o (yielded l.toArray F.tmps) = true ∧ ∀ w, C w → St j w → ActStep P F o acts[j].2 w fun w' => C w' ∧ St (j + 1) w')
    (htail : ∀ w, C w → St acts.length w → wpList P l.toArray Q (l.drop n) F w) :
    ∀ (f : Nat) (listed : Array Bool) (aA : Act) (w : World) (k : Nat), todo listed n = f → HeadInv .any l.toArray n listed → C w → St k w → k ≤ acts.length → (∀ (j : Nat) (h : j < acts.length), listed.getD acts[j].1 false = decide (j < k)) →
      (∀ U, C U → wpAnyQ P .any (actFrom n acts 0 l).toArray (fun w' => w' = U) (· = F) (f + (l.length - n)) listed aA) → wpAny P .any l.toArray Q (f + (l.length - n)) listed aA w := by
  intro f
  induction f with
  | zero =>
    intro listed aA w k hf inv hC hS hk hkl hA
    have hall := todo_zero n hf
    have hl : listed = Array.replicate n true ++ Array.replicate (l.length - n) false := by
      apply Array.ext
      · have := inv.size; simp at this ⊢; have := hm.nle; omega
      · intro i h1 h2
        rcases Nat.lt_or_ge i n with h | h
        · have := hall i h
          simp [Array.getElem_append, h] at this ⊢
          simpa [h1] using this
        · have hs := inv.size
          have := inv.tail i h (by simp at hs ⊢; omega)
          simp [Array.getElem_append, show ¬ i < n by omega] at this ⊢
          simpa [h1] using this
    obtain ⟨d1, d2, d3⟩ := final_slots _ _ _ (hA w hC)
    have hF : aA = F := by
      have ht : aA.tmps = F.tmps := by
        apply Array.ext_getElem?
        intro s
        refine d3 s (fun j o hj hun => ?_)
        rw [List.getElem?_toArray, actFrom_get] at hj
        cases hlj : l[j]? with
        | none => rw [hlj] at hj; cases hj
        | some o' =>
          rw [hlj] at hj
          simp only [Option.map_some, Option.some.injEq] at hj
          subst hj
          rcases Nat.lt_or_ge j n with h | h
          · have h1 := hall j h
            rcases Nat.lt_or_ge j listed.size with h' | h'
            · simp [h'] at h1 hun; rw [h1] at hun; cases hun
            · simp [Array.getElem?_eq_none h'] at h1
          · rw [Nat.zero_add, actOp_tail n acts j o' h]; simp
      cases aA; cases F; simp_all
    subst hF
    have hkE : k = acts.length := by
      rcases Nat.lt_or_ge k acts.length with h | h
      · have h1 := hkl k h
        rw [hall _ (hm.made _ (List.getElem_mem h)).1] at h1
        simp at h1
      · omega
    subst hkE
    have hw2 := htail w hC hS
    have hseq := hm.seq
    rw [← hl] at hseq
    have hdl : (l.drop n).length = l.length - n := by simp
    rw [Nat.zero_add]
    have := wpAny_of_seq (P := P) (Q' := Q) (ops := l.toArray) (md := .any) (l.drop n) n listed aA w (fun j => by simp) (by rw [hdl]; exact hseq) hw2
    rwa [hdl] at this
  | succ f ih =>
    intro listed aA w kk hf inv hC hS hk hkl hA
    obtain ⟨k, hkn, hkun, hkall⟩ := todo_some (listed := listed) n (by omega)
    have hsz : listed.size = l.length := by have := inv.size; simpa using this
    have hnl := hm.nle
    have hkun' : listed.getD k true = false := getD_in (by omega) hkun
    have hkr : k ∈ Region.ready .any l.toArray listed := by
      refine mem_ready.2 ⟨hkun', l[k]'(by omega), by simp, fun e he hb => ?_⟩
      have := hm.back k _ (List.getElem?_eq_getElem (by omega)) e he hb
      exact hkall _ this
    rw [show f + 1 + (l.length - n) = f + (l.length - n) + 1 by omega]
    refine ⟨fun h0 => (by rw [h0] at hkr; cases hkr), fun i hi => ?_⟩
    have hin := head_only_act hm inv hkn hkun' i hi
    obtain ⟨hun, o, ho, hdeps⟩ := mem_ready.1 hi
    have ho' : l[i]? = some o := by simpa using ho
    have hun' : listed.getD i false = false := getD_both hun
    have hoA : (actFrom n acts 0 l).toArray[i]? = some (actOp n acts i o) := by
      rw [List.getElem?_toArray, actFrom_get, ho', Nat.zero_add]; rfl
    have hinv' := inv.set hi hin
    have hf' : todo (listed.setIfInBounds i true) n = f := by
      have := todo_set (k := n) (by omega) hun'
      rw [if_pos hin] at this
      omega
    have hA' : ∀ U, C U → ∃ v, YieldsIn P (actFrom n acts 0 l).toArray (fun w' => w' = U) (actOp n acts i o) v aA ∧
        wpAnyQ P .any (actFrom n acts 0 l).toArray (fun w' => w' = U) (· = F) (f + (l.length - n)) (listed.setIfInBounds i true) (aA.put o.dst v) := by
      intro U hU
      have h1 := hA U hU
      rw [show f + 1 + (l.length - n) = f + (l.length - n) + 1 by omega] at h1
      have h2 := h1.2 i (by rw [ready_act]; exact hi)
      obtain ⟨v, hy, hK⟩ := yieldsIn_of_qOp hoA h2
      rw [actOp_dst n acts i o hin] at hK
      exact ⟨v, hy, hK⟩
    have same : ∀ U1 U2 v1 v2, wpAnyQ P .any (actFrom n acts 0 l).toArray (fun w' => w' = U1) (· = F) (f + (l.length - n)) (listed.setIfInBounds i true) (aA.put o.dst v1) →
        wpAnyQ P .any (actFrom n acts 0 l).toArray (fun w' => w' = U2) (· = F) (f + (l.length - n)) (listed.setIfInBounds i true) (aA.put o.dst v2) → aA.put o.dst v1 = aA.put o.dst v2 := by
      intro U1 U2 v1 v2 h1 h2
      cases hd : o.dst with
      | none => rfl
      | some d =>
        rw [hd] at h1 h2
        have hno : ∀ (j : Nat) (o' : Oper), (actFrom n acts 0 l).toArray[j]? = some o' → (listed.setIfInBounds i true).getD j true = false → o'.dst ≠ some d := by
          intro j o' hj hjun
          rw [List.getElem?_toArray, actFrom_get, Nat.zero_add] at hj
          cases hlj : l[j]? with
          | none => rw [hlj] at hj; cases hj
          | some oj =>
            rw [hlj] at hj
            simp only [Option.map_some, Option.some.injEq] at hj
            subst hj
            rcases Nat.lt_or_ge j n with h | h
            · rw [actOp_dst n acts j oj h]
              have hij : i ≠ j := by
                rintro rfl
                have : (listed.setIfInBounds i true).getD i true = true := by
                  simp [show i < listed.size by omega]
                rw [this] at hjun; cases hjun
              exact hm.dsts i j hin h hij o oj ho' hlj d hd
            · rw [actOp_tail n acts j oj h]; simp
        have e1 := (final_slots _ _ _ h1).2.2 d hno
        have e2 := (final_slots _ _ _ h2).2.2 d hno
        have e3 := e1.trans e2.symm
        simp only [Act.put, Array.getElem?_setIfInBounds_self] at e3 ⊢
        congr 1
        apply Array.ext_getElem?
        intro s
        by_cases hs : d = s
        · subst hs; rw [Array.getElem?_setIfInBounds_self, Array.getElem?_setIfInBounds_self]; exact e3
        · simp [Array.getElem?_setIfInBounds, hs]
    have hwA : Region.wanted o (yielded (actFrom n acts 0 l).toArray aA.tmps) = Region.wanted o (yielded l.toArray aA.tmps) := by
      unfold Region.wanted
      cases hgd : o.guard with
      | none => rfl
      | some gb =>
        obtain ⟨gi, b⟩ := gb
        have hgn := hm.guard i o hin ho' gi b hgd
        have : yielded (actFrom n acts 0 l).toArray aA.tmps gi = yielded l.toArray aA.tmps gi := by
          unfold yielded
          rw [List.getElem?_toArray, List.getElem?_toArray, actFrom_get, Nat.zero_add]
          cases l[gi]? with
          | none => rfl
          | some og => simp only [Option.map_some, Option.bind_some, actOp_dst n acts gi og hgn]
        simp only [this]
    obtain ⟨v0, hy0, hK0⟩ := hA' w hC
    have cont : ∀ k2 w2, C w2 → St k2 w2 → k2 ≤ acts.length → (∀ (j : Nat) (h : j < acts.length), (listed.setIfInBounds i true).getD acts[j].1 false = decide (j < k2)) →
        wpAny P .any l.toArray Q (f + (l.length - n)) (listed.setIfInBounds i true) (aA.put o.dst v0) w2 := by
      intro k2 w2 hC2 hS2 hk2 hkl2
      refine ih _ _ _ k2 hf' hinv' hC2 hS2 hk2 hkl2 ?_
      intro U hU
      obtain ⟨v1, _, hK⟩ := hA' U hU
      have := same _ _ _ _ hK0 hK
      rw [this]; exact hK
    cases hlk : acts.lookup i with
    | some v =>
      obtain ⟨j, hj, hje⟩ := lookup_get hlk
      have hji : acts[j].1 = i := by rw [hje]
      have hjv : acts[j].2 = v := by rw [hje]
      -- its turn has come
      have hjk : j = kk := by
        have h1 := hkl j hj
        rw [hji, hun'] at h1
        have h2 : ¬ j < kk := by simpa using h1
        rcases Nat.eq_zero_or_pos j with h0 | h0
        · omega
        · obtain ⟨j', rfl⟩ : ∃ j', j = j' + 1 := ⟨j - 1, by omega⟩
          obtain ⟨ed, hed, hb, hon⟩ := hm.chain j' hj o (by rw [hji]; exact ho')
          have h3 := hdeps ed hed hb
          rw [hon, hkl j' (by omega)] at h3
          have : j' < kk := by simpa using h3
          omega
      subst hjk
      obtain ⟨hw1, hstep⟩ := hact j hj o (by rw [hji]; exact ho')
      have hstep := hstep w hC hS
      rw [hjv] at hstep
      have hops := (hm.made _ (List.getElem_mem hj)).2 o (by rw [hji]; exact ho')
      obtain ⟨_, _, hfin⟩ := final_slots _ _ _ (hA w hC)
      -- what it looks at stands as it will stand at the end
      have hslot : ∀ t, t ∈ o.looksAt l.toArray → aA.tmps[t]? = F.tmps[t]? := by
        intro t hlook
        refine hfin t (fun j' oj hj' hjun hjd => ?_)
        rw [List.getElem?_toArray, actFrom_get, Nat.zero_add] at hj'
        cases hlj : l[j']? with
        | none => rw [hlj] at hj'; cases hj'
        | some oj' =>
          rw [hlj] at hj'
          simp only [Option.map_some, Option.some.injEq] at hj'
          subst hj'
          rcases Nat.lt_or_ge j' n with h | h
          · rw [actOp_dst n acts j' oj' h] at hjd
            obtain ⟨ed, hed, hb, hon⟩ := hops j' oj' h hlj t hjd hlook
            have h1 := hdeps ed hed hb
            rw [hon, getD_both hjun] at h1
            cases h1
          · rw [actOp_tail n acts j' oj' h] at hjd; cases hjd
      have hsel := Region.noSelect_spec hm.sel
      have hexF : execOp aA.eval o = execOp F.eval o := by
        refine execOp_congr o (fun cs b => hsel i o cs b ho) fun x hx => ?_
        cases x with
        | tmp t =>
          have hlook : t ∈ o.looksAt l.toArray := List.mem_append_left _ (List.mem_filterMap.2 ⟨.tmp t, by simpa using hx, rfl⟩)
          simp only [Act.eval, Array.getD_eq_getD_getElem?, hslot t hlook]
        | _ => rfl
      have hwF : Region.wanted o (yielded l.toArray aA.tmps) = true := by
        rw [← hw1]
        unfold Region.wanted
        cases hgd : o.guard with
        | none => rfl
        | some gb =>
          obtain ⟨gi, b⟩ := gb
          have : yielded l.toArray aA.tmps gi = yielded l.toArray F.tmps gi := by
            unfold yielded
            cases hgi : l.toArray[gi]? with
            | none => rfl
            | some og =>
              cases hdg : og.dst with
              | none => simp [hdg]
              | some t =>
                have hlook : t ∈ o.looksAt l.toArray := by
                  unfold Oper.looksAt
                  refine List.mem_append_right _ ?_
                  rw [hgd]
                  simp [hgi, hdg]
                simp [hdg, hslot t hlook]
          simp only [this]
      have hv0 : v0 = v := by
        rcases hy0 with ⟨_, hv⟩ | ⟨hwn, _⟩
        · have := hv w rfl
          rw [actOp_act n acts i o v hin hlk] at this
          unfold Oper.quietAt at this
          simp only [execOp, Sem.run_pure, Oper.quietUpon] at this
          exact this.2.symm
        · exfalso
          have : Region.wanted (actOp n acts i o) (yielded (actFrom n acts 0 l).toArray aA.tmps) = Region.wanted o (yielded (actFrom n acts 0 l).toArray aA.tmps) := by
            unfold Region.wanted; rw [actOp_guard]
          rw [this, hwA, hwF] at hwn
          cases hwn
      subst hv0
      have hkl2 : ∀ (j2 : Nat) (h : j2 < acts.length), (listed.setIfInBounds i true).getD acts[j2].1 false = decide (j2 < j + 1) := by
        intro j2 h2
        by_cases e : j2 = j
        · subst e
          rw [hji]
          have : (listed.setIfInBounds i true).getD i false = true := by simp [show i < listed.size by omega]
          rw [this]; simp
        · have hne : i ≠ acts[j2].1 := fun h => e (hm.nodup j2 j h2 hj (by rw [hji]; exact h.symm))
          rw [getD_set_ne false hne, hkl j2 h2, decide_eq_decide]
          omega
      unfold wpOp
      simp only [ho]
      rw [if_pos hwF]
      refine .inl ?_
      unfold Oper.wp
      rw [hexF]
      unfold ActStep at hstep
      generalize (execOp F.eval o).run P w = r at hstep
      cases r with
      | halt x w' => exact hstep.elim
      | ok nx w' =>
        cases nx <;> simp only at hstep <;> simp only [Oper.upon]
        case value u => obtain ⟨rfl, h1, h2⟩ := hstep; exact cont (j + 1) w' h1 h2 (by omega) hkl2
        case enter fn args =>
          obtain ⟨rfl, hc⟩ := hstep
          exact hc.mono fun en w'' ⟨he, h1, h2⟩ => by subst he; exact cont (j + 1) w'' h1 h2 (by omega) hkl2
        all_goals first | exact hstep.elim | (obtain ⟨rfl, h1, h2⟩ := hstep; exact cont (j + 1) w' h1 h2 (by omega) hkl2)
    | none =>
      have hpl := hy0
      rw [actOp_plain n acts i o hin hlk] at hpl
      have hy' : YieldsIn P l.toArray (fun w' => w' = w) o v0 aA := by
        unfold YieldsIn at hpl ⊢
        rw [← hwA]
        exact hpl
      refine wpOp_of_qOp (C := fun w' => w' = w) rfl (K := fun a' => a' = aA.put o.dst v0) ?_ (hy'.qOp ho rfl)
      rintro a' w' rfl rfl
      refine cont kk _ hC hS hk (fun j hj => ?_)
      have hne : i ≠ acts[j].1 := by
        intro h
        have : acts.lookup i ≠ none := by
          rw [h]
          intro hn
          rw [List.lookup_eq_none_iff] at hn
          have := hn _ (List.getElem_mem hj)
          simp at this
        exact this hlk
      rw [getD_set_ne false hne, hkl j hj]

/-- **A REGION THAT DRAWS ITS ORDER, WITH ACTS** -/
theorem wp_region_acts {id : Nat} {Q : Exit → Act → World → Prop} {a F : Act} {w : World} (n : Nat) (acts : List (Nat × Value)) (C : World → Prop) (St : Nat → World → Prop) (hm : P.follows .mixedOrders = true) (hB : actB l n (acts.map (·.1)) = true) (hlexB : Region.lexB .any (actFrom n acts 0 l).toArray = true)
    (hC : C w.drew) (hS : St 0 w.drew)
    (hlex : ∀ U, C U → wpQuiet P (actFrom n acts 0 l).toArray (fun w' => w' = U) (· = F) (actFrom n acts 0 l) a)
    (hact : ∀ (j : Nat) (h : j < acts.length), ∀ o, l[acts[j].1]? = some o → Region.wanted o (yielded l.toArray F.tmps) = true ∧ ∀ w, C w → St j w → ActStep P F o acts[j].2 w fun w' => C w' ∧ St (j + 1) w')
    (htail : ∀ w, C w → St acts.length w → wpList P l.toArray Q (l.drop n) F w) :
    (Code.region id l.toArray true).wp P Q a w := by
  have hk := actOk hB
  simp only [Region.lexB, Bool.and_eq_true] at hlexB
  have inv0 : HeadInv .any l.toArray n (Array.replicate l.toArray.size false) := ⟨by simp, fun j oj _ h => (by rw [getD_replicate_false] at h; cases h), fun t _ ht => (by
    have ht' : t < l.length := by simpa using ht
    simp [ht'])⟩
  have htodo : ∀ k, k ≤ l.length → todo (Array.replicate l.toArray.size false) k = k := by
    intro k
    induction k with
    | zero => intro _; rfl
    | succ k ih => intro hk; simp only [todo, getD_replicate_false, ih (by omega)]; simp
  have hdl : n + (l.length - n) = l.length := by have := hk.nle; omega
  refine wp_region_any hm ?_
  have hr : ({ w with drawn := w.drawn + 1 } : World) = w.drew := rfl
  rw [hr]
  have := act_run (P := P) (Q := Q) (F := F) (C := C) (St := St) hk hact htail n (Array.replicate l.toArray.size false) a w.drew 0 (htodo n hk.nle) inv0 hC hS (Nat.zero_le _) (fun j hj => by rw [getD_replicate_false]; simp) (fun U hU => by
      have hl := wpAnyQ_lex (P := P) (C := fun w' => w' = U) (Q := (· = F)) (md := .any) hlexB.1 (actFrom n acts 0 l) 0 (Array.replicate (actFrom n acts 0 l).toArray.size false) a (by simp) (by simpa using hlexB.2) (hlex U hU)
      rw [hdl]
      simpa [actFrom_length] using hl)
  rw [hdl] at this
  simpa using this
theorem act_value {F : Act} {o : Oper} {v : Value} {w w' : World} {R : World → Prop} (hr : (execOp F.eval o).run P w = .ok (.value v) w') (h : R w') : ActStep P F o v w R := by
  unfold ActStep; rw [hr]; exact ⟨rfl, h⟩
theorem act_call {F : Act} {o : Oper} {v : Value} {w : World} {f : FuncId} {args : Array Value} {R : World → Prop} (hr : (execOp F.eval o).run P w = .ok (.enter f args) w) (h : Calls P f args w fun e w'' => e = .returned v ∧ R w'') : ActStep P F o v w R := by
  unfold ActStep; rw [hr]; exact ⟨rfl, h⟩
theorem act_append {F : Act} {o : Oper} {v : Value} {w w' : World} {R : World → Prop} (s x : Operand) (t tn : TypeId) (ho : o.op = .call { callee := .builtin .append, args := #[s, x], argTypes := #[t, tn] }) (vs vx : Value) (hs : F.eval s = vs) (hx : F.eval x = vx)
    (hr : (Builtin.append_ #[t, tn] o.type #[vs, vx]).run P w = .ok v w') (h : R w') : ActStep P F o v w R := by
  refine act_value (w' := w') ?_ h
  unfold execOp
  simp only [ho, resolve, invoke, builtin, Sem.run_bind, Sem.run_pure, Result.andThen_ok, List.map_toArray, List.map_cons, List.map_nil, hs, hx, hr]
/-- the states ahead of and behind the acts, in a list -/
def stL (Ps : List (World → Prop)) (j : Nat) (w : World) : Prop := (Ps.getD j fun _ => False) w
end
end Go.Proofs.Ytjoadlfkdkeomaa
