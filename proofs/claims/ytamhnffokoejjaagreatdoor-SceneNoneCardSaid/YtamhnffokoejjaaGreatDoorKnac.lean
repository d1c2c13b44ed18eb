/- what the proof stands on: Acts Chain -/
import Derived.Test.YtamhnffokoejjaaGreatDoorKnab
namespace Go.Proofs.YtamhnffokoejjaaGreatDoor
set_option linter.unusedSimpArgs false
set_option linter.unusedVariables false
set_option linter.unusedSectionVars false
open Go.RowKit
def actOp (n : Nat) (acts : List (Nat × Value)) (i : Nat) (o : Oper) : Oper :=
  if n ≤ i then { o with dst := none, op := .move (.const undef) } else match acts.lookup i with | some v => { o with op := .move (.const v) } | none => o
def actFrom (n : Nat) (acts : List (Nat × Value)) : Nat → List Oper → List Oper
  | _, [] => []
  | i, o :: l => actOp n acts i o :: actFrom n acts (i + 1) l
theorem actFrom_get (n : Nat) (acts : List (Nat × Value)) : ∀ (l : List Oper) (k j : Nat), (actFrom n acts k l)[j]? = (l[j]?).map (actOp n acts (k + j))
  | [], _, _ => by simp [actFrom]
  | o :: l, k, 0 => by simp [actFrom]
  | o :: l, k, j + 1 => by
    simp only [actFrom, List.getElem?_cons_succ]
    rw [actFrom_get n acts l (k + 1) j, show k + 1 + j = k + (j + 1) by omega]
theorem actFrom_length (n : Nat) (acts : List (Nat × Value)) : ∀ (l : List Oper) (k : Nat), (actFrom n acts k l).length = l.length
  | [], _ => rfl
  | o :: l, k => by simp [actFrom, actFrom_length n acts l (k + 1)]
theorem actOp_after (n : Nat) (acts : List (Nat × Value)) (i : Nat) (o : Oper) : (actOp n acts i o).after = o.after := by
  unfold actOp
  split
  · rfl
  · split <;> rfl
theorem actOp_guard (n : Nat) (acts : List (Nat × Value)) (i : Nat) (o : Oper) : (actOp n acts i o).guard = o.guard := by
  unfold actOp
  split
  · rfl
  · split <;> rfl
theorem actOp_dst (n : Nat) (acts : List (Nat × Value)) (i : Nat) (o : Oper) (h : i < n) : (actOp n acts i o).dst = o.dst := by
  unfold actOp
  rw [if_neg (by omega)]
  split <;> rfl
theorem actOp_tail (n : Nat) (acts : List (Nat × Value)) (i : Nat) (o : Oper) (h : n ≤ i) : (actOp n acts i o).dst = none := by
  unfold actOp
  rw [if_pos h]
theorem actOp_plain (n : Nat) (acts : List (Nat × Value)) (i : Nat) (o : Oper) (h : i < n) (ha : acts.lookup i = none) : actOp n acts i o = o := by
  unfold actOp
  rw [if_neg (by omega), ha]
theorem actOp_act (n : Nat) (acts : List (Nat × Value)) (i : Nat) (o : Oper) (v : Value) (h : i < n) (ha : acts.lookup i = some v) : actOp n acts i o = { o with op := .move (.const v) } := by
  unfold actOp
  rw [if_neg (by omega), ha]
def actB (l : List Oper) (n : Nat) (is : List Nat) : Bool :=
  Region.noSelect l.toArray && decide (n ≤ l.length) &&
  ((List.range l.length).all fun i => match l[i]? with | some o => o.after.all fun e => !Region.binds .any e || decide (e.on < i) | none => true) &&
  ((List.range n).all fun i => match l[i]? with | some o => (match o.guard with | some (g, _) => decide (g < n) | none => true) | none => true) &&
  (is.all fun i => decide (i < n) &&
    match l[i]? with
    | some o => (List.range n).all fun j => match (l[j]?).bind (·.dst) with
        | some t => !(o.looksAt l.toArray).contains t || o.after.any fun ed => Region.binds .any ed && ed.on == j
        | none => true
    | none => false) &&
  ((List.range (is.length - 1)).all fun k => match l[is.getD (k + 1) 0]? with | some o => o.after.any fun ed => Region.binds .any ed && ed.on == is.getD k 0 | none => false) &&
  ((List.range is.length).all fun j => (List.range is.length).all fun k => j == k || is.getD j 0 != is.getD k 0) &&
  ((List.range n).all fun i => (List.range n).all fun j => i == j || match (l[i]?).bind (·.dst), (l[j]?).bind (·.dst) with | some d, some d' => d != d' | _, _ => true) &&
  (n == l.length || (Region.sinkB .any l.toArray n && Region.chainB .any l.toArray n)) &&
  Region.seqB .any l.toArray (l.length - n) n (Array.replicate n true ++ Array.replicate (l.length - n) false)
section
variable {P : Program} {l : List Oper} {n : Nat} {acts : List (Nat × Value)}
theorem ready_act (listed : Array Bool) : Region.ready .any (actFrom n acts 0 l).toArray listed = Region.ready .any l.toArray listed := by
  unfold Region.ready
  rw [List.size_toArray, List.size_toArray, actFrom_length]
  congr 1
  funext i
  rw [List.getElem?_toArray, List.getElem?_toArray, actFrom_get]
  cases l[i]? with
  | none => rfl
  | some o => simp only [Option.map_some, actOp_after]
structure ActOk (l : List Oper) (n : Nat) (acts : List (Nat × Value)) : Prop where
  sel : Region.noSelect l.toArray = true
  nle : n ≤ l.length
  back : ∀ (i : Nat) (o : Oper), l[i]? = some o → ∀ e ∈ o.after, Region.binds .any e = true → e.on < i
  guard : ∀ (i : Nat) (o : Oper), i < n → l[i]? = some o → ∀ g b, o.guard = some (g, b) → g < n
  made : ∀ e ∈ acts, e.1 < n ∧ ∀ o, l[e.1]? = some o → ∀ (j : Nat) (o' : Oper), j < n → l[j]? = some o' → ∀ t, o'.dst = some t → t ∈ o.looksAt l.toArray → ∃ ed ∈ o.after, Region.binds .any ed = true ∧ ed.on = j
  chain : ∀ (k : Nat) (h : k + 1 < acts.length), ∀ o, l[acts[k + 1].1]? = some o → ∃ ed ∈ o.after, Region.binds .any ed = true ∧ ed.on = acts[k].1
  nodup : ∀ (j k : Nat) (hj : j < acts.length) (hk : k < acts.length), acts[j].1 = acts[k].1 → j = k
  dsts : ∀ i j : Nat, i < n → j < n → i ≠ j → ∀ o o' : Oper, l[i]? = some o → l[j]? = some o' → ∀ d, o.dst = some d → o'.dst ≠ some d
  tail : n = l.length ∨ (Region.sinkB .any l.toArray n = true ∧ Region.chainB .any l.toArray n = true)
  seq : Region.seqB .any l.toArray (l.length - n) n (Array.replicate n true ++ Array.replicate (l.length - n) false) = true
theorem getD_acts {k : Nat} (h : k < acts.length) : (acts.map (·.1)).getD k 0 = acts[k].1 := by simp [h]
theorem actOk (h : actB l n (acts.map (·.1)) = true) : ActOk l n acts := by
  unfold actB at h
  simp only [Bool.and_eq_true] at h
  obtain ⟨⟨⟨⟨⟨⟨⟨⟨⟨h1, h2⟩, h3⟩, h4⟩, h5⟩, h6⟩, h7⟩, h8⟩, h9⟩, h10⟩ := h
  refine ⟨h1, by simpa using h2, ?_, ?_, ?_, ?_, ?_, ?_, ?_, h10⟩
  · intro i o ho e he hb
    have hi : i < l.length := (List.getElem?_eq_some_iff.1 ho).1
    have := List.all_eq_true.1 h3 i (List.mem_range.2 hi)
    rw [ho] at this
    have := Array.all_eq_true'.1 this e he
    simpa [hb] using this
  · intro i o hi ho g b hg
    have := List.all_eq_true.1 h4 i (List.mem_range.2 hi)
    rw [ho] at this
    simp only [hg] at this
    simpa using this
  · intro e he
    have := List.all_eq_true.1 h5 e.1 (List.mem_map.2 ⟨e, he, rfl⟩)
    rw [Bool.and_eq_true] at this
    refine ⟨by simpa using this.1, fun o ho j o' hj ho' t ht hlt => ?_⟩
    have g3 := this.2
    rw [ho] at g3
    have := List.all_eq_true.1 g3 j (List.mem_range.2 hj)
    rw [ho', Option.bind_some, ht] at this
    simp only [Bool.or_eq_true, Bool.not_eq_true', List.contains_eq_mem, decide_eq_false_iff_not, Array.any_eq_true', Bool.and_eq_true, beq_iff_eq] at this
    rcases this with h | ⟨ed, h, hb⟩
    · exact absurd hlt h
    · exact ⟨ed, h, hb⟩
  · intro k hk o ho
    have := List.all_eq_true.1 h6 k (List.mem_range.2 (by rw [List.length_map]; omega))
    rw [getD_acts hk, getD_acts (by omega), ho] at this
    simp only [Array.any_eq_true', Bool.and_eq_true, beq_iff_eq] at this
    obtain ⟨ed, h, hb⟩ := this
    exact ⟨ed, h, hb⟩
  · intro j k hj hk he
    have := List.all_eq_true.1 (List.all_eq_true.1 h7 j (List.mem_range.2 (by rw [List.length_map]; exact hj))) k (List.mem_range.2 (by rw [List.length_map]; exact hk))
    rw [getD_acts hj, getD_acts hk, he] at this
    simpa using this
  · intro i j hi hj hij o o' ho ho' d hd hd'
    have := List.all_eq_true.1 (List.all_eq_true.1 h8 i (List.mem_range.2 hi)) j (List.mem_range.2 hj)
    rw [ho, ho'] at this
    simp [hij, hd, hd'] at this
  · rcases Bool.or_eq_true_iff.1 h9 with h | h
    · exact .inl (by simpa using h)
    · exact .inr (by simpa only [Bool.and_eq_true] using h)
theorem head_only_act (hm : ActOk l n acts) {listed : Array Bool} (inv : HeadInv .any l.toArray n listed) {i : Nat} (hi : i < n) (hun : listed.getD i true = false) : ∀ t ∈ Region.ready .any l.toArray listed, t < n := by
  intro t ht
  rcases Nat.lt_or_ge t n with h | h
  · exact h
  · obtain ⟨_, o, ho, _⟩ := mem_ready.1 ht
    have htl : t < l.length := by have := (Array.getElem?_eq_some_iff.1 ho).1; simpa using this
    rcases hm.tail with he | ⟨hs, hc⟩
    · omega
    · exact absurd ht (tail_waits hs hc (by simp; omega) inv _ i rfl hi hun t h)
def ActStep (P : Program) (F : Act) (o : Oper) (v : Value) (w : World) (R : World → Prop) : Prop :=
  match (execOp F.eval o).run P w with
  | .ok (.value u) w' => u = v ∧ R w'
  | .ok .skip w' => v = undef ∧ R w'
  | .ok (.enter f args) w' => w' = w ∧ Calls P f args w fun e w'' => e = .returned v ∧ R w''
  | _ => False
theorem lookup_get {i : Nat} {v : Value} : ∀ {acts : List (Nat × Value)}, acts.lookup i = some v → ∃ j, ∃ h : j < acts.length, acts[j] = (i, v)
  | [], h => by simp at h
  | (k, u) :: r, h => by
    rw [List.lookup_cons] at h
    split at h
    · rename_i hk
      cases h
      exact ⟨0, by simp, by rw [eq_of_beq hk]; rfl⟩
    · obtain ⟨j, hj, e⟩ := lookup_get h
      exact ⟨j + 1, by simpa using hj, by simpa using e⟩
theorem act_run {Q : Exit → Act → World → Prop} {F : Act} {C : World → Prop} {St : Nat → World → Prop} (hm : ActOk l n acts)
    (hact : ∀ (j : Nat) (h : j < acts.length), ∀ o, l[acts[j].1]? = some o → Region.wanted o (yielded l.toArray F.tmps) = true ∧ ∀ w, C w → St j w → ActStep P F o acts[j].2 w fun w' => C w' ∧ St (j + 1) w')
    (htail : ∀ w, C w → St acts.length w → wpList P l.toArray Q (l.drop n) F w) :
    ∀ (f : Nat) (listed : Array Bool) (aA : Act) (w : World) (k : Nat), todo listed n = f → HeadInv .any l.toArray n listed → C w → St k w → k ≤ acts.length → (∀ (j : Nat) (h : j < acts.length), listed.getD acts[j].1 false = decide (j < k)) →
      (∀ U, C U → wpAnyQ P .any (actFrom n acts 0 l).toArray (fun w' => w' = U) (· = F) (f + (l.length - n)) listed aA) → wpAny P .any l.toArray Q (f + (l.length - n)) listed aA w := by
  intro f
  induction f with
  | zero =>
    intro listed aA w k hf inv hC hS hk hkl hA
    have hall := todo_zero n hf
    have hl : listed = Array.replicate n true ++ Array.replicate (l.length - n) false := by
      apply Array.ext
      · have := inv.size; simp at this ⊢; have := hm.nle; omega
      · intro i h1 h2
        rcases Nat.lt_or_ge i n with h | h
        · have := hall i h
          simp [Array.getElem_append, h] at this ⊢
          simpa [h1] using this
        · have hs := inv.size
          have := inv.tail i h (by simp at hs ⊢; omega)
          simp [Array.getElem_append, show ¬ i < n by omega] at this ⊢
          simpa [h1] using this
    obtain ⟨d1, d2, d3⟩ := final_slots _ _ _ (hA w hC)
    have hF : aA = F := by
      have ht : aA.tmps = F.tmps := by
        apply Array.ext_getElem?
        intro s
        refine d3 s (fun j o hj hun => ?_)
        rw [List.getElem?_toArray, actFrom_get] at hj
        cases hlj : l[j]? with
        | none => rw [hlj] at hj; cases hj
        | some o' =>
          rw [hlj] at hj
          simp only [Option.map_some, Option.some.injEq] at hj
          subst hj
          rcases Nat.lt_or_ge j n with h | h
          · have h1 := hall j h
            rcases Nat.lt_or_ge j listed.size with h' | h'
            · simp [h'] at h1 hun; rw [h1] at hun; cases hun
            · simp [Array.getElem?_eq_none h'] at h1
          · rw [Nat.zero_add, actOp_tail n acts j o' h]; simp
      cases aA; cases F; simp_all
    subst hF
    have hkE : k = acts.length := by
      rcases Nat.lt_or_ge k acts.length with h | h
      · have h1 := hkl k h
        rw [hall _ (hm.made _ (List.getElem_mem h)).1] at h1
        simp at h1
      · omega
    subst hkE
    have hw2 := htail w hC hS
    have hseq := hm.seq
    rw [← hl] at hseq
    have hdl : (l.drop n).length = l.length - n := by simp
    rw [Nat.zero_add]
    have := wpAny_of_seq (P := P) (Q' := Q) (ops := l.toArray) (md := .any) (l.drop n) n listed aA w (fun j => by simp) (by rw [hdl]; exact hseq) hw2
    rwa [hdl] at this
  | succ f ih =>
    intro listed aA w kk hf inv hC hS hk hkl hA
    obtain ⟨k, hkn, hkun, hkall⟩ := todo_some (listed := listed) n (by omega)
    have hsz : listed.size = l.length := by have := inv.size; simpa using this
    have hnl := hm.nle
    have hkun' : listed.getD k true = false := getD_in (by omega) hkun
    have hkr : k ∈ Region.ready .any l.toArray listed := by
      refine mem_ready.2 ⟨hkun', l[k]'(by omega), by simp, fun e he hb => ?_⟩
      have := hm.back k _ (List.getElem?_eq_getElem (by omega)) e he hb
      exact hkall _ this
    rw [show f + 1 + (l.length - n) = f + (l.length - n) + 1 by omega]
    refine ⟨fun h0 => (by rw [h0] at hkr; cases hkr), fun i hi => ?_⟩
    have hin := head_only_act hm inv hkn hkun' i hi
    obtain ⟨hun, o, ho, hdeps⟩ := mem_ready.1 hi
    have ho' : l[i]? = some o := by simpa using ho
    have hun' : listed.getD i false = false := getD_both hun
    have hoA : (actFrom n acts 0 l).toArray[i]? = some (actOp n acts i o) := by
      rw [List.getElem?_toArray, actFrom_get, ho', Nat.zero_add]; rfl
    have hinv' := inv.set hi hin
    have hf' : todo (listed.setIfInBounds i true) n = f := by
      have := todo_set (k := n) (by omega) hun'
      rw [if_pos hin] at this
      omega
    have hA' : ∀ U, C U → ∃ v, YieldsIn P (actFrom n acts 0 l).toArray (fun w' => w' = U) (actOp n acts i o) v aA ∧
        wpAnyQ P .any (actFrom n acts 0 l).toArray (fun w' => w' = U) (· = F) (f + (l.length - n)) (listed.setIfInBounds i true) (aA.put o.dst v) := by
      intro U hU
      have h1 := hA U hU
      rw [show f + 1 + (l.length - n) = f + (l.length - n) + 1 by omega] at h1
      have h2 := h1.2 i (by rw [ready_act]; exact hi)
      obtain ⟨v, hy, hK⟩ := yieldsIn_of_qOp hoA h2
      rw [actOp_dst n acts i o hin] at hK
      exact ⟨v, hy, hK⟩
    have same : ∀ U1 U2 v1 v2, wpAnyQ P .any (actFrom n acts 0 l).toArray (fun w' => w' = U1) (· = F) (f + (l.length - n)) (listed.setIfInBounds i true) (aA.put o.dst v1) →
        wpAnyQ P .any (actFrom n acts 0 l).toArray (fun w' => w' = U2) (· = F) (f + (l.length - n)) (listed.setIfInBounds i true) (aA.put o.dst v2) → aA.put o.dst v1 = aA.put o.dst v2 := by
      intro U1 U2 v1 v2 h1 h2
      cases hd : o.dst with
      | none => rfl
      | some d =>
        rw [hd] at h1 h2
        have hno : ∀ (j : Nat) (o' : Oper), (actFrom n acts 0 l).toArray[j]? = some o' → (listed.setIfInBounds i true).getD j true = false → o'.dst ≠ some d := by
          intro j o' hj hjun
          rw [List.getElem?_toArray, actFrom_get, Nat.zero_add] at hj
          cases hlj : l[j]? with
          | none => rw [hlj] at hj; cases hj
          | some oj =>
            rw [hlj] at hj
            simp only [Option.map_some, Option.some.injEq] at hj
            subst hj
            rcases Nat.lt_or_ge j n with h | h
            · rw [actOp_dst n acts j oj h]
              have hij : i ≠ j := by
                rintro rfl
                have : (listed.setIfInBounds i true).getD i true = true := by
                  simp [show i < listed.size by omega]
                rw [this] at hjun; cases hjun
              exact hm.dsts i j hin h hij o oj ho' hlj d hd
            · rw [actOp_tail n acts j oj h]; simp
        have e1 := (final_slots _ _ _ h1).2.2 d hno
        have e2 := (final_slots _ _ _ h2).2.2 d hno
        have e3 := e1.trans e2.symm
        simp only [Act.put, Array.getElem?_setIfInBounds_self] at e3 ⊢
        congr 1
        apply Array.ext_getElem?
        intro s
        by_cases hs : d = s
        · subst hs; rw [Array.getElem?_setIfInBounds_self, Array.getElem?_setIfInBounds_self]; exact e3
        · simp [Array.getElem?_setIfInBounds, hs]
    have hwA : Region.wanted o (yielded (actFrom n acts 0 l).toArray aA.tmps) = Region.wanted o (yielded l.toArray aA.tmps) := by
      unfold Region.wanted
      cases hgd : o.guard with
      | none => rfl
      | some gb =>
        obtain ⟨gi, b⟩ := gb
        have hgn := hm.guard i o hin ho' gi b hgd
        have : yielded (actFrom n acts 0 l).toArray aA.tmps gi = yielded l.toArray aA.tmps gi := by
          unfold yielded
          rw [List.getElem?_toArray, List.getElem?_toArray, actFrom_get, Nat.zero_add]
          cases l[gi]? with
          | none => rfl
          | some og => simp only [Option.map_some, Option.bind_some, actOp_dst n acts gi og hgn]
        simp only [this]
    obtain ⟨v0, hy0, hK0⟩ := hA' w hC
    have cont : ∀ k2 w2, C w2 → St k2 w2 → k2 ≤ acts.length → (∀ (j : Nat) (h : j < acts.length), (listed.setIfInBounds i true).getD acts[j].1 false = decide (j < k2)) →
        wpAny P .any l.toArray Q (f + (l.length - n)) (listed.setIfInBounds i true) (aA.put o.dst v0) w2 := by
      intro k2 w2 hC2 hS2 hk2 hkl2
      refine ih _ _ _ k2 hf' hinv' hC2 hS2 hk2 hkl2 ?_
      intro U hU
      obtain ⟨v1, _, hK⟩ := hA' U hU
      have := same _ _ _ _ hK0 hK
      rw [this]; exact hK
    cases hlk : acts.lookup i with
    | some v =>
      obtain ⟨j, hj, hje⟩ := lookup_get hlk
      have hji : acts[j].1 = i := by rw [hje]
      have hjv : acts[j].2 = v := by rw [hje]
      have hjk : j = kk := by
        have h1 := hkl j hj
        rw [hji, hun'] at h1
        have h2 : ¬ j < kk := by simpa using h1
        rcases Nat.eq_zero_or_pos j with h0 | h0
        · omega
        · obtain ⟨j', rfl⟩ : ∃ j', j = j' + 1 := ⟨j - 1, by omega⟩
          obtain ⟨ed, hed, hb, hon⟩ := hm.chain j' hj o (by rw [hji]; exact ho')
          have h3 := hdeps ed hed hb
          rw [hon, hkl j' (by omega)] at h3
          have : j' < kk := by simpa using h3
          omega
      subst hjk
      obtain ⟨hw1, hstep⟩ := hact j hj o (by rw [hji]; exact ho')
      have hstep := hstep w hC hS
      rw [hjv] at hstep
      have hops := (hm.made _ (List.getElem_mem hj)).2 o (by rw [hji]; exact ho')
      obtain ⟨_, _, hfin⟩ := final_slots _ _ _ (hA w hC)
      have hslot : ∀ t, t ∈ o.looksAt l.toArray → aA.tmps[t]? = F.tmps[t]? := by
        intro t hlook
        refine hfin t (fun j' oj hj' hjun hjd => ?_)
        rw [List.getElem?_toArray, actFrom_get, Nat.zero_add] at hj'
        cases hlj : l[j']? with
        | none => rw [hlj] at hj'; cases hj'
        | some oj' =>
          rw [hlj] at hj'
          simp only [Option.map_some, Option.some.injEq] at hj'
          subst hj'
          rcases Nat.lt_or_ge j' n with h | h
          · rw [actOp_dst n acts j' oj' h] at hjd
            obtain ⟨ed, hed, hb, hon⟩ := hops j' oj' h hlj t hjd hlook
            have h1 := hdeps ed hed hb
            rw [hon, getD_both hjun] at h1
            cases h1
          · rw [actOp_tail n acts j' oj' h] at hjd; cases hjd
      have hsel := Region.noSelect_spec hm.sel
      have hexF : execOp aA.eval o = execOp F.eval o := by
        refine execOp_congr o (fun cs b => hsel i o cs b ho) fun x hx => ?_
        cases x with
        | tmp t =>
          have hlook : t ∈ o.looksAt l.toArray := List.mem_append_left _ (List.mem_filterMap.2 ⟨.tmp t, by simpa using hx, rfl⟩)
          simp only [Act.eval, Array.getD_eq_getD_getElem?, hslot t hlook]
        | _ => rfl
      have hwF : Region.wanted o (yielded l.toArray aA.tmps) = true := by
        rw [← hw1]
        unfold Region.wanted
        cases hgd : o.guard with
        | none => rfl
        | some gb =>
          obtain ⟨gi, b⟩ := gb
          have : yielded l.toArray aA.tmps gi = yielded l.toArray F.tmps gi := by
            unfold yielded
            cases hgi : l.toArray[gi]? with
            | none => rfl
            | some og =>
              cases hdg : og.dst with
              | none => simp [hdg]
              | some t =>
                have hlook : t ∈ o.looksAt l.toArray := by
                  unfold Oper.looksAt
                  refine List.mem_append_right _ ?_
                  rw [hgd]
                  simp [hgi, hdg]
                simp [hdg, hslot t hlook]
          simp only [this]
      have hv0 : v0 = v := by
        rcases hy0 with ⟨_, hv⟩ | ⟨hwn, _⟩
        · have := hv w rfl
          rw [actOp_act n acts i o v hin hlk] at this
          unfold Oper.quietAt at this
          simp only [execOp, Sem.run_pure, Oper.quietUpon] at this
          exact this.2.symm
        · exfalso
          have : Region.wanted (actOp n acts i o) (yielded (actFrom n acts 0 l).toArray aA.tmps) = Region.wanted o (yielded (actFrom n acts 0 l).toArray aA.tmps) := by
            unfold Region.wanted; rw [actOp_guard]
          rw [this, hwA, hwF] at hwn
          cases hwn
      subst hv0
      have hkl2 : ∀ (j2 : Nat) (h : j2 < acts.length), (listed.setIfInBounds i true).getD acts[j2].1 false = decide (j2 < j + 1) := by
        intro j2 h2
        by_cases e : j2 = j
        · subst e
          rw [hji]
          have : (listed.setIfInBounds i true).getD i false = true := by simp [show i < listed.size by omega]
          rw [this]; simp
        · have hne : i ≠ acts[j2].1 := fun h => e (hm.nodup j2 j h2 hj (by rw [hji]; exact h.symm))
          rw [getD_set_ne false hne, hkl j2 h2, decide_eq_decide]
          omega
      unfold wpOp
      simp only [ho]
      rw [if_pos hwF]
      refine .inl ?_
      unfold Oper.wp
      rw [hexF]
      unfold ActStep at hstep
      generalize (execOp F.eval o).run P w = r at hstep
      cases r with
      | halt x w' => exact hstep.elim
      | ok nx w' =>
        cases nx <;> simp only at hstep <;> simp only [Oper.upon]
        case value u => obtain ⟨rfl, h1, h2⟩ := hstep; exact cont (j + 1) w' h1 h2 (by omega) hkl2
        case enter fn args =>
          obtain ⟨rfl, hc⟩ := hstep
          exact hc.mono fun en w'' ⟨he, h1, h2⟩ => by subst he; exact cont (j + 1) w'' h1 h2 (by omega) hkl2
        all_goals first | exact hstep.elim | (obtain ⟨rfl, h1, h2⟩ := hstep; exact cont (j + 1) w' h1 h2 (by omega) hkl2)
    | none =>
      have hpl := hy0
      rw [actOp_plain n acts i o hin hlk] at hpl
      have hy' : YieldsIn P l.toArray (fun w' => w' = w) o v0 aA := by
        unfold YieldsIn at hpl ⊢
        rw [← hwA]
        exact hpl
      refine wpOp_of_qOp (C := fun w' => w' = w) rfl (K := fun a' => a' = aA.put o.dst v0) ?_ (hy'.qOp ho rfl)
      rintro a' w' rfl rfl
      refine cont kk _ hC hS hk (fun j hj => ?_)
      have hne : i ≠ acts[j].1 := by
        intro h
        have : acts.lookup i ≠ none := by
          rw [h]
          intro hn
          rw [List.lookup_eq_none_iff] at hn
          have := hn _ (List.getElem_mem hj)
          simp at this
        exact this hlk
      rw [getD_set_ne false hne, hkl j hj]
theorem wp_region_acts {id : Nat} {Q : Exit → Act → World → Prop} {a F : Act} {w : World} (n : Nat) (acts : List (Nat × Value)) (C : World → Prop) (St : Nat → World → Prop) (hm : P.follows .mixedOrders = true) (hB : actB l n (acts.map (·.1)) = true) (hlexB : Region.lexB .any (actFrom n acts 0 l).toArray = true)
    (hC : C w.drew) (hS : St 0 w.drew)
    (hlex : ∀ U, C U → wpQuiet P (actFrom n acts 0 l).toArray (fun w' => w' = U) (· = F) (actFrom n acts 0 l) a)
    (hact : ∀ (j : Nat) (h : j < acts.length), ∀ o, l[acts[j].1]? = some o → Region.wanted o (yielded l.toArray F.tmps) = true ∧ ∀ w, C w → St j w → ActStep P F o acts[j].2 w fun w' => C w' ∧ St (j + 1) w')
    (htail : ∀ w, C w → St acts.length w → wpList P l.toArray Q (l.drop n) F w) :
    (Code.region id l.toArray true).wp P Q a w := by
  have hk := actOk hB
  simp only [Region.lexB, Bool.and_eq_true] at hlexB
  have inv0 : HeadInv .any l.toArray n (Array.replicate l.toArray.size false) := ⟨by simp, fun j oj _ h => (by rw [getD_replicate_false] at h; cases h), fun t _ ht => (by
    have ht' : t < l.length := by simpa using ht
    simp [ht'])⟩
  have htodo : ∀ k, k ≤ l.length → todo (Array.replicate l.toArray.size false) k = k := by
    intro k
    induction k with
    | zero => intro _; rfl
    | succ k ih => intro hk; simp only [todo, getD_replicate_false, ih (by omega)]; simp
  have hdl : n + (l.length - n) = l.length := by have := hk.nle; omega
  refine wp_region_any hm ?_
  have hr : ({ w with drawn := w.drawn + 1 } : World) = w.drew := rfl
  rw [hr]
  have := act_run (P := P) (Q := Q) (F := F) (C := C) (St := St) hk hact htail n (Array.replicate l.toArray.size false) a w.drew 0 (htodo n hk.nle) inv0 hC hS (Nat.zero_le _) (fun j hj => by rw [getD_replicate_false]; simp) (fun U hU => by
      have hl := wpAnyQ_lex (P := P) (C := fun w' => w' = U) (Q := (· = F)) (md := .any) hlexB.1 (actFrom n acts 0 l) 0 (Array.replicate (actFrom n acts 0 l).toArray.size false) a (by simp) (by simpa using hlexB.2) (hlex U hU)
      rw [hdl]
      simpa [actFrom_length] using hl)
  rw [hdl] at this
  simpa using this
theorem act_value {F : Act} {o : Oper} {v : Value} {w w' : World} {R : World → Prop} (hr : (execOp F.eval o).run P w = .ok (.value v) w') (h : R w') : ActStep P F o v w R := by
  unfold ActStep; rw [hr]; exact ⟨rfl, h⟩
def stL (Ps : List (World → Prop)) (j : Nat) (w : World) : Prop := (Ps.getD j fun _ => False) w
end
end Go.Proofs.YtamhnffokoejjaaGreatDoor
namespace Go.Proofs.YtamhnffokoejjaaGreatDoor
set_option linter.unusedSimpArgs false
set_option linter.unusedVariables false
set_option linter.unusedSectionVars false
open Go.RowKit
def freeB (l : List Oper) (n : Nat) (is : List Nat) (al : List (Nat × Tmp)) : Bool :=
  (al.all fun e => is.contains e.1 && (al.all fun e' => (e.1 == e'.1) == (e.2 == e'.2)) && match l[e.1]? with | some o => o.dst == some e.2 | none => false) &&
  ((List.range n).all fun i => match l[i]? with
    | some o => (match o.guard with | some (g, _) => (match (l[g]?).bind (·.dst) with | some t => al.all fun e => t != e.2 | none => true) | none => true) &&
        (al.all fun e => (is.contains i || !(o.looksAt l.toArray).contains e.2) && (e.1 == i || o.dst != some e.2))
    | none => true)
section
variable {P : Program} {l : List Oper} {n : Nat} {acts : List (Nat × Value)} {al : List Own}
structure FreeOk (l : List Oper) (n : Nat) (is : List Nat) (al : List Own) : Prop where
  own : ∀ e ∈ al, e.i ∈ is ∧ ∀ e' ∈ al, (e.i = e'.i ↔ e.s = e'.s)
  dst : ∀ e ∈ al, ∀ o, l[e.i]? = some o → o.dst = some e.s
  guard : ∀ (i : Nat) (o : Oper), i < n → l[i]? = some o → ∀ g b, o.guard = some (g, b) → ∀ og t, l[g]? = some og → og.dst = some t → ∀ e ∈ al, t ≠ e.s
  blind : ∀ (i : Nat) (o : Oper), i < n → l[i]? = some o → ∀ e ∈ al, (i ∈ is ∨ e.s ∉ o.looksAt l.toArray) ∧ (e.i = i ∨ o.dst ≠ some e.s)
theorem freeOk {is : List Nat} (h : freeB l n is (al.map fun e => (e.i, e.s)) = true) : FreeOk l n is al := by
  unfold freeB at h
  rw [Bool.and_eq_true] at h
  obtain ⟨h1, h2⟩ := h
  have h1' : ∀ e ∈ al, (is.contains e.i = true ∧ ((al.map fun e => (e.i, e.s)).all fun e' => (e.i == e'.1) == (e.s == e'.2)) = true) ∧ (match l[e.i]? with | some o => o.dst == some e.s | none => false) = true := by
    intro e he
    have := List.all_eq_true.1 h1 (e.i, e.s) (List.mem_map.2 ⟨e, he, rfl⟩)
    simpa only [Bool.and_eq_true] using this
  have h2' : ∀ (i : Nat) (o : Oper), i < n → l[i]? = some o → (match o.guard with | some (g, _) => (match (l[g]?).bind (·.dst) with | some t => (al.map fun e => (e.i, e.s)).all fun e => t != e.2 | none => true) | none => true) = true ∧
        ((al.map fun e => (e.i, e.s)).all fun e => (is.contains i || !(o.looksAt l.toArray).contains e.2) && (e.1 == i || o.dst != some e.2)) = true := by
    intro i o hi ho
    have := List.all_eq_true.1 h2 i (List.mem_range.2 hi)
    rw [ho] at this
    simpa only [Bool.and_eq_true] using this
  refine ⟨fun e he => ⟨by simpa using (h1' e he).1.1, fun e' he' => ?_⟩, fun e he o ho => ?_, fun i o hi ho g b hg og t hog ht e he => ?_, fun i o hi ho e he => ?_⟩
  · have := List.all_eq_true.1 (h1' e he).1.2 (e'.i, e'.s) (List.mem_map.2 ⟨e', he', rfl⟩)
    rw [beq_iff_eq, Bool.eq_iff_iff] at this
    simpa using this
  · have := (h1' e he).2
    rw [ho] at this
    simpa using this
  · have := (h2' i o hi ho).1
    rw [hg] at this
    simp only [hog, Option.bind_some, ht] at this
    have := List.all_eq_true.1 this (e.i, e.s) (List.mem_map.2 ⟨e, he, rfl⟩)
    simpa using this
  · have := List.all_eq_true.1 (h2' i o hi ho).2 (e.i, e.s) (List.mem_map.2 ⟨e, he, rfl⟩)
    simp only [Bool.and_eq_true, Bool.or_eq_true, beq_iff_eq, bne_iff_ne, Bool.not_eq_true', List.contains_eq_mem, decide_eq_false_iff_not, decide_eq_true_eq] at this
    exact this
theorem fill_other (listed : Array Bool) (g : Nat → Value) (t : Tmp) : ∀ (es : List Own) (a : Act), (∀ e ∈ es, t ≠ e.s) → (fill listed g es a).tmps[t]? = a.tmps[t]?
  | [], _, _ => rfl
  | e :: es, a, h => by
    have ih := fill_other listed g t es a (fun e' he => h e' (by simp [he]))
    have hne := h e (by simp)
    simp only [fill]
    split
    · rw [← ih]; simp [Act.put, Array.getElem?_setIfInBounds, hne.symm]
    · exact ih
theorem fillAll_other (g : Nat → Value) (t : Tmp) : ∀ (es : List Own) (a : Act), (∀ e ∈ es, t ≠ e.s) → (fillAll g es a).tmps[t]? = a.tmps[t]?
  | [], _, _ => rfl
  | e :: es, a, h => by
    have ih := fillAll_other g t es a (fun e' he => h e' (by simp [he]))
    have hne := h e (by simp)
    simp only [fillAll]
    rw [← ih]; simp [Act.put, Array.getElem?_setIfInBounds, hne.symm]
theorem fill_size (listed : Array Bool) (g : Nat → Value) : ∀ (es : List Own) (a : Act), (fill listed g es a).tmps.size = a.tmps.size
  | [], _ => rfl
  | e :: es, a => by
    have ih := fill_size listed g es a
    simp only [fill]
    split
    · rw [← ih]; simp [Act.put]
    · exact ih
theorem fillAll_size (g : Nat → Value) : ∀ (es : List Own) (a : Act), (fillAll g es a).tmps.size = a.tmps.size
  | [], _ => rfl
  | e :: es, a => by
    have ih := fillAll_size g es a
    simp only [fillAll]
    rw [← ih]; simp [Act.put]
theorem fill_slot (listed : Array Bool) (g : Nat → Value) (e : Own) (hl : listed.getD e.i false = true) : ∀ (es : List Own) (a : Act), (∀ x ∈ es, ∀ y ∈ es, (x.i = y.i ↔ x.s = y.s)) → e ∈ es → (fill listed g es a).tmps[e.s]? = if e.s < a.tmps.size then some (g e.i) else none
  | [], _, _, h => by cases h
  | x :: es, a, hd, hm => by
    simp only [fill]
    by_cases hx : x.s = e.s
    · have hi : x.i = e.i := (hd x (by simp) e hm).2 hx
      rw [hi, if_pos hl, hx]
      simp only [Act.put, Array.getElem?_setIfInBounds_self, fill_size]
    · have hm2 : e ∈ es := by
        rcases List.mem_cons.1 hm with rfl | h
        · exact absurd rfl hx
        · exact h
      have ih := fill_slot listed g e hl es a (fun y hy z hz => hd y (by simp [hy]) z (by simp [hz])) hm2
      split
      · rw [← ih]; simp [Act.put, Array.getElem?_setIfInBounds, hx]
      · exact ih
theorem fillAll_slot (g : Nat → Value) (e : Own) : ∀ (es : List Own) (a : Act), (∀ x ∈ es, ∀ y ∈ es, (x.i = y.i ↔ x.s = y.s)) → e ∈ es → (fillAll g es a).tmps[e.s]? = if e.s < a.tmps.size then some (g e.i) else none
  | [], _, _, h => by cases h
  | x :: es, a, hd, hm => by
    simp only [fillAll]
    by_cases hx : x.s = e.s
    · have hi : x.i = e.i := (hd x (by simp) e hm).2 hx
      rw [hi, hx]
      simp only [Act.put, Array.getElem?_setIfInBounds_self, fillAll_size]
    · have hm2 : e ∈ es := by
        rcases List.mem_cons.1 hm with rfl | h
        · exact absurd rfl hx
        · exact h
      have ih := fillAll_slot g e es a (fun y hy z hz => hd y (by simp [hy]) z (by simp [hz])) hm2
      rw [← ih]; simp [Act.put, Array.getElem?_setIfInBounds, hx]
def ChainStep (P : Program) (F : Act) (o : Oper) (w : World) (R : Value → World → Prop) : Prop :=
  match (execOp F.eval o).run P w with
  | .ok (.value u) w' => R u w'
  | .ok .skip w' => R undef w'
  | .ok (.enter f args) w' => w' = w ∧ Calls P f args w fun e w'' => ∃ u, e = .returned u ∧ R u w''
  | _ => False
def updG (g : Nat → Value) (i : Nat) (u : Value) : Nat → Value := fun j => if j = i then u else g j
theorem chain_run {Q : Exit → Act → World → Prop} {F : Act} {C : World → Prop} {St : Nat → (Nat → Value) → World → Prop} (hm : ActOk l n acts) (hf : FreeOk l n (acts.map (·.1)) al) (hpw : al.Pairwise fun x y => x.i ≠ y.i)
    (hact : ∀ (j : Nat) (h : j < acts.length), ∀ o, l[acts[j].1]? = some o → Region.wanted o (yielded l.toArray F.tmps) = true ∧ ∀ g w, C w → St j g w → ChainStep P (fillAll g al F) o w fun u w' => C w' ∧ ((∃ e ∈ al, e.i = acts[j].1) ∨ u = acts[j].2) ∧ St (j + 1) (updG g acts[j].1 u) w')
    (htail : ∀ g w, C w → St acts.length g w → wpList P l.toArray Q (l.drop n) (fillAll g al F) w) :
    ∀ (f : Nat) (listed : Array Bool) (aA : Act) (w : World) (k : Nat) (g : Nat → Value), todo listed n = f → HeadInv .any l.toArray n listed → C w → St k g w → k ≤ acts.length → (∀ (j : Nat) (h : j < acts.length), listed.getD acts[j].1 false = decide (j < k)) →
      (∀ U, C U → wpAnyQ P .any (actFrom n acts 0 l).toArray (fun w' => w' = U) (· = F) (f + (l.length - n)) listed aA) → wpAny P .any l.toArray Q (f + (l.length - n)) listed (fill listed g al aA) w := by
  intro f
  induction f with
  | zero =>
    intro listed aA w k g hf0 inv hC hS hk hkl hA
    have hall := todo_zero n hf0
    have hl : listed = Array.replicate n true ++ Array.replicate (l.length - n) false := by
      apply Array.ext
      · have := inv.size; simp at this ⊢; have := hm.nle; omega
      · intro i h1 h2
        rcases Nat.lt_or_ge i n with h | h
        · have := hall i h
          simp [Array.getElem_append, h] at this ⊢
          simpa [h1] using this
        · have hs := inv.size
          have := inv.tail i h (by simp at hs ⊢; omega)
          simp [Array.getElem_append, show ¬ i < n by omega] at this ⊢
          simpa [h1] using this
    obtain ⟨d1, d2, d3⟩ := final_slots _ _ _ (hA w hC)
    have hF : aA = F := by
      have ht : aA.tmps = F.tmps := by
        apply Array.ext_getElem?
        intro s
        refine d3 s (fun j o hj hun => ?_)
        rw [List.getElem?_toArray, actFrom_get] at hj
        cases hlj : l[j]? with
        | none => rw [hlj] at hj; cases hj
        | some o' =>
          rw [hlj] at hj
          simp only [Option.map_some, Option.some.injEq] at hj
          subst hj
          rcases Nat.lt_or_ge j n with h | h
          · have h1 := hall j h
            rcases Nat.lt_or_ge j listed.size with h' | h'
            · simp [h'] at h1 hun; rw [h1] at hun; cases hun
            · simp [Array.getElem?_eq_none h'] at h1
          · rw [Nat.zero_add, actOp_tail n acts j o' h]; simp
      cases aA; cases F; simp_all
    subst hF
    have hkE : k = acts.length := by
      rcases Nat.lt_or_ge k acts.length with h | h
      · have h1 := hkl k h
        rw [hall _ (hm.made _ (List.getElem_mem h)).1] at h1
        simp at h1
      · omega
    subst hkE
    have hin2 : ∀ e ∈ al, e.i < n := fun e he => by
      obtain ⟨x, hx, hxe⟩ := List.mem_map.1 (hf.own e he).1
      rw [← hxe]; exact (hm.made x hx).1
    rw [fill_full _ _ _ _ (fun e he => hall e.i (hin2 e he))]
    have hw2 := htail g w hC hS
    have hseq := hm.seq
    rw [← hl] at hseq
    have hdl : (l.drop n).length = l.length - n := by simp
    rw [Nat.zero_add]
    have := wpAny_of_seq (P := P) (Q' := Q) (ops := l.toArray) (md := .any) (l.drop n) n listed (fillAll g al aA) w (fun j => by simp) (by rw [hdl]; exact hseq) hw2
    rwa [hdl] at this
  | succ f ih =>
    intro listed aA w kk g hf0 inv hC hS hk hkl hA
    obtain ⟨k, hkn, hkun, hkall⟩ := todo_some (listed := listed) n (by omega)
    have hsz : listed.size = l.length := by have := inv.size; simpa using this
    have hnl := hm.nle
    have hkun' : listed.getD k true = false := getD_in (by omega) hkun
    have hkr : k ∈ Region.ready .any l.toArray listed := by
      refine mem_ready.2 ⟨hkun', l[k]'(by omega), by simp, fun e he hb => ?_⟩
      have := hm.back k _ (List.getElem?_eq_getElem (by omega)) e he hb
      exact hkall _ this
    rw [show f + 1 + (l.length - n) = f + (l.length - n) + 1 by omega]
    refine ⟨fun h0 => (by rw [h0] at hkr; cases hkr), fun i hi => ?_⟩
    have hin := head_only_act hm inv hkn hkun' i hi
    obtain ⟨hun, o, ho, hdeps⟩ := mem_ready.1 hi
    have ho' : l[i]? = some o := by simpa using ho
    have hun' : listed.getD i false = false := getD_both hun
    have hoA : (actFrom n acts 0 l).toArray[i]? = some (actOp n acts i o) := by
      rw [List.getElem?_toArray, actFrom_get, ho', Nat.zero_add]; rfl
    have hinv' := inv.set hi hin
    have hf' : todo (listed.setIfInBounds i true) n = f := by
      have := todo_set (k := n) (by omega) hun'
      rw [if_pos hin] at this
      omega
    have hA' : ∀ U, C U → ∃ v, YieldsIn P (actFrom n acts 0 l).toArray (fun w' => w' = U) (actOp n acts i o) v aA ∧
        wpAnyQ P .any (actFrom n acts 0 l).toArray (fun w' => w' = U) (· = F) (f + (l.length - n)) (listed.setIfInBounds i true) (aA.put o.dst v) := by
      intro U hU
      have h1 := hA U hU
      rw [show f + 1 + (l.length - n) = f + (l.length - n) + 1 by omega] at h1
      have h2 := h1.2 i (by rw [ready_act]; exact hi)
      obtain ⟨v, hy, hK⟩ := yieldsIn_of_qOp hoA h2
      rw [actOp_dst n acts i o hin] at hK
      exact ⟨v, hy, hK⟩
    have same : ∀ U1 U2 v1 v2, wpAnyQ P .any (actFrom n acts 0 l).toArray (fun w' => w' = U1) (· = F) (f + (l.length - n)) (listed.setIfInBounds i true) (aA.put o.dst v1) →
        wpAnyQ P .any (actFrom n acts 0 l).toArray (fun w' => w' = U2) (· = F) (f + (l.length - n)) (listed.setIfInBounds i true) (aA.put o.dst v2) → aA.put o.dst v1 = aA.put o.dst v2 := by
      intro U1 U2 v1 v2 h1 h2
      cases hd : o.dst with
      | none => rfl
      | some d =>
        rw [hd] at h1 h2
        have hno : ∀ (j : Nat) (o' : Oper), (actFrom n acts 0 l).toArray[j]? = some o' → (listed.setIfInBounds i true).getD j true = false → o'.dst ≠ some d := by
          intro j o' hj hjun
          rw [List.getElem?_toArray, actFrom_get, Nat.zero_add] at hj
          cases hlj : l[j]? with
          | none => rw [hlj] at hj; cases hj
          | some oj =>
            rw [hlj] at hj
            simp only [Option.map_some, Option.some.injEq] at hj
            subst hj
            rcases Nat.lt_or_ge j n with h | h
            · rw [actOp_dst n acts j oj h]
              have hij : i ≠ j := by
                rintro rfl
                have : (listed.setIfInBounds i true).getD i true = true := by
                  simp [show i < listed.size by omega]
                rw [this] at hjun; cases hjun
              exact hm.dsts i j hin h hij o oj ho' hlj d hd
            · rw [actOp_tail n acts j oj h]; simp
        have e1 := (final_slots _ _ _ h1).2.2 d hno
        have e2 := (final_slots _ _ _ h2).2.2 d hno
        have e3 := e1.trans e2.symm
        simp only [Act.put, Array.getElem?_setIfInBounds_self] at e3 ⊢
        congr 1
        apply Array.ext_getElem?
        intro s
        by_cases hs : d = s
        · subst hs; rw [Array.getElem?_setIfInBounds_self, Array.getElem?_setIfInBounds_self]; exact e3
        · simp [Array.getElem?_setIfInBounds, hs]
    have hwA : Region.wanted o (yielded (actFrom n acts 0 l).toArray aA.tmps) = Region.wanted o (yielded l.toArray aA.tmps) := by
      unfold Region.wanted
      cases hgd : o.guard with
      | none => rfl
      | some gb =>
        obtain ⟨gi, b⟩ := gb
        have hgn := hm.guard i o hin ho' gi b hgd
        have : yielded (actFrom n acts 0 l).toArray aA.tmps gi = yielded l.toArray aA.tmps gi := by
          unfold yielded
          rw [List.getElem?_toArray, List.getElem?_toArray, actFrom_get, Nat.zero_add]
          cases l[gi]? with
          | none => rfl
          | some og => simp only [Option.map_some, Option.bind_some, actOp_dst n acts gi og hgn]
        simp only [this]
    obtain ⟨v0, hy0, hK0⟩ := hA' w hC
    have cont : ∀ k2 g2 w2, C w2 → St k2 g2 w2 → k2 ≤ acts.length → (∀ (j : Nat) (h : j < acts.length), (listed.setIfInBounds i true).getD acts[j].1 false = decide (j < k2)) →
        wpAny P .any l.toArray Q (f + (l.length - n)) (listed.setIfInBounds i true) (fill (listed.setIfInBounds i true) g2 al (aA.put o.dst v0)) w2 := by
      intro k2 g2 w2 hC2 hS2 hk2 hkl2
      refine ih _ _ _ k2 g2 hf' hinv' hC2 hS2 hk2 hkl2 ?_
      intro U hU
      obtain ⟨v1, _, hK⟩ := hA' U hU
      have := same _ _ _ _ hK0 hK
      rw [this]; exact hK
    cases hlk : acts.lookup i with
    | some v =>
      obtain ⟨j, hj, hje⟩ := lookup_get hlk
      have hji : acts[j].1 = i := by rw [hje]
      have hjv : acts[j].2 = v := by rw [hje]
      have hjk : j = kk := by
        have h1 := hkl j hj
        rw [hji, hun'] at h1
        have h2 : ¬ j < kk := by simpa using h1
        rcases Nat.eq_zero_or_pos j with h0 | h0
        · omega
        · obtain ⟨j', rfl⟩ : ∃ j', j = j' + 1 := ⟨j - 1, by omega⟩
          obtain ⟨ed, hed, hb, hon⟩ := hm.chain j' hj o (by rw [hji]; exact ho')
          have h3 := hdeps ed hed hb
          rw [hon, hkl j' (by omega)] at h3
          have : j' < kk := by simpa using h3
          omega
      subst hjk
      obtain ⟨hw1, hstep⟩ := hact j hj o (by rw [hji]; exact ho')
      have hstep := hstep g w hC hS
      rw [hjv, hji] at hstep
      have hops := (hm.made _ (List.getElem_mem hj)).2 o (by rw [hji]; exact ho')
      obtain ⟨_, _, hfin⟩ := final_slots _ _ _ (hA w hC)
      have hslot : ∀ t, t ∈ o.looksAt l.toArray → aA.tmps[t]? = F.tmps[t]? := by
        intro t hlook
        refine hfin t (fun j' oj hj' hjun hjd => ?_)
        rw [List.getElem?_toArray, actFrom_get, Nat.zero_add] at hj'
        cases hlj : l[j']? with
        | none => rw [hlj] at hj'; cases hj'
        | some oj' =>
          rw [hlj] at hj'
          simp only [Option.map_some, Option.some.injEq] at hj'
          subst hj'
          rcases Nat.lt_or_ge j' n with h | h
          · rw [actOp_dst n acts j' oj' h] at hjd
            obtain ⟨ed, hed, hb, hon⟩ := hops j' oj' h hlj t hjd hlook
            have h1 := hdeps ed hed hb
            rw [hon, getD_both hjun] at h1
            cases h1
          · rw [actOp_tail n acts j' oj' h] at hjd; cases hjd
      have hsel := Region.noSelect_spec hm.sel
      have hsize : aA.tmps.size = F.tmps.size := (final_slots _ _ _ (hA w hC)).2.1
      have hexF : execOp (fill listed g al aA).eval o = execOp (fillAll g al F).eval o := by
        refine execOp_congr o (fun cs b => hsel i o cs b ho) fun x hx => ?_
        cases x with
        | tmp t =>
          have hlook : t ∈ o.looksAt l.toArray := List.mem_append_left _ (List.mem_filterMap.2 ⟨.tmp t, by simpa using hx, rfl⟩)
          have e1 : (fill listed g al aA).tmps[t]? = (fillAll g al F).tmps[t]? := by
            by_cases hfr : ∃ e ∈ al, e.s = t
            · obtain ⟨e, he, rfl⟩ := hfr
              have hen : e.i < n := by
                obtain ⟨x, hx, hxe⟩ := List.mem_map.1 (hf.own e he).1
                rw [← hxe]; exact (hm.made x hx).1
              obtain ⟨oe, hoe⟩ : ∃ oe, l[e.i]? = some oe := ⟨l[e.i]'(by omega), List.getElem?_eq_getElem (by omega)⟩
              obtain ⟨ed, hed, hb, hon⟩ := hops e.i oe hen hoe e.s (hf.dst e he oe hoe) hlook
              have hl1 := hdeps ed hed hb
              rw [hon] at hl1
              have hl2 : listed.getD e.i false = true := by
                rcases Nat.lt_or_ge e.i listed.size with h' | h'
                · simp [h'] at hl1 ⊢; exact hl1
                · omega
              rw [fill_slot listed g e hl2 al aA (fun x hx y hy => (hf.own x hx).2 y hy) he, fillAll_slot g e al F (fun x hx y hy => (hf.own x hx).2 y hy) he, hsize]
            · have hno : ∀ e ∈ al, t ≠ e.s := fun e he h => hfr ⟨e, he, h.symm⟩
              rw [fill_other listed g t al aA hno, fillAll_other g t al F hno, hslot t hlook]
          simp only [Act.eval, Array.getD_eq_getD_getElem?, e1]
        | _ => rfl
      have hwfill : Region.wanted o (yielded l.toArray (fill listed g al aA).tmps) = Region.wanted o (yielded l.toArray aA.tmps) := by
        unfold Region.wanted
        cases hgd : o.guard with
        | none => rfl
        | some gb =>
          obtain ⟨gi, b⟩ := gb
          have : yielded l.toArray (fill listed g al aA).tmps gi = yielded l.toArray aA.tmps gi := by
            unfold yielded
            cases hgi : l.toArray[gi]? with
            | none => rfl
            | some og =>
              cases hdg : og.dst with
              | none => simp [hdg]
              | some t =>
                have hno := hf.guard i o hin ho' gi b hgd og t (by simpa using hgi) hdg
                simp [hdg, fill_other listed g t al aA hno]
          simp only [this]
      have hwF : Region.wanted o (yielded l.toArray aA.tmps) = true := by
        rw [← hw1]
        unfold Region.wanted
        cases hgd : o.guard with
        | none => rfl
        | some gb =>
          obtain ⟨gi, b⟩ := gb
          have : yielded l.toArray aA.tmps gi = yielded l.toArray F.tmps gi := by
            unfold yielded
            cases hgi : l.toArray[gi]? with
            | none => rfl
            | some og =>
              cases hdg : og.dst with
              | none => simp [hdg]
              | some t =>
                have hlook : t ∈ o.looksAt l.toArray := by
                  unfold Oper.looksAt
                  refine List.mem_append_right _ ?_
                  rw [hgd]
                  simp [hgi, hdg]
                simp [hdg, hslot t hlook]
          simp only [this]
      have hv0 : v0 = v := by
        rcases hy0 with ⟨_, hv⟩ | ⟨hwn, _⟩
        · have := hv w rfl
          rw [actOp_act n acts i o v hin hlk] at this
          unfold Oper.quietAt at this
          simp only [execOp, Sem.run_pure, Oper.quietUpon] at this
          exact this.2.symm
        · exfalso
          have : Region.wanted (actOp n acts i o) (yielded (actFrom n acts 0 l).toArray aA.tmps) = Region.wanted o (yielded (actFrom n acts 0 l).toArray aA.tmps) := by
            unfold Region.wanted; rw [actOp_guard]
          rw [this, hwA, hwF] at hwn
          cases hwn
      subst hv0
      have hkl2 : ∀ (j2 : Nat) (h : j2 < acts.length), (listed.setIfInBounds i true).getD acts[j2].1 false = decide (j2 < j + 1) := by
        intro j2 h2
        by_cases e : j2 = j
        · subst e
          rw [hji]
          have : (listed.setIfInBounds i true).getD i false = true := by simp [show i < listed.size by omega]
          rw [this]; simp
        · have hne : i ≠ acts[j2].1 := fun h => e (hm.nodup j2 j h2 hj (by rw [hji]; exact h.symm))
          rw [getD_set_ne false hne, hkl j2 h2, decide_eq_decide]
          omega
      have next : ∀ u w', C w' ∧ ((∃ e ∈ al, e.i = i) ∨ u = v0) ∧ St (j + 1) (updG g i u) w' →
          wpAny P .any l.toArray Q (f + (l.length - n)) (listed.setIfInBounds i true) ((fill listed g al aA).put o.dst u) w' := by
        rintro u w' ⟨h1, h2, h3⟩
        have := cont (j + 1) (updG g i u) w' h1 h3 (by omega) hkl2
        by_cases hfr : ∃ e ∈ al, e.i = i
        · obtain ⟨e, he, rfl⟩ := hfr
          rw [hf.dst e he o ho'] at this ⊢
          rw [← fill_new listed g e u v0 hun' (by omega) al aA (fun x hx y hy => (hf.own x hx).2 y hy) he (fun x hx => (hf.own x hx).2 e he) hpw]
          exact this
        · have h2 : u = v0 := h2.resolve_left hfr
          subst h2
          have hno : ∀ e ∈ al, o.dst ≠ some e.s := fun e he => ((hf.blind i o hin ho' e he).2).resolve_left (fun h => hfr ⟨e, he, h⟩)
          rw [← fill_put listed g o.dst u al aA hno]
          rw [fill_congr listed (listed.setIfInBounds i true) g (updG g i u) al _ (fun e he => by
            have hne : i ≠ e.i := fun h => hfr ⟨e, he, h.symm⟩
            exact ⟨(getD_set_ne false hne).symm, by unfold updG; rw [if_neg (fun h => hne h.symm)]⟩)]
          exact this
      unfold wpOp
      simp only [ho]
      rw [if_pos (by rw [hwfill]; exact hwF)]
      refine .inl ?_
      unfold Oper.wp
      rw [hexF]
      unfold ChainStep at hstep
      generalize (execOp (fillAll g al F).eval o).run P w = r at hstep
      cases r with
      | halt x w' => exact hstep.elim
      | ok nx w' =>
        cases nx <;> simp only at hstep <;> simp only [Oper.upon]
        case value u => exact next u w' hstep
        case enter fn args =>
          obtain ⟨rfl, hc⟩ := hstep
          exact hc.mono fun en w'' ⟨u, he, h⟩ => by subst he; exact next u w'' h
        all_goals first | exact hstep.elim | exact next _ w' hstep
    | none =>
      have hpl := hy0
      rw [actOp_plain n acts i o hin hlk] at hpl
      have hni : ∀ j (hj : j < acts.length), i ≠ acts[j].1 := by
        intro j hj h
        have : acts.lookup i ≠ none := by
          rw [h]
          intro hn
          rw [List.lookup_eq_none_iff] at hn
          have := hn _ (List.getElem_mem hj)
          simp at this
        exact this hlk
      have hnm : i ∉ acts.map (·.1) := by
        intro h
        obtain ⟨x, hx, hxe⟩ := List.mem_map.1 h
        obtain ⟨j, hj, rfl⟩ := List.getElem_of_mem hx
        exact hni j hj hxe.symm
      have hbl : ∀ e ∈ al, e.s ∉ o.looksAt l.toArray := fun e he => ((hf.blind i o hin ho' e he).1).resolve_left hnm
      have hds : ∀ e ∈ al, e.i ≠ i ∧ o.dst ≠ some e.s := fun e he => by
        have hne : e.i ≠ i := fun h => hnm (h ▸ (hf.own e he).1)
        exact ⟨hne, ((hf.blind i o hin ho' e he).2).resolve_left hne⟩
      have hsel := Region.noSelect_spec hm.sel
      have hex := fill_exec (l := l) listed g o (fun cs b => hsel i o cs b ho) al aA hbl
      have hwa := fill_wanted (l := l) listed g o al aA hbl
      have hy' : YieldsIn P l.toArray (fun w' => w' = w) o v0 (fill listed g al aA) := by
        unfold YieldsIn Oper.quietAt at hpl ⊢
        rw [hex, hwa, ← hwA]
        exact hpl
      refine wpOp_of_qOp (C := fun w' => w' = w) rfl (K := fun a' => a' = (fill listed g al aA).put o.dst v0) ?_ (hy'.qOp ho rfl)
      rintro a' w' rfl rfl
      rw [← fill_put listed g o.dst v0 al aA (fun e he => (hds e he).2)]
      rw [fill_congr listed (listed.setIfInBounds i true) g g al _ (fun e he => ⟨(getD_set_ne false (fun h => (hds e he).1 h.symm)).symm, rfl⟩)]
      refine cont kk g _ hC hS hk (fun j hj => ?_)
      rw [getD_set_ne false (hni j hj), hkl j hj]
theorem wp_region_chain {id : Nat} {Q : Exit → Act → World → Prop} {a F : Act} {w : World} (n : Nat) (acts : List (Nat × Value)) (al : List Own) (C : World → Prop) (St : Nat → (Nat → Value) → World → Prop) (hm : P.follows .mixedOrders = true) (hB : actB l n (acts.map (·.1)) = true) (hfB : freeB l n (acts.map (·.1)) (al.map fun e => (e.i, e.s)) = true) (hpw : al.Pairwise fun x y => x.i ≠ y.i) (hlexB : Region.lexB .any (actFrom n acts 0 l).toArray = true)
    (hC : C w.drew) (hS : ∀ g, St 0 g w.drew)
    (hlex : ∀ U, C U → wpQuiet P (actFrom n acts 0 l).toArray (fun w' => w' = U) (· = F) (actFrom n acts 0 l) a)
    (hact : ∀ (j : Nat) (h : j < acts.length), ∀ o, l[acts[j].1]? = some o → Region.wanted o (yielded l.toArray F.tmps) = true ∧ ∀ g w, C w → St j g w → ChainStep P (fillAll g al F) o w fun u w' => C w' ∧ ((∃ e ∈ al, e.i = acts[j].1) ∨ u = acts[j].2) ∧ St (j + 1) (updG g acts[j].1 u) w')
    (htail : ∀ g w, C w → St acts.length g w → wpList P l.toArray Q (l.drop n) (fillAll g al F) w) :
    (Code.region id l.toArray true).wp P Q a w := by
  have hk := actOk hB
  simp only [Region.lexB, Bool.and_eq_true] at hlexB
  have inv0 : HeadInv .any l.toArray n (Array.replicate l.toArray.size false) := ⟨by simp, fun j oj _ h => (by rw [getD_replicate_false] at h; cases h), fun t _ ht => (by
    have ht' : t < l.length := by simpa using ht
    simp [ht'])⟩
  have htodo : ∀ k, k ≤ l.length → todo (Array.replicate l.toArray.size false) k = k := by
    intro k
    induction k with
    | zero => intro _; rfl
    | succ k ih => intro hk; simp only [todo, getD_replicate_false, ih (by omega)]; simp
  have hdl : n + (l.length - n) = l.length := by have := hk.nle; omega
  refine wp_region_any hm ?_
  have hr : ({ w with drawn := w.drawn + 1 } : World) = w.drew := rfl
  rw [hr]
  have hfill : fill (Array.replicate l.toArray.size false) (fun _ => undef) al a = a := by
    have : ∀ es : List Own, fill (Array.replicate l.toArray.size false) (fun _ => undef) es a = a := by
      intro es
      induction es with
      | nil => rfl
      | cons e es ih => simp only [fill, getD_replicate_false, ih]; simp
    exact this al
  have := chain_run (P := P) (Q := Q) (F := F) (C := C) (St := St) hk (freeOk hfB) hpw hact htail n (Array.replicate l.toArray.size false) a w.drew 0 (fun _ => undef) (htodo n hk.nle) inv0 hC (hS _) (Nat.zero_le _) (fun j hj => by rw [getD_replicate_false]; simp) (fun U hU => by
      have hl := wpAnyQ_lex (P := P) (C := fun w' => w' = U) (Q := (· = F)) (md := .any) hlexB.1 (actFrom n acts 0 l) 0 (Array.replicate (actFrom n acts 0 l).toArray.size false) a (by simp) (by simpa using hlexB.2) (hlex U hU)
      rw [hdl]
      simpa [actFrom_length] using hl)
  rw [hdl, hfill] at this
  simpa using this
theorem chain_call {F : Act} {o : Oper} {w : World} {f : FuncId} {args : Array Value} {R : Value → World → Prop} (hr : (execOp F.eval o).run P w = .ok (.enter f args) w) (h : Calls P f args w fun e w'' => ∃ u, e = .returned u ∧ R u w'') : ChainStep P F o w R := by
  unfold ChainStep; rw [hr]; exact ⟨rfl, h⟩
theorem chain_go {F : Act} {o : Oper} {w : World} {f : FuncId} {args : Array Value} {R : Value → World → Prop} (hr : (execOp F.eval o).run P w = .ok (.enter f args) w) (h : Calls P f args w fun e w'' => ∃ u, e = .returned u ∧ R u w'') : ChainStep P F o w R := chain_call hr h
structure CA where
  i : Nat
  s : Tmp
  v : Value
  free : Bool
  is : Value → World → Prop
def CA.act (c : CA) : Nat × Value := (c.i, c.v)
def CA.own (c : CA) : Own := ⟨c.i, c.s, c.is⟩
end
end Go.Proofs.YtamhnffokoejjaaGreatDoor
