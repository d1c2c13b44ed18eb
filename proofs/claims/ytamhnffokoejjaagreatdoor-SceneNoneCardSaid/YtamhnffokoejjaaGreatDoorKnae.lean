/- what the proof stands on: Wild Early -/
import Derived.Test.YtamhnffokoejjaaGreatDoorKnac
namespace Go.Proofs.YtamhnffokoejjaaGreatDoor.Wild
set_option linter.unusedSimpArgs false
set_option linter.unusedVariables false
set_option linter.unusedSectionVars false
open Go.RowKit
def vblk (_ : Value) : Option Nat := none
def Stand (listed : Array Bool) (g : Nat → Value) (al : List Own) (W w : World) : Prop :=
  (∀ e ∈ al, listed.getD e.i false = true → e.is (g e.i) w ∧ ∀ b, vblk (g e.i) = some b → W.heap.size ≤ b ∧ b < w.heap.size) ∧
  ∀ e ∈ al, ∀ e' ∈ al, listed.getD e.i false = true → listed.getD e'.i false = true → e.i ≠ e'.i → ∀ b, vblk (g e.i) = some b → vblk (g e'.i) ≠ some b
theorem Stand.later {listed : Array Bool} {g : Nat → Value} {al : List Own} {W w w' : World} (hs : ∀ e ∈ al, ∀ v w w', AnyLater w w' → e.is v w → e.is v w') (h : Stand listed g al W w) (hl : AnyLater w w') : Stand listed g al W w' :=
  ⟨fun e he hh => ⟨hs e he _ _ _ hl (h.1 e he hh).1, fun b hb => ⟨((h.1 e he hh).2 b hb).1, Nat.lt_of_lt_of_le ((h.1 e he hh).2 b hb).2 hl.below.size⟩⟩, h.2⟩
def rowB (l : List Oper) (n : Nat) (is : List Nat) : Bool :=
  Region.noSelect l.toArray && decide (n ≤ l.length) &&
  ((List.range l.length).all fun i => match l[i]? with | some o => o.after.all fun e => !Region.binds .any e || decide (e.on < i) | none => true) &&
  ((List.range n).all fun i => match l[i]? with | some o => (match o.guard with | some (g, _) => decide (g < n) | none => true) | none => true) &&
  (is.all fun i => decide (i < n) &&
    match l[i]? with
    | some o => (List.range n).all fun j => match (l[j]?).bind (·.dst) with
        | some t => !(o.looksAt l.toArray).contains t || o.after.any fun ed => Region.binds .any ed && ed.on == j
        | none => true
    | none => false) &&
  ((List.range is.length).all fun j => (List.range is.length).all fun k => j == k || is.getD j 0 != is.getD k 0) &&
  ((List.range n).all fun i => (List.range n).all fun j => i == j || match (l[i]?).bind (·.dst), (l[j]?).bind (·.dst) with | some d, some d' => d != d' | _, _ => true) &&
  (n == l.length || (Region.sinkB .any l.toArray n && Region.chainB .any l.toArray n)) &&
  Region.seqB .any l.toArray (l.length - n) n (Array.replicate n true ++ Array.replicate (l.length - n) false)
section
variable {P : Program} {l : List Oper} {n : Nat} {acts : List (Nat × Value)} {al : List Own}
structure RowOk (l : List Oper) (n : Nat) (acts : List (Nat × Value)) : Prop where
  sel : Region.noSelect l.toArray = true
  nle : n ≤ l.length
  back : ∀ (i : Nat) (o : Oper), l[i]? = some o → ∀ e ∈ o.after, Region.binds .any e = true → e.on < i
  guard : ∀ (i : Nat) (o : Oper), i < n → l[i]? = some o → ∀ g b, o.guard = some (g, b) → g < n
  made : ∀ e ∈ acts, e.1 < n ∧ ∀ o, l[e.1]? = some o → ∀ (j : Nat) (o' : Oper), j < n → l[j]? = some o' → ∀ t, o'.dst = some t → t ∈ o.looksAt l.toArray → ∃ ed ∈ o.after, Region.binds .any ed = true ∧ ed.on = j
  nodup : ∀ (j k : Nat) (hj : j < acts.length) (hk : k < acts.length), acts[j].1 = acts[k].1 → j = k
  dsts : ∀ i j : Nat, i < n → j < n → i ≠ j → ∀ o o' : Oper, l[i]? = some o → l[j]? = some o' → ∀ d, o.dst = some d → o'.dst ≠ some d
  tail : n = l.length ∨ (Region.sinkB .any l.toArray n = true ∧ Region.chainB .any l.toArray n = true)
  seq : Region.seqB .any l.toArray (l.length - n) n (Array.replicate n true ++ Array.replicate (l.length - n) false) = true
theorem getD_row {k : Nat} (h : k < acts.length) : (acts.map (·.1)).getD k 0 = acts[k].1 := by simp [h]
theorem rowOk (h : rowB l n (acts.map (·.1)) = true) : RowOk l n acts := by
  unfold rowB at h
  simp only [Bool.and_eq_true] at h
  obtain ⟨⟨⟨⟨⟨⟨⟨⟨h1, h2⟩, h3⟩, h4⟩, h5⟩, h7⟩, h8⟩, h9⟩, h10⟩ := h
  refine ⟨h1, by simpa using h2, ?_, ?_, ?_, ?_, ?_, ?_, h10⟩
  · intro i o ho e he hb
    have hi : i < l.length := (List.getElem?_eq_some_iff.1 ho).1
    have := List.all_eq_true.1 h3 i (List.mem_range.2 hi)
    rw [ho] at this
    have := Array.all_eq_true'.1 this e he
    simpa [hb] using this
  · intro i o hi ho g b hg
    have := List.all_eq_true.1 h4 i (List.mem_range.2 hi)
    rw [ho] at this
    simp only [hg] at this
    simpa using this
  · intro e he
    have := List.all_eq_true.1 h5 e.1 (List.mem_map.2 ⟨e, he, rfl⟩)
    rw [Bool.and_eq_true] at this
    refine ⟨by simpa using this.1, fun o ho j o' hj ho' t ht hlt => ?_⟩
    have g3 := this.2
    rw [ho] at g3
    have := List.all_eq_true.1 g3 j (List.mem_range.2 hj)
    rw [ho', Option.bind_some, ht] at this
    simp only [Bool.or_eq_true, Bool.not_eq_true', List.contains_eq_mem, decide_eq_false_iff_not, Array.any_eq_true', Bool.and_eq_true, beq_iff_eq] at this
    rcases this with h | ⟨ed, h, hb⟩
    · exact absurd hlt h
    · exact ⟨ed, h, hb⟩
  · intro j k hj hk he
    have := List.all_eq_true.1 (List.all_eq_true.1 h7 j (List.mem_range.2 (by rw [List.length_map]; exact hj))) k (List.mem_range.2 (by rw [List.length_map]; exact hk))
    rw [getD_row hj, getD_row hk, he] at this
    simpa using this
  · intro i j hi hj hij o o' ho ho' d hd hd'
    have := List.all_eq_true.1 (List.all_eq_true.1 h8 i (List.mem_range.2 hi)) j (List.mem_range.2 hj)
    rw [ho, ho'] at this
    simp [hij, hd, hd'] at this
  · rcases Bool.or_eq_true_iff.1 h9 with h | h
    · exact .inl (by simpa using h)
    · exact .inr (by simpa only [Bool.and_eq_true] using h)
theorem head_only_row (hm : RowOk l n acts) {listed : Array Bool} (inv : HeadInv .any l.toArray n listed) {i : Nat} (hi : i < n) (hun : listed.getD i true = false) : ∀ t ∈ Region.ready .any l.toArray listed, t < n := by
  intro t ht
  rcases Nat.lt_or_ge t n with h | h
  · exact h
  · obtain ⟨_, o, ho, _⟩ := mem_ready.1 ht
    have htl : t < l.length := by have := (Array.getElem?_eq_some_iff.1 ho).1; simpa using this
    rcases hm.tail with he | ⟨hs, hc⟩
    · omega
    · exact absurd ht (tail_waits hs hc (by simp; omega) inv _ i rfl hi hun t h)
theorem free_run {Q : Exit → Act → World → Prop} {F : Act} {W : World} (hm : RowOk l n acts) (hf : FreeOk l n (acts.map (·.1)) al) (hpw : al.Pairwise fun x y => x.i ≠ y.i)
    (hstab : ∀ e ∈ al, ∀ v w w', AnyLater w w' → e.is v w → e.is v w')
    (hact : ∀ (j : Nat) (h : j < acts.length), ∀ o, l[acts[j].1]? = some o → Region.wanted o (yielded l.toArray F.tmps) = true ∧ ∀ g w, AnyLater W w → (∀ e ∈ al, e.s ∈ o.looksAt l.toArray → e.is (g e.i) w) → ChainStep P (fillAll g al F) o w fun u w' => AnyLater w w' ∧ (∀ e ∈ al, e.i = acts[j].1 → e.is u w' ∧ ∀ b, vblk u = some b → w.heap.size ≤ b ∧ b < w'.heap.size) ∧ ((∃ e ∈ al, e.i = acts[j].1) ∨ u = acts[j].2))
    (htail : ∀ g w, AnyLater W w → (∀ e ∈ al, e.is (g e.i) w ∧ ∀ b, vblk (g e.i) = some b → W.heap.size ≤ b ∧ b < w.heap.size) → (∀ e ∈ al, ∀ e' ∈ al, e.i ≠ e'.i → ∀ b, vblk (g e.i) = some b → vblk (g e'.i) ≠ some b) → wpList P l.toArray Q (l.drop n) (fillAll g al F) w) :
    ∀ (f : Nat) (listed : Array Bool) (aA : Act) (w : World) (g : Nat → Value), todo listed n = f → HeadInv .any l.toArray n listed → AnyLater W w → Stand listed g al W w →
      (∀ U, AnyLater W U → wpAnyQ P .any (actFrom n acts 0 l).toArray (fun w' => w' = U) (· = F) (f + (l.length - n)) listed aA) → wpAny P .any l.toArray Q (f + (l.length - n)) listed (fill listed g al aA) w := by
  intro f
  induction f with
  | zero =>
    intro listed aA w g hf0 inv hC hS hA
    have hall := todo_zero n hf0
    have hl : listed = Array.replicate n true ++ Array.replicate (l.length - n) false := by
      apply Array.ext
      · have := inv.size; simp at this ⊢; have := hm.nle; omega
      · intro i h1 h2
        rcases Nat.lt_or_ge i n with h | h
        · have := hall i h
          simp [Array.getElem_append, h] at this ⊢
          simpa [h1] using this
        · have hs := inv.size
          have := inv.tail i h (by simp at hs ⊢; omega)
          simp [Array.getElem_append, show ¬ i < n by omega] at this ⊢
          simpa [h1] using this
    obtain ⟨d1, d2, d3⟩ := final_slots _ _ _ (hA w hC)
    have hF : aA = F := by
      have ht : aA.tmps = F.tmps := by
        apply Array.ext_getElem?
        intro s
        refine d3 s (fun j o hj hun => ?_)
        rw [List.getElem?_toArray, actFrom_get] at hj
        cases hlj : l[j]? with
        | none => rw [hlj] at hj; cases hj
        | some o' =>
          rw [hlj] at hj
          simp only [Option.map_some, Option.some.injEq] at hj
          subst hj
          rcases Nat.lt_or_ge j n with h | h
          · have h1 := hall j h
            rcases Nat.lt_or_ge j listed.size with h' | h'
            · simp [h'] at h1 hun; rw [h1] at hun; cases hun
            · simp [Array.getElem?_eq_none h'] at h1
          · rw [Nat.zero_add, actOp_tail n acts j o' h]; simp
      cases aA; cases F; simp_all
    subst hF
    have hin2 : ∀ e ∈ al, e.i < n := fun e he => by
      obtain ⟨x, hx, hxe⟩ := List.mem_map.1 (hf.own e he).1
      rw [← hxe]; exact (hm.made x hx).1
    rw [fill_full _ _ _ _ (fun e he => hall e.i (hin2 e he))]
    have hw2 := htail g w hC (fun e he => hS.1 e he (hall e.i (hin2 e he))) (fun e he e' he' => hS.2 e he e' he' (hall e.i (hin2 e he)) (hall e'.i (hin2 e' he')))
    have hseq := hm.seq
    rw [← hl] at hseq
    have hdl : (l.drop n).length = l.length - n := by simp
    rw [Nat.zero_add]
    have := wpAny_of_seq (P := P) (Q' := Q) (ops := l.toArray) (md := .any) (l.drop n) n listed (fillAll g al aA) w (fun j => by simp) (by rw [hdl]; exact hseq) hw2
    rwa [hdl] at this
  | succ f ih =>
    intro listed aA w g hf0 inv hC hS hA
    obtain ⟨k, hkn, hkun, hkall⟩ := todo_some (listed := listed) n (by omega)
    have hsz : listed.size = l.length := by have := inv.size; simpa using this
    have hnl := hm.nle
    have hkun' : listed.getD k true = false := getD_in (by omega) hkun
    have hkr : k ∈ Region.ready .any l.toArray listed := by
      refine mem_ready.2 ⟨hkun', l[k]'(by omega), by simp, fun e he hb => ?_⟩
      have := hm.back k _ (List.getElem?_eq_getElem (by omega)) e he hb
      exact hkall _ this
    rw [show f + 1 + (l.length - n) = f + (l.length - n) + 1 by omega]
    refine ⟨fun h0 => (by rw [h0] at hkr; cases hkr), fun i hi => ?_⟩
    have hin := head_only_row hm inv hkn hkun' i hi
    obtain ⟨hun, o, ho, hdeps⟩ := mem_ready.1 hi
    have ho' : l[i]? = some o := by simpa using ho
    have hun' : listed.getD i false = false := getD_both hun
    have hoA : (actFrom n acts 0 l).toArray[i]? = some (actOp n acts i o) := by
      rw [List.getElem?_toArray, actFrom_get, ho', Nat.zero_add]; rfl
    have hinv' := inv.set hi hin
    have hf' : todo (listed.setIfInBounds i true) n = f := by
      have := todo_set (k := n) (by omega) hun'
      rw [if_pos hin] at this
      omega
    have hA' : ∀ U, AnyLater W U → ∃ v, YieldsIn P (actFrom n acts 0 l).toArray (fun w' => w' = U) (actOp n acts i o) v aA ∧
        wpAnyQ P .any (actFrom n acts 0 l).toArray (fun w' => w' = U) (· = F) (f + (l.length - n)) (listed.setIfInBounds i true) (aA.put o.dst v) := by
      intro U hU
      have h1 := hA U hU
      rw [show f + 1 + (l.length - n) = f + (l.length - n) + 1 by omega] at h1
      have h2 := h1.2 i (by rw [ready_act]; exact hi)
      obtain ⟨v, hy, hK⟩ := yieldsIn_of_qOp hoA h2
      rw [actOp_dst n acts i o hin] at hK
      exact ⟨v, hy, hK⟩
    have same : ∀ U1 U2 v1 v2, wpAnyQ P .any (actFrom n acts 0 l).toArray (fun w' => w' = U1) (· = F) (f + (l.length - n)) (listed.setIfInBounds i true) (aA.put o.dst v1) →
        wpAnyQ P .any (actFrom n acts 0 l).toArray (fun w' => w' = U2) (· = F) (f + (l.length - n)) (listed.setIfInBounds i true) (aA.put o.dst v2) → aA.put o.dst v1 = aA.put o.dst v2 := by
      intro U1 U2 v1 v2 h1 h2
      cases hd : o.dst with
      | none => rfl
      | some d =>
        rw [hd] at h1 h2
        have hno : ∀ (j : Nat) (o' : Oper), (actFrom n acts 0 l).toArray[j]? = some o' → (listed.setIfInBounds i true).getD j true = false → o'.dst ≠ some d := by
          intro j o' hj hjun
          rw [List.getElem?_toArray, actFrom_get, Nat.zero_add] at hj
          cases hlj : l[j]? with
          | none => rw [hlj] at hj; cases hj
          | some oj =>
            rw [hlj] at hj
            simp only [Option.map_some, Option.some.injEq] at hj
            subst hj
            rcases Nat.lt_or_ge j n with h | h
            · rw [actOp_dst n acts j oj h]
              have hij : i ≠ j := by
                rintro rfl
                have : (listed.setIfInBounds i true).getD i true = true := by
                  simp [show i < listed.size by omega]
                rw [this] at hjun; cases hjun
              exact hm.dsts i j hin h hij o oj ho' hlj d hd
            · rw [actOp_tail n acts j oj h]; simp
        have e1 := (final_slots _ _ _ h1).2.2 d hno
        have e2 := (final_slots _ _ _ h2).2.2 d hno
        have e3 := e1.trans e2.symm
        simp only [Act.put, Array.getElem?_setIfInBounds_self] at e3 ⊢
        congr 1
        apply Array.ext_getElem?
        intro s
        by_cases hs : d = s
        · subst hs; rw [Array.getElem?_setIfInBounds_self, Array.getElem?_setIfInBounds_self]; exact e3
        · simp [Array.getElem?_setIfInBounds, hs]
    have hwA : Region.wanted o (yielded (actFrom n acts 0 l).toArray aA.tmps) = Region.wanted o (yielded l.toArray aA.tmps) := by
      unfold Region.wanted
      cases hgd : o.guard with
      | none => rfl
      | some gb =>
        obtain ⟨gi, b⟩ := gb
        have hgn := hm.guard i o hin ho' gi b hgd
        have : yielded (actFrom n acts 0 l).toArray aA.tmps gi = yielded l.toArray aA.tmps gi := by
          unfold yielded
          rw [List.getElem?_toArray, List.getElem?_toArray, actFrom_get, Nat.zero_add]
          cases l[gi]? with
          | none => rfl
          | some og => simp only [Option.map_some, Option.bind_some, actOp_dst n acts gi og hgn]
        simp only [this]
    obtain ⟨v0, hy0, hK0⟩ := hA' w hC
    have cont : ∀ g2 w2, AnyLater W w2 → Stand (listed.setIfInBounds i true) g2 al W w2 →
        wpAny P .any l.toArray Q (f + (l.length - n)) (listed.setIfInBounds i true) (fill (listed.setIfInBounds i true) g2 al (aA.put o.dst v0)) w2 := by
      intro g2 w2 hC2 hS2
      refine ih _ _ _ g2 hf' hinv' hC2 hS2 ?_
      intro U hU
      obtain ⟨v1, _, hK⟩ := hA' U hU
      have := same _ _ _ _ hK0 hK
      rw [this]; exact hK
    cases hlk : acts.lookup i with
    | some v =>
      obtain ⟨j, hj, hje⟩ := lookup_get hlk
      have hji : acts[j].1 = i := by rw [hje]
      have hjv : acts[j].2 = v := by rw [hje]
      obtain ⟨hw1, hstep⟩ := hact j hj o (by rw [hji]; exact ho')
      have hops := (hm.made _ (List.getElem_mem hj)).2 o (by rw [hji]; exact ho')
      have hlis : ∀ e ∈ al, e.s ∈ o.looksAt l.toArray → listed.getD e.i false = true := by
        intro e he hlook
        have hen : e.i < n := by
          obtain ⟨x, hx, hxe⟩ := List.mem_map.1 (hf.own e he).1
          rw [← hxe]; exact (hm.made x hx).1
        obtain ⟨oe, hoe⟩ : ∃ oe, l[e.i]? = some oe := ⟨l[e.i]'(by omega), List.getElem?_eq_getElem (by omega)⟩
        obtain ⟨ed, hed, hb, hon⟩ := hops e.i oe hen hoe e.s (hf.dst e he oe hoe) hlook
        have hl1 := hdeps ed hed hb
        rw [hon] at hl1
        rcases Nat.lt_or_ge e.i listed.size with h' | h'
        · simp [h'] at hl1 ⊢; exact hl1
        · omega
      have hstep := hstep g w hC (fun e he hlook => (hS.1 e he (hlis e he hlook)).1)
      rw [hjv, hji] at hstep
      obtain ⟨_, _, hfin⟩ := final_slots _ _ _ (hA w hC)
      have hslot : ∀ t, t ∈ o.looksAt l.toArray → aA.tmps[t]? = F.tmps[t]? := by
        intro t hlook
        refine hfin t (fun j' oj hj' hjun hjd => ?_)
        rw [List.getElem?_toArray, actFrom_get, Nat.zero_add] at hj'
        cases hlj : l[j']? with
        | none => rw [hlj] at hj'; cases hj'
        | some oj' =>
          rw [hlj] at hj'
          simp only [Option.map_some, Option.some.injEq] at hj'
          subst hj'
          rcases Nat.lt_or_ge j' n with h | h
          · rw [actOp_dst n acts j' oj' h] at hjd
            obtain ⟨ed, hed, hb, hon⟩ := hops j' oj' h hlj t hjd hlook
            have h1 := hdeps ed hed hb
            rw [hon, getD_both hjun] at h1
            cases h1
          · rw [actOp_tail n acts j' oj' h] at hjd; cases hjd
      have hsel := Region.noSelect_spec hm.sel
      have hsize : aA.tmps.size = F.tmps.size := (final_slots _ _ _ (hA w hC)).2.1
      have hexF : execOp (fill listed g al aA).eval o = execOp (fillAll g al F).eval o := by
        refine execOp_congr o (fun cs b => hsel i o cs b ho) fun x hx => ?_
        cases x with
        | tmp t =>
          have hlook : t ∈ o.looksAt l.toArray := List.mem_append_left _ (List.mem_filterMap.2 ⟨.tmp t, by simpa using hx, rfl⟩)
          have e1 : (fill listed g al aA).tmps[t]? = (fillAll g al F).tmps[t]? := by
            by_cases hfr : ∃ e ∈ al, e.s = t
            · obtain ⟨e, he, rfl⟩ := hfr
              have hen : e.i < n := by
                obtain ⟨x, hx, hxe⟩ := List.mem_map.1 (hf.own e he).1
                rw [← hxe]; exact (hm.made x hx).1
              obtain ⟨oe, hoe⟩ : ∃ oe, l[e.i]? = some oe := ⟨l[e.i]'(by omega), List.getElem?_eq_getElem (by omega)⟩
              obtain ⟨ed, hed, hb, hon⟩ := hops e.i oe hen hoe e.s (hf.dst e he oe hoe) hlook
              have hl1 := hdeps ed hed hb
              rw [hon] at hl1
              have hl2 : listed.getD e.i false = true := by
                rcases Nat.lt_or_ge e.i listed.size with h' | h'
                · simp [h'] at hl1 ⊢; exact hl1
                · omega
              rw [fill_slot listed g e hl2 al aA (fun x hx y hy => (hf.own x hx).2 y hy) he, fillAll_slot g e al F (fun x hx y hy => (hf.own x hx).2 y hy) he, hsize]
            · have hno : ∀ e ∈ al, t ≠ e.s := fun e he h => hfr ⟨e, he, h.symm⟩
              rw [fill_other listed g t al aA hno, fillAll_other g t al F hno, hslot t hlook]
          simp only [Act.eval, Array.getD_eq_getD_getElem?, e1]
        | _ => rfl
      have hwfill : Region.wanted o (yielded l.toArray (fill listed g al aA).tmps) = Region.wanted o (yielded l.toArray aA.tmps) := by
        unfold Region.wanted
        cases hgd : o.guard with
        | none => rfl
        | some gb =>
          obtain ⟨gi, b⟩ := gb
          have : yielded l.toArray (fill listed g al aA).tmps gi = yielded l.toArray aA.tmps gi := by
            unfold yielded
            cases hgi : l.toArray[gi]? with
            | none => rfl
            | some og =>
              cases hdg : og.dst with
              | none => simp [hdg]
              | some t =>
                have hno := hf.guard i o hin ho' gi b hgd og t (by simpa using hgi) hdg
                simp [hdg, fill_other listed g t al aA hno]
          simp only [this]
      have hwF : Region.wanted o (yielded l.toArray aA.tmps) = true := by
        rw [← hw1]
        unfold Region.wanted
        cases hgd : o.guard with
        | none => rfl
        | some gb =>
          obtain ⟨gi, b⟩ := gb
          have : yielded l.toArray aA.tmps gi = yielded l.toArray F.tmps gi := by
            unfold yielded
            cases hgi : l.toArray[gi]? with
            | none => rfl
            | some og =>
              cases hdg : og.dst with
              | none => simp [hdg]
              | some t =>
                have hlook : t ∈ o.looksAt l.toArray := by
                  unfold Oper.looksAt
                  refine List.mem_append_right _ ?_
                  rw [hgd]
                  simp [hgi, hdg]
                simp [hdg, hslot t hlook]
          simp only [this]
      have hv0 : v0 = v := by
        rcases hy0 with ⟨_, hv⟩ | ⟨hwn, _⟩
        · have := hv w rfl
          rw [actOp_act n acts i o v hin hlk] at this
          unfold Oper.quietAt at this
          simp only [execOp, Sem.run_pure, Oper.quietUpon] at this
          exact this.2.symm
        · exfalso
          have : Region.wanted (actOp n acts i o) (yielded (actFrom n acts 0 l).toArray aA.tmps) = Region.wanted o (yielded (actFrom n acts 0 l).toArray aA.tmps) := by
            unfold Region.wanted; rw [actOp_guard]
          rw [this, hwA, hwF] at hwn
          cases hwn
      subst hv0
      have next : ∀ u w', AnyLater w w' ∧ (∀ e ∈ al, e.i = i → e.is u w' ∧ ∀ b, vblk u = some b → w.heap.size ≤ b ∧ b < w'.heap.size) ∧ ((∃ e ∈ al, e.i = i) ∨ u = v0) →
          wpAny P .any l.toArray Q (f + (l.length - n)) (listed.setIfInBounds i true) ((fill listed g al aA).put o.dst u) w' := by
        rintro u w' ⟨hlw, h3, h2⟩
        by_cases hfr : ∃ e ∈ al, e.i = i
        · obtain ⟨e, he, rfl⟩ := hfr
          obtain ⟨hv, hb⟩ := h3 e he rfl
          rw [hf.dst e he o ho']
          rw [← fill_new listed g e u v0 hun' (by omega) al aA (fun x hx y hy => (hf.own x hx).2 y hy) he (fun x hx => (hf.own x hx).2 e he) hpw]
          rw [← hf.dst e he o ho']
          refine cont _ w' (hC.trans hlw) ⟨?_, ?_⟩
          · intro x hx hxl
            by_cases hxe : x.i = e.i
            · have hxx : x = e := pw_eq hpw hx he hxe
              subst hxx
              simp only [if_true]
              exact ⟨hv, fun b h => ⟨Nat.le_trans hC.below.size (hb b h).1, (hb b h).2⟩⟩
            · simp only [if_neg hxe]
              rw [getD_set_ne false (fun h => hxe h.symm)] at hxl
              exact (hS.later hstab hlw).1 x hx hxl
          · intro x hx y hy hxl hyl hne
            have old : ∀ z ∈ al, z.i ≠ e.i → (listed.setIfInBounds e.i true).getD z.i false = true → ∀ b, vblk (g z.i) = some b → b < w.heap.size := by
              intro z hz hze hzl b h
              rw [getD_set_ne false (fun h => hze h.symm)] at hzl
              exact ((hS.1 z hz hzl).2 b h).2
            by_cases h1 : x.i = e.i
            · have h2 : y.i ≠ e.i := fun h => hne (h1.trans h.symm)
              simp only [if_pos h1, if_neg h2]
              intro b h3 h4
              have := old y hy h2 hyl b h4
              have := (hb b h3).1
              omega
            · by_cases h2 : y.i = e.i
              · simp only [if_neg h1, if_pos h2]
                intro b h3 h4
                have := old x hx h1 hxl b h3
                have := (hb b h4).1
                omega
              · simp only [if_neg h1, if_neg h2]
                rw [getD_set_ne false (fun h => h1 h.symm)] at hxl
                rw [getD_set_ne false (fun h => h2 h.symm)] at hyl
                exact hS.2 x hx y hy hxl hyl hne
        · have h2 : u = v0 := h2.resolve_left hfr
          subst h2
          have hno : ∀ e ∈ al, o.dst ≠ some e.s := fun e he => ((hf.blind i o hin ho' e he).2).resolve_left (fun h => hfr ⟨e, he, h⟩)
          rw [← fill_put listed g o.dst u al aA hno]
          rw [fill_congr listed (listed.setIfInBounds i true) g g al _ (fun e he => ⟨(getD_set_ne false (fun h => hfr ⟨e, he, h.symm⟩)).symm, rfl⟩)]
          refine cont g w' (hC.trans hlw) ?_
          have := hS.later hstab hlw
          refine ⟨fun e he hl => this.1 e he ?_, fun e he e' he' hl hl' => this.2 e he e' he' ?_ ?_⟩
          · rwa [getD_set_ne false (fun h => hfr ⟨e, he, h.symm⟩)] at hl
          · rwa [getD_set_ne false (fun h => hfr ⟨e, he, h.symm⟩)] at hl
          · rwa [getD_set_ne false (fun h => hfr ⟨e', he', h.symm⟩)] at hl'
      unfold wpOp
      simp only [ho]
      rw [if_pos (by rw [hwfill]; exact hwF)]
      refine .inl ?_
      unfold Oper.wp
      rw [hexF]
      unfold ChainStep at hstep
      generalize (execOp (fillAll g al F).eval o).run P w = r at hstep
      cases r with
      | halt x w' => exact hstep.elim
      | ok nx w' =>
        cases nx <;> simp only at hstep <;> simp only [Oper.upon]
        case value u => exact next u w' hstep
        case enter fn args =>
          obtain ⟨rfl, hc⟩ := hstep
          exact hc.mono fun en w'' ⟨u, he, h⟩ => by subst he; exact next u w'' h
        all_goals first | exact hstep.elim | exact next _ w' hstep
    | none =>
      have hpl := hy0
      rw [actOp_plain n acts i o hin hlk] at hpl
      have hni : ∀ j (hj : j < acts.length), i ≠ acts[j].1 := by
        intro j hj h
        have : acts.lookup i ≠ none := by
          rw [h]
          intro hn
          rw [List.lookup_eq_none_iff] at hn
          have := hn _ (List.getElem_mem hj)
          simp at this
        exact this hlk
      have hnm : i ∉ acts.map (·.1) := by
        intro h
        obtain ⟨x, hx, hxe⟩ := List.mem_map.1 h
        obtain ⟨j, hj, rfl⟩ := List.getElem_of_mem hx
        exact hni j hj hxe.symm
      have hbl : ∀ e ∈ al, e.s ∉ o.looksAt l.toArray := fun e he => ((hf.blind i o hin ho' e he).1).resolve_left hnm
      have hds : ∀ e ∈ al, e.i ≠ i ∧ o.dst ≠ some e.s := fun e he => by
        have hne : e.i ≠ i := fun h => hnm (h ▸ (hf.own e he).1)
        exact ⟨hne, ((hf.blind i o hin ho' e he).2).resolve_left hne⟩
      have hsel := Region.noSelect_spec hm.sel
      have hex := fill_exec (l := l) listed g o (fun cs b => hsel i o cs b ho) al aA hbl
      have hwa := fill_wanted (l := l) listed g o al aA hbl
      have hy' : YieldsIn P l.toArray (fun w' => w' = w) o v0 (fill listed g al aA) := by
        unfold YieldsIn Oper.quietAt at hpl ⊢
        rw [hex, hwa, ← hwA]
        exact hpl
      refine wpOp_of_qOp (C := fun w' => w' = w) rfl (K := fun a' => a' = (fill listed g al aA).put o.dst v0) ?_ (hy'.qOp ho rfl)
      rintro a' w' rfl rfl
      rw [← fill_put listed g o.dst v0 al aA (fun e he => (hds e he).2)]
      rw [fill_congr listed (listed.setIfInBounds i true) g g al _ (fun e he => ⟨(getD_set_ne false (fun h => (hds e he).1 h.symm)).symm, rfl⟩)]
      refine cont g _ hC ?_
      refine ⟨fun e he hl => hS.1 e he ?_, fun e he e' he' hl hl' => hS.2 e he e' he' ?_ ?_⟩
      · rwa [getD_set_ne false (fun h => (hds e he).1 h.symm)] at hl
      · rwa [getD_set_ne false (fun h => (hds e he).1 h.symm)] at hl
      · rwa [getD_set_ne false (fun h => (hds e' he').1 h.symm)] at hl'
def vblkOk (u : Value) (w w' : World) : Prop := ∀ b, vblk u = some b → w.heap.size ≤ b ∧ b < w'.heap.size
theorem any_free {Q : Exit → Act → World → Prop} {a F : Act} {w : World} (n : Nat) (cs : List CA) (al : List Own) (hal : al = (cs.filter (·.free)).map CA.own) (hm : P.follows .mixedOrders = true) (hB : rowB l n ((cs.map CA.act).map (·.1)) = true) (hfB : freeB l n ((cs.map CA.act).map (·.1)) (al.map fun e => (e.i, e.s)) = true) (hpw : al.Pairwise fun x y => x.i ≠ y.i) (hlexB : Region.lexB .any (actFrom n (cs.map CA.act) 0 l).toArray = true)
    (hstab : ∀ c ∈ cs, ∀ v w w', AnyLater w w' → c.is v w → c.is v w')
    (hfix : ∀ c ∈ cs, c.free = true ∨ ∀ u w, c.is u w → u = c.v)
    (hlex : ∀ U, AnyLater w U → wpQuiet P (actFrom n (cs.map CA.act) 0 l).toArray (fun w' => w' = U) (· = F) (actFrom n (cs.map CA.act) 0 l) a)
    (hstep : ∀ (j : Nat) (h : j < cs.length), ∀ o, l[cs[j].i]? = some o → Region.wanted o (yielded l.toArray F.tmps) = true ∧ ∀ g x, AnyLater w x → (∀ e ∈ al, e.s ∈ o.looksAt l.toArray → e.is (g e.i) x) → ChainStep P (fillAll g al F) o x fun u w' => AnyLater x w' ∧ cs[j].is u w' ∧ (cs[j].free = true → vblkOk u x w'))
    (htail : ∀ g (u : Later w), (∀ e ∈ al, e.is (g e.i) (later u) ∧ ∀ b, vblk (g e.i) = some b → w.heap.size ≤ b ∧ b < (later u).heap.size) → (∀ e ∈ al, ∀ e' ∈ al, e.i ≠ e'.i → ∀ b, vblk (g e.i) = some b → vblk (g e'.i) ≠ some b) → wpList P l.toArray Q (l.drop n) (fillAll g al F) (later u)) :
    wpAny P .any l.toArray Q l.toArray.size (Array.replicate l.toArray.size false) a { w with drawn := w.drawn + 1 } := by
  have hk := rowOk hB
  simp only [Region.lexB, Bool.and_eq_true] at hlexB
  have inv0 : HeadInv .any l.toArray n (Array.replicate l.toArray.size false) := ⟨by simp, fun j oj _ h => (by rw [getD_replicate_false] at h; cases h), fun t _ ht => (by
    have ht' : t < l.length := by simpa using ht
    simp [ht'])⟩
  have htodo : ∀ k, k ≤ l.length → todo (Array.replicate l.toArray.size false) k = k := by
    intro k
    induction k with
    | zero => intro _; rfl
    | succ k ih => intro hk; simp only [todo, getD_replicate_false, ih (by omega)]; simp
  have hdl : n + (l.length - n) = l.length := by have := hk.nle; omega
  have hr : ({ w with drawn := w.drawn + 1 } : World) = w.drew := rfl
  rw [hr]
  have hfill : fill (Array.replicate l.toArray.size false) (fun _ => undef) al a = a := by
    have : ∀ es : List Own, fill (Array.replicate l.toArray.size false) (fun _ => undef) es a = a := by
      intro es
      induction es with
      | nil => rfl
      | cons e es ih => simp only [fill, getD_replicate_false, ih]; simp
    exact this al
  have hlen : (cs.map CA.act).length = cs.length := List.length_map ..
  have hget : ∀ (j : Nat) (h : j < (cs.map CA.act).length), (cs.map CA.act)[j].1 = (cs[j]'(by rw [← hlen]; exact h)).i := fun j h => by simp [CA.act]
  have hne : ∀ (j k : Nat) (hj : j < cs.length) (hk2 : k < cs.length), cs[j].i = cs[k].i → j = k := fun j k hj hk2 h => hk.nodup j k (by rw [hlen]; exact hj) (by rw [hlen]; exact hk2) (by rw [hget, hget]; exact h)
  have hmem : ∀ e ∈ al, ∃ (j : Nat) (hj : j < cs.length), cs[j].free = true ∧ e = cs[j].own := by
    intro e he
    rw [hal] at he
    obtain ⟨c, hc, rfl⟩ := List.mem_map.1 he
    obtain ⟨hc1, hc2⟩ := List.mem_filter.1 hc
    obtain ⟨j, hj, rfl⟩ := List.getElem_of_mem hc1
    exact ⟨j, hj, hc2, rfl⟩
  have := free_run (P := P) (W := w) (Q := Q) (F := F) hk (freeOk hfB) hpw (fun e he v x y hxy hv => by
      obtain ⟨j, hj, _, rfl⟩ := hmem e he
      exact hstab _ (List.getElem_mem hj) v x y hxy hv) (fun j hj o ho => by
      have hj2 : j < cs.length := by rw [← hlen]; exact hj
      rw [hget] at ho
      obtain ⟨h1, h2⟩ := hstep j hj2 o ho
      refine ⟨h1, fun g x hx hS => ?_⟩
      have h3 := h2 g x hx hS
      have key : ∀ u w', AnyLater x w' ∧ cs[j].is u w' ∧ (cs[j].free = true → vblkOk u x w') → AnyLater x w' ∧ (∀ e ∈ al, e.i = (cs.map CA.act)[j].1 → e.is u w' ∧ ∀ b, vblk u = some b → x.heap.size ≤ b ∧ b < w'.heap.size) ∧ ((∃ e ∈ al, e.i = (cs.map CA.act)[j].1) ∨ u = (cs.map CA.act)[j].2) := by
        rintro u w' ⟨hl, hi, hb⟩
        refine ⟨hl, fun e he hei => ?_, ?_⟩
        · obtain ⟨j', hj', hfr, rfl⟩ := hmem e he
          rw [hget] at hei
          have := hne j' j hj' hj2 hei
          subst this
          exact ⟨hi, hb hfr⟩
        · rcases hfix cs[j] (List.getElem_mem hj2) with hf | hf
          · refine .inl ⟨cs[j].own, ?_, by rw [hget]; rfl⟩
            rw [hal]
            exact List.mem_map.2 ⟨cs[j], List.mem_filter.2 ⟨List.getElem_mem hj2, hf⟩, rfl⟩
          · refine .inr ?_
            have := hf u w' hi
            simpa [CA.act] using this
      unfold ChainStep at h3 ⊢
      generalize (execOp (fillAll g al F).eval o).run P x = r at h3
      cases r with
      | halt y w' => exact h3
      | ok nx w' =>
        cases nx <;> simp only at h3 ⊢
        case value u => exact key _ _ h3
        case enter fn args => exact ⟨h3.1, h3.2.mono fun e w'' ⟨u, he, h⟩ => ⟨u, he, key _ _ h⟩⟩
        all_goals first | exact h3 | exact key _ _ h3) (fun g w' hw' h1 h2 => by
      obtain ⟨u, rfl⟩ := hw'
      exact htail g u h1 h2) n (Array.replicate l.toArray.size false) a w.drew (fun _ => undef) (htodo n hk.nle) inv0 (AnyLater.refl w).drew
    ⟨fun e _ h => (by rw [getD_replicate_false] at h; cases h), fun e _ e' _ h => (by rw [getD_replicate_false] at h; cases h)⟩ (fun U hU => by
      have hl := wpAnyQ_lex (P := P) (C := fun w' => w' = U) (Q := (· = F)) (md := .any) hlexB.1 (actFrom n (cs.map CA.act) 0 l) 0 (Array.replicate (actFrom n (cs.map CA.act) 0 l).toArray.size false) a (by simp) (by simpa using hlexB.2) (hlex U hU)
      rw [hdl]
      simpa [actFrom_length] using hl)
  rw [hdl, hfill] at this
  simpa using this
theorem wp_region_free {id : Nat} {Q : Exit → Act → World → Prop} {a F : Act} {w : World} (n : Nat) (cs : List CA) (al : List Own) (hal : al = (cs.filter (·.free)).map CA.own) (hm : P.follows .mixedOrders = true) (hB : rowB l n ((cs.map CA.act).map (·.1)) = true) (hfB : freeB l n ((cs.map CA.act).map (·.1)) (al.map fun e => (e.i, e.s)) = true) (hpw : al.Pairwise fun x y => x.i ≠ y.i) (hlexB : Region.lexB .any (actFrom n (cs.map CA.act) 0 l).toArray = true)
    (hstab : ∀ c ∈ cs, ∀ v w w', AnyLater w w' → c.is v w → c.is v w')
    (hfix : ∀ c ∈ cs, c.free = true ∨ ∀ u w, c.is u w → u = c.v)
    (hlex : ∀ U, AnyLater w U → wpQuiet P (actFrom n (cs.map CA.act) 0 l).toArray (fun w' => w' = U) (· = F) (actFrom n (cs.map CA.act) 0 l) a)
    (hstep : ∀ (j : Nat) (h : j < cs.length), ∀ o, l[cs[j].i]? = some o → Region.wanted o (yielded l.toArray F.tmps) = true ∧ ∀ g x, AnyLater w x → (∀ e ∈ al, e.s ∈ o.looksAt l.toArray → e.is (g e.i) x) → ChainStep P (fillAll g al F) o x fun u w' => AnyLater x w' ∧ cs[j].is u w' ∧ (cs[j].free = true → vblkOk u x w'))
    (htail : ∀ g (u : Later w), (∀ e ∈ al, e.is (g e.i) (later u) ∧ ∀ b, vblk (g e.i) = some b → w.heap.size ≤ b ∧ b < (later u).heap.size) → (∀ e ∈ al, ∀ e' ∈ al, e.i ≠ e'.i → ∀ b, vblk (g e.i) = some b → vblk (g e'.i) ≠ some b) → wpList P l.toArray Q (l.drop n) (fillAll g al F) (later u)) :
    (Code.region id l.toArray true).wp P Q a w := wp_region_any hm (any_free n cs al hal hm hB hfB hpw hlexB hstab hfix hlex hstep htail)
theorem free_tells {f : FuncId} {args : Array Value} {w : World} {is : Value → World → Prop} (h : Calls P f args w fun e w' => ∃ u, e = .returned u ∧ AnyLater w w' ∧ is u w') : Calls P f args w fun e w' => ∃ u, e = .returned u ∧ AnyLater w w' ∧ is u w' ∧ (true = true → vblkOk u w w') :=
  h.mono fun _ w' ⟨u, h1, h2, h3⟩ => ⟨u, h1, h2, h3, fun _ b hb2 => by cases hb2⟩
theorem free_is {F : Act} {o : Oper} {w : World} {v : Value} {is : Value → World → Prop} (h : (execOp F.eval o).run P w = .ok (.value v) w) (hi : is v w) : ChainStep P F o w fun u w' => AnyLater w w' ∧ is u w' ∧ (true = true → vblkOk u w w') := by
  unfold ChainStep
  rw [h]
  exact ⟨AnyLater.refl _, hi, fun _ b hb => by cases hb⟩
end
end Go.Proofs.YtamhnffokoejjaaGreatDoor.Wild
namespace Go.Proofs.YtamhnffokoejjaaGreatDoor
set_option linter.unusedSimpArgs false
set_option linter.unusedVariables false
set_option linter.unusedSectionVars false
open Go.RowKit
def earlyB (l : List Oper) (i : Nat) (s : Tmp) : Bool := l.all fun o => o.dst != some s || o.after.any fun e => Region.binds .any e && e.on == i
section
variable {P : Program} {Q : Exit → Act → World → Prop}
theorem ready_set (l : List Oper) (i : Nat) (o o' : Oper) (ho : l[i]? = some o) (ha : o'.after = o.after) (listed : Array Bool) : Region.ready .any (l.set i o').toArray listed = Region.ready .any l.toArray listed := by
  unfold Region.ready
  rw [List.size_toArray, List.length_set, List.size_toArray]
  refine List.filter_congr fun k hk => ?_
  simp only [List.getElem?_toArray, List.getElem?_set]
  by_cases h : i = k
  · subst h
    rw [ho]
    have : i < l.length := (List.getElem?_eq_some_iff.1 ho).1
    simp [this, ha]
  · simp [h]
theorem yielded_set (l : List Oper) (i : Nat) (o o' : Oper) (ho : l[i]? = some o) (hd : o'.dst = o.dst) (t : Array Value) : yielded (l.set i o').toArray t = yielded l.toArray t := by
  funext j
  unfold yielded
  simp only [List.getElem?_toArray, List.getElem?_set]
  by_cases h : i = j
  · subst h
    rw [ho]
    have : i < l.length := (List.getElem?_eq_some_iff.1 ho).1
    simp [this, hd]
  · simp [h]
theorem upon_put {o : Oper} {a : Act} {K K' : Act → World → Prop} {r : Result Next} (h : ∀ (b : Act) v w, b.tmps = a.tmps → K (b.put o.dst v) w → K' (b.put o.dst v) w) (hh : o.upon P a K Q r) : o.upon P a K' Q r := by
  cases r with
  | ok n w' =>
    cases n <;> simp only [Oper.upon] at hh ⊢ <;>
      first
        | exact h a _ _ rfl hh
        | exact h _ _ _ rfl hh
        | exact Calls.mono hh (fun e w'' he => by cases e <;> first | exact h a _ _ rfl he | exact he)
        | exact Rows.mono hh (fun _ _ he => h a _ _ rfl he)
  | halt x w' => cases x <;> simp only [Oper.upon] at hh ⊢ <;> exact hh
theorem any_early (l : List Oper) (i : Nat) (s : Tmp) (oi : Oper) (x : Value) (hoi : l[i]? = some oi) (hop : oi.op = .move (.tmp s)) (hB : earlyB l i s = true) :
    ∀ (fuel : Nat) (listed : Array Bool) (a : Act) (w : World), (listed.getD i true = false → a.tmps.getD s undef = x) → wpAny P .any (l.set i { oi with op := .move (.const x) }).toArray Q fuel listed a w → wpAny P .any l.toArray Q fuel listed a w := by
  have hi : i < l.length := (List.getElem?_eq_some_iff.1 hoi).1
  intro fuel
  induction fuel with
  | zero =>
    intro listed a w _ h
    unfold wpAny at h ⊢
    rwa [ready_set l i oi { oi with op := .move (.const x) } hoi rfl] at h
  | succ fuel ih =>
    intro listed a w hx h
    unfold wpAny at h ⊢
    rw [ready_set l i oi { oi with op := .move (.const x) } hoi rfl] at h
    refine ⟨h.1, fun k hk => ?_⟩
    have h2 := h.2 k hk
    have hkr : k ∈ Region.ready .any l.toArray listed := hk
    unfold Region.ready at hk
    obtain ⟨hk1, hk2⟩ := List.mem_filter.1 hk
    rw [List.size_toArray, List.mem_range] at hk1
    rw [Bool.and_eq_true, List.getElem?_toArray, List.getElem?_eq_getElem hk1, Option.map_some, Option.getD_some] at hk2
    obtain ⟨hk2, hk3⟩ := hk2
    have hgo : ∀ (b : Act) (v : Value) (w' : World), b.tmps = a.tmps → wpAny P .any (l.set i { oi with op := .move (.const x) }).toArray Q fuel (listed.setIfInBounds k true) (b.put l[k].dst v) w' → wpAny P .any l.toArray Q fuel (listed.setIfInBounds k true) (b.put l[k].dst v) w' := by
      intro b v w' hb
      refine ih _ _ _ fun hl => ?_
      have hik : i ≠ k := by
        rintro rfl
        rw [Array.getD_eq_getD_getElem?, Array.getElem?_setIfInBounds] at hl
        split at hl
        · split at hl <;> simp_all
        · simp_all
      have hl2 : listed.getD i true = false := by
        rw [Array.getD_eq_getD_getElem?, Array.getElem?_setIfInBounds, if_neg (fun e => hik e.symm)] at hl
        rwa [Array.getD_eq_getD_getElem?]
      have hne : l[k].dst ≠ some s := by
        intro hd
        have := List.all_eq_true.1 hB l[k] (List.getElem_mem hk1)
        rw [hd] at this
        simp only [bne_self_eq_false, Bool.false_or, Array.any_eq_true', Bool.and_eq_true, beq_iff_eq] at this
        obtain ⟨e, he, hb1, hb2⟩ := this
        have h3 := Array.all_eq_true'.1 hk3 e he
        rw [hb1, hb2] at h3
        simp only [Bool.not_true, Bool.false_or] at h3
        have h4 : listed.getD i false = false := by
          rw [Array.getD_eq_getD_getElem?] at hl2 ⊢
          cases hc : listed[i]? with
          | none => rfl
          | some y => rw [hc] at hl2; exact hl2
        rw [h4] at h3
        cases h3
      have e := hx hl2
      rw [← hb] at e
      rw [← e]
      unfold Act.put
      cases hd : l[k].dst with
      | none => rfl
      | some d =>
        have : d ≠ s := fun e => hne (by rw [hd, e])
        simp only [Array.getD_eq_getD_getElem?, Array.getElem?_setIfInBounds, if_neg this]
    unfold wpOp at h2 ⊢
    rw [yielded_set l i oi { oi with op := .move (.const x) } hoi rfl] at h2
    rw [List.getElem?_toArray, List.getElem?_eq_getElem hk1]
    by_cases hik : i = k
    · subst hik
      have e1 : l[i] = oi := by rw [List.getElem?_eq_getElem hi] at hoi; exact Option.some.inj hoi
      have e2 : (l.set i { oi with op := .move (.const x) }).toArray[i]? = some { oi with op := .move (.const x) } := by simp [hi]
      rw [e2] at h2
      rw [e1] at hgo ⊢
      have hex : ∀ (b : Act), b.eval (.tmp s) = x → execOp b.eval oi = execOp b.eval { oi with op := .move (.const x) } := fun b hb => by
        unfold execOp
        simp only [hop]
        rw [hb]; rfl
      have hs : a.eval (.tmp s) = x := by
        refine hx ?_
        cases hc : listed.getD i true with
        | false => rfl
        | true => rw [hc] at hk2; cases hk2
      have hex2 := hex a hs
      simp only at h2 ⊢
      have hw : Region.wanted { oi with op := .move (.const x) } (yielded l.toArray a.tmps) = Region.wanted oi (yielded l.toArray a.tmps) := rfl
      rw [hw] at h2
      split
      · rename_i hwt
        rw [if_pos hwt] at h2
        rcases h2 with h2 | h2
        · refine .inl ?_
          unfold Oper.wp at h2 ⊢
          rw [← hex2] at h2
          exact upon_put hgo h2
        · refine .inr ⟨?_, h2.2⟩
          have := h2.1
          unfold Oper.asks at this ⊢
          rwa [← hex2] at this
      · rename_i hwt
        rw [if_neg hwt] at h2
        exact hgo a _ _ rfl h2
    · have e2 : (l.set i { oi with op := .move (.const x) }).toArray[k]? = some l[k] := by simp [List.getElem?_set, hik, hk1]
      rw [e2] at h2
      simp only at h2 ⊢
      split
      · rename_i hwt
        rw [if_pos hwt] at h2
        rcases h2 with h2 | h2
        · refine .inl ?_
          unfold Oper.wp at h2 ⊢
          exact upon_put hgo h2
        · exact .inr h2
      · rename_i hwt
        rw [if_neg hwt] at h2
        exact hgo a _ _ rfl h2
theorem wp_region_early {id : Nat} {a : Act} {w : World} (l : List Oper) (i : Nat) (s : Tmp) (x : Value) (oi : Oper) (l' : List Oper) (hm : P.follows .mixedOrders = true) (hoi : l[i]? = some oi) (hop : oi.op = .move (.tmp s)) (hB : earlyB l i s = true) (hx : a.tmps.getD s undef = x)
    (hl : l.set i { oi with op := .move (.const x) } = l') (h : wpAny P .any l'.toArray Q l'.toArray.size (Array.replicate l'.toArray.size false) a { w with drawn := w.drawn + 1 }) : (Code.region id l.toArray true).wp P Q a w := by
  refine wp_region_any hm (any_early l i s oi x hoi hop hB _ _ a _ (fun _ => hx) ?_)
  subst hl
  simpa using h
end
end Go.Proofs.YtamhnffokoejjaaGreatDoor
