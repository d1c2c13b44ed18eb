/- A region that draws its order and calls what answers with a value of which only something is known (a slice that reads so and so), perhaps under '&&' or '||': one walk in the order of the text, then the tail in its one order. XRegion's run, with a guard allowed at such a call, and nothing asked of blocks. No condition. -/
import Derived.Test.YtmhgpgaikcimnaaRegion
namespace Go.Proofs.Ytmhgpgaikcimnaa
set_option linter.unusedSimpArgs false
set_option linter.unusedVariables false
set_option linter.unusedSectionVars false
open Go.RowKit

def looseB (l : List Oper) (n : Nat) (al : List (Nat × Tmp)) : Bool :=
  Region.noSelect l.toArray && decide (n ≤ l.length) &&
  ((List.range l.length).all fun i => match l[i]? with | some o => o.after.all fun e => !Region.binds .any e || decide (e.on < i) | none => true) &&
  ((List.range n).all fun i => match l[i]? with
    | some o => (match o.guard with | some (g, _) => decide (g < n) | none => true) &&
        (al.all fun e => !(o.looksAt l.toArray).contains e.2 && (e.1 == i || o.dst != some e.2))
    | none => true) &&
  (al.all fun e => decide (e.1 < n) && (al.all fun e' => (e.1 == e'.1) == (e.2 == e'.2)) &&
    match l[e.1]? with
    | some o => o.dst == some e.2 && (List.range n).all fun j => match (l[j]?).bind (·.dst) with
        | some t => !(o.looksAt l.toArray).contains t || o.after.any fun ed => Region.binds .any ed && ed.on == j
        | none => true
    | none => false) &&
  ((List.range n).all fun i => (List.range n).all fun j => i == j || match (l[i]?).bind (·.dst), (l[j]?).bind (·.dst) with | some d, some d' => d != d' | _, _ => true) &&
  Region.lexB .any (absFrom n (al.map (·.1)) 0 l).toArray &&
  (n == l.length || (Region.sinkB .any l.toArray n && Region.chainB .any l.toArray n)) &&
  Region.seqB .any l.toArray (l.length - n) n (Array.replicate n true ++ Array.replicate (l.length - n) false)

section
variable {P : Program} {l : List Oper} {n : Nat} {al : List Own} {W : World} {is : List Nat}
def LStand (listed : Array Bool) (g : Nat → Value) (al : List Own) (w : World) : Prop := ∀ e ∈ al, listed.getD e.i false = true → e.is (g e.i) w
theorem LStand.later {listed : Array Bool} {g : Nat → Value} {w w' : World} (hs : ∀ e ∈ al, ∀ v w w', AnyLater w w' → e.is v w → e.is v w') (h : LStand listed g al w) (hl : AnyLater w w') : LStand listed g al w' := fun e he hh => hs e he _ _ _ hl (h e he hh)
/-- a call answers with a value of which this is known -/
def Tells (is : Value → World → Prop) (w : World) (en : Ending) (w' : World) : Prop := ∃ v, en = .returned v ∧ AnyLater w w' ∧ is v w'
def LooseStep (P : Program) (l : List Oper) (W : World) (F : Act) (e : Own) (o : Oper) : Prop := Region.wanted o (yielded l.toArray F.tmps) = true ∧ ∀ w, AnyLater W w →
  match (execOp F.eval o).run P w with
  | .ok (.value v) w' => AnyLater w w' ∧ e.is v w'
  | .ok (.enter f args) w' => w' = w ∧ Calls P f args w (Tells e.is w)
  | _ => False
structure LooseOk (l : List Oper) (n : Nat) (al : List Own) : Prop where
  sel : Region.noSelect l.toArray = true
  nle : n ≤ l.length
  back : ∀ (i : Nat) (o : Oper), l[i]? = some o → ∀ e ∈ o.after, Region.binds .any e = true → e.on < i
  guard : ∀ (i : Nat) (o : Oper), i < n → l[i]? = some o → ∀ g b, o.guard = some (g, b) → g < n
  made : ∀ e ∈ al, ∀ o, l[e.i]? = some o → o.dst = some e.s ∧ ∀ (j : Nat) (o' : Oper), j < n → l[j]? = some o' → ∀ t, o'.dst = some t → t ∈ o.looksAt l.toArray → ∃ ed ∈ o.after, Region.binds .any ed = true ∧ ed.on = j
  blind : ∀ (i : Nat) (o : Oper), i < n → l[i]? = some o → ∀ e ∈ al, e.s ∉ o.looksAt l.toArray ∧ (e.i = i ∨ o.dst ≠ some e.s)
  own : ∀ e ∈ al, e.i < n ∧ ∀ e' ∈ al, (e.i = e'.i ↔ e.s = e'.s)
  dsts : ∀ i j : Nat, i < n → j < n → i ≠ j → ∀ o o' : Oper, l[i]? = some o → l[j]? = some o' → ∀ d, o.dst = some d → o'.dst ≠ some d
  lex : Region.lexB .any (absFrom n (idx al) 0 l).toArray = true
  tail : n = l.length ∨ (Region.sinkB .any l.toArray n = true ∧ Region.chainB .any l.toArray n = true)
  seq : Region.seqB .any l.toArray (l.length - n) n (Array.replicate n true ++ Array.replicate (l.length - n) false) = true
theorem looseOk (h : looseB l n (al.map fun e => (e.i, e.s)) = true) : LooseOk l n al := by
  unfold looseB at h
  simp only [Bool.and_eq_true] at h
  obtain ⟨⟨⟨⟨⟨⟨⟨⟨h1, h2⟩, h3⟩, h4⟩, h5⟩, h6⟩, h7⟩, h8⟩, h9⟩ := h
  have h4' : ∀ (i : Nat) (o : Oper), i < n → l[i]? = some o → (match o.guard with | some (g, _) => decide (g < n) | none => true) = true ∧
        ((al.map fun e => (e.i, e.s)).all fun e => !(o.looksAt l.toArray).contains e.2 && (e.1 == i || o.dst != some e.2)) = true := by
    intro i o hi ho
    have := List.all_eq_true.1 h4 i (List.mem_range.2 hi)
    rw [ho] at this
    simpa only [Bool.and_eq_true] using this
  have h5' : ∀ e ∈ al, (decide (e.i < n) = true ∧ ((al.map fun e => (e.i, e.s)).all fun e' => (e.i == e'.1) == (e.s == e'.2)) = true) ∧ (match l[e.i]? with
    | some o => o.dst == some e.s && (List.range n).all fun j => match (l[j]?).bind (·.dst) with
        | some t => !(o.looksAt l.toArray).contains t || o.after.any fun ed => Region.binds .any ed && ed.on == j
        | none => true
    | none => false) = true := by
    intro e he
    have := List.all_eq_true.1 h5 (e.i, e.s) (List.mem_map.2 ⟨e, he, rfl⟩)
    simpa only [Bool.and_eq_true] using this
  refine ⟨h1, by simpa using h2, ?_, ?_, ?_, ?_, ?_, ?_, ?_, ?_, h9⟩
  · intro i o ho e he hb
    have hi : i < l.length := (List.getElem?_eq_some_iff.1 ho).1
    have := List.all_eq_true.1 h3 i (List.mem_range.2 hi)
    rw [ho] at this
    have := Array.all_eq_true'.1 this e he
    simpa [hb] using this
  · intro i o hi ho g b hg
    have := (h4' i o hi ho).1
    rw [hg] at this
    simpa using this
  · intro e he o ho
    have := (h5' e he).2
    rw [ho] at this
    simp only [Bool.and_eq_true] at this
    obtain ⟨g2, g3⟩ := this
    refine ⟨by simpa using g2, fun j o' hj ho' t ht hlt => ?_⟩
    have := List.all_eq_true.1 g3 j (List.mem_range.2 hj)
    rw [ho', Option.bind_some, ht] at this
    simp only [Bool.or_eq_true, Bool.not_eq_true', List.contains_eq_mem, decide_eq_false_iff_not, Array.any_eq_true', Bool.and_eq_true, beq_iff_eq] at this
    rcases this with h | ⟨ed, h, hb⟩
    · exact absurd hlt h
    · exact ⟨ed, h, hb⟩
  · intro i o hi ho e he
    have := List.all_eq_true.1 (h4' i o hi ho).2 (e.i, e.s) (List.mem_map.2 ⟨e, he, rfl⟩)
    simp only [Bool.and_eq_true, Bool.or_eq_true, beq_iff_eq, bne_iff_ne, Bool.not_eq_true', List.contains_eq_mem, decide_eq_false_iff_not] at this
    exact this
  · intro e he
    refine ⟨by simpa using (h5' e he).1.1, fun e' he' => ?_⟩
    have := List.all_eq_true.1 (h5' e he).1.2 (e'.i, e'.s) (List.mem_map.2 ⟨e', he', rfl⟩)
    rw [beq_iff_eq, Bool.eq_iff_iff] at this
    simpa using this
  · intro i j hi hj hij o o' ho ho' d hd hd'
    have := List.all_eq_true.1 (List.all_eq_true.1 h6 i (List.mem_range.2 hi)) j (List.mem_range.2 hj)
    rw [ho, ho'] at this
    simp [hij, hd, hd'] at this
  · have : (al.map fun e => (e.i, e.s)).map (·.1) = idx al := by simp [idx]
    rw [this] at h7; exact h7
  · rcases Bool.or_eq_true_iff.1 h8 with h | h
    · exact .inl (by simpa using h)
    · exact .inr (by simpa only [Bool.and_eq_true] using h)

/-- no operation of the tail comes up ahead of the head's end -/
theorem head_only_loose (hm : LooseOk l n al) {listed : Array Bool} (inv : HeadInv .any l.toArray n listed) {i : Nat} (hi : i < n) (hun : listed.getD i true = false) : ∀ t ∈ Region.ready .any l.toArray listed, t < n := by
  intro t ht
  rcases Nat.lt_or_ge t n with h | h
  · exact h
  · obtain ⟨_, o, ho, _⟩ := mem_ready.1 ht
    have htl : t < l.length := by have := (Array.getElem?_eq_some_iff.1 ho).1; simpa using this
    rcases hm.tail with he | ⟨hs, hc⟩
    · omega
    · exact absurd ht (tail_waits hs hc (by simp; omega) inv _ i rfl hi hun t h)

/-- **the run** -/
theorem loose_run {Q : Exit → Act → World → Prop} {F : Act} (hm : LooseOk l n al) (hpw : al.Pairwise fun x y => x.i ≠ y.i)
    (hstab : ∀ e ∈ al, ∀ v w w', AnyLater w w' → e.is v w → e.is v w')
    (hown : ∀ e ∈ al, ∀ o, l[e.i]? = some o → LooseStep P l W F e o)
    (htail : ∀ (g : Nat → Value) (w : World), AnyLater W w → (∀ e ∈ al, e.is (g e.i) w) → wpList P l.toArray Q (l.drop n) (fillAll g al F) w) :
    ∀ (f : Nat) (listed : Array Bool) (aA : Act) (w : World) (g : Nat → Value), todo listed n = f → HeadInv .any l.toArray n listed → AnyLater W w → LStand listed g al w →
      (∀ W', AnyLater w W' → wpAnyQ P .any (absFrom n (idx al) 0 l).toArray (AnyLater W') (· = F) (f + (l.length - n)) listed aA) → wpAny P .any l.toArray Q (f + (l.length - n)) listed (fill listed g al aA) w := by
  intro f
  induction f with
  | zero =>
    intro listed aA w g hf inv hw hst hA
    have hall := todo_zero n hf
    have hl : listed = Array.replicate n true ++ Array.replicate (l.length - n) false := by
      apply Array.ext
      · have := inv.size; simp at this ⊢; have := hm.nle; omega
      · intro i h1 h2
        rcases Nat.lt_or_ge i n with h | h
        · have := hall i h
          simp [Array.getElem_append, h] at this ⊢
          simpa [h1] using this
        · have hs := inv.size
          have := inv.tail i h (by simp at hs ⊢; omega)
          simp [Array.getElem_append, show ¬ i < n by omega] at this ⊢
          simpa [h1] using this
    obtain ⟨d1, d2, d3⟩ := final_slots _ _ _ (hA w (AnyLater.refl w))
    have hF : aA = F := by
      have ht : aA.tmps = F.tmps := by
        apply Array.ext_getElem?
        intro s
        refine d3 s (fun j o hj hun => ?_)
        rw [List.getElem?_toArray, absFrom_get] at hj
        cases hlj : l[j]? with
        | none => rw [hlj] at hj; cases hj
        | some o' =>
          rw [hlj] at hj
          simp only [Option.map_some, Option.some.injEq] at hj
          subst hj
          rcases Nat.lt_or_ge j n with h | h
          · have h1 := hall j h
            rcases Nat.lt_or_ge j listed.size with h' | h'
            · simp [h'] at h1 hun; rw [h1] at hun; cases hun
            · simp [Array.getElem?_eq_none h'] at h1
          · rw [Nat.zero_add, absOp_tail n (idx al) j o' h]; simp
      cases aA; cases F; simp_all
    subst hF
    rw [fill_full _ _ _ _ (fun e he => hall e.i (hm.own e he).1)]
    have hw2 := htail g w hw (fun e he => hst e he (hall e.i (hm.own e he).1))
    have hseq := hm.seq
    rw [← hl] at hseq
    have hdl : (l.drop n).length = l.length - n := by simp
    rw [Nat.zero_add]
    have := wpAny_of_seq (P := P) (Q' := Q) (ops := l.toArray) (md := .any) (l.drop n) n listed (fillAll g al aA) w (fun j => by simp) (by rw [hdl]; exact hseq) hw2
    rwa [hdl] at this
  | succ f ih =>
    intro listed aA w g hf inv hw hst hA
    obtain ⟨k, hk, hkun, hkall⟩ := todo_some (listed := listed) n (by omega)
    have hsz : listed.size = l.length := by have := inv.size; simpa using this
    have hnl := hm.nle
    have hkun' : listed.getD k true = false := getD_in (by omega) hkun
    have hkr : k ∈ Region.ready .any l.toArray listed := by
      refine mem_ready.2 ⟨hkun', l[k]'(by omega), by simp, fun e he hb => ?_⟩
      have := hm.back k _ (List.getElem?_eq_getElem (by omega)) e he hb
      exact hkall _ this
    rw [show f + 1 + (l.length - n) = f + (l.length - n) + 1 by omega]
    refine ⟨fun h0 => (by rw [h0] at hkr; cases hkr), fun i hi => ?_⟩
    have hin := head_only_loose hm inv hk hkun' i hi
    obtain ⟨hun, o, ho, hdeps⟩ := mem_ready.1 hi
    have ho' : l[i]? = some o := by simpa using ho
    have hun' : listed.getD i false = false := getD_both hun
    have hoA : (absFrom n (idx al) 0 l).toArray[i]? = some (absOp n (idx al) i o) := by
      rw [List.getElem?_toArray, absFrom_get, ho', Nat.zero_add]; rfl
    have hinv' := inv.set hi hin
    have hf' : todo (listed.setIfInBounds i true) n = f := by
      have := todo_set (k := n) (by omega) hun'
      rw [if_pos hin] at this
      omega
    have hA' : ∀ W', AnyLater w W' → ∃ v, YieldsIn P (absFrom n (idx al) 0 l).toArray (AnyLater W') (absOp n (idx al) i o) v aA ∧
        wpAnyQ P .any (absFrom n (idx al) 0 l).toArray (AnyLater W') (· = F) (f + (l.length - n)) (listed.setIfInBounds i true) (aA.put o.dst v) := by
      intro W' hW'
      have h1 := hA W' hW'
      rw [show f + 1 + (l.length - n) = f + (l.length - n) + 1 by omega] at h1
      have h2 := h1.2 i (by rw [ready_abs]; exact hi)
      obtain ⟨v, hy, hK⟩ := yieldsIn_of_qOp hoA h2
      rw [absOp_dst n (idx al) i o hin] at hK
      exact ⟨v, hy, hK⟩
    -- one value, whatever the class
    have same : ∀ W1 W2 v1 v2, wpAnyQ P .any (absFrom n (idx al) 0 l).toArray (AnyLater W1) (· = F) (f + (l.length - n)) (listed.setIfInBounds i true) (aA.put o.dst v1) →
        wpAnyQ P .any (absFrom n (idx al) 0 l).toArray (AnyLater W2) (· = F) (f + (l.length - n)) (listed.setIfInBounds i true) (aA.put o.dst v2) → aA.put o.dst v1 = aA.put o.dst v2 := by
      intro W1 W2 v1 v2 h1 h2
      cases hd : o.dst with
      | none => rfl
      | some d =>
        rw [hd] at h1 h2
        have hno : ∀ (j : Nat) (o' : Oper), (absFrom n (idx al) 0 l).toArray[j]? = some o' → (listed.setIfInBounds i true).getD j true = false → o'.dst ≠ some d := by
          intro j o' hj hjun
          rw [List.getElem?_toArray, absFrom_get, Nat.zero_add] at hj
          cases hlj : l[j]? with
          | none => rw [hlj] at hj; cases hj
          | some oj =>
            rw [hlj] at hj
            simp only [Option.map_some, Option.some.injEq] at hj
            subst hj
            rcases Nat.lt_or_ge j n with h | h
            · rw [absOp_dst n (idx al) j oj h]
              have hij : i ≠ j := by
                rintro rfl
                have : (listed.setIfInBounds i true).getD i true = true := by
                  simp [show i < listed.size by omega]
                rw [this] at hjun; cases hjun
              exact hm.dsts i j hin h hij o oj ho' hlj d hd
            · rw [absOp_tail n (idx al) j oj h]; simp
        have e1 := (final_slots _ _ _ h1).2.2 d hno
        have e2 := (final_slots _ _ _ h2).2.2 d hno
        have e3 := e1.trans e2.symm
        simp only [Act.put, Array.getElem?_setIfInBounds_self] at e3 ⊢
        congr 1
        apply Array.ext_getElem?
        intro s
        by_cases hs : d = s
        · subst hs; rw [Array.getElem?_setIfInBounds_self, Array.getElem?_setIfInBounds_self]; exact e3
        · simp [Array.getElem?_setIfInBounds, hs]
    by_cases ha : (idx al).contains i = true
    · -- it makes something anew
      have hmem : i ∈ idx al := by simpa using ha
      obtain ⟨e, he, hei⟩ := List.mem_map.1 hmem
      subst hei
      obtain ⟨hd, hops⟩ := hm.made e he o ho'
      have hun2 : ∀ v, (YieldsIn P (absFrom n (idx al) 0 l).toArray (AnyLater w) (absOp n (idx al) e.i o) v aA) → v = undef := by
        intro v hy
        rcases hy with ⟨_, hv⟩ | ⟨_, hv⟩
        · have := hv w (AnyLater.refl w)
          rw [absOp_own n (idx al) e.i o hin ha] at this
          unfold Oper.quietAt at this
          simp only [execOp, Sem.run_pure, Oper.quietUpon] at this
          exact this.2.symm
        · exact hv
      have hsel := Region.noSelect_spec hm.sel
      have hex := fill_exec (l := l) listed g o (fun cs b => hsel e.i o cs b ho) al aA (fun e' he' => (hm.blind e.i o hin ho' e' he').1)
      -- what it reads stands as it will stand at the end
      obtain ⟨_, _, hfin⟩ := final_slots _ _ _ (hA w (AnyLater.refl w))
      have hslot : ∀ t, t ∈ o.looksAt l.toArray → aA.tmps[t]? = F.tmps[t]? := by
        intro t hlook
        refine hfin t (fun j oj hj hjun hjd => ?_)
        rw [List.getElem?_toArray, absFrom_get, Nat.zero_add] at hj
        cases hlj : l[j]? with
        | none => rw [hlj] at hj; cases hj
        | some oj' =>
          rw [hlj] at hj
          simp only [Option.map_some, Option.some.injEq] at hj
          subst hj
          rcases Nat.lt_or_ge j n with h | h
          · rw [absOp_dst n (idx al) j oj' h] at hjd
            obtain ⟨ed, hed, hb, hon⟩ := hops j oj' h hlj t hjd hlook
            have h1 := hdeps ed hed hb
            rw [hon, getD_both hjun] at h1
            cases h1
          · rw [absOp_tail n (idx al) j oj' h] at hjd; cases hjd
      have hexF : execOp aA.eval o = execOp F.eval o := by
        refine execOp_congr o (fun cs b => hsel e.i o cs b ho) fun x hx => ?_
        cases x with
        | tmp t =>
          have hlook : t ∈ o.looksAt l.toArray := List.mem_append_left _ (List.mem_filterMap.2 ⟨.tmp t, by simpa using hx, rfl⟩)
          simp only [Act.eval, Array.getD_eq_getD_getElem?, hslot t hlook]
        | _ => rfl
      have hwa := fill_wanted (l := l) listed g o al aA (fun e' he' => (hm.blind e.i o hin ho' e' he').1)
      have hwF2 : Region.wanted o (yielded l.toArray aA.tmps) = Region.wanted o (yielded l.toArray F.tmps) := by
        unfold Region.wanted
        cases hgd : o.guard with
        | none => rfl
        | some gb =>
          obtain ⟨gi, b⟩ := gb
          have : yielded l.toArray aA.tmps gi = yielded l.toArray F.tmps gi := by
            unfold yielded
            cases hgi : l.toArray[gi]? with
            | none => rfl
            | some og =>
              cases hdg : og.dst with
              | none => simp [hdg]
              | some t =>
                have hlook : t ∈ o.looksAt l.toArray := by
                  unfold Oper.looksAt
                  refine List.mem_append_right _ ?_
                  rw [hgd]
                  simp [hgi, hdg]
                simp [hdg, hslot t hlook]
          simp only [this]
      obtain ⟨v0, hy0, hK0⟩ := hA' w (AnyLater.refl w)
      have hv0 := hun2 v0 hy0
      subst hv0
      obtain ⟨hwF, hstep0⟩ := hown e he o ho'
      have hstep := hstep0 w hw
      -- what follows, whatever has been made
      have next : ∀ v w', AnyLater w w' → e.is v w' →
          wpAny P .any l.toArray Q (f + (l.length - n)) (listed.setIfInBounds e.i true) ((fill listed g al aA).put o.dst v) w' := by
        intro v w' hlw hv
        rw [hd]
        rw [← fill_new listed g e v undef hun' (by omega) al aA (fun x hx y hy => (hm.own x hx).2 y hy) he (fun x hx => (hm.own x hx).2 e he) hpw]
        refine ih _ _ _ _ hf' hinv' (hw.trans hlw) ?_ ?_
        · intro x hx hxl
          by_cases hxe : x.i = e.i
          · have hxx : x = e := pw_eq hpw hx he hxe
            subst hxx
            simp only [if_true]
            exact hv
          · simp only [if_neg hxe]
            rw [getD_set_ne false (fun h => hxe h.symm)] at hxl
            exact (hst.later hstab hlw) x hx hxl
        · intro W' hW'
          obtain ⟨v1, _, hK⟩ := hA' W' (hlw.trans hW')
          have := same _ _ _ _ hK0 hK
          rw [hd] at this hK
          rw [this]; exact hK
      unfold wpOp
      simp only [ho]
      have hwn : Region.wanted o (yielded l.toArray (fill listed g al aA).tmps) = true := by rw [hwa, hwF2]; exact hwF
      rw [if_pos hwn]
      refine .inl ?_
      unfold Oper.wp
      rw [hex, hexF]
      generalize (execOp F.eval o).run P w = r at hstep
      cases r with
      | halt x w' => exact hstep.elim
      | ok nx w' =>
        cases nx <;> simp only at hstep <;> simp only [Oper.upon]
        case value v => exact next v w' hstep.1 hstep.2
        case enter fn args =>
          obtain ⟨rfl, hc⟩ := hstep
          exact hc.mono fun en w'' ⟨v, hv, h1, h2⟩ => by subst hv; exact next v w'' h1 h2
    · -- it reads, or calls
      have ha' : (idx al).contains i = false := by simpa using ha
      have hpl : ∀ e ∈ al, e.i ≠ i ∧ e.s ∉ o.looksAt l.toArray ∧ o.dst ≠ some e.s := by
        intro e he
        have hne : e.i ≠ i := fun h => ha (by simp only [List.contains_eq_mem, decide_eq_true_eq]; exact List.mem_map.2 ⟨e, he, h⟩)
        have := hm.blind i o hin ho' e he
        exact ⟨hne, this.1, this.2.resolve_left hne⟩
      obtain ⟨v, hy, hK⟩ := hA' w (AnyLater.refl w)
      rw [absOp_plain n (idx al) i o hin ha'] at hy
      have hsel := Region.noSelect_spec hm.sel
      have hex := fill_exec (l := l) listed g o (fun cs b => hsel i o cs b ho) al aA (fun e he => (hpl e he).2.1)
      have hwa := fill_wanted (l := l) listed g o al aA (fun e he => (hpl e he).2.1)
      have hyl : yielded (absFrom n (idx al) 0 l).toArray aA.tmps = yielded l.toArray aA.tmps ∨ True := .inr trivial
      have hwA : Region.wanted o (yielded (absFrom n (idx al) 0 l).toArray aA.tmps) = Region.wanted o (yielded l.toArray aA.tmps) := by
        unfold Region.wanted
        cases hgd : o.guard with
        | none => rfl
        | some gb =>
          obtain ⟨gi, b⟩ := gb
          have hgn := hm.guard i o hin ho' gi b hgd
          have : yielded (absFrom n (idx al) 0 l).toArray aA.tmps gi = yielded l.toArray aA.tmps gi := by
            unfold yielded
            rw [List.getElem?_toArray, List.getElem?_toArray, absFrom_get, Nat.zero_add]
            cases l[gi]? with
            | none => rfl
            | some og => simp only [Option.map_some, Option.bind_some, absOp_dst n (idx al) gi og hgn]
          simp only [this]
      have hy' : YieldsIn P l.toArray (AnyLater w) o v (fill listed g al aA) := by
        unfold YieldsIn Oper.quietAt at hy ⊢
        rw [hex, hwa, ← hwA]
        exact hy
      refine wpOp_of_qOp (C := AnyLater w) (AnyLater.refl w) (K := fun a' => a' = (fill listed g al aA).put o.dst v) ?_ (hy'.qOp ho rfl)
      rintro a' w' hlw rfl
      rw [← fill_put listed g o.dst v al aA (fun e he => (hpl e he).2.2)]
      rw [fill_congr listed (listed.setIfInBounds i true) g g al _ (fun e he => ⟨(getD_set_ne false (fun h => (hpl e he).1 h.symm)).symm, rfl⟩)]
      refine ih _ _ _ _ hf' hinv' (hw.trans hlw) ?_ ?_
      · have := hst.later hstab hlw
        refine fun e he hl => this e he ?_
        rwa [getD_set_ne false (fun h => (hpl e he).1 h.symm)] at hl
      · intro W' hW'
        obtain ⟨v2, _, hK2⟩ := hA' W' (hlw.trans hW')
        have := same _ _ _ _ hK hK2
        rw [this]; exact hK2

/-- **A REGION THAT DRAWS ITS ORDER**: the walk is of the abstract operations, in the order of the text, for every world later than the one at hand; then the tail. -/
theorem wp_region_loose {id : Nat} {Q : Exit → Act → World → Prop} {a F : Act} {w : World} (n : Nat) (al : List Own) (hm : P.follows .mixedOrders = true) (hB : looseB l n (al.map fun e => (e.i, e.s)) = true) (hpw : al.Pairwise fun x y => x.i ≠ y.i)
    (hstab : ∀ e ∈ al, ∀ v w w', AnyLater w w' → e.is v w → e.is v w')
    (hlex : ∀ U : Later w, wpQuiet P (absFrom n (idx al) 0 l).toArray (fun w' => ∃ u : Later (later U), w' = later u) (· = F) (absFrom n (idx al) 0 l) a)
    (hown : ∀ e ∈ al, ∀ o, l[e.i]? = some o → LooseStep P l w F e o)
    (htail : ∀ (g : Nat → Value) (u : Later w), (∀ e ∈ al, e.is (g e.i) (later u)) → wpList P l.toArray Q (l.drop n) (fillAll g al F) (later u)) :
    (Code.region id l.toArray true).wp P Q a w := by
  have hk := looseOk hB
  have hlexB := hk.lex
  simp only [Region.lexB, Bool.and_eq_true] at hlexB
  have inv0 : HeadInv .any l.toArray n (Array.replicate l.toArray.size false) := ⟨by simp, fun j oj _ h => (by rw [getD_replicate_false] at h; cases h), fun t _ ht => (by
    have ht' : t < l.length := by simpa using ht
    simp [ht'])⟩
  have htodo : ∀ k, k ≤ l.length → todo (Array.replicate l.toArray.size false) k = k := by
    intro k
    induction k with
    | zero => intro _; rfl
    | succ k ih => intro hk; simp only [todo, getD_replicate_false, ih (by omega)]; simp
  have hdl : n + (l.length - n) = l.length := by have := hk.nle; omega
  refine wp_region_any hm ?_
  have hr : ({ w with drawn := w.drawn + 1 } : World) = w.drew := rfl
  rw [hr]
  have hfill : fill (Array.replicate l.toArray.size false) (fun _ => undef) al a = a := by
    have : ∀ es : List Own, fill (Array.replicate l.toArray.size false) (fun _ => undef) es a = a := by
      intro es
      induction es with
      | nil => rfl
      | cons e es ih => simp only [fill, getD_replicate_false, ih]; simp
    exact this al
  have := loose_run (P := P) (W := w) (Q := Q) (F := F) hk hpw hstab hown (fun g w' hw' h1 => by
      obtain ⟨u, rfl⟩ := hw'
      exact htail g u h1) n (Array.replicate l.toArray.size false) a w.drew (fun _ => undef) (htodo n hk.nle) inv0 (AnyLater.refl w).drew
    (fun e _ h => (by rw [getD_replicate_false] at h; cases h)) (fun W' hW' => by
      obtain ⟨U, hU⟩ := (AnyLater.refl w).drew.trans hW'
      subst hU
      have hl := wpAnyQ_lex (P := P) (C := fun w' => ∃ u : Later (later U), w' = later u) (Q := (· = F)) (md := .any) hlexB.1 (absFrom n (idx al) 0 l) 0 (Array.replicate (absFrom n (idx al) 0 l).toArray.size false) a (by simp) (by simpa using hlexB.2) (hlex U)
      rw [hdl]
      have hC : (fun w' => ∃ u : Later (later U), w' = later u) = AnyLater (later U) := rfl
      rw [hC] at hl
      simpa [absFrom_length] using hl)
  rw [hdl, hfill] at this
  simpa using this

end
end Go.Proofs.Ytmhgpgaikcimnaa
