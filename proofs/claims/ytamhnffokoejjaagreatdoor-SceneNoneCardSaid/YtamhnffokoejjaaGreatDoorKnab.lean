/- what the proof stands on: Region -/
import Derived.StillTail
import Derived.Test.YtamhnffokoejjaaGreatDoorKnaa
namespace Go.Proofs.YtamhnffokoejjaaGreatDoor
set_option linter.unusedSimpArgs false
set_option linter.unusedVariables false
set_option linter.unusedSectionVars false
open Go.RowKit
structure Own where
  i : Nat
  s : Tmp
  is : Value → World → Prop
def vblk : Value → Option Nat
  | .pointer (some a) => some a.block
  | .slice (some a) _ _ => some a.block
  | _ => none
def absOp (n : Nat) (is : List Nat) (i : Nat) (o : Oper) : Oper :=
  if n ≤ i then { o with dst := none, op := .move (.const undef) } else if is.contains i = true then { o with op := .move (.const undef) } else o
def absFrom (n : Nat) (is : List Nat) : Nat → List Oper → List Oper
  | _, [] => []
  | i, o :: l => absOp n is i o :: absFrom n is (i + 1) l
theorem absFrom_get (n : Nat) (is : List Nat) : ∀ (l : List Oper) (k j : Nat), (absFrom n is k l)[j]? = (l[j]?).map (absOp n is (k + j))
  | [], _, _ => by simp [absFrom]
  | o :: l, k, 0 => by simp [absFrom]
  | o :: l, k, j + 1 => by
    simp only [absFrom, List.getElem?_cons_succ]
    rw [absFrom_get n is l (k + 1) j, show k + 1 + j = k + (j + 1) by omega]
theorem absFrom_length (n : Nat) (is : List Nat) : ∀ (l : List Oper) (k : Nat), (absFrom n is k l).length = l.length
  | [], _ => rfl
  | o :: l, k => by simp [absFrom, absFrom_length n is l (k + 1)]
theorem absOp_after (n : Nat) (is : List Nat) (i : Nat) (o : Oper) : (absOp n is i o).after = o.after := by
  unfold absOp
  split
  · rfl
  · split <;> rfl
theorem absOp_dst (n : Nat) (is : List Nat) (i : Nat) (o : Oper) (h : i < n) : (absOp n is i o).dst = o.dst := by
  unfold absOp
  rw [if_neg (by omega)]
  split <;> rfl
theorem absOp_tail (n : Nat) (is : List Nat) (i : Nat) (o : Oper) (h : n ≤ i) : (absOp n is i o).dst = none := by
  unfold absOp
  rw [if_pos h]
theorem absOp_plain (n : Nat) (is : List Nat) (i : Nat) (o : Oper) (h : i < n) (ha : is.contains i = false) : absOp n is i o = o := by
  unfold absOp
  rw [if_neg (by omega), if_neg (by rw [ha]; simp)]
theorem absOp_own (n : Nat) (is : List Nat) (i : Nat) (o : Oper) (h : i < n) (ha : is.contains i = true) : absOp n is i o = { o with op := .move (.const undef) } := by
  unfold absOp
  rw [if_neg (by omega), if_pos ha]
def idx (al : List Own) : List Nat := al.map (·.i)
def memB (l : List Oper) (n : Nat) (al : List (Nat × Tmp)) : Bool :=
  Region.noSelect l.toArray && decide (n ≤ l.length) &&
  ((List.range l.length).all fun i => match l[i]? with | some o => o.after.all fun e => !Region.binds .any e || decide (e.on < i) | none => true) &&
  ((List.range n).all fun i => match l[i]? with
    | some o => (match o.guard with | some (g, _) => decide (g < n) | none => true) &&
        (al.all fun e => !(o.looksAt l.toArray).contains e.2 && (e.1 == i || o.dst != some e.2))
    | none => true) &&
  (al.all fun e => decide (e.1 < n) && (al.all fun e' => (e.1 == e'.1) == (e.2 == e'.2)) &&
    match l[e.1]? with
    | some o => o.guard.isNone && o.dst == some e.2 && (List.range n).all fun j => match (l[j]?).bind (·.dst) with
        | some t => !(o.looksAt l.toArray).contains t || o.after.any fun ed => Region.binds .any ed && ed.on == j
        | none => true
    | none => false) &&
  ((List.range n).all fun i => (List.range n).all fun j => i == j || match (l[i]?).bind (·.dst), (l[j]?).bind (·.dst) with | some d, some d' => d != d' | _, _ => true) &&
  Region.lexB .any (absFrom n (al.map (·.1)) 0 l).toArray &&
  (n == l.length || (Region.sinkB .any l.toArray n && Region.chainB .any l.toArray n)) &&
  Region.seqB .any l.toArray (l.length - n) n (Array.replicate n true ++ Array.replicate (l.length - n) false)
section
variable {P : Program} {l : List Oper} {n : Nat} {al : List Own} {W : World} {is : List Nat}
theorem ready_abs (listed : Array Bool) : Region.ready .any (absFrom n is 0 l).toArray listed = Region.ready .any l.toArray listed := by
  unfold Region.ready
  rw [List.size_toArray, List.size_toArray, absFrom_length]
  congr 1
  funext i
  rw [List.getElem?_toArray, List.getElem?_toArray, absFrom_get]
  cases l[i]? with
  | none => rfl
  | some o => simp only [Option.map_some, absOp_after]
def fill (listed : Array Bool) (g : Nat → Value) : List Own → Act → Act
  | [], a => a
  | e :: es, a => if listed.getD e.i false = true then (fill listed g es a).put (some e.s) (g e.i) else fill listed g es a
def fillAll (g : Nat → Value) : List Own → Act → Act
  | [], a => a
  | e :: es, a => (fillAll g es a).put (some e.s) (g e.i)
theorem fill_put (listed : Array Bool) (g : Nat → Value) (d : Option Tmp) (v : Value) : ∀ (es : List Own) (a : Act), (∀ e ∈ es, d ≠ some e.s) → fill listed g es (a.put d v) = (fill listed g es a).put d v
  | [], _, _ => rfl
  | e :: es, a, h => by
    simp only [fill]
    rw [fill_put listed g d v es a (fun e' he => h e' (by simp [he]))]
    split
    · exact Act.put_comm _ _ _ (fun d' hd he => h e (by simp) (hd.trans he.symm))
    · rfl
theorem fill_congr (listed listed' : Array Bool) (g g' : Nat → Value) : ∀ (es : List Own) (a : Act), (∀ e ∈ es, listed.getD e.i false = listed'.getD e.i false ∧ g e.i = g' e.i) → fill listed g es a = fill listed' g' es a
  | [], _, _ => rfl
  | e :: es, a, h => by
    simp only [fill]
    rw [fill_congr listed listed' g g' es a (fun e' he => h e' (by simp [he])), (h e (by simp)).1, (h e (by simp)).2]
theorem fill_full (listed : Array Bool) (g : Nat → Value) : ∀ (es : List Own) (a : Act), (∀ e ∈ es, listed.getD e.i false = true) → fill listed g es a = fillAll g es a
  | [], _, _ => rfl
  | e :: es, a, h => by
    simp only [fill, fillAll]
    rw [if_pos (h e (by simp)), fill_full listed g es a (fun e' he => h e' (by simp [he]))]
theorem fill_exec (listed : Array Bool) (g : Nat → Value) (o : Oper) (hs : ∀ cs b, o.op ≠ .select cs b) : ∀ (es : List Own) (a : Act), (∀ e ∈ es, e.s ∉ o.looksAt l.toArray) → execOp (fill listed g es a).eval o = execOp a.eval o
  | [], _, _ => rfl
  | e :: es, a, h => by
    simp only [fill]
    split
    · rw [execOp_put (ops := l.toArray) o hs _ _ _ (fun d hd => by cases hd; exact h e (by simp)), fill_exec listed g o hs es a (fun e' he => h e' (by simp [he]))]
    · exact fill_exec listed g o hs es a (fun e' he => h e' (by simp [he]))
theorem fill_wanted (listed : Array Bool) (g : Nat → Value) (o : Oper) : ∀ (es : List Own) (a : Act), (∀ e ∈ es, e.s ∉ o.looksAt l.toArray) →
    Region.wanted o (yielded l.toArray (fill listed g es a).tmps) = Region.wanted o (yielded l.toArray a.tmps)
  | [], _, _ => rfl
  | e :: es, a, h => by
    simp only [fill]
    split
    · rw [wanted_put (ops := l.toArray) o _ _ _ (fun d hd => by cases hd; exact h e (by simp)), fill_wanted listed g o es a (fun e' he => h e' (by simp [he]))]
    · exact fill_wanted listed g o es a (fun e' he => h e' (by simp [he]))
theorem put_put (a : Act) (s : Tmp) (u v : Value) : (a.put (some s) u).put (some s) v = a.put (some s) v := by
  simp [Act.put]
theorem fill_new (listed : Array Bool) (g : Nat → Value) (e : Own) (b : Value) (u : Value) (hlis : listed.getD e.i false = false) (hsz : e.i < listed.size) :
    ∀ (es : List Own) (a : Act), (∀ x ∈ es, ∀ y ∈ es, (x.i = y.i ↔ x.s = y.s)) → e ∈ es →  (∀ x ∈ es, (x.i = e.i ↔ x.s = e.s)) → es.Pairwise (fun x y => x.i ≠ y.i) →
      fill (listed.setIfInBounds e.i true) (fun j => if j = e.i then b else g j) es (a.put (some e.s) u) = (fill listed g es a).put (some e.s) b
  | [], _, _, h, _, _ => by cases h
  | x :: es, a, hd, hm, hx, hp => by
    obtain ⟨hp1, hp2⟩ := List.pairwise_cons.1 hp
    by_cases hxe : x.i = e.i
    · have hxs := (hx x (by simp)).1 hxe
      have hno : ∀ y ∈ es, y.i ≠ e.i := fun y hy => hxe ▸ (hp1 y hy).symm
      have h1 : fill (listed.setIfInBounds e.i true) (fun j => if j = e.i then b else g j) es (a.put (some e.s) u) = fill listed g es (a.put (some e.s) u) :=
        fill_congr _ _ _ _ es _ (fun y hy => ⟨getD_set_ne false (fun h => hno y hy h.symm), by simp [hno y hy]⟩)
      have h2 : fill listed g es (a.put (some e.s) u) = (fill listed g es a).put (some e.s) u :=
        fill_put _ _ _ _ es a (fun y hy h => hno y hy ((hx y (by simp [hy])).2 (by injection h with h; exact h.symm)))
      simp only [fill]
      have e1 : (listed.setIfInBounds e.i true).getD e.i false = true := by simp [hsz]
      have e2 : ¬ listed.getD e.i false = true := by rw [hlis]; simp
      rw [h1, h2, hxe, hxs, if_pos e1, put_put, if_pos rfl, if_neg e2]
    · have hem : e ∈ es := by
        rcases List.mem_cons.1 hm with rfl | h
        · exact absurd rfl hxe
        · exact h
      have ih := fill_new listed g e b u hlis hsz es a (fun y hy z hz => hd y (by simp [hy]) z (by simp [hz])) hem (fun y hy => hx y (by simp [hy])) hp2
      have hse : x.s ≠ e.s := fun h => hxe ((hx x (by simp)).2 h)
      simp only [fill]
      rw [ih, getD_set_ne false (fun h => hxe h.symm), if_neg hxe]
      split
      · exact Act.put_comm _ _ _ (fun d h1 h2 => hse (by cases h1; injection h2))
      · rfl
theorem final_slots {ops : Array Oper} {C : World → Prop} {F : Act} : ∀ (fuel : Nat) (listed : Array Bool) (a : Act), wpAnyQ P .any ops C (· = F) fuel listed a →
    a.defers = F.defers ∧ a.tmps.size = F.tmps.size ∧ ∀ s, (∀ (j : Nat) (o : Oper), ops[j]? = some o → listed.getD j true = false → o.dst ≠ some s) → a.tmps[s]? = F.tmps[s]?
  | 0, _, a, h => by
    obtain ⟨_, rfl⟩ := h
    exact ⟨rfl, rfl, fun _ _ => rfl⟩
  | fuel + 1, listed, a, h => by
    by_cases hr : Region.ready .any ops listed = []
    · have : a = F := h.1 hr
      subst this
      exact ⟨rfl, rfl, fun _ _ => rfl⟩
    · obtain ⟨i, hi⟩ := List.exists_mem_of_ne_nil _ hr
      obtain ⟨hun, o, ho, _⟩ := mem_ready.1 hi
      obtain ⟨v, _, hK⟩ := yieldsIn_of_qOp ho (h.2 i hi)
      obtain ⟨h1, h2, h3⟩ := final_slots fuel _ _ hK
      have hsz : (a.put o.dst v).tmps.size = a.tmps.size := by unfold Act.put; cases o.dst <;> simp
      have hdf : (a.put o.dst v).defers = a.defers := by unfold Act.put; cases o.dst <;> rfl
      refine ⟨hdf ▸ h1, hsz ▸ h2, fun s hs => ?_⟩
      rw [← h3 s (fun j o' hj hl => hs j o' hj (by
        by_cases hij : i = j
        · subst hij; exact hun
        · rwa [getD_set_ne true hij] at hl))]
      have hne := hs i o ho hun
      unfold Act.put
      cases hd : o.dst with
      | none => rfl
      | some d =>
        have : d ≠ s := fun h => hne (by rw [hd, h])
        simp [Array.getElem?_setIfInBounds, this]
def Stand (listed : Array Bool) (g : Nat → Value) (al : List Own) (W w : World) : Prop :=
  (∀ e ∈ al, listed.getD e.i false = true → e.is (g e.i) w ∧ ∀ b, vblk (g e.i) = some b → W.heap.size ≤ b ∧ b < w.heap.size) ∧
  ∀ e ∈ al, ∀ e' ∈ al, listed.getD e.i false = true → listed.getD e'.i false = true → e.i ≠ e'.i → ∀ b, vblk (g e.i) = some b → vblk (g e'.i) ≠ some b
theorem Stand.later {listed : Array Bool} {g : Nat → Value} {w w' : World} (hs : ∀ e ∈ al, ∀ v w w', AnyLater w w' → e.is v w → e.is v w') (h : Stand listed g al W w) (hl : AnyLater w w') : Stand listed g al W w' :=
  ⟨fun e he hh => ⟨hs e he _ _ _ hl (h.1 e he hh).1, fun b hb => ⟨((h.1 e he hh).2 b hb).1, Nat.lt_of_lt_of_le ((h.1 e he hh).2 b hb).2 hl.below.size⟩⟩, h.2⟩
def Gives (is : Value → World → Prop) (w : World) (en : Ending) (w' : World) : Prop := ∃ v, en = .returned v ∧ AnyLater w w' ∧ is v w' ∧ ∀ b, vblk v = some b → w.heap.size ≤ b ∧ b < w'.heap.size
def OwnStep (P : Program) (W : World) (F : Act) (e : Own) (o : Oper) : Prop := ∀ w, AnyLater W w →
  match (execOp F.eval o).run P w with
  | .ok (.value v) w' => AnyLater w w' ∧ e.is v w' ∧ ∀ b, vblk v = some b → w.heap.size ≤ b ∧ b < w'.heap.size
  | .ok (.enter f args) w' => w' = w ∧ Calls P f args w (Gives e.is w)
  | _ => False
theorem pw_eq : ∀ {es : List Own}, es.Pairwise (fun x y => x.i ≠ y.i) → ∀ {x y : Own}, x ∈ es → y ∈ es → x.i = y.i → x = y
  | [], _, _, _, h, _, _ => by cases h
  | z :: es, hp, x, y, hx, hy, he => by
    obtain ⟨h1, h2⟩ := List.pairwise_cons.1 hp
    rcases List.mem_cons.1 hx with hx | hx
    · rcases List.mem_cons.1 hy with hy | hy
      · rw [hx, hy]
      · exact absurd (hx ▸ he) (h1 y hy)
    · rcases List.mem_cons.1 hy with hy | hy
      · exact absurd (hy ▸ he.symm) (h1 x hx)
      · exact pw_eq h2 hx hy he
structure MemOk (l : List Oper) (n : Nat) (al : List Own) : Prop where
  sel : Region.noSelect l.toArray = true
  nle : n ≤ l.length
  back : ∀ (i : Nat) (o : Oper), l[i]? = some o → ∀ e ∈ o.after, Region.binds .any e = true → e.on < i
  guard : ∀ (i : Nat) (o : Oper), i < n → l[i]? = some o → ∀ g b, o.guard = some (g, b) → g < n
  made : ∀ e ∈ al, ∀ o, l[e.i]? = some o → o.guard = none ∧ o.dst = some e.s ∧ ∀ (j : Nat) (o' : Oper), j < n → l[j]? = some o' → ∀ t, o'.dst = some t → t ∈ o.looksAt l.toArray → ∃ ed ∈ o.after, Region.binds .any ed = true ∧ ed.on = j
  blind : ∀ (i : Nat) (o : Oper), i < n → l[i]? = some o → ∀ e ∈ al, e.s ∉ o.looksAt l.toArray ∧ (e.i = i ∨ o.dst ≠ some e.s)
  own : ∀ e ∈ al, e.i < n ∧ ∀ e' ∈ al, (e.i = e'.i ↔ e.s = e'.s)
  dsts : ∀ i j : Nat, i < n → j < n → i ≠ j → ∀ o o' : Oper, l[i]? = some o → l[j]? = some o' → ∀ d, o.dst = some d → o'.dst ≠ some d
  lex : Region.lexB .any (absFrom n (idx al) 0 l).toArray = true
  tail : n = l.length ∨ (Region.sinkB .any l.toArray n = true ∧ Region.chainB .any l.toArray n = true)
  seq : Region.seqB .any l.toArray (l.length - n) n (Array.replicate n true ++ Array.replicate (l.length - n) false) = true
theorem memOk (h : memB l n (al.map fun e => (e.i, e.s)) = true) : MemOk l n al := by
  unfold memB at h
  simp only [Bool.and_eq_true] at h
  obtain ⟨⟨⟨⟨⟨⟨⟨⟨h1, h2⟩, h3⟩, h4⟩, h5⟩, h6⟩, h7⟩, h8⟩, h9⟩ := h
  have h4' : ∀ (i : Nat) (o : Oper), i < n → l[i]? = some o → (match o.guard with | some (g, _) => decide (g < n) | none => true) = true ∧
        ((al.map fun e => (e.i, e.s)).all fun e => !(o.looksAt l.toArray).contains e.2 && (e.1 == i || o.dst != some e.2)) = true := by
    intro i o hi ho
    have := List.all_eq_true.1 h4 i (List.mem_range.2 hi)
    rw [ho] at this
    simpa only [Bool.and_eq_true] using this
  have h5' : ∀ e ∈ al, (decide (e.i < n) = true ∧ ((al.map fun e => (e.i, e.s)).all fun e' => (e.i == e'.1) == (e.s == e'.2)) = true) ∧ (match l[e.i]? with
    | some o => o.guard.isNone && o.dst == some e.s && (List.range n).all fun j => match (l[j]?).bind (·.dst) with
        | some t => !(o.looksAt l.toArray).contains t || o.after.any fun ed => Region.binds .any ed && ed.on == j
        | none => true
    | none => false) = true := by
    intro e he
    have := List.all_eq_true.1 h5 (e.i, e.s) (List.mem_map.2 ⟨e, he, rfl⟩)
    simpa only [Bool.and_eq_true] using this
  refine ⟨h1, by simpa using h2, ?_, ?_, ?_, ?_, ?_, ?_, ?_, ?_, h9⟩
  · intro i o ho e he hb
    have hi : i < l.length := (List.getElem?_eq_some_iff.1 ho).1
    have := List.all_eq_true.1 h3 i (List.mem_range.2 hi)
    rw [ho] at this
    have := Array.all_eq_true'.1 this e he
    simpa [hb] using this
  · intro i o hi ho g b hg
    have := (h4' i o hi ho).1
    rw [hg] at this
    simpa using this
  · intro e he o ho
    have := (h5' e he).2
    rw [ho] at this
    simp only [Bool.and_eq_true] at this
    obtain ⟨⟨g1, g2⟩, g3⟩ := this
    refine ⟨by simpa using g1, by simpa using g2, fun j o' hj ho' t ht hlt => ?_⟩
    have := List.all_eq_true.1 g3 j (List.mem_range.2 hj)
    rw [ho', Option.bind_some, ht] at this
    simp only [Bool.or_eq_true, Bool.not_eq_true', List.contains_eq_mem, decide_eq_false_iff_not, Array.any_eq_true', Bool.and_eq_true, beq_iff_eq] at this
    rcases this with h | ⟨ed, h, hb⟩
    · exact absurd hlt h
    · exact ⟨ed, h, hb⟩
  · intro i o hi ho e he
    have := List.all_eq_true.1 (h4' i o hi ho).2 (e.i, e.s) (List.mem_map.2 ⟨e, he, rfl⟩)
    simp only [Bool.and_eq_true, Bool.or_eq_true, beq_iff_eq, bne_iff_ne, Bool.not_eq_true', List.contains_eq_mem, decide_eq_false_iff_not] at this
    exact this
  · intro e he
    refine ⟨by simpa using (h5' e he).1.1, fun e' he' => ?_⟩
    have := List.all_eq_true.1 (h5' e he).1.2 (e'.i, e'.s) (List.mem_map.2 ⟨e', he', rfl⟩)
    rw [beq_iff_eq, Bool.eq_iff_iff] at this
    simpa using this
  · intro i j hi hj hij o o' ho ho' d hd hd'
    have := List.all_eq_true.1 (List.all_eq_true.1 h6 i (List.mem_range.2 hi)) j (List.mem_range.2 hj)
    rw [ho, ho'] at this
    simp [hij, hd, hd'] at this
  · have : (al.map fun e => (e.i, e.s)).map (·.1) = idx al := by simp [idx]
    rw [this] at h7; exact h7
  · rcases Bool.or_eq_true_iff.1 h8 with h | h
    · exact .inl (by simpa using h)
    · exact .inr (by simpa only [Bool.and_eq_true] using h)
theorem head_only (hm : MemOk l n al) {listed : Array Bool} (inv : HeadInv .any l.toArray n listed) {i : Nat} (hi : i < n) (hun : listed.getD i true = false) : ∀ t ∈ Region.ready .any l.toArray listed, t < n := by
  intro t ht
  rcases Nat.lt_or_ge t n with h | h
  · exact h
  · obtain ⟨_, o, ho, _⟩ := mem_ready.1 ht
    have htl : t < l.length := by have := (Array.getElem?_eq_some_iff.1 ho).1; simpa using this
    rcases hm.tail with he | ⟨hs, hc⟩
    · omega
    · exact absurd ht (tail_waits hs hc (by simp; omega) inv _ i rfl hi hun t h)
def todo (listed : Array Bool) : Nat → Nat
  | 0 => 0
  | k + 1 => todo listed k + if listed.getD k false = true then 0 else 1
theorem todo_set {listed : Array Bool} {i : Nat} (hsz : i < listed.size) (h : listed.getD i false = false) : ∀ k, todo (listed.setIfInBounds i true) k + (if i < k then 1 else 0) = todo listed k
  | 0 => by simp [todo]
  | k + 1 => by
    have ih := todo_set hsz h k
    simp only [todo]
    by_cases hik : i = k
    · subst hik
      have e1 : (listed.setIfInBounds i true).getD i false = true := by simp [hsz]
      have e2 : ¬ listed.getD i false = true := by rw [h]; simp
      have e3 : (if i < i + 1 then 1 else 0 : Nat) = 1 := if_pos (by omega)
      have e4 : (if i < i then 1 else 0 : Nat) = 0 := if_neg (by omega)
      rw [if_pos e1, if_neg e2, e3]
      rw [e4] at ih
      omega
    · rw [getD_set_ne false hik]
      have e3 : (if i < k + 1 then 1 else 0 : Nat) = (if i < k then 1 else 0) := by split <;> split <;> omega
      rw [e3]
      omega
theorem todo_zero {listed : Array Bool} : ∀ k, todo listed k = 0 → ∀ i, i < k → listed.getD i false = true
  | 0, _, _, h => by omega
  | k + 1, h, i, hi => by
    simp only [todo] at h
    by_cases hk : listed.getD k false = true
    · by_cases hik : i = k
      · subst hik; exact hk
      · exact todo_zero k (by omega) i (by omega)
    · rw [if_neg hk] at h; omega
theorem todo_some {listed : Array Bool} : ∀ k, todo listed k ≠ 0 → ∃ i, i < k ∧ listed.getD i false = false ∧ ∀ j, j < i → listed.getD j false = true
  | 0, h => absurd rfl h
  | k + 1, h => by
    by_cases hz : todo listed k = 0
    · simp only [todo, hz] at h
      refine ⟨k, by omega, ?_, todo_zero k hz⟩
      by_cases hk : listed.getD k false = true
      · rw [if_pos hk] at h; omega
      · simpa using hk
    · obtain ⟨i, h1, h2, h3⟩ := todo_some k hz
      exact ⟨i, by omega, h2, h3⟩
theorem mem_run {Q : Exit → Act → World → Prop} {F : Act} (hm : MemOk l n al) (hpw : al.Pairwise fun x y => x.i ≠ y.i)
    (hstab : ∀ e ∈ al, ∀ v w w', AnyLater w w' → e.is v w → e.is v w')
    (hown : ∀ e ∈ al, ∀ o, l[e.i]? = some o → OwnStep P W F e o)
    (htail : ∀ (g : Nat → Value) (w : World), AnyLater W w → (∀ e ∈ al, e.is (g e.i) w ∧ ∀ b, vblk (g e.i) = some b → W.heap.size ≤ b ∧ b < w.heap.size) → (∀ e ∈ al, ∀ e' ∈ al, e.i ≠ e'.i → ∀ b, vblk (g e.i) = some b → vblk (g e'.i) ≠ some b) → wpList P l.toArray Q (l.drop n) (fillAll g al F) w) :
    ∀ (f : Nat) (listed : Array Bool) (aA : Act) (w : World) (g : Nat → Value), todo listed n = f → HeadInv .any l.toArray n listed → AnyLater W w → Stand listed g al W w →
      (∀ W', AnyLater w W' → wpAnyQ P .any (absFrom n (idx al) 0 l).toArray (AnyLater W') (· = F) (f + (l.length - n)) listed aA) → wpAny P .any l.toArray Q (f + (l.length - n)) listed (fill listed g al aA) w := by
  intro f
  induction f with
  | zero =>
    intro listed aA w g hf inv hw hst hA
    have hall := todo_zero n hf
    have hl : listed = Array.replicate n true ++ Array.replicate (l.length - n) false := by
      apply Array.ext
      · have := inv.size; simp at this ⊢; have := hm.nle; omega
      · intro i h1 h2
        rcases Nat.lt_or_ge i n with h | h
        · have := hall i h
          simp [Array.getElem_append, h] at this ⊢
          simpa [h1] using this
        · have hs := inv.size
          have := inv.tail i h (by simp at hs ⊢; omega)
          simp [Array.getElem_append, show ¬ i < n by omega] at this ⊢
          simpa [h1] using this
    obtain ⟨d1, d2, d3⟩ := final_slots _ _ _ (hA w (AnyLater.refl w))
    have hF : aA = F := by
      have ht : aA.tmps = F.tmps := by
        apply Array.ext_getElem?
        intro s
        refine d3 s (fun j o hj hun => ?_)
        rw [List.getElem?_toArray, absFrom_get] at hj
        cases hlj : l[j]? with
        | none => rw [hlj] at hj; cases hj
        | some o' =>
          rw [hlj] at hj
          simp only [Option.map_some, Option.some.injEq] at hj
          subst hj
          rcases Nat.lt_or_ge j n with h | h
          · have h1 := hall j h
            rcases Nat.lt_or_ge j listed.size with h' | h'
            · simp [h'] at h1 hun; rw [h1] at hun; cases hun
            · simp [Array.getElem?_eq_none h'] at h1
          · rw [Nat.zero_add, absOp_tail n (idx al) j o' h]; simp
      cases aA; cases F; simp_all
    subst hF
    rw [fill_full _ _ _ _ (fun e he => hall e.i (hm.own e he).1)]
    have hw2 := htail g w hw (fun e he => hst.1 e he (hall e.i (hm.own e he).1)) (fun e he e' he' hne => hst.2 e he e' he' (hall _ (hm.own e he).1) (hall _ (hm.own e' he').1) hne)
    have hseq := hm.seq
    rw [← hl] at hseq
    have hdl : (l.drop n).length = l.length - n := by simp
    rw [Nat.zero_add]
    have := wpAny_of_seq (P := P) (Q' := Q) (ops := l.toArray) (md := .any) (l.drop n) n listed (fillAll g al aA) w (fun j => by simp) (by rw [hdl]; exact hseq) hw2
    rwa [hdl] at this
  | succ f ih =>
    intro listed aA w g hf inv hw hst hA
    obtain ⟨k, hk, hkun, hkall⟩ := todo_some (listed := listed) n (by omega)
    have hsz : listed.size = l.length := by have := inv.size; simpa using this
    have hnl := hm.nle
    have hkun' : listed.getD k true = false := getD_in (by omega) hkun
    have hkr : k ∈ Region.ready .any l.toArray listed := by
      refine mem_ready.2 ⟨hkun', l[k]'(by omega), by simp, fun e he hb => ?_⟩
      have := hm.back k _ (List.getElem?_eq_getElem (by omega)) e he hb
      exact hkall _ this
    rw [show f + 1 + (l.length - n) = f + (l.length - n) + 1 by omega]
    refine ⟨fun h0 => (by rw [h0] at hkr; cases hkr), fun i hi => ?_⟩
    have hin := head_only hm inv hk hkun' i hi
    obtain ⟨hun, o, ho, hdeps⟩ := mem_ready.1 hi
    have ho' : l[i]? = some o := by simpa using ho
    have hun' : listed.getD i false = false := getD_both hun
    have hoA : (absFrom n (idx al) 0 l).toArray[i]? = some (absOp n (idx al) i o) := by
      rw [List.getElem?_toArray, absFrom_get, ho', Nat.zero_add]; rfl
    have hinv' := inv.set hi hin
    have hf' : todo (listed.setIfInBounds i true) n = f := by
      have := todo_set (k := n) (by omega) hun'
      rw [if_pos hin] at this
      omega
    have hA' : ∀ W', AnyLater w W' → ∃ v, YieldsIn P (absFrom n (idx al) 0 l).toArray (AnyLater W') (absOp n (idx al) i o) v aA ∧
        wpAnyQ P .any (absFrom n (idx al) 0 l).toArray (AnyLater W') (· = F) (f + (l.length - n)) (listed.setIfInBounds i true) (aA.put o.dst v) := by
      intro W' hW'
      have h1 := hA W' hW'
      rw [show f + 1 + (l.length - n) = f + (l.length - n) + 1 by omega] at h1
      have h2 := h1.2 i (by rw [ready_abs]; exact hi)
      obtain ⟨v, hy, hK⟩ := yieldsIn_of_qOp hoA h2
      rw [absOp_dst n (idx al) i o hin] at hK
      exact ⟨v, hy, hK⟩
    have same : ∀ W1 W2 v1 v2, wpAnyQ P .any (absFrom n (idx al) 0 l).toArray (AnyLater W1) (· = F) (f + (l.length - n)) (listed.setIfInBounds i true) (aA.put o.dst v1) →
        wpAnyQ P .any (absFrom n (idx al) 0 l).toArray (AnyLater W2) (· = F) (f + (l.length - n)) (listed.setIfInBounds i true) (aA.put o.dst v2) → aA.put o.dst v1 = aA.put o.dst v2 := by
      intro W1 W2 v1 v2 h1 h2
      cases hd : o.dst with
      | none => rfl
      | some d =>
        rw [hd] at h1 h2
        have hno : ∀ (j : Nat) (o' : Oper), (absFrom n (idx al) 0 l).toArray[j]? = some o' → (listed.setIfInBounds i true).getD j true = false → o'.dst ≠ some d := by
          intro j o' hj hjun
          rw [List.getElem?_toArray, absFrom_get, Nat.zero_add] at hj
          cases hlj : l[j]? with
          | none => rw [hlj] at hj; cases hj
          | some oj =>
            rw [hlj] at hj
            simp only [Option.map_some, Option.some.injEq] at hj
            subst hj
            rcases Nat.lt_or_ge j n with h | h
            · rw [absOp_dst n (idx al) j oj h]
              have hij : i ≠ j := by
                rintro rfl
                have : (listed.setIfInBounds i true).getD i true = true := by
                  simp [show i < listed.size by omega]
                rw [this] at hjun; cases hjun
              exact hm.dsts i j hin h hij o oj ho' hlj d hd
            · rw [absOp_tail n (idx al) j oj h]; simp
        have e1 := (final_slots _ _ _ h1).2.2 d hno
        have e2 := (final_slots _ _ _ h2).2.2 d hno
        have e3 := e1.trans e2.symm
        simp only [Act.put, Array.getElem?_setIfInBounds_self] at e3 ⊢
        congr 1
        apply Array.ext_getElem?
        intro s
        by_cases hs : d = s
        · subst hs; rw [Array.getElem?_setIfInBounds_self, Array.getElem?_setIfInBounds_self]; exact e3
        · simp [Array.getElem?_setIfInBounds, hs]
    by_cases ha : (idx al).contains i = true
    ·
      have hmem : i ∈ idx al := by simpa using ha
      obtain ⟨e, he, hei⟩ := List.mem_map.1 hmem
      subst hei
      obtain ⟨hg, hd, hops⟩ := hm.made e he o ho'
      have hun2 : ∀ v, (YieldsIn P (absFrom n (idx al) 0 l).toArray (AnyLater w) (absOp n (idx al) e.i o) v aA) → v = undef := by
        intro v hy
        rcases hy with ⟨_, hv⟩ | ⟨_, hv⟩
        · have := hv w (AnyLater.refl w)
          rw [absOp_own n (idx al) e.i o hin ha] at this
          unfold Oper.quietAt at this
          simp only [execOp, Sem.run_pure, Oper.quietUpon] at this
          exact this.2.symm
        · exact hv
      have hsel := Region.noSelect_spec hm.sel
      have hex := fill_exec (l := l) listed g o (fun cs b => hsel e.i o cs b ho) al aA (fun e' he' => (hm.blind e.i o hin ho' e' he').1)
      obtain ⟨_, _, hfin⟩ := final_slots _ _ _ (hA w (AnyLater.refl w))
      have hexF : execOp aA.eval o = execOp F.eval o := by
        refine execOp_congr o (fun cs b => hsel e.i o cs b ho) fun x hx => ?_
        cases x with
        | tmp t =>
          have hlook : t ∈ o.looksAt l.toArray := List.mem_append_left _ (List.mem_filterMap.2 ⟨.tmp t, by simpa using hx, rfl⟩)
          have := hfin t (fun j oj hj hjun hjd => by
            rw [List.getElem?_toArray, absFrom_get, Nat.zero_add] at hj
            cases hlj : l[j]? with
            | none => rw [hlj] at hj; cases hj
            | some oj' =>
              rw [hlj] at hj
              simp only [Option.map_some, Option.some.injEq] at hj
              subst hj
              rcases Nat.lt_or_ge j n with h | h
              · rw [absOp_dst n (idx al) j oj' h] at hjd
                obtain ⟨ed, hed, hb, hon⟩ := hops j oj' h hlj t hjd hlook
                have h1 := hdeps ed hed hb
                rw [hon, getD_both hjun] at h1
                cases h1
              · rw [absOp_tail n (idx al) j oj' h] at hjd; cases hjd)
          simp only [Act.eval, Array.getD_eq_getD_getElem?, this]
        | _ => rfl
      obtain ⟨v0, hy0, hK0⟩ := hA' w (AnyLater.refl w)
      have hv0 := hun2 v0 hy0
      subst hv0
      have hstep := hown e he o ho' w hw
      have next : ∀ v w', AnyLater w w' → e.is v w' → (∀ b, vblk v = some b → w.heap.size ≤ b ∧ b < w'.heap.size) →
          wpAny P .any l.toArray Q (f + (l.length - n)) (listed.setIfInBounds e.i true) ((fill listed g al aA).put o.dst v) w' := by
        intro v w' hlw hv hb
        rw [hd]
        rw [← fill_new listed g e v undef hun' (by omega) al aA (fun x hx y hy => (hm.own x hx).2 y hy) he (fun x hx => (hm.own x hx).2 e he) hpw]
        refine ih _ _ _ _ hf' hinv' (hw.trans hlw) ⟨?_, ?_⟩ ?_
        · intro x hx hxl
          by_cases hxe : x.i = e.i
          · have hxx : x = e := pw_eq hpw hx he hxe
            subst hxx
            simp only [if_true]
            exact ⟨hv, fun b h => ⟨Nat.le_trans hw.below.size (hb b h).1, (hb b h).2⟩⟩
          · simp only [if_neg hxe]
            rw [getD_set_ne false (fun h => hxe h.symm)] at hxl
            exact (hst.later hstab hlw).1 x hx hxl
        · intro x hx y hy hxl hyl hne
          have old : ∀ z ∈ al, z.i ≠ e.i → (listed.setIfInBounds e.i true).getD z.i false = true → ∀ b, vblk (g z.i) = some b → b < w.heap.size := by
            intro z hz hze hzl b h
            rw [getD_set_ne false (fun h => hze h.symm)] at hzl
            exact ((hst.1 z hz hzl).2 b h).2
          by_cases h1 : x.i = e.i
          · have h2 : y.i ≠ e.i := fun h => hne (h1.trans h.symm)
            simp only [if_pos h1, if_neg h2]
            intro b h3 h4
            have := old y hy h2 hyl b h4
            have := (hb b h3).1
            omega
          · by_cases h2 : y.i = e.i
            · simp only [if_neg h1, if_pos h2]
              intro b h3 h4
              have := old x hx h1 hxl b h3
              have := (hb b h4).1
              omega
            · simp only [if_neg h1, if_neg h2]
              rw [getD_set_ne false (fun h => h1 h.symm)] at hxl
              rw [getD_set_ne false (fun h => h2 h.symm)] at hyl
              exact hst.2 x hx y hy hxl hyl hne
        · intro W' hW'
          obtain ⟨v1, _, hK⟩ := hA' W' (hlw.trans hW')
          have := same _ _ _ _ hK0 hK
          rw [hd] at this hK
          rw [this]; exact hK
      unfold wpOp
      simp only [ho]
      have hwn : Region.wanted o (yielded l.toArray (fill listed g al aA).tmps) = true := by unfold Region.wanted; rw [hg]
      rw [if_pos hwn]
      refine .inl ?_
      unfold Oper.wp
      rw [hex, hexF]
      generalize (execOp F.eval o).run P w = r at hstep
      cases r with
      | halt x w' => exact hstep.elim
      | ok nx w' =>
        cases nx <;> simp only at hstep <;> simp only [Oper.upon]
        case value v => exact next v w' hstep.1 hstep.2.1 hstep.2.2
        case enter fn args =>
          obtain ⟨rfl, hc⟩ := hstep
          exact hc.mono fun en w'' ⟨v, hv, h1, h2, h3⟩ => by subst hv; exact next v w'' h1 h2 h3
    ·
      have ha' : (idx al).contains i = false := by simpa using ha
      have hpl : ∀ e ∈ al, e.i ≠ i ∧ e.s ∉ o.looksAt l.toArray ∧ o.dst ≠ some e.s := by
        intro e he
        have hne : e.i ≠ i := fun h => ha (by simp only [List.contains_eq_mem, decide_eq_true_eq]; exact List.mem_map.2 ⟨e, he, h⟩)
        have := hm.blind i o hin ho' e he
        exact ⟨hne, this.1, this.2.resolve_left hne⟩
      obtain ⟨v, hy, hK⟩ := hA' w (AnyLater.refl w)
      rw [absOp_plain n (idx al) i o hin ha'] at hy
      have hsel := Region.noSelect_spec hm.sel
      have hex := fill_exec (l := l) listed g o (fun cs b => hsel i o cs b ho) al aA (fun e he => (hpl e he).2.1)
      have hwa := fill_wanted (l := l) listed g o al aA (fun e he => (hpl e he).2.1)
      have hyl : yielded (absFrom n (idx al) 0 l).toArray aA.tmps = yielded l.toArray aA.tmps ∨ True := .inr trivial
      have hwA : Region.wanted o (yielded (absFrom n (idx al) 0 l).toArray aA.tmps) = Region.wanted o (yielded l.toArray aA.tmps) := by
        unfold Region.wanted
        cases hgd : o.guard with
        | none => rfl
        | some gb =>
          obtain ⟨gi, b⟩ := gb
          have hgn := hm.guard i o hin ho' gi b hgd
          have : yielded (absFrom n (idx al) 0 l).toArray aA.tmps gi = yielded l.toArray aA.tmps gi := by
            unfold yielded
            rw [List.getElem?_toArray, List.getElem?_toArray, absFrom_get, Nat.zero_add]
            cases l[gi]? with
            | none => rfl
            | some og => simp only [Option.map_some, Option.bind_some, absOp_dst n (idx al) gi og hgn]
          simp only [this]
      have hy' : YieldsIn P l.toArray (AnyLater w) o v (fill listed g al aA) := by
        unfold YieldsIn Oper.quietAt at hy ⊢
        rw [hex, hwa, ← hwA]
        exact hy
      refine wpOp_of_qOp (C := AnyLater w) (AnyLater.refl w) (K := fun a' => a' = (fill listed g al aA).put o.dst v) ?_ (hy'.qOp ho rfl)
      rintro a' w' hlw rfl
      rw [← fill_put listed g o.dst v al aA (fun e he => (hpl e he).2.2)]
      rw [fill_congr listed (listed.setIfInBounds i true) g g al _ (fun e he => ⟨(getD_set_ne false (fun h => (hpl e he).1 h.symm)).symm, rfl⟩)]
      refine ih _ _ _ _ hf' hinv' (hw.trans hlw) ?_ ?_
      · have := hst.later hstab hlw
        refine ⟨fun e he hl => this.1 e he ?_, fun e he e' he' hl hl' => this.2 e he e' he' ?_ ?_⟩
        · rwa [getD_set_ne false (fun h => (hpl e he).1 h.symm)] at hl
        · rwa [getD_set_ne false (fun h => (hpl e he).1 h.symm)] at hl
        · rwa [getD_set_ne false (fun h => (hpl e' he').1 h.symm)] at hl'
      · intro W' hW'
        obtain ⟨v2, _, hK2⟩ := hA' W' (hlw.trans hW')
        have := same _ _ _ _ hK hK2
        rw [this]; exact hK2
theorem wp_region_mem {id : Nat} {Q : Exit → Act → World → Prop} {a F : Act} {w : World} (n : Nat) (al : List Own) (hm : P.follows .mixedOrders = true) (hB : memB l n (al.map fun e => (e.i, e.s)) = true) (hpw : al.Pairwise fun x y => x.i ≠ y.i)
    (hstab : ∀ e ∈ al, ∀ v w w', AnyLater w w' → e.is v w → e.is v w')
    (hlex : ∀ U : Later w, wpQuiet P (absFrom n (idx al) 0 l).toArray (fun w' => ∃ u : Later (later U), w' = later u) (· = F) (absFrom n (idx al) 0 l) a)
    (hown : ∀ e ∈ al, ∀ o, l[e.i]? = some o → OwnStep P w F e o)
    (htail : ∀ (g : Nat → Value) (u : Later w), (∀ e ∈ al, e.is (g e.i) (later u) ∧ ∀ b, vblk (g e.i) = some b → w.heap.size ≤ b ∧ b < (later u).heap.size) → (∀ e ∈ al, ∀ e' ∈ al, e.i ≠ e'.i → ∀ b, vblk (g e.i) = some b → vblk (g e'.i) ≠ some b) → wpList P l.toArray Q (l.drop n) (fillAll g al F) (later u)) :
    (Code.region id l.toArray true).wp P Q a w := by
  have hk := memOk hB
  have hlexB := hk.lex
  simp only [Region.lexB, Bool.and_eq_true] at hlexB
  have inv0 : HeadInv .any l.toArray n (Array.replicate l.toArray.size false) := ⟨by simp, fun j oj _ h => (by rw [getD_replicate_false] at h; cases h), fun t _ ht => (by
    have ht' : t < l.length := by simpa using ht
    simp [ht'])⟩
  have htodo : ∀ k, k ≤ l.length → todo (Array.replicate l.toArray.size false) k = k := by
    intro k
    induction k with
    | zero => intro _; rfl
    | succ k ih => intro hk; simp only [todo, getD_replicate_false, ih (by omega)]; simp
  have hdl : n + (l.length - n) = l.length := by have := hk.nle; omega
  refine wp_region_any hm ?_
  have hr : ({ w with drawn := w.drawn + 1 } : World) = w.drew := rfl
  rw [hr]
  have hfill : fill (Array.replicate l.toArray.size false) (fun _ => undef) al a = a := by
    have : ∀ es : List Own, fill (Array.replicate l.toArray.size false) (fun _ => undef) es a = a := by
      intro es
      induction es with
      | nil => rfl
      | cons e es ih => simp only [fill, getD_replicate_false, ih]; simp
    exact this al
  have := mem_run (P := P) (W := w) (Q := Q) (F := F) hk hpw hstab hown (fun g w' hw' h1 h2 => by
      obtain ⟨u, rfl⟩ := hw'
      exact htail g u h1 h2) n (Array.replicate l.toArray.size false) a w.drew (fun _ => undef) (htodo n hk.nle) inv0 (AnyLater.refl w).drew
    ⟨fun e _ h => (by rw [getD_replicate_false] at h; cases h), fun e _ e' _ h => (by rw [getD_replicate_false] at h; cases h)⟩ (fun W' hW' => by
      obtain ⟨U, hU⟩ := (AnyLater.refl w).drew.trans hW'
      subst hU
      have hl := wpAnyQ_lex (P := P) (C := fun w' => ∃ u : Later (later U), w' = later u) (Q := (· = F)) (md := .any) hlexB.1 (absFrom n (idx al) 0 l) 0 (Array.replicate (absFrom n (idx al) 0 l).toArray.size false) a (by simp) (by simpa using hlexB.2) (hlex U)
      rw [hdl]
      have hC : (fun w' => ∃ u : Later (later U), w' = later u) = AnyLater (later U) := rfl
      rw [hC] at hl
      simpa [absFrom_length] using hl)
  rw [hdl, hfill] at this
  simpa using this
theorem own_row {w : World} {g : Nat} {c : Array Value} {t : TypeId} (h : w.heap[g]? = some (.cells c t)) (j : Nat) : w.cell? ⟨g, j, none⟩ = c[j]? := by simp [World.cell?, h]
theorem own_free {w : World} {g : Nat} {c : Array Value} {t : TypeId} (h : w.heap[g]? = some (.cells c t)) (j : Nat) : w.frozen? ⟨g, j, none⟩ = false := by simp [World.frozen?, h]
theorem own_lt {w : World} {g : Nat} {o : Obj} (h : w.heap[g]? = some o) : g < w.heap.size := by
  rcases Nat.lt_or_ge g w.heap.size with h' | h'
  · exact h'
  · rw [Array.getElem?_eq_none h'] at h; cases h
theorem any_own {w w' : World} {g : Nat} {o : Obj} (h : AnyLater w w') (s : w.heap[g]? = some o) : w'.heap[g]? = some o := (h.below.block g (own_lt s)).trans s
theorem heap_new {w : World} {o : Obj} {k : Nat} (h : k = w.heap.size) : (w.alloc o).heap[k]? = some o := by subst h; show (w.heap.push o)[w.heap.size]? = _; simp
theorem heap_old {w : World} {o : Obj} {k : Nat} {x : Option Obj} (h : k < w.heap.size) (r : w.heap[k]? = x) : (w.alloc o).heap[k]? = x := (Below.heap_alloc w o k h).trans r
theorem heap_drew {w : World} {k : Nat} {x : Option Obj} (r : w.heap[k]? = x) : w.drew.heap[k]? = x := r
theorem heap_far {w : World} {k b i : Nat} {v : Value} {x : Option Obj} (h : k ≠ b) (r : w.heap[k]? = x) : (w.setCell ⟨b, i, none⟩ v).heap[k]? = x := (Below.heap_setCell w ⟨b, i, none⟩ v k h).trans r
theorem heap_at {w : World} {b i : Nat} {v : Value} {c C : Array Value} {t : TypeId} (h : w.heap[b]? = some (.cells c t)) (e : c.setIfInBounds i v = C) : (w.setCell ⟨b, i, none⟩ v).heap[b]? = some (.cells C t) := by
  subst e
  simp [World.setCell, Array.getElem?_modify, h]
theorem cell_on {w w' : World} {p : Addr} {x : Value} (h : AnyLater w w') (c : w.cell? p = some x) : w'.cell? p = some x := (h.below.cell (World.block_lt_of_cell? _ _ c)).trans c
def isVar (ob : Obj) (v : Value) (w : World) : Prop := ∃ b, v = .pointer (some ⟨b, 0, none⟩) ∧ w.heap[b]? = some ob
theorem isVar_stays {ob : Obj} {v : Value} {w w' : World} (h : AnyLater w w') (s : isVar ob v w) : isVar ob v w' := by
  obtain ⟨b, h1, h2⟩ := s
  exact ⟨b, h1, any_own h h2⟩
theorem settle_wp {P : Program} {c : Code} {Q : Exit → Act → World → Prop} {a : Act} {w : World} (R : World → Prop) (h : R w) (k : ∀ w, R w → c.wp P Q a w) : c.wp P Q a w := k w h
theorem settle_calls {P : Program} {f : FuncId} {args : Array Value} {Q : Ending → World → Prop} {w : World} (R : World → Prop) (h : R w) (k : ∀ w, R w → Calls P f args w Q) : Calls P f args w Q := k w h
end
end Go.Proofs.YtamhnffokoejjaaGreatDoor
