/- A drawn region in which an operation reads a variable that a later one writes: the reader may be taken to read what the variable held at the region's beginning. No condition but that every writer waits for the reader. -/
import Derived.Test.YtkobnijjahpifaaDoorWild
namespace Go.Proofs.YtkobnijjahpifaaDoor
set_option linter.unusedSimpArgs false
set_option linter.unusedVariables false
set_option linter.unusedSectionVars false
open Go.RowKit

def earlyB (l : List Oper) (i : Nat) (s : Tmp) : Bool := l.all fun o => o.dst != some s || o.after.any fun e => Region.binds .any e && e.on == i
section
variable {P : Program} {Q : Exit → Act → World → Prop}
theorem ready_set (l : List Oper) (i : Nat) (o o' : Oper) (ho : l[i]? = some o) (ha : o'.after = o.after) (listed : Array Bool) : Region.ready .any (l.set i o').toArray listed = Region.ready .any l.toArray listed := by
  unfold Region.ready
  rw [List.size_toArray, List.length_set, List.size_toArray]
  refine List.filter_congr fun k hk => ?_
  simp only [List.getElem?_toArray, List.getElem?_set]
  by_cases h : i = k
  · subst h
    rw [ho]
    have : i < l.length := (List.getElem?_eq_some_iff.1 ho).1
    simp [this, ha]
  · simp [h]
theorem yielded_set (l : List Oper) (i : Nat) (o o' : Oper) (ho : l[i]? = some o) (hd : o'.dst = o.dst) (t : Array Value) : yielded (l.set i o').toArray t = yielded l.toArray t := by
  funext j
  unfold yielded
  simp only [List.getElem?_toArray, List.getElem?_set]
  by_cases h : i = j
  · subst h
    rw [ho]
    have : i < l.length := (List.getElem?_eq_some_iff.1 ho).1
    simp [this, hd]
  · simp [h]
theorem upon_put {o : Oper} {a : Act} {K K' : Act → World → Prop} {r : Result Next} (h : ∀ (b : Act) v w, b.tmps = a.tmps → K (b.put o.dst v) w → K' (b.put o.dst v) w) (hh : o.upon P a K Q r) : o.upon P a K' Q r := by
  cases r with
  | ok n w' =>
    cases n <;> simp only [Oper.upon] at hh ⊢ <;>
      first
        | exact h a _ _ rfl hh
        | exact h _ _ _ rfl hh
        | exact Calls.mono hh (fun e w'' he => by cases e <;> first | exact h a _ _ rfl he | exact he)
        | exact Rows.mono hh (fun _ _ he => h a _ _ rfl he)
  | halt x w' => cases x <;> simp only [Oper.upon] at hh ⊢ <;> exact hh
theorem any_early (l : List Oper) (i : Nat) (s : Tmp) (oi : Oper) (x : Value) (hoi : l[i]? = some oi) (hop : oi.op = .move (.tmp s)) (hB : earlyB l i s = true) :
    ∀ (fuel : Nat) (listed : Array Bool) (a : Act) (w : World), (listed.getD i true = false → a.tmps.getD s undef = x) → wpAny P .any (l.set i { oi with op := .move (.const x) }).toArray Q fuel listed a w → wpAny P .any l.toArray Q fuel listed a w := by
  have hi : i < l.length := (List.getElem?_eq_some_iff.1 hoi).1
  intro fuel
  induction fuel with
  | zero =>
    intro listed a w _ h
    unfold wpAny at h ⊢
    rwa [ready_set l i oi { oi with op := .move (.const x) } hoi rfl] at h
  | succ fuel ih =>
    intro listed a w hx h
    unfold wpAny at h ⊢
    rw [ready_set l i oi { oi with op := .move (.const x) } hoi rfl] at h
    refine ⟨h.1, fun k hk => ?_⟩
    have h2 := h.2 k hk
    have hkr : k ∈ Region.ready .any l.toArray listed := hk
    unfold Region.ready at hk
    obtain ⟨hk1, hk2⟩ := List.mem_filter.1 hk
    rw [List.size_toArray, List.mem_range] at hk1
    rw [Bool.and_eq_true, List.getElem?_toArray, List.getElem?_eq_getElem hk1, Option.map_some, Option.getD_some] at hk2
    obtain ⟨hk2, hk3⟩ := hk2
    have hgo : ∀ (b : Act) (v : Value) (w' : World), b.tmps = a.tmps → wpAny P .any (l.set i { oi with op := .move (.const x) }).toArray Q fuel (listed.setIfInBounds k true) (b.put l[k].dst v) w' → wpAny P .any l.toArray Q fuel (listed.setIfInBounds k true) (b.put l[k].dst v) w' := by
      intro b v w' hb
      refine ih _ _ _ fun hl => ?_
      have hik : i ≠ k := by
        rintro rfl
        rw [Array.getD_eq_getD_getElem?, Array.getElem?_setIfInBounds] at hl
        split at hl
        · split at hl <;> simp_all
        · simp_all
      have hl2 : listed.getD i true = false := by
        rw [Array.getD_eq_getD_getElem?, Array.getElem?_setIfInBounds, if_neg (fun e => hik e.symm)] at hl
        rwa [Array.getD_eq_getD_getElem?]
      have hne : l[k].dst ≠ some s := by
        intro hd
        have := List.all_eq_true.1 hB l[k] (List.getElem_mem hk1)
        rw [hd] at this
        simp only [bne_self_eq_false, Bool.false_or, Array.any_eq_true', Bool.and_eq_true, beq_iff_eq] at this
        obtain ⟨e, he, hb1, hb2⟩ := this
        have h3 := Array.all_eq_true'.1 hk3 e he
        rw [hb1, hb2] at h3
        simp only [Bool.not_true, Bool.false_or] at h3
        have h4 : listed.getD i false = false := by
          rw [Array.getD_eq_getD_getElem?] at hl2 ⊢
          cases hc : listed[i]? with
          | none => rfl
          | some y => rw [hc] at hl2; exact hl2
        rw [h4] at h3
        cases h3
      have e := hx hl2
      rw [← hb] at e
      rw [← e]
      unfold Act.put
      cases hd : l[k].dst with
      | none => rfl
      | some d =>
        have : d ≠ s := fun e => hne (by rw [hd, e])
        simp only [Array.getD_eq_getD_getElem?, Array.getElem?_setIfInBounds, if_neg this]
    unfold wpOp at h2 ⊢
    rw [yielded_set l i oi { oi with op := .move (.const x) } hoi rfl] at h2
    rw [List.getElem?_toArray, List.getElem?_eq_getElem hk1]
    by_cases hik : i = k
    · subst hik
      have e1 : l[i] = oi := by rw [List.getElem?_eq_getElem hi] at hoi; exact Option.some.inj hoi
      have e2 : (l.set i { oi with op := .move (.const x) }).toArray[i]? = some { oi with op := .move (.const x) } := by simp [hi]
      rw [e2] at h2
      rw [e1] at hgo ⊢
      have hex : ∀ (b : Act), b.eval (.tmp s) = x → execOp b.eval oi = execOp b.eval { oi with op := .move (.const x) } := fun b hb => by
        unfold execOp
        simp only [hop]
        rw [hb]; rfl
      have hs : a.eval (.tmp s) = x := by
        refine hx ?_
        cases hc : listed.getD i true with
        | false => rfl
        | true => rw [hc] at hk2; cases hk2
      have hex2 := hex a hs
      simp only at h2 ⊢
      have hw : Region.wanted { oi with op := .move (.const x) } (yielded l.toArray a.tmps) = Region.wanted oi (yielded l.toArray a.tmps) := rfl
      rw [hw] at h2
      split
      · rename_i hwt
        rw [if_pos hwt] at h2
        rcases h2 with h2 | h2
        · refine .inl ?_
          unfold Oper.wp at h2 ⊢
          rw [← hex2] at h2
          exact upon_put hgo h2
        · refine .inr ⟨?_, h2.2⟩
          have := h2.1
          unfold Oper.asks at this ⊢
          rwa [← hex2] at this
      · rename_i hwt
        rw [if_neg hwt] at h2
        exact hgo a _ _ rfl h2
    · have e2 : (l.set i { oi with op := .move (.const x) }).toArray[k]? = some l[k] := by simp [List.getElem?_set, hik, hk1]
      rw [e2] at h2
      simp only at h2 ⊢
      split
      · rename_i hwt
        rw [if_pos hwt] at h2
        rcases h2 with h2 | h2
        · refine .inl ?_
          unfold Oper.wp at h2 ⊢
          exact upon_put hgo h2
        · exact .inr h2
      · rename_i hwt
        rw [if_neg hwt] at h2
        exact hgo a _ _ rfl h2
/-- a drawn region whose i-th operation reads slot s, which is written later -/
theorem wp_region_early {id : Nat} {a : Act} {w : World} (l : List Oper) (i : Nat) (s : Tmp) (x : Value) (oi : Oper) (l' : List Oper) (hm : P.follows .mixedOrders = true) (hoi : l[i]? = some oi) (hop : oi.op = .move (.tmp s)) (hB : earlyB l i s = true) (hx : a.tmps.getD s undef = x)
    (hl : l.set i { oi with op := .move (.const x) } = l') (h : wpAny P .any l'.toArray Q l'.toArray.size (Array.replicate l'.toArray.size false) a { w with drawn := w.drawn + 1 }) : (Code.region id l.toArray true).wp P Q a w := by
  refine wp_region_any hm (any_early l i s oi x hoi hop hB _ _ a _ (fun _ => hx) ?_)
  subst hl
  simpa using h
end
end Go.Proofs.YtkobnijjahpifaaDoor
