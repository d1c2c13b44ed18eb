/- rope: the document's own text: a part of it, where its line feeds are: by contract. -/
import Derived.Test.YtiicaldnegcdiaaRopQ
namespace Go.Proofs.Ytiicaldnegcdiaa
set_option linter.unusedSimpArgs false
set_option linter.unusedVariables false
set_option linter.unusedSectionVars false
open Go.RowKit

theorem isB_new {w w' : World} {g : Nat} (h : w'.heap[g]? = some (.cells #[] 5)) : isB [] (.slice (some ⟨g, 0, none⟩) 0 0) w' := ⟨_, 0, rfl, Nat.le_refl _, fun h => by simp at h⟩
set_option maxRecDepth 100000 in
set_option maxHeartbeats 1600000 in
theorem xpart_none (g : Nat) (most x y f t : Int) (bs : List Int) (w : World) (h : IsX w g most bs) (hf : (x < 0 ∧ f = 0) ∨ (0 ≤ x ∧ f = x)) (ht : ((bs.length : Int) < y ∧ t = bs.length) ∨ (y ≤ bs.length ∧ t = y)) (hft : t ≤ f) :
    Calls Try.prog 29 #[.pointer (some ⟨g, 0, none⟩), .int .i64 x, .int .i64 y] w (Ans (isB []) w) := by
  obtain ⟨bv, hg, hb⟩ := h
  obtain ⟨A, cap, rfl, -⟩ := hb.form
  have r0 := own_row hg
  have l0 := own_lt hg
  clear hg hb
  generalize bs.length = n at *
  have HB : Hid (∀ w', w'.heap[w.heap.size]? = some (.cells #[] 5) → isB [] (.slice (some ⟨w.heap.size, 0, none⟩) 0 0) w') := Lib.hid (fun w' h => isB_new (w := w) h)
  rcases hf with ⟨h1, rfl⟩ | ⟨h1, rfl⟩ <;> rcases ht with ⟨h2, rfl⟩ | ⟨h2, rfl⟩
  all_goals (try have d1 : decide (f < 0) = false := decide_eq_false (by omega))
  all_goals (try have d2 : decide ((n : Int) < t) = false := decide_eq_false (by omega))
  all_goals
    go_enter Try.func29, Try.ntmps29
    go_wp2_with fail
    go_ret
    refine ⟨_, rfl, ?_, HB.out _ (heap_new rfl)⟩
    repeat' (first | with_reducible assumption | with_reducible exact AnyLater.refl _ | with_reducible apply AnyLater.setCell | with_reducible apply AnyLater.later | with_reducible apply AnyLater.drewN | with_reducible apply AnyLater.drew | with_reducible apply AnyLater.alloc | ((try simp only [World.size_alloc, World.size_setCell, World.size_drew]); (try dsimp only); omega))
set_option maxRecDepth 100000 in
set_option maxHeartbeats 1600000 in
theorem xpart_some (g : Nat) (most x y : Int) (i j : Nat) (bs l : List Int) (w : World) (h : IsX w g most bs) (hf : (x < 0 ∧ (i : Int) = 0) ∨ (0 ≤ x ∧ (i : Int) = x)) (ht : ((bs.length : Int) < y ∧ (j : Int) = bs.length) ∨ (y ≤ bs.length ∧ (j : Int) = y)) (hij : i < j) (hbs : bs.length ≤ 60000) (hl : (bs.drop i).take (j - i) = l) :
    Calls Try.prog 29 #[.pointer (some ⟨g, 0, none⟩), .int .i64 x, .int .i64 y] w (Ans (isB l) w) := by
  have hj : j ≤ bs.length := by omega
  obtain ⟨bv, hg, hb⟩ := h
  have HG := Lib.hid hg
  obtain ⟨A, cap, rfl, -⟩ := hb.form
  obtain ⟨A3, cap3, r3, hmid⟩ := RN.part hb.rn i j (by omega) hj
  rw [hl] at r3
  have hll : l.length ≤ 60000 := by rw [← hl, List.length_take, List.length_drop]; omega
  obtain ⟨u5, w5, c1, c2, c3⟩ := copy8 (w := w) r3 (by omega)
  have C1 := Lib.hid c1
  have C2 := Lib.hid (And.intro c2 c3.rt)
  obtain ⟨A5, cap5, rfl, -⟩ := c3.form
  have r0 := own_row hg
  have l0 := own_lt hg
  have d9 : decide ((j : Int) ≤ (i : Int)) = false := decide_eq_false (by omega)
  have d9' : decide (j ≤ i) = false := decide_eq_false (by omega)
  clear hg hb r3 hl hbs c1 c2 c3 hij
  generalize l.length = m5 at *
  generalize j - i = c at *
  rcases hf with ⟨h1, hi⟩ | ⟨h1, rfl⟩ <;> rcases ht with ⟨h2, hj2⟩ | ⟨h2, rfl⟩
  · obtain rfl : i = 0 := by omega
    have hmid0 : ∀ w', (Instr.sliceAt 38 (.slice A bs.length cap) (some (.int .i64 0)) (some (.int .i64 (j : Int))) none).run Try.prog w' = .ok (.slice A3 c cap3) w' := hmid
    have hj0 := of_decide_eq_false d9'
    have e0 : decide ((j : Int) ≤ 0) = false := decide_eq_false (by omega)
    have e1 : decide (j = 0) = false := decide_eq_false (by omega)
    clear hmid d9 d9' hj0
    obtain rfl : j = bs.length := by omega
    clear hi hj2 hj
    generalize bs.length = n at *
    go_enter Try.func29, Try.ntmps29
    go_wp2_with (at_builtin; refine Lib.wpList_append_run _ rfl _ _ _ _ rfl _ _ rfl rfl _ _ C1.out ?_)
    go_ret
    exact ⟨_, rfl, C2.out.1, C2.out.2⟩
  · obtain rfl : i = 0 := by omega
    have hmid0 : ∀ w', (Instr.sliceAt 38 (.slice A bs.length cap) (some (.int .i64 0)) (some (.int .i64 (j : Int))) none).run Try.prog w' = .ok (.slice A3 c cap3) w' := hmid
    have hj0 := of_decide_eq_false d9'
    have e0 : decide ((j : Int) ≤ 0) = false := decide_eq_false (by omega)
    have e1 : decide (j = 0) = false := decide_eq_false (by omega)
    clear hmid d9 d9' hj0
    have d2 : decide ((bs.length : Int) < (j : Int)) = false := decide_eq_false (by omega)
    have d3 : decide (bs.length < j) = false := decide_eq_false (by omega)
    clear hi
    generalize bs.length = n at *
    go_enter Try.func29, Try.ntmps29
    go_wp2_with (at_builtin; refine Lib.wpList_append_run _ rfl _ _ _ _ rfl _ _ rfl rfl _ _ C1.out ?_)
    go_ret
    exact ⟨_, rfl, C2.out.1, C2.out.2⟩
  · obtain rfl : j = bs.length := by omega
    have d1 : decide ((i : Int) < 0) = false := decide_eq_false (by omega)
    clear hj2 h1
    generalize bs.length = n at *
    go_enter Try.func29, Try.ntmps29
    go_wp2_with (at_builtin; refine Lib.wpList_append_run _ rfl _ _ _ _ rfl _ _ rfl rfl _ _ C1.out ?_)
    go_ret
    exact ⟨_, rfl, C2.out.1, C2.out.2⟩
  · have d1 : decide ((i : Int) < 0) = false := decide_eq_false (by omega)
    have d2 : decide ((bs.length : Int) < (j : Int)) = false := decide_eq_false (by omega)
    have d3 : decide (bs.length < j) = false := decide_eq_false (by omega)
    clear h1 h2
    generalize bs.length = n at *
    go_enter Try.func29, Try.ntmps29
    go_wp2_with (at_builtin; refine Lib.wpList_append_run _ rfl _ _ _ _ rfl _ _ rfl rfl _ _ C1.out ?_)
    go_ret
    exact ⟨_, rfl, C2.out.1, C2.out.2⟩
theorem xpart_any (g : Nat) (most x y : Int) (bs l : List Int) (hl : cutZ bs x y = l) (w : World) (h : IsX w g most bs) (hbs : bs.length ≤ 60000) :
    Calls Try.prog 29 #[.pointer (some ⟨g, 0, none⟩), .int .i64 x, .int .i64 y] w (Ans (isB l) w) := by
  obtain ⟨f, hf⟩ : ∃ f : Int, (x < 0 ∧ f = 0) ∨ (0 ≤ x ∧ f = x) := by
    by_cases h : x < 0
    · exact ⟨0, .inl ⟨h, rfl⟩⟩
    · exact ⟨x, .inr ⟨by omega, rfl⟩⟩
  obtain ⟨t, ht⟩ : ∃ t : Int, ((bs.length : Int) < y ∧ t = bs.length) ∨ (y ≤ bs.length ∧ t = y) := by
    by_cases h : (bs.length : Int) < y
    · exact ⟨bs.length, .inl ⟨h, rfl⟩⟩
    · exact ⟨y, .inr ⟨by omega, rfl⟩⟩
  by_cases hft : t ≤ f
  · have e : l = [] := by
      rw [← hl]
      unfold cutZ
      apply List.drop_of_length_le
      rw [List.length_take]
      omega
    rw [e]
    exact xpart_none g most x y f t bs w h hf ht hft
  · obtain ⟨i, rfl⟩ := Int.eq_ofNat_of_zero_le (show 0 ≤ f by omega)
    obtain ⟨j, rfl⟩ := Int.eq_ofNat_of_zero_le (show 0 ≤ t by omega)
    refine xpart_some g most x y i j bs l w h hf ht (by omega) hbs ?_
    rw [← hl]
    unfold cutZ
    have e1 : x.toNat = i := by omega
    have e2 : bs.take y.toNat = bs.take j := by
      rcases ht with ⟨h1, h2⟩ | ⟨h1, h2⟩
      · rw [List.take_of_length_le (by omega), List.take_of_length_le (by omega)]
      · congr 1; omega
    rw [e1, e2, List.drop_take]
/-! ### where all line feeds are -/
set_option maxRecDepth 100000 in
set_option maxHeartbeats 1600000 in
theorem breaks_any (v : Value) (l : List Int) (w : World) (hv : RN .u8 w v l) (hl : l.length ≤ 60000) : Calls Try.prog 30 #[v] w fun e w' => ∃ u, e = .returned u ∧ AnyLater w w' ∧ ON .i64 3 w' w.heap.size u (feN 0 l) := by
  obtain ⟨A, cap, rfl, h2, h3⟩ := hv
  have HCC : Hid (∀ (i : Nat), i < l.length → ∃ b off, A = some ⟨b, off, none⟩ ∧ b < w.heap.size ∧ w.cell? ⟨b, off + i, none⟩ = some (.int .u8 (l.getD i 0))) := Lib.hid (fun i hi => by
    obtain ⟨b, off, e, hb, hc⟩ := h3 (by omega)
    exact ⟨b, off, e, hb, by rw [hc i hi]; simp [List.getD_eq_getElem?_getD, hi]⟩)
  have HSn : Hid (∀ i, i < l.length → feN 0 (l.take (i + 1)) = feN 0 (l.take i) ++ (if l.getD i 0 = 10 then [(i : Int)] else [])) := Lib.hid (fun i hi => by rw [feN_snoc l i hi]; simp [List.getD_eq_getElem?_getD, hi])
  have HFl : Hid (∀ i, (feN 0 (l.take i)).length ≤ 60000) := Lib.hid (fun i => by have := feN_le (l.take i) 0; rw [List.length_take] at this; omega)
  have HEnd : Hid (l.take l.length = l) := Lib.hid (List.take_length)
  have HO0 : Hid (ON .i64 3 (w.alloc (.cells #[] 3)) w.heap.size (.slice (some ⟨w.heap.size, 0, none⟩) 0 0) []) := Lib.hid (ON.empty (Nat.le_refl _) (heap_new rfl))
  clear h3
  generalize l.length = n at *
  go_enter Try.func30, Try.ntmps30
  go_wp2_with fail
  go_loopg [3, 4] n (fun kk ov iv wr => ∃ (i : Nat), kk = n - i ∧ i ≤ n ∧ iv = .int .i64 (i : Int) ∧ AnyLater w wr ∧ ON .i64 3 wr w.heap.size ov (feN 0 (l.take i)))
  case atStart => exact ⟨0, by omega, by omega, rfl, by repeat' (first | with_reducible assumption | with_reducible exact AnyLater.refl _ | with_reducible apply AnyLater.setCell | with_reducible apply AnyLater.later | with_reducible apply AnyLater.drewN | with_reducible apply AnyLater.drew | with_reducible apply AnyLater.alloc | ((try simp only [World.size_alloc, World.size_setCell, World.size_drew]); (try dsimp only); omega)), HO0.out⟩
  case round =>
    obtain ⟨i, hk, hi, rfl, a_wr, ho⟩ := hrel
    have HO := Lib.hid ho
    have HA := Lib.hid a_wr
    obtain ⟨A4, cap4, rfl, -⟩ := ho.form
    by_cases hlt : i < n
    · have d0 : (i : Int) < (n : Int) := by omega
      obtain ⟨b, off, rfl, hbb, hcc⟩ := HCC.out i hlt
      have c0 : wr.cell? ⟨b, off + i, none⟩ = some (.int .u8 (l.getD i 0)) := (a_wr.below.cell hbb).trans hcc
      have hsn := HSn.out i hlt
      generalize l.getD i 0 = c at *
      by_cases h10 : c = 10
      · subst h10
        rw [if_pos rfl] at hsn
        obtain ⟨u, wx, k1, k2, k3⟩ := appI (i : Int) ho a_wr.below.size (by have := HFl.out i; omega)
        have K1 := Lib.hid k1
        have K2 : Hid (AnyLater w wx ∧ ON .i64 3 wx w.heap.size u (feN 0 (l.take (i + 1)))) := Lib.hid ⟨k3 w (Nat.le_refl _) a_wr, by rw [hsn]; exact k2⟩
        clear k1 k2 k3 ho hsn a_wr
        generalize (feN 0 (l.take i)).length = m at *
        go_wp2_with (at_builtin; refine Lib.wpList_append_run _ rfl _ _ _ _ rfl _ _ rfl rfl _ _ K1.out ?_)
        go_roundg (n - (i + 1))
        case measure => omega
        case rel => exact ⟨i + 1, rfl, hlt, by go_num, K2.out.1, K2.out.2⟩
      · have hc2 : (c == 10) = false := by simpa using h10
        rw [if_neg h10, List.append_nil] at hsn
        have K2 : Hid (ON .i64 3 wr w.heap.size (.slice A4 (feN 0 (l.take i)).length cap4) (feN 0 (l.take (i + 1)))) := Lib.hid (by rw [hsn]; exact ho)
        clear ho h10 hsn a_wr
        generalize (feN 0 (l.take i)).length = m at *
        go_wp2_with fail
        go_roundg (n - (i + 1))
        case measure => omega
        case rel => exact ⟨i + 1, rfl, hlt, by go_num, HA.out, K2.out⟩
    · obtain rfl : i = n := by omega
      have HO2 : Hid (ON .i64 3 wr w.heap.size (.slice A4 (feN 0 (l.take i)).length cap4) (feN 0 l)) := Lib.hid (by have := HO.out; rw [HEnd.out] at this ⊢; exact this)
      clear ho a_wr hlt hk HO
      generalize (feN 0 (l.take i)).length = m at *
      go_wp2_with fail
      go_ret
      exact ⟨_, rfl, HA.out, HO2.out⟩
end Go.Proofs.Ytiicaldnegcdiaa
