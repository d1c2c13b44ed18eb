/- runs: the document's Styles, Of and Insert by contract. -/
import Derived.Test.YtimplngemjdodaaDoorRunC
import Derived.Lib.AppendZeros
namespace Go.Proofs.YtimplngemjdodaaDoor
set_option linter.unusedSimpArgs false
set_option linter.unusedVariables false
set_option linter.unusedSectionVars false
open Go.RowKit

abbrev OI (w : World) (B : Nat) (v : Value) (l : List Int) : Prop := ON .i64 3 w B v l
/-- a call that answers with numbers in memory of its own -/
def RowI (W : World) (l : List Int) (e : Ending) (w' : World) : Prop := ∃ v, e = .returned v ∧ AnyLater W w' ∧ OI w' W.heap.size v l
theorem own_int0 (w : World) : OI (w.alloc (.cells #[] 3)) w.heap.size (.slice (some ⟨w.heap.size, 0, none⟩) 0 0) [] := ON.empty (Nat.le_refl _) (heap_new rfl)

/-! ### Styles -/
set_option maxRecDepth 100000 in
set_option maxHeartbeats 3200000 in
theorem styles_some (b off n cap : Nat) (l : Runs) (w : World) (hl : l.length = n) (hn : n ≤ 100000) (hN : NumsR l) (h4 : (stylesR l).length ≤ 4000) (hb : b < w.heap.size) (hc : ∀ (j : Nat) (h : j < l.length), w.cell? ⟨b, off + j * 2, none⟩ = some (.int .i64 l[j].1) ∧ w.cell? ⟨b, off + j * 2 + 1, none⟩ = some (.int .i64 l[j].2)) :
    Calls Tryd.prog 13 #[.slice (some ⟨b, off, none⟩) n cap] w (RowI w (stylesR l)) := by
  have HL := Lib.hid hl
  have HC := Lib.hid hc
  have HNN := Lib.hid hN
  have H4 := Lib.hid h4
  clear hl hc hN h4
  go_enter Tryd.func13, Tryd.ntmps13
  go_wp2_with fail
  go_loopg [3, 4] n (fun k v i wr => ∃ j : Nat, k = n - j ∧ j ≤ n ∧ i = .int .i64 j ∧ AnyLater w wr ∧ OI wr w.heap.size v (stylesR (l.take j)))
  case atStart => exact ⟨0, by omega, by omega, rfl, (AnyLater.refl w).alloc _, own_int0 w⟩
  case round =>
    obtain ⟨j, hk, hj, rfl, ha, ho⟩ := hrel
    have HA := Lib.hid (And.intro ha ho)
    by_cases hlt : j < n
    · have lj : j < l.length := by rw [HL.out]; exact hlt
      have hbr : b < wr.heap.size := Nat.lt_of_lt_of_le hb ha.below.size
      have c0 : wr.cell? ⟨b, off + j * 2, none⟩ = some (.int .i64 l[j].1) := (ha.below.cell hb).trans (HC.out j lj).1
      have c1 : wr.cell? ⟨b, off + j * 2 + 1, none⟩ = some (.int .i64 l[j].2) := (ha.below.cell hb).trans (HC.out j lj).2
      have HCC := Lib.hid (HC.out j lj)
      have HS := Lib.hid (styles_take lj)
      have HM := Lib.hid (styles_le l (j + 1))
      have hx := HNN.out l[j] (List.getElem_mem lj)
      have HO : Hid (((oneR l[j]).length : Int) = if fairR l[j] then l[j].1 else 0) := Lib.hid oneR_length
      have HRE : Hid (fairR l[j] = true → oneR l[j] = List.replicate l[j].1.toNat l[j].2) := Lib.hid (fun h => by unfold oneR; rw [if_pos h])
      generalize l[j] = x at *
      obtain ⟨f, s⟩ := x
      simp only at c0 c1 hx HO HCC HRE
      obtain ⟨m, hm⟩ : ∃ m, (oneR (f, s)).length = m := ⟨_, rfl⟩
      obtain ⟨D, hD⟩ : ∃ D, stylesR (l.take j) = D := ⟨_, rfl⟩
      have hm4 : D.length + m ≤ 4000 := by
        have h1 := HM.out
        rw [HS.out, List.length_append, hD, hm] at h1
        have := H4.out
        omega
      have HREP : Hid (oneR (f, s) = List.replicate m s) := Lib.hid (by
        cases hf : fairR (f, s) with
        | true => rw [HRE.out hf] at hm ⊢; rw [List.length_replicate] at hm; rw [hm]
        | false => have h0 : oneR (f, s) = [] := by unfold oneR; rw [hf]; rfl
                   rw [h0] at hm ⊢; subst hm; rfl)
      rw [hm] at HO
      have HD := Lib.hid hD
      obtain ⟨fb, hfb⟩ : ∃ c, fairR (f, s) = c := ⟨_, rfl⟩
      have HF := Lib.hid (fun w => fair_any f s w fb hfb hx.1 hx.2)
      rw [hfb] at HO
      have hfm : fb = true → (m : Int) = f ∧ 1 ≤ f := fun h => by
        have := HO.out
        rw [h] at this
        exact ⟨this, (fairR_in (hfb.trans h)).1⟩
      have hfz : fb = false → m = 0 := fun h => by
        have := HO.out
        rw [h] at this
        simpa using this
      have HFM := Lib.hid hfm
      have HFZ := Lib.hid hfz
      rw [hD] at ho HA
      have HST := Lib.hid (And.intro hx.1 hx.2)
      clear hx hm hD HO HRE hfb hfm hfz HM
      go_wp2_with fail
      go_loopg [3, 5] m (fun k v i wr2 => ∃ q : Nat, k = m - q ∧ q ≤ m ∧ i = .int .i64 q ∧ AnyLater w wr2 ∧ OI wr2 w.heap.size v (D ++ List.replicate q s))
      case atStart => exact ⟨0, by omega, by omega, rfl, HA.out.1, by simpa using HA.out.2⟩
      case round =>
        obtain ⟨q, hkq, hq, rfl, h2, h3⟩ := hrel
        have HB := Lib.hid (And.intro h2 h3)
        have hbq : b < wr.heap.size := Nat.lt_of_lt_of_le hb h2.below.size
        have d0 : wr.cell? ⟨b, off + j * 2, none⟩ = some (.int .i64 f) := (h2.below.cell hb).trans HCC.out.1
        have d1 : wr.cell? ⟨b, off + j * 2 + 1, none⟩ = some (.int .i64 s) := (h2.below.cell hb).trans HCC.out.2
        clear c0 c1 ho
        by_cases hqf : (q : Int) < f
        · cases hfb : fb with
          | false =>
            have hq0 : m = 0 := HFZ.out hfb
            subst hfb
            have hq0' : q = 0 := by omega
            have HE : Hid (stylesR (l.take (j + 1)) = D ++ List.replicate q s) := Lib.hid (by rw [HS.out, HD.out, HREP.out, hq0, hq0'])
            go_wp2_with (go_at_call 23; refine (HF.out _).mono ?_; rintro e w3 ⟨rfl, b3⟩; have HB3 := Lib.hid (And.intro (HB.out.1.trans b3) (HB.out.2.later b3)); clear b3)
            go_roundg (n - (j + 1))
            case measure => omega
            case rel => exact ⟨j + 1, rfl, hlt, by go_num, HB3.out.1, by rw [HE.out]; exact HB3.out.2⟩
          | true =>
            obtain ⟨hfm1, hfm2⟩ := HFM.out hfb
            subst hfb
            have q4 : (q : Int) < 4000 := by omega
            have hlen : (D ++ List.replicate q s).length ≤ 90000 := by rw [List.length_append, List.length_replicate]; omega
            have HE : Hid (D ++ List.replicate q s ++ [s] = D ++ List.replicate (q + 1) s) := Lib.hid (by rw [List.append_assoc, List.replicate_succ'])
            go_wp2_with fail
            refine (HF.out _).mono ?_
            rintro e w3 ⟨rfl, b3⟩
            have e1 : w3.cell? ⟨b, off + j * 2 + 1, none⟩ = some (.int .i64 s) := (b3.below.cell hbq).trans d1
            have HB3 := Lib.hid (And.intro (HB.out.1.trans b3) (HB.out.2.later b3))
            obtain ⟨v4, w4, k1, k2, k3⟩ := appI s HB3.out.2 HB3.out.1.below.size hlen
            have K1 := Lib.hid k1
            have HB4 := Lib.hid (And.intro (k3 w (Nat.le_refl _) HB3.out.1) k2)
            clear b3 k1 k2 k3 h3
            go_wp2_with (at_builtin; refine Lib.wpList_append_run _ rfl _ _ _ _ rfl _ _ rfl rfl _ _ K1.out ?_)
            go_roundg (m - (q + 1))
            case measure => omega
            case rel => exact ⟨q + 1, rfl, by omega, by go_num, HB4.out.1, by rw [← HE.out]; exact HB4.out.2⟩
        · have dq : decide ((q : Int) < f) = false := decide_eq_false hqf
          have HE : Hid (stylesR (l.take (j + 1)) = D ++ List.replicate q s) := Lib.hid (by
            rw [HS.out, HD.out, HREP.out]
            cases hfb : fb with
            | true => have := (HFM.out hfb).1; rw [show m = q by omega]
            | false => have := HFZ.out hfb; rw [show m = q by omega])
          go_wp2_with fail
          go_roundg (n - (j + 1))
          case measure => omega
          case rel => exact ⟨j + 1, rfl, hlt, by go_num, HB.out.1, by rw [HE.out]; exact HB.out.2⟩
    · obtain rfl : j = n := by omega
      clear ha ho
      go_wp2_with fail
      go_ret
      exact ⟨_, rfl, HA.out.1, by have := HA.out.2; rwa [List.take_of_length_le (Nat.le_of_eq HL.out)] at this⟩
theorem styles_none (A : Option Addr) (cap : Nat) (w : World) : Calls Tryd.prog 13 #[.slice A 0 cap] w (RowI w []) := by
  have H := Lib.hid (own_int0 w)
  go_enter Tryd.func13, Tryd.ntmps13
  go_wp2_with fail
  refine wp_loop_rounds 1 ?_
  rw [rounds_succ]
  go_wp2_with fail
  go_ret
  exact ⟨_, rfl, by repeat' (first | with_reducible assumption | with_reducible exact AnyLater.refl _ | with_reducible apply AnyLater.setCell | with_reducible apply AnyLater.later | with_reducible apply AnyLater.drewN | with_reducible apply AnyLater.drew | with_reducible apply AnyLater.alloc | ((try simp only [World.size_alloc, World.size_setCell, World.size_drew]); (try dsimp only); omega)), H.out⟩
/-- Styles of any few runs -/
theorem styles_any (v : Value) (l : Runs) (w : World) (h : RRn w v l) (hN : NumsR l) (hn : l.length ≤ 100000) (h4 : (stylesR l).length ≤ 4000) : Calls Tryd.prog 13 #[v] w (RowI w (stylesR l)) := by
  obtain ⟨A, cap, rfl, h2, h3⟩ := h
  rcases Nat.eq_zero_or_pos l.length with h0 | h0
  · obtain rfl := List.eq_nil_of_length_eq_zero h0
    exact styles_none A cap w
  · obtain ⟨b, off, rfl, hb, hc⟩ := h3 h0
    exact styles_some b off _ cap l w rfl hn hN h4 hb hc

/-! ### Of -/
theorem flatN_set0 : ∀ (l : Runs) (j : Nat) (t : Int), (flatN l).set (j * 2) (.int .i64 t) = flatN (l.modify j fun b => (t, b.2))
  | [], j, t => by simp [flatN_nil]
  | b :: l, 0, t => rfl
  | b :: l, j + 1, t => by
    rw [flatN_cons, show (j + 1) * 2 = j * 2 + 1 + 1 by omega, List.set_cons_succ, List.set_cons_succ, flatN_set0 l j t, List.modify_succ_cons, flatN_cons]
theorem ofR_le : ∀ (l : List Int), ∀ r ∈ ofR l, 1 ≤ r.1 ∧ r.1 ≤ l.length
  | [], r, hr => by cases hr
  | s :: l, r, hr => by
    have ih := ofR_le l
    change r ∈ consR s (ofR l) at hr
    rw [List.length_cons]
    cases hl : ofR l with
    | nil =>
      rw [hl, consR_nil] at hr
      cases List.mem_singleton.1 hr
      exact ⟨by omega, by omega⟩
    | cons y q =>
      rw [hl] at hr ih
      obtain ⟨k, u⟩ := y
      have hy := ih (k, u) List.mem_cons_self
      simp only at hy
      rw [consR_cons] at hr
      split at hr
      · rcases List.mem_cons.1 hr with rfl | hr
        · exact ⟨by simp only; omega, by simp only; omega⟩
        · have := ih r (List.mem_cons_of_mem _ hr); exact ⟨this.1, by omega⟩
      · rcases List.mem_cons.1 hr with rfl | hr
        · exact ⟨by simp only; omega, by simp only; omega⟩
        · have := ih r hr; exact ⟨this.1, by omega⟩
theorem modify_last_id {l : Runs} {m : Nat} {t s : Int} (h : l[m]? = some (t, s)) (f : Int × Int → Int × Int) (g : Int × Int → Int × Int) (hfg : f (t, s) = g (t, s)) : l.modify m f = l.modify m g := by
  apply List.ext_getElem?
  intro i
  rw [List.getElem?_modify, List.getElem?_modify]
  by_cases e : m = i
  · subst e; rw [h]; simp [hfg]
  · simp [e]
theorem rown_store {w : World} {B : Nat} {e : TypeId} {size n cap g i : Nat} {xs : List Value} {x : Value} (o : w.ownsRow B e size (.slice (some ⟨g, 0, none⟩) n cap) n xs) (hi : i < xs.length) : (w.setCell ⟨g, i, none⟩ x).ownsRow B e size (.slice (some ⟨g, 0, none⟩) n cap) n (xs.set i x) := by
  refine ⟨by rw [List.length_set]; exact o.1, ?_⟩
  rcases o.2 with ⟨h1, _⟩ | ⟨g', cap', cur, h1, h2, h3, h4, h5, h6, h7⟩
  · cases h1
  · obtain ⟨rfl, rfl⟩ : g' = g ∧ cap' = cap := by cases h1; exact ⟨rfl, rfl⟩
    refine .inr ⟨g', cap', cur.setIfInBounds i x, rfl, h2, heap_at h3 rfl, h4, h5, by simpa using h6, ?_⟩
    rw [Array.toList_setIfInBounds, List.take_set, h7]
/-- the last of a row of the call's own runs: where it lies, and that it may grow -/
theorem ORn.last {w : World} {B m : Nat} {v : Value} {l : Runs} (o : ORn w B v l) (hn : l.length = m + 1) :
    ∃ g cap t, v = .slice (some ⟨g, 0, none⟩) (m + 1) cap ∧ B ≤ g ∧ g < w.heap.size ∧ w.cell? ⟨g, m * 2, none⟩ = some (.int .i64 t) ∧ (∃ s, l[m]? = some (t, s)) ∧ w.frozen? ⟨g, m * 2, none⟩ = false ∧
    ∀ x : Int, ORn (w.setCell ⟨g, m * 2, none⟩ (.int .i64 x)) B (.slice (some ⟨g, 0, none⟩) (m + 1) cap) (l.modify m fun b => (x, b.2)) := by
  have o' := o
  rcases o.2 with ⟨_, h0⟩ | ⟨g, cap, cur, rfl, h2, h3, h4, h5, h6, h7⟩
  · omega
  · rw [hn] at h4 h7
    have hm : m < l.length := by omega
    have e : cur[m * 2]? = (flatN l)[m * 2]? := by
      have : (cur.toList.take ((m + 1) * 2))[m * 2]? = (flatN l)[m * 2]? := by rw [h7]
      rw [List.getElem?_take_of_lt (by omega)] at this
      simpa using this
    refine ⟨g, cap, l[m].1, by rw [hn], h2, own_lt h3, by rw [own_row h3, e, flatN_0, List.getElem?_eq_getElem hm]; rfl, ⟨l[m].2, by rw [List.getElem?_eq_getElem hm]⟩, own_free h3 _, fun x => ?_⟩
    unfold ORn at o'
    rw [hn] at o'
    have o2 := rown_store (x := .int .i64 x) (i := m * 2) o' (by rw [flatN_length]; omega)
    unfold ORn
    rw [List.length_modify, hn, ← flatN_set0]
    exact o2
theorem take_two {l : List Int} {j : Nat} (h : j + 1 < l.length) : l.take (j + 1) = l.take j ++ [l[j]] ∧ l.take (j + 1 + 1) = l.take j ++ [l[j], l[j + 1]] := by
  refine ⟨List.take_succ_eq_append_getElem (by omega), ?_⟩
  rw [List.take_succ_eq_append_getElem h, List.take_succ_eq_append_getElem (by omega), List.append_assoc]
  rfl
end Go.Proofs.YtimplngemjdodaaDoor
