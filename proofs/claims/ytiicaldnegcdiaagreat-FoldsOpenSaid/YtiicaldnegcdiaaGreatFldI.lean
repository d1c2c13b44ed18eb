/- folds: the document's Hidden and Opens by contract. -/
import Derived.Test.YtiicaldnegcdiaaGreatFldC
import Derived.Test.YtiicaldnegcdiaaGreatTxtQ
import Derived.BigQuiet
namespace Go.Proofs.YtiicaldnegcdiaaGreat
set_option linter.unusedSimpArgs false
set_option linter.unusedVariables false
set_option linter.unusedSectionVars false
open Go.RowKit

/-- the line feeds of bytes are as they should be -/
theorem fe_len (b : List Int) : (feN 0 b).length ≤ b.length := feN_le b 0
set_option maxRecDepth 100000 in
set_option maxHeartbeats 1600000 in
theorem xhidden_any (v vb : Value) (l : Qs) (b : List Int) (y : Int) (c : Bool) (w : World) (hc : hidL (feN 0 b) b.length y l = c) (hv : QR w v l) (hl : l.length ≤ 60000) (hb : RN .u8 w vb b) (hbl : b.length ≤ 60000) :
    Calls Tryz.prog 9 #[v, vb, .int .i64 y] w fun e w' => e = .returned (.bool c) ∧ AnyLater w w' := by
  have HLn := Lib.hid (fun (w' : World) (x : Int) (k : Nat) (a : AnyLater w w') (hk : below x (feN 0 b) = k) (hx : 0 ≤ x ∧ x ≤ b.length) => xline_any vb b x k w' hk hx (hb.later a) hbl)
  have HFl : Hid (∀ x, below x (feN 0 b) ≤ 60000) := Lib.hid (fun x => by have := below_le (feN 0 b) x; have := fe_len b; omega)
  obtain ⟨A, cap, rfl, h2, h3⟩ := hv
  have HCC : Hid (∀ (j : Nat) (h : j < l.length), ∃ b off, A = some ⟨b, off, none⟩ ∧ b < w.heap.size ∧ w.cell? ⟨b, off + j * 2, none⟩ = some (.int .i64 l[j].1) ∧ w.cell? ⟨b, off + j * 2 + 1, none⟩ = some (.int .i64 l[j].2)) := Lib.hid (fun j hj => by
    obtain ⟨b, off, e, hb, hc⟩ := h3 (by omega)
    exact ⟨b, off, e, hb, hc j hj⟩)
  have HK := Lib.hid hc
  have HTk : Hid (∀ (j : Nat) (h : j < l.length), hidL (feN 0 b) b.length y (l.take (j + 1)) = (hidL (feN 0 b) b.length y (l.take j) || hid1 (feN 0 b) b.length y l[j])) := Lib.hid (fun j h => by
    unfold hidL
    rw [List.take_succ_eq_append_getElem h, List.any_append]
    simp)
  have HOne : Hid (∀ (j : Nat) (h : j < l.length), hid1 (feN 0 b) b.length y l[j] = true → true = c) := Lib.hid (fun j h q => by
    rw [← hc]
    exact (List.any_eq_true.2 ⟨_, List.getElem_mem h, q⟩).symm)
  have HEnd : Hid (hidL (feN 0 b) b.length y (l.take l.length) = c) := Lib.hid (by rw [List.take_length]; exact hc)
  obtain ⟨Ab, capb, rfl, -⟩ := hb.form
  obtain ⟨m, hm⟩ : ∃ m, l.length = m := ⟨_, rfl⟩
  have HN := Lib.hid hm
  rw [hm] at h2 hl HEnd ⊢
  clear h3 hc hm hb
  obtain ⟨F, hF⟩ : ∃ F, feN 0 b = F := ⟨_, rfl⟩
  rw [hF] at HLn HFl HK HTk HOne HEnd
  clear hF
  generalize b.length = n at *
  go_enter Tryz.func9, Tryz.ntmps9
  go_wp2_with fail
  go_loopg [7] m (fun k i wr => ∃ j : Nat, k = m - j ∧ j ≤ m ∧ i = .int .i64 (j : Int) ∧ AnyLater w wr ∧ hidL F n y (l.take j) = false)
  case atStart => exact ⟨0, by omega, by omega, rfl, AnyLater.refl _, by rw [List.take_zero]; rfl⟩
  case round =>
    obtain ⟨j, hk, hj, rfl, a_wr, hg⟩ := hrel
    have HG := Lib.hid hg
    clear hg
    by_cases hlt : j < m
    · have lj : j < l.length := by rw [HN.out]; exact hlt
      have i0 : (j : Int) < (m : Int) := by omega
      obtain ⟨b, off, rfl, hb, k0, k1⟩ := HCC.out j lj
      have c0 : wr.cell? ⟨b, off + j * 2, none⟩ = some (.int .i64 l[j].1) := (a_wr.below.cell hb).trans k0
      have c1 : wr.cell? ⟨b, off + j * 2 + 1, none⟩ = some (.int .i64 l[j].2) := (a_wr.below.cell hb).trans k1
      have l1 : b < wr.heap.size := Nat.lt_of_lt_of_le hb a_wr.below.size
      have HT : Hid (hidL F n y (l.take (j + 1)) = hid1 F n y l[j]) := Lib.hid (by rw [HTk.out j lj, HG.out, Bool.false_or])
      have HO := Lib.hid (HOne.out j lj)
      clear k0 k1
      generalize l[j] = x at *
      obtain ⟨f, t⟩ := x
      simp only at c0 c1
      by_cases h1 : f < 0
      · have HB : Hid (hidL F n y (l.take (j + 1)) = false) := Lib.hid (by rw [HT.out]; exact decide_eq_false (fun q => by have := q.1; simp only at this; omega))
        go_wp2_with fail
        go_roundg (m - (j + 1))
        case measure => omega
        case rel => exact ⟨j + 1, rfl, hlt, by go_num, a_wr, HB.out⟩
      · have d1 : decide (f < 0) = false := decide_eq_false h1
        by_cases h2 : (n : Int) < f
        · have HB : Hid (hidL F n y (l.take (j + 1)) = false) := Lib.hid (by rw [HT.out]; exact decide_eq_false (fun q => by have := q.2.1; simp only at this; omega))
          go_wp2_with fail
          go_roundg (m - (j + 1))
          case measure => omega
          case rel => exact ⟨j + 1, rfl, hlt, by go_num, a_wr, HB.out⟩
        · have d2 : decide ((n : Int) < f) = false := decide_eq_false h2
          by_cases h3 : t < 0
          · have HB : Hid (hidL F n y (l.take (j + 1)) = false) := Lib.hid (by rw [HT.out]; exact decide_eq_false (fun q => by have := q.2.2.1; simp only at this; omega))
            go_wp2_with fail
            go_roundg (m - (j + 1))
            case measure => omega
            case rel => exact ⟨j + 1, rfl, hlt, by go_num, a_wr, HB.out⟩
          · have d3 : decide (t < 0) = false := decide_eq_false h3
            by_cases h4 : (n : Int) < t
            · have HB : Hid (hidL F n y (l.take (j + 1)) = false) := Lib.hid (by rw [HT.out]; exact decide_eq_false (fun q => by have := q.2.2.2.1; simp only at this; omega))
              go_wp2_with fail
              go_roundg (m - (j + 1))
              case measure => omega
              case rel => exact ⟨j + 1, rfl, hlt, by go_num, a_wr, HB.out⟩
            · have d4 : decide ((n : Int) < t) = false := decide_eq_false h4
              obtain ⟨k1, hk1⟩ : ∃ k, below f F = k := ⟨_, rfl⟩
              obtain ⟨k2, hk2⟩ : ∃ k, below t F = k := ⟨_, rfl⟩
              have HL1 := Lib.hid (fun w' a => HLn.out w' f k1 a hk1 ⟨by omega, by omega⟩)
              have HL2 := Lib.hid (fun w' a => HLn.out w' t k2 a hk2 ⟨by omega, by omega⟩)
              have HQ : Hid (hid1 F n y (f, t) = decide ((k1 : Int) < y ∧ y ≤ (k2 : Int))) := Lib.hid (by
                unfold hid1
                rw [decide_eq_decide]
                simp only [hk1, hk2]
                omega)
              have p1 : k1 ≤ 60000 := by rw [← hk1]; exact HFl.out f
              have p2 : k2 ≤ 60000 := by rw [← hk2]; exact HFl.out t
              clear hk1 hk2 h1 h2 h3 h4
              by_cases h5 : (k1 : Int) < y
              · by_cases h6 : y ≤ (k2 : Int)
                · have HB := Lib.hid (HO.out (by rw [HQ.out]; exact decide_eq_true ⟨h5, h6⟩))
                  go_wp2_with fail
                  refine (HL1.out _ a_wr).mono ?_
                  rintro e w1 ⟨rfl, b_w1⟩
                  have a_w1 := a_wr.trans b_w1
                  have c1 := cell_on b_w1 c1
                  go_wp2_with fail
                  refine (HL2.out _ a_w1).mono ?_
                  rintro e w2 ⟨rfl, b_w2⟩
                  have HZ := Lib.hid (a_w1.trans b_w2)
                  go_wp2_with fail
                  go_ret
                  exact ⟨ret_bool HB.out, HZ.out⟩
                · have HB : Hid (hidL F n y (l.take (j + 1)) = false) := Lib.hid (by rw [HT.out, HQ.out]; exact decide_eq_false (fun q => h6 q.2))
                  have d6 : decide (y ≤ (k2 : Int)) = false := decide_eq_false h6
                  go_wp2_with fail
                  refine (HL1.out _ a_wr).mono ?_
                  rintro e w1 ⟨rfl, b_w1⟩
                  have a_w1 := a_wr.trans b_w1
                  have c1 := cell_on b_w1 c1
                  go_wp2_with fail
                  refine (HL2.out _ a_w1).mono ?_
                  rintro e w2 ⟨rfl, b_w2⟩
                  have HZ := Lib.hid (a_w1.trans b_w2)
                  go_wp2_with fail
                  go_roundg (m - (j + 1))
                  case measure => omega
                  case rel => exact ⟨j + 1, rfl, hlt, by go_num, HZ.out, HB.out⟩
              · have HB : Hid (hidL F n y (l.take (j + 1)) = false) := Lib.hid (by rw [HT.out, HQ.out]; exact decide_eq_false (fun q => h5 q.1))
                have d5 : decide ((k1 : Int) < y) = false := decide_eq_false h5
                go_wp2_with fail
                refine (HL1.out _ a_wr).mono ?_
                rintro e w1 ⟨rfl, b_w1⟩
                have HZ := Lib.hid (a_wr.trans b_w1)
                go_wp2_with fail
                go_roundg (m - (j + 1))
                case measure => omega
                case rel => exact ⟨j + 1, rfl, hlt, by go_num, HZ.out, HB.out⟩
    · obtain rfl : j = m := by omega
      have HB : Hid (false = c) := Lib.hid (HG.out.symm.trans HEnd.out)
      have d0 : decide ((j : Int) < (j : Int)) = false := by simp
      go_wp2_with fail
      go_ret
      exact ⟨ret_bool HB.out, a_wr⟩

/-! ### Opens -/
set_option maxRecDepth 100000 in
/-- v[j:j+1] -/
theorem QR.oneQ {t s : TypeId} (T : PairT t s) {w : World} {v : Value} {l : Qs} (h : QR w v l) (j : Nat) (hj : j < l.length) : ∃ A cap, QR w (.slice A 1 cap) [l[j]] ∧ ∀ w', (Instr.sliceAt s v (some (.int .i64 (j : Int))) (some (.int .i64 ((j : Int) + 1))) none).run Tryz.prog w' = .ok (.slice A 1 cap) w' := by
  obtain ⟨A, cap, rfl, h3, h4⟩ := h
  obtain ⟨b, off, rfl, hb, hc⟩ := h4 (by omega)
  refine ⟨some ⟨b, off + j * 2, none⟩, cap - j, ⟨_, _, rfl, by simp; omega, fun _ => ⟨b, off + j * 2, rfl, hb, fun i hi => ?_⟩⟩, fun w' => ?_⟩
  · obtain rfl : i = 0 := by simp at hi; omega
    have := hc j hj
    simpa using this
  · rw [run_sliceAt_slice w' _ _ _ _ _ T.und', run_slice_lh w' _ (some ⟨b, off, none⟩) l.length cap T.und' .i64 .i64 (j : Int) ((j : Int) + 1) (by omega) (by omega) (by omega)]
    rw [T.size]
    have e1 : ((j : Int) + 1).toNat = j + 1 := by omega
    simp only [Result.andThen, sliced, Int.toNat_natCast, e1]
    rw [if_neg (by omega), Option.map_some, qaddr_add, show j + 1 - j = 1 by omega]
set_option maxRecDepth 100000 in
set_option maxHeartbeats 1600000 in
theorem xopens_any (v vb : Value) (l : Qs) (b : List Int) (y : Int) (M : Qs) (w : World) (hM : (l.filter fun s => !hid1 (feN 0 b) b.length y s) = M) (hv : QR w v l) (hl : l.length ≤ 60000) (hb : RN .u8 w vb b) (hbl : b.length ≤ 60000) :
    Calls Tryz.prog 22 #[v, vb, .int .i64 y] w (RowS w M) := by
  obtain ⟨p, hp⟩ : ∃ p : Int × Int → Bool, hid1 (feN 0 b) b.length y = p := ⟨_, rfl⟩
  have HX : Hid (∀ (w' : World) (u : Value) (s : Int × Int) (c : Bool), AnyLater w w' → QR w' u [s] → p s = c → Calls Tryz.prog 9 #[u, vb, .int .i64 y] w' fun e w'' => e = .returned (.bool c) ∧ AnyLater w' w'') :=
    Lib.hid (fun w' u s c a hu hs => xhidden_any u vb [s] b y c w' (by unfold hidL; rw [hp]; simpa using hs) hu (by simp) (hb.later a) hbl)
  rw [hp] at hM
  obtain ⟨A, cap, rfl, h2, h3⟩ := hv
  have HCC : Hid (∀ (j : Nat) (h : j < l.length), ∃ b off, A = some ⟨b, off, none⟩ ∧ b < w.heap.size ∧ w.cell? ⟨b, off + j * 2, none⟩ = some (.int .i64 l[j].1) ∧ w.cell? ⟨b, off + j * 2 + 1, none⟩ = some (.int .i64 l[j].2)) := Lib.hid (fun j hj => by
    obtain ⟨b, off, e, hb, hc⟩ := h3 (by omega)
    exact ⟨b, off, e, hb, hc j hj⟩)
  have HT : Hid (∀ (j : Nat) (h : j < l.length), ((l.take (j + 1)).filter fun s => !p s) = ((l.take j).filter fun s => !p s) ++ (if p l[j] = true then [] else [l[j]])) := Lib.hid (fun j h => by
    rw [List.take_succ_eq_append_getElem h, List.filter_append]
    congr 1
    cases hq : p l[j] <;> simp [hq])
  have HEnd : Hid (((l.take l.length).filter fun s => !p s) = M) := Lib.hid (by rw [List.take_length]; exact hM)
  have HLe : Hid (∀ j, ((l.take j).filter fun s => !p s).length ≤ 60000) := Lib.hid (fun j => Nat.le_trans (List.length_filter_le _ _) (by rw [List.length_take]; omega))
  obtain ⟨Ab, capb, rfl, -⟩ := hb.form
  have hvm : ∀ m, l.length = m → QR w (.slice A m cap) l := fun m e => by subst e; exact ⟨A, cap, rfl, h2, h3⟩
  obtain ⟨m, hm⟩ : ∃ m, l.length = m := ⟨_, rfl⟩
  have HN := Lib.hid hm
  have HMid := Lib.hid (fun (j : Nat) (h : j < l.length) => QR.oneQ pairSpan (hvm m hm) j h)
  have HE0 : Hid (OQ 55 (w.alloc (.cells #[] 55)) w.heap.size (.slice (some ⟨w.heap.size, 0, none⟩) 0 0) [] ∧ AnyLater w (w.alloc (.cells #[] 55))) := Lib.hid ⟨OQ.empty (Nat.le_refl _) (heap_new rfl), (AnyLater.refl w).alloc _⟩
  rw [hm] at h2 hl HEnd ⊢
  clear h3 hm hb hM hp hbl hvm
  generalize b.length = n at *
  go_enter Tryz.func22, Tryz.ntmps22
  go_wp2_with fail
  go_loopg [7, 8] m (fun k ov i wr => ∃ j : Nat, k = m - j ∧ j ≤ m ∧ i = .int .i64 (j : Int) ∧ AnyLater w wr ∧ OQ 55 wr w.heap.size ov ((l.take j).filter fun s => !p s))
  case atStart => exact ⟨0, by omega, by omega, rfl, HE0.out.2, HE0.out.1⟩
  case round =>
    obtain ⟨j, hk, hj, rfl, a_wr, ho⟩ := hrel
    have HO := Lib.hid ho
    obtain ⟨A4, cap4, rfl, -⟩ := ho.form
    clear ho
    by_cases hlt : j < m
    · have lj : j < l.length := by rw [HN.out]; exact hlt
      have i0 : (j : Int) < (m : Int) := by omega
      obtain ⟨A1, cap1, p1, hs⟩ := HMid.out j lj
      have HP1 := Lib.hid (p1.later a_wr)
      obtain ⟨b, off, rfl, hb, k0, k1⟩ := HCC.out j lj
      have c0 : wr.cell? ⟨b, off + j * 2, none⟩ = some (.int .i64 l[j].1) := (a_wr.below.cell hb).trans k0
      have c1 : wr.cell? ⟨b, off + j * 2 + 1, none⟩ = some (.int .i64 l[j].2) := (a_wr.below.cell hb).trans k1
      have HTj := Lib.hid (HT.out j lj)
      have HLj := Lib.hid (HLe.out j)
      have HXj := Lib.hid (fun c (hq : p l[j] = c) => HX.out wr (.slice A1 1 cap1) l[j] c a_wr HP1.out hq)
      clear k0 k1 p1
      generalize l[j] = x at *
      obtain ⟨f, t⟩ := x
      simp only at c0 c1
      generalize hnl : ((l.take j).filter fun s => !p s).length = nl at *
      have HNl := Lib.hid hnl
      clear hnl
      cases hq : p (f, t) with
      | true =>
        have HC := Lib.hid (HXj.out true hq)
        have HB : Hid (((l.take (j + 1)).filter fun s => !p s) = ((l.take j).filter fun s => !p s)) := Lib.hid (by rw [HTj.out, if_pos hq, List.append_nil])
        clear hq
        go_wp2_with fail
        refine HC.out.mono ?_
        rintro e w1 ⟨rfl, b_w1⟩
        have HZ := Lib.hid (And.intro (a_wr.trans b_w1) (OQ.later b_w1 HO.out))
        clear b_w1
        go_wp2_with fail
        go_roundg (m - (j + 1))
        case measure => omega
        case rel => exact ⟨j + 1, rfl, hlt, by go_num, HZ.out.1, by rw [HB.out]; exact HZ.out.2⟩
      | false =>
        have HC := Lib.hid (HXj.out false hq)
        have HB : Hid (((l.take (j + 1)).filter fun s => !p s) = ((l.take j).filter fun s => !p s) ++ [(f, t)]) := Lib.hid (by rw [HTj.out, if_neg (by rw [hq]; decide)])
        clear hq
        go_wp2_with fail
        refine HC.out.mono ?_
        rintro e w1 ⟨rfl, b_w1⟩
        have a_w1 := a_wr.trans b_w1
        obtain ⟨u, w2, q1, q2, q3⟩ := appQ1 pairSpan (f, t) (OQ.later b_w1 HO.out) a_w1.below.size (by rw [HNl.out]; exact Nat.le_trans HLj.out (by decide))
        have K1 := Lib.hid q1
        have K2 := Lib.hid (And.intro (q3 w (Nat.le_refl _) a_w1) q2)
        have c0 := cell_on b_w1 c0
        have c1 := cell_on b_w1 c1
        clear q1 q2 q3 b_w1 hs
        go_wp2_with (at_builtin; refine Lib.wpList_append_run _ rfl _ _ _ _ rfl _ _ rfl rfl _ _ K1.out ?_)
        go_roundg (m - (j + 1))
        case measure => omega
        case rel => exact ⟨j + 1, rfl, hlt, by go_num, K2.out.1, by rw [HB.out]; exact K2.out.2⟩
    · obtain rfl : j = m := by omega
      have HB : Hid (OQ 55 wr w.heap.size (.slice A4 ((l.take j).filter fun s => !p s).length cap4) M) := Lib.hid (by rw [← HEnd.out]; exact HO.out)
      have d0 : decide ((j : Int) < (j : Int)) = false := by simp
      generalize ((l.take j).filter fun s => !p s).length = nl at *
      go_wp2_with fail
      go_ret
      exact ⟨_, rfl, a_wr, HB.out⟩
end Go.Proofs.YtiicaldnegcdiaaGreat
