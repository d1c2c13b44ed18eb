/- folds: the document's Hidden and Opens by contract. folds: the library's DeleteFunc at spans, the program's Opens: by contract. folds, the program: Opens and Visible by contract. folds: two rows of numbers that grow side by side; FoldsHide, walked. -/
import Derived.Test.YtiicaldnegcdiaaGreatFldC
import Derived.Test.YtiicaldnegcdiaaGreatTxtQ
import Derived.BigQuiet
import Derived.Test.YtiicaldnegcdiaaGreatFldE
import Derived.Laws.IdiomCopy
import Derived.Test.YtiicaldnegcdiaaGreatFldG
import Derived.Test.YtiicaldnegcdiaaGreatInts
import Derived.Deep.AppendLies
namespace Go.Proofs.YtiicaldnegcdiaaGreat
set_option linter.unusedSimpArgs false
set_option linter.unusedVariables false
set_option linter.unusedSectionVars false
open Go.RowKit

/-- the line feeds of bytes are as they should be -/
theorem fe_len (b : List Int) : (feN 0 b).length ≤ b.length := feN_le b 0
set_option maxRecDepth 100000 in
set_option maxHeartbeats 1600000 in
theorem xhidden_any (v vb : Value) (l : Qs) (b : List Int) (y : Int) (c : Bool) (w : World) (hc : hidL (feN 0 b) b.length y l = c) (hv : QR w v l) (hl : l.length ≤ 60000) (hb : RN .u8 w vb b) (hbl : b.length ≤ 60000) :
    Calls Tryz.prog 9 #[v, vb, .int .i64 y] w fun e w' => e = .returned (.bool c) ∧ AnyLater w w' := by
  have HLn := Lib.hid (fun (w' : World) (x : Int) (k : Nat) (a : AnyLater w w') (hk : below x (feN 0 b) = k) (hx : 0 ≤ x ∧ x ≤ b.length) => xline_any vb b x k w' hk hx (hb.later a) hbl)
  have HFl : Hid (∀ x, below x (feN 0 b) ≤ 60000) := Lib.hid (fun x => by have := below_le (feN 0 b) x; have := fe_len b; omega)
  obtain ⟨A, cap, rfl, h2, h3⟩ := hv
  have HCC : Hid (∀ (j : Nat) (h : j < l.length), ∃ b off, A = some ⟨b, off, none⟩ ∧ b < w.heap.size ∧ w.cell? ⟨b, off + j * 2, none⟩ = some (.int .i64 l[j].1) ∧ w.cell? ⟨b, off + j * 2 + 1, none⟩ = some (.int .i64 l[j].2)) := Lib.hid (fun j hj => by
    obtain ⟨b, off, e, hb, hc⟩ := h3 (by omega)
    exact ⟨b, off, e, hb, hc j hj⟩)
  have HK := Lib.hid hc
  have HTk : Hid (∀ (j : Nat) (h : j < l.length), hidL (feN 0 b) b.length y (l.take (j + 1)) = (hidL (feN 0 b) b.length y (l.take j) || hid1 (feN 0 b) b.length y l[j])) := Lib.hid (fun j h => by
    unfold hidL
    rw [List.take_succ_eq_append_getElem h, List.any_append]
    simp)
  have HOne : Hid (∀ (j : Nat) (h : j < l.length), hid1 (feN 0 b) b.length y l[j] = true → true = c) := Lib.hid (fun j h q => by
    rw [← hc]
    exact (List.any_eq_true.2 ⟨_, List.getElem_mem h, q⟩).symm)
  have HEnd : Hid (hidL (feN 0 b) b.length y (l.take l.length) = c) := Lib.hid (by rw [List.take_length]; exact hc)
  obtain ⟨Ab, capb, rfl, -⟩ := hb.form
  obtain ⟨m, hm⟩ : ∃ m, l.length = m := ⟨_, rfl⟩
  have HN := Lib.hid hm
  rw [hm] at h2 hl HEnd ⊢
  clear h3 hc hm hb
  obtain ⟨F, hF⟩ : ∃ F, feN 0 b = F := ⟨_, rfl⟩
  rw [hF] at HLn HFl HK HTk HOne HEnd
  clear hF
  generalize b.length = n at *
  go_enter Tryz.func9, Tryz.ntmps9
  go_wp2_with fail
  go_loopg [7] m (fun k i wr => ∃ j : Nat, k = m - j ∧ j ≤ m ∧ i = .int .i64 (j : Int) ∧ AnyLater w wr ∧ hidL F n y (l.take j) = false)
  case atStart => exact ⟨0, by omega, by omega, rfl, AnyLater.refl _, by rw [List.take_zero]; rfl⟩
  case round =>
    obtain ⟨j, hk, hj, rfl, a_wr, hg⟩ := hrel
    have HG := Lib.hid hg
    clear hg
    by_cases hlt : j < m
    · have lj : j < l.length := by rw [HN.out]; exact hlt
      have i0 : (j : Int) < (m : Int) := by omega
      obtain ⟨b, off, rfl, hb, k0, k1⟩ := HCC.out j lj
      have c0 : wr.cell? ⟨b, off + j * 2, none⟩ = some (.int .i64 l[j].1) := (a_wr.below.cell hb).trans k0
      have c1 : wr.cell? ⟨b, off + j * 2 + 1, none⟩ = some (.int .i64 l[j].2) := (a_wr.below.cell hb).trans k1
      have l1 : b < wr.heap.size := Nat.lt_of_lt_of_le hb a_wr.below.size
      have HT : Hid (hidL F n y (l.take (j + 1)) = hid1 F n y l[j]) := Lib.hid (by rw [HTk.out j lj, HG.out, Bool.false_or])
      have HO := Lib.hid (HOne.out j lj)
      clear k0 k1
      generalize l[j] = x at *
      obtain ⟨f, t⟩ := x
      simp only at c0 c1
      by_cases h1 : f < 0
      · have HB : Hid (hidL F n y (l.take (j + 1)) = false) := Lib.hid (by rw [HT.out]; exact decide_eq_false (fun q => by have := q.1; simp only at this; omega))
        go_wp2_with fail
        go_roundg (m - (j + 1))
        case measure => omega
        case rel => exact ⟨j + 1, rfl, hlt, by go_num, a_wr, HB.out⟩
      · have d1 : decide (f < 0) = false := decide_eq_false h1
        by_cases h2 : (n : Int) < f
        · have HB : Hid (hidL F n y (l.take (j + 1)) = false) := Lib.hid (by rw [HT.out]; exact decide_eq_false (fun q => by have := q.2.1; simp only at this; omega))
          go_wp2_with fail
          go_roundg (m - (j + 1))
          case measure => omega
          case rel => exact ⟨j + 1, rfl, hlt, by go_num, a_wr, HB.out⟩
        · have d2 : decide ((n : Int) < f) = false := decide_eq_false h2
          by_cases h3 : t < 0
          · have HB : Hid (hidL F n y (l.take (j + 1)) = false) := Lib.hid (by rw [HT.out]; exact decide_eq_false (fun q => by have := q.2.2.1; simp only at this; omega))
            go_wp2_with fail
            go_roundg (m - (j + 1))
            case measure => omega
            case rel => exact ⟨j + 1, rfl, hlt, by go_num, a_wr, HB.out⟩
          · have d3 : decide (t < 0) = false := decide_eq_false h3
            by_cases h4 : (n : Int) < t
            · have HB : Hid (hidL F n y (l.take (j + 1)) = false) := Lib.hid (by rw [HT.out]; exact decide_eq_false (fun q => by have := q.2.2.2.1; simp only at this; omega))
              go_wp2_with fail
              go_roundg (m - (j + 1))
              case measure => omega
              case rel => exact ⟨j + 1, rfl, hlt, by go_num, a_wr, HB.out⟩
            · have d4 : decide ((n : Int) < t) = false := decide_eq_false h4
              obtain ⟨k1, hk1⟩ : ∃ k, below f F = k := ⟨_, rfl⟩
              obtain ⟨k2, hk2⟩ : ∃ k, below t F = k := ⟨_, rfl⟩
              have HL1 := Lib.hid (fun w' a => HLn.out w' f k1 a hk1 ⟨by omega, by omega⟩)
              have HL2 := Lib.hid (fun w' a => HLn.out w' t k2 a hk2 ⟨by omega, by omega⟩)
              have HQ : Hid (hid1 F n y (f, t) = decide ((k1 : Int) < y ∧ y ≤ (k2 : Int))) := Lib.hid (by
                unfold hid1
                rw [decide_eq_decide]
                simp only [hk1, hk2]
                omega)
              have p1 : k1 ≤ 60000 := by rw [← hk1]; exact HFl.out f
              have p2 : k2 ≤ 60000 := by rw [← hk2]; exact HFl.out t
              clear hk1 hk2 h1 h2 h3 h4
              by_cases h5 : (k1 : Int) < y
              · by_cases h6 : y ≤ (k2 : Int)
                · have HB := Lib.hid (HO.out (by rw [HQ.out]; exact decide_eq_true ⟨h5, h6⟩))
                  go_wp2_with fail
                  refine (HL1.out _ a_wr).mono ?_
                  rintro e w1 ⟨rfl, b_w1⟩
                  have a_w1 := a_wr.trans b_w1
                  have c1 := cell_on b_w1 c1
                  go_wp2_with fail
                  refine (HL2.out _ a_w1).mono ?_
                  rintro e w2 ⟨rfl, b_w2⟩
                  have HZ := Lib.hid (a_w1.trans b_w2)
                  go_wp2_with fail
                  go_ret
                  exact ⟨ret_bool HB.out, HZ.out⟩
                · have HB : Hid (hidL F n y (l.take (j + 1)) = false) := Lib.hid (by rw [HT.out, HQ.out]; exact decide_eq_false (fun q => h6 q.2))
                  have d6 : decide (y ≤ (k2 : Int)) = false := decide_eq_false h6
                  go_wp2_with fail
                  refine (HL1.out _ a_wr).mono ?_
                  rintro e w1 ⟨rfl, b_w1⟩
                  have a_w1 := a_wr.trans b_w1
                  have c1 := cell_on b_w1 c1
                  go_wp2_with fail
                  refine (HL2.out _ a_w1).mono ?_
                  rintro e w2 ⟨rfl, b_w2⟩
                  have HZ := Lib.hid (a_w1.trans b_w2)
                  go_wp2_with fail
                  go_roundg (m - (j + 1))
                  case measure => omega
                  case rel => exact ⟨j + 1, rfl, hlt, by go_num, HZ.out, HB.out⟩
              · have HB : Hid (hidL F n y (l.take (j + 1)) = false) := Lib.hid (by rw [HT.out, HQ.out]; exact decide_eq_false (fun q => h5 q.1))
                have d5 : decide ((k1 : Int) < y) = false := decide_eq_false h5
                go_wp2_with fail
                refine (HL1.out _ a_wr).mono ?_
                rintro e w1 ⟨rfl, b_w1⟩
                have HZ := Lib.hid (a_wr.trans b_w1)
                go_wp2_with fail
                go_roundg (m - (j + 1))
                case measure => omega
                case rel => exact ⟨j + 1, rfl, hlt, by go_num, HZ.out, HB.out⟩
    · obtain rfl : j = m := by omega
      have HB : Hid (false = c) := Lib.hid (HG.out.symm.trans HEnd.out)
      have d0 : decide ((j : Int) < (j : Int)) = false := by simp
      go_wp2_with fail
      go_ret
      exact ⟨ret_bool HB.out, a_wr⟩

/-! ### Opens -/
set_option maxRecDepth 100000 in
/-- v[j:j+1] -/
theorem QR.oneQ {t s : TypeId} (T : PairT t s) {w : World} {v : Value} {l : Qs} (h : QR w v l) (j : Nat) (hj : j < l.length) : ∃ A cap, QR w (.slice A 1 cap) [l[j]] ∧ ∀ w', (Instr.sliceAt s v (some (.int .i64 (j : Int))) (some (.int .i64 ((j : Int) + 1))) none).run Tryz.prog w' = .ok (.slice A 1 cap) w' := by
  obtain ⟨A, cap, rfl, h3, h4⟩ := h
  obtain ⟨b, off, rfl, hb, hc⟩ := h4 (by omega)
  refine ⟨some ⟨b, off + j * 2, none⟩, cap - j, ⟨_, _, rfl, by simp; omega, fun _ => ⟨b, off + j * 2, rfl, hb, fun i hi => ?_⟩⟩, fun w' => ?_⟩
  · obtain rfl : i = 0 := by simp at hi; omega
    have := hc j hj
    simpa using this
  · rw [run_sliceAt_slice w' _ _ _ _ _ T.und', run_slice_lh w' _ (some ⟨b, off, none⟩) l.length cap T.und' .i64 .i64 (j : Int) ((j : Int) + 1) (by omega) (by omega) (by omega)]
    rw [T.size]
    have e1 : ((j : Int) + 1).toNat = j + 1 := by omega
    simp only [Result.andThen, sliced, Int.toNat_natCast, e1]
    rw [if_neg (by omega), Option.map_some, qaddr_add, show j + 1 - j = 1 by omega]
set_option maxRecDepth 100000 in
set_option maxHeartbeats 1600000 in
theorem xopens_any (v vb : Value) (l : Qs) (b : List Int) (y : Int) (M : Qs) (w : World) (hM : (l.filter fun s => !hid1 (feN 0 b) b.length y s) = M) (hv : QR w v l) (hl : l.length ≤ 60000) (hb : RN .u8 w vb b) (hbl : b.length ≤ 60000) :
    Calls Tryz.prog 22 #[v, vb, .int .i64 y] w (RowS w M) := by
  obtain ⟨p, hp⟩ : ∃ p : Int × Int → Bool, hid1 (feN 0 b) b.length y = p := ⟨_, rfl⟩
  have HX : Hid (∀ (w' : World) (u : Value) (s : Int × Int) (c : Bool), AnyLater w w' → QR w' u [s] → p s = c → Calls Tryz.prog 9 #[u, vb, .int .i64 y] w' fun e w'' => e = .returned (.bool c) ∧ AnyLater w' w'') :=
    Lib.hid (fun w' u s c a hu hs => xhidden_any u vb [s] b y c w' (by unfold hidL; rw [hp]; simpa using hs) hu (by simp) (hb.later a) hbl)
  rw [hp] at hM
  obtain ⟨A, cap, rfl, h2, h3⟩ := hv
  have HCC : Hid (∀ (j : Nat) (h : j < l.length), ∃ b off, A = some ⟨b, off, none⟩ ∧ b < w.heap.size ∧ w.cell? ⟨b, off + j * 2, none⟩ = some (.int .i64 l[j].1) ∧ w.cell? ⟨b, off + j * 2 + 1, none⟩ = some (.int .i64 l[j].2)) := Lib.hid (fun j hj => by
    obtain ⟨b, off, e, hb, hc⟩ := h3 (by omega)
    exact ⟨b, off, e, hb, hc j hj⟩)
  have HT : Hid (∀ (j : Nat) (h : j < l.length), ((l.take (j + 1)).filter fun s => !p s) = ((l.take j).filter fun s => !p s) ++ (if p l[j] = true then [] else [l[j]])) := Lib.hid (fun j h => by
    rw [List.take_succ_eq_append_getElem h, List.filter_append]
    congr 1
    cases hq : p l[j] <;> simp [hq])
  have HEnd : Hid (((l.take l.length).filter fun s => !p s) = M) := Lib.hid (by rw [List.take_length]; exact hM)
  have HLe : Hid (∀ j, ((l.take j).filter fun s => !p s).length ≤ 60000) := Lib.hid (fun j => Nat.le_trans (List.length_filter_le _ _) (by rw [List.length_take]; omega))
  obtain ⟨Ab, capb, rfl, -⟩ := hb.form
  have hvm : ∀ m, l.length = m → QR w (.slice A m cap) l := fun m e => by subst e; exact ⟨A, cap, rfl, h2, h3⟩
  obtain ⟨m, hm⟩ : ∃ m, l.length = m := ⟨_, rfl⟩
  have HN := Lib.hid hm
  have HMid := Lib.hid (fun (j : Nat) (h : j < l.length) => QR.oneQ pairSpan (hvm m hm) j h)
  have HE0 : Hid (OQ 55 (w.alloc (.cells #[] 55)) w.heap.size (.slice (some ⟨w.heap.size, 0, none⟩) 0 0) [] ∧ AnyLater w (w.alloc (.cells #[] 55))) := Lib.hid ⟨OQ.empty (Nat.le_refl _) (heap_new rfl), (AnyLater.refl w).alloc _⟩
  rw [hm] at h2 hl HEnd ⊢
  clear h3 hm hb hM hp hbl hvm
  generalize b.length = n at *
  go_enter Tryz.func22, Tryz.ntmps22
  go_wp2_with fail
  go_loopg [7, 8] m (fun k ov i wr => ∃ j : Nat, k = m - j ∧ j ≤ m ∧ i = .int .i64 (j : Int) ∧ AnyLater w wr ∧ OQ 55 wr w.heap.size ov ((l.take j).filter fun s => !p s))
  case atStart => exact ⟨0, by omega, by omega, rfl, HE0.out.2, HE0.out.1⟩
  case round =>
    obtain ⟨j, hk, hj, rfl, a_wr, ho⟩ := hrel
    have HO := Lib.hid ho
    obtain ⟨A4, cap4, rfl, -⟩ := ho.form
    clear ho
    by_cases hlt : j < m
    · have lj : j < l.length := by rw [HN.out]; exact hlt
      have i0 : (j : Int) < (m : Int) := by omega
      obtain ⟨A1, cap1, p1, hs⟩ := HMid.out j lj
      have HP1 := Lib.hid (p1.later a_wr)
      obtain ⟨b, off, rfl, hb, k0, k1⟩ := HCC.out j lj
      have c0 : wr.cell? ⟨b, off + j * 2, none⟩ = some (.int .i64 l[j].1) := (a_wr.below.cell hb).trans k0
      have c1 : wr.cell? ⟨b, off + j * 2 + 1, none⟩ = some (.int .i64 l[j].2) := (a_wr.below.cell hb).trans k1
      have HTj := Lib.hid (HT.out j lj)
      have HLj := Lib.hid (HLe.out j)
      have HXj := Lib.hid (fun c (hq : p l[j] = c) => HX.out wr (.slice A1 1 cap1) l[j] c a_wr HP1.out hq)
      clear k0 k1 p1
      generalize l[j] = x at *
      obtain ⟨f, t⟩ := x
      simp only at c0 c1
      generalize hnl : ((l.take j).filter fun s => !p s).length = nl at *
      have HNl := Lib.hid hnl
      clear hnl
      cases hq : p (f, t) with
      | true =>
        have HC := Lib.hid (HXj.out true hq)
        have HB : Hid (((l.take (j + 1)).filter fun s => !p s) = ((l.take j).filter fun s => !p s)) := Lib.hid (by rw [HTj.out, if_pos hq, List.append_nil])
        clear hq
        go_wp2_with fail
        refine HC.out.mono ?_
        rintro e w1 ⟨rfl, b_w1⟩
        have HZ := Lib.hid (And.intro (a_wr.trans b_w1) (OQ.later b_w1 HO.out))
        clear b_w1
        go_wp2_with fail
        go_roundg (m - (j + 1))
        case measure => omega
        case rel => exact ⟨j + 1, rfl, hlt, by go_num, HZ.out.1, by rw [HB.out]; exact HZ.out.2⟩
      | false =>
        have HC := Lib.hid (HXj.out false hq)
        have HB : Hid (((l.take (j + 1)).filter fun s => !p s) = ((l.take j).filter fun s => !p s) ++ [(f, t)]) := Lib.hid (by rw [HTj.out, if_neg (by rw [hq]; decide)])
        clear hq
        go_wp2_with fail
        refine HC.out.mono ?_
        rintro e w1 ⟨rfl, b_w1⟩
        have a_w1 := a_wr.trans b_w1
        obtain ⟨u, w2, q1, q2, q3⟩ := appQ1 pairSpan (f, t) (OQ.later b_w1 HO.out) a_w1.below.size (by rw [HNl.out]; exact Nat.le_trans HLj.out (by decide))
        have K1 := Lib.hid q1
        have K2 := Lib.hid (And.intro (q3 w (Nat.le_refl _) a_w1) q2)
        have c0 := cell_on b_w1 c0
        have c1 := cell_on b_w1 c1
        clear q1 q2 q3 b_w1 hs
        go_wp2_with (at_builtin; refine Lib.wpList_append_run _ rfl _ _ _ _ rfl _ _ rfl rfl _ _ K1.out ?_)
        go_roundg (m - (j + 1))
        case measure => omega
        case rel => exact ⟨j + 1, rfl, hlt, by go_num, K2.out.1, by rw [HB.out]; exact K2.out.2⟩
    · obtain rfl : j = m := by omega
      have HB : Hid (OQ 55 wr w.heap.size (.slice A4 ((l.take j).filter fun s => !p s).length cap4) M) := Lib.hid (by rw [← HEnd.out]; exact HO.out)
      have d0 : decide ((j : Int) < (j : Int)) = false := by simp
      generalize ((l.take j).filter fun s => !p s).length = nl at *
      go_wp2_with fail
      go_ret
      exact ⟨_, rfl, a_wr, HB.out⟩
end Go.Proofs.YtiicaldnegcdiaaGreat
namespace Go.Proofs.YtiicaldnegcdiaaGreat
set_option linter.unusedSimpArgs false
set_option linter.unusedVariables false
set_option linter.unusedSectionVars false
open Go.RowKit

/-! ### clear -/
theorem AnyLater.setCells {W : World} {g : Nat} (hg : W.heap.size ≤ g) : ∀ (vs : List Value) (o : Nat) (w : World), AnyLater W w → AnyLater W (w.setCells g o vs)
  | [], _, _, h => h
  | v :: vs, o, w, h => AnyLater.setCells hg vs (o + 1) _ (h.setCell (p := ⟨g, o, none⟩) hg v)
theorem size_setCells {g : Nat} : ∀ (vs : List Value) (o : Nat) (w : World), (w.setCells g o vs).heap.size = w.heap.size
  | [], _, _ => rfl
  | _ :: vs, o, _ => (size_setCells vs (o + 1) _).trans (World.size_setCell _ _ _)
set_option maxRecDepth 100000 in
theorem cut_raw {t s : TypeId} (T : PairT t s) (g n cap i : Nat) (h1 : i < n) (h2 : n ≤ cap) (w' : World) : (Instr.sliceAt s (.slice (some ⟨g, 0, none⟩) n cap) (some (.int .i64 (i : Int))) none none).run Tryz.prog w' = .ok (.slice (some ⟨g, i * 2, none⟩) (n - i) (cap - i)) w' := by
  rw [run_sliceAt_slice w' _ _ _ _ _ T.und', run_slice_l w' _ (some ⟨g, 0, none⟩) n cap T.und' .i64 (i : Int) (by omega) (by omega)]
  rw [T.size]
  simp only [Result.andThen, sliced, Int.toNat_natCast]
  rw [if_neg (by omega), Option.map_some, qaddr_add, Nat.zero_add]
set_option maxRecDepth 100000 in
theorem upto_raw {t s : TypeId} (T : PairT t s) (g n cap i : Nat) (h1 : i < n) (h2 : n ≤ cap) (w' : World) : (Instr.sliceAt s (.slice (some ⟨g, 0, none⟩) n cap) none (some (.int .i64 (i : Int))) none).run Tryz.prog w' = .ok (.slice (some ⟨g, 0, none⟩) i cap) w' := by
  rw [run_sliceAt_slice w' _ _ _ _ _ T.und', run_slice_h w' _ (some ⟨g, 0, none⟩) n cap T.und' .i64 (i : Int) (by omega) (by omega)]
  rw [T.size]
  simp only [Result.andThen, sliced, Int.toNat_natCast]
  rw [if_neg (by omega), Option.map_some, Nat.zero_mul, qaddr_add, Nat.sub_zero, Nat.sub_zero]
/-- clear(s), s a slice of n > 0 pairs: some cells are written -/
theorem clear_pairs {P : Program} (w : World) (t e : TypeId) (a b : Value) (ht : P.underlying t = some (.slice e)) (hv : ∀ w, (zeroValue e).run P w = .ok (.agg #[a, b]) w) (hz : (Value.agg #[a, b]).cells = #[a, b]) (ha : a.oneCell' = true) (hb : b.oneCell' = true) (g o n c : Nat) (hn : 0 < n)
    (hc : ∀ j, j < n * 2 → (w.cell? ⟨g, o + j, none⟩).isSome = true) (hf : ∀ j, j < n * 2 → w.frozen? ⟨g, o + j, none⟩ = false) :
    ∃ xs : List Value, xs.length = n * 2 ∧ ∀ ty, (Builtin.clear_ #[t] ty #[.slice (some ⟨g, o, none⟩) n c]).run P w = .ok (.tuple #[]) (w.setCells g o xs) := by
  refine ⟨(Builtin.zeroCells #[a, b] n).toList, by rw [Array.length_toList, size_zeroCells]; rfl, fun ty => ?_⟩
  have hl : (Builtin.zeroCells #[a, b] n).toList.length = n * 2 := by rw [Array.length_toList, size_zeroCells]; rfl
  have hst := run_storeCells_cells (P := P) g o (Builtin.zeroCells #[a, b] n).toList 0 w (by rw [hl]; simpa using hc) (by rw [hl]; simpa using hf) (by
    intro v hv'
    unfold Builtin.zeroCells at hv'
    rw [Array.toList_map] at hv'
    obtain ⟨i, _, rfl⟩ := List.mem_map.1 hv'
    show (#[a, b] : Array Value)[i % 2]!.oneCell' = true
    rcases Nat.mod_two_eq_zero_or_one i with h | h
    · rw [h]; exact ha
    · rw [h]; exact hb)
  simp only [Nat.add_zero] at hst
  obtain ⟨m, rfl⟩ : ∃ m, n = m + 1 := ⟨n - 1, by omega⟩
  simp [Builtin.clear_, run_underlying ht, hv, hz, hst]

/-! ### DeleteFunc -/
def keptQ (p : Int × Int → Bool) (l : Qs) : Qs := l.filter fun s => !p s
theorem keptQ_take {p : Int × Int → Bool} {l : Qs} {j : Nat} (h : j < l.length) : keptQ p (l.take (j + 1)) = keptQ p (l.take j) ++ (if p l[j] = true then [] else [l[j]]) := by
  unfold keptQ
  rw [List.take_succ_eq_append_getElem h, List.filter_append]
  congr 1
  cases hq : p l[j] <;> simp [hq]
theorem keptQ_le (p : Int × Int → Bool) (l : Qs) (j : Nat) : (keptQ p (l.take j)).length ≤ j := Nat.le_trans (List.length_filter_le _ _) (by rw [List.length_take]; omega)
theorem keptQ_all {p : Int × Int → Bool} {l : Qs} (h : l.any p = false) : keptQ p l = l := by
  unfold keptQ
  rw [List.filter_eq_self]
  intro a ha
  have := List.any_eq_false.1 h a ha
  simpa using this
/-- the row at g while j of them have been looked at: those that stay stand in front, the rest is as it was -/
def DelAt (g : Nat) (l : Qs) (p : Int × Int → Bool) (j : Nat) (x : World) : Prop :=
  ∃ cur, x.heap[g]? = some (.cells cur 55) ∧ l.length * 2 ≤ cur.size ∧
    (∀ (y : Nat) (h : y < (keptQ p (l.take j)).length), cur[y * 2]? = some (.int .i64 (keptQ p (l.take j))[y].1) ∧ cur[y * 2 + 1]? = some (.int .i64 (keptQ p (l.take j))[y].2)) ∧
    (∀ (y : Nat) (h : y < l.length), j ≤ y → cur[y * 2]? = some (.int .i64 l[y].1) ∧ cur[y * 2 + 1]? = some (.int .i64 l[y].2))
theorem DelAt.later {g : Nat} {l : Qs} {p : Int × Int → Bool} {j : Nat} {x y : World} (a : AnyLater x y) (h : DelAt g l p j x) : DelAt g l p j y := by
  obtain ⟨cur, h1, h2⟩ := h
  exact ⟨cur, any_own a h1, h2⟩
theorem DelAt.gone {g : Nat} {l : Qs} {p : Int × Int → Bool} {j : Nat} {x : World} (hj : j < l.length) (hp : p l[j] = true) (h : DelAt g l p j x) : DelAt g l p (j + 1) x := by
  obtain ⟨cur, h1, h2, h3, h4⟩ := h
  have e : keptQ p (l.take (j + 1)) = keptQ p (l.take j) := by rw [keptQ_take hj, if_pos hp, List.append_nil]
  refine ⟨cur, h1, h2, ?_, fun y hy hj => h4 y hy (by omega)⟩
  rw [e]
  exact h3
theorem DelAt.stays {g : Nat} {l : Qs} {p : Int × Int → Bool} {j : Nat} {x : World} (hj : j < l.length) (hp : p l[j] = false) (h : DelAt g l p j x) :
    DelAt g l p (j + 1) ((x.setCell ⟨g, (keptQ p (l.take j)).length * 2, none⟩ (.int .i64 l[j].1)).setCell ⟨g, (keptQ p (l.take j)).length * 2 + 1, none⟩ (.int .i64 l[j].2)) := by
  obtain ⟨cur, h1, h2, h3, h4⟩ := h
  have e : keptQ p (l.take (j + 1)) = keptQ p (l.take j) ++ [l[j]] := by rw [keptQ_take hj, if_neg (by rw [hp]; decide)]
  have hle := keptQ_le p l j
  obtain ⟨i, hi⟩ : ∃ i, (keptQ p (l.take j)).length = i := ⟨_, rfl⟩
  rw [hi] at hle ⊢
  refine ⟨(cur.setIfInBounds (i * 2) (.int .i64 l[j].1)).setIfInBounds (i * 2 + 1) (.int .i64 l[j].2), heap_at (heap_at h1 rfl) rfl, by simpa using h2, ?_, ?_⟩
  · rw [e]
    intro y hy
    rw [List.length_append, hi, List.length_singleton] at hy
    by_cases hyi : y = i
    · subst hyi
      have q1 : (keptQ p (l.take j) ++ [l[j]])[y]'(by rw [List.length_append, hi]; simp) = l[j] := by rw [List.getElem_append_right (by omega)]; simp [hi]
      rw [q1]
      refine ⟨?_, ?_⟩
      · rw [Array.getElem?_setIfInBounds_ne (by omega), Array.getElem?_setIfInBounds_self, if_pos (by omega)]
      · rw [Array.getElem?_setIfInBounds_self, if_pos (by rw [Array.size_setIfInBounds]; omega)]
    · have hy2 : y < (keptQ p (l.take j)).length := by omega
      have q1 : (keptQ p (l.take j) ++ [l[j]])[y]'(by rw [List.length_append, hi]; simp; omega) = (keptQ p (l.take j))[y] := List.getElem_append_left hy2
      rw [q1, Array.getElem?_setIfInBounds_ne (by omega), Array.getElem?_setIfInBounds_ne (by omega), Array.getElem?_setIfInBounds_ne (by omega), Array.getElem?_setIfInBounds_ne (by omega)]
      exact h3 y hy2
  · intro y hy hjy
    rw [Array.getElem?_setIfInBounds_ne (by omega), Array.getElem?_setIfInBounds_ne (by omega), Array.getElem?_setIfInBounds_ne (by omega), Array.getElem?_setIfInBounds_ne (by omega)]
    exact h4 y hy (by omega)
/-- what is in front reads as a list -/
theorem DelAt.reads {g : Nat} {l : Qs} {p : Int × Int → Bool} {x : World} {cap : Nat} (hc : l.length ≤ cap) (xs : List Value) (h : DelAt g l p l.length x) : QR (x.setCells g ((keptQ p l).length * 2) xs) (.slice (some ⟨g, 0, none⟩) (keptQ p l).length cap) (keptQ p l) := by
  obtain ⟨cur, h1, h2, h3, -⟩ := h
  rw [List.take_length] at h3
  have hle := keptQ_le p l l.length
  rw [List.take_length] at hle
  have hsz : x.heap.size ≤ (x.setCells g ((keptQ p l).length * 2) xs).heap.size := Nat.le_of_eq (size_setCells _ _ _).symm
  refine ⟨_, cap, rfl, by omega, fun _ => ⟨g, 0, rfl, Nat.lt_of_lt_of_le (own_lt h1) hsz, fun j hj => ?_⟩⟩
  obtain ⟨q1, q2⟩ := h3 j hj
  rw [World.cell?_setCells_out g xs _ x ⟨g, 0 + j * 2, none⟩ (fun _ _ => .inl (by show 0 + j * 2 < _; omega)), World.cell?_setCells_out g xs _ x ⟨g, 0 + j * 2 + 1, none⟩ (fun _ _ => .inl (by show 0 + j * 2 + 1 < _; omega)), Nat.zero_add, own_row h1, own_row h1]
  exact ⟨q1, q2⟩
theorem DelAt.begins {t : TypeId} {w x : World} {B : Nat} {v : Value} {l : Qs} {p : Int × Int → Bool} {i : Nat} (ht : t = 55) (ho : OQ t w B v l) (hi : i < l.length) (hf : (l.take i).any p = false) (hp : p l[i] = true) (a : AnyLater w x) :
    ∃ g cap, v = .slice (some ⟨g, 0, none⟩) l.length cap ∧ B ≤ g ∧ l.length ≤ cap ∧ g < w.heap.size ∧ DelAt g l p (i + 1) x ∧ (keptQ p (l.take (i + 1))).length = i := by
  subst ht
  rcases ho.2 with ⟨_, h0⟩ | ⟨g, cap, cur, rfl, h2, h3, h4, h5, h6, h7⟩
  · omega
  · have e : keptQ p (l.take (i + 1)) = l.take i := by rw [keptQ_take hi, if_pos hp, List.append_nil, keptQ_all hf]
    have ec : ∀ k, k < l.length * 2 → cur[k]? = (flatQ l)[k]? := fun k hk => by
      have : (cur.toList.take (l.length * 2))[k]? = (flatQ l)[k]? := by rw [h7]
      rw [List.getElem?_take_of_lt hk] at this
      simpa using this
    have el : ∀ (y : Nat) (h : y < l.length), cur[y * 2]? = some (.int .i64 l[y].1) ∧ cur[y * 2 + 1]? = some (.int .i64 l[y].2) := fun y h => by
      rw [ec _ (by omega), ec _ (by omega), flatQ_0, flatQ_1, List.getElem?_eq_getElem h]
      exact ⟨rfl, rfl⟩
    refine ⟨g, cap, rfl, h2, h4, own_lt h3, ⟨cur, any_own a h3, by omega, ?_, fun y hy _ => el y hy⟩, by rw [e, List.length_take]; omega⟩
    rw [e]
    intro y hy
    rw [List.length_take] at hy
    rw [List.getElem_take]
    exact el y (by omega)
theorem zero_span : ∀ w, (zeroValue 55).run Tryz.prog w = .ok (.agg #[.int .i64 0, .int .i64 0]) w := fun w => by simp [go_sem]
set_option maxRecDepth 100000 in
set_option maxHeartbeats 3200000 in
theorem qdelete_any (W : World) (B : Nat) (v : Value) (gc : Nat) (cb : Array Value) (p : Int × Int → Bool) (l M : Qs) (w : World) (P : World → Prop) (hM : keptQ p l = M) (ho : OQ 55 w B v l) (hWB : W.heap.size ≤ B) (aW : AnyLater W w) (hl : l.length ≤ 60000) (hP : P w) (hPl : ∀ x y, P x → AnyLater x y → P y) (hPs : ∀ x g i u, B ≤ g → g < w.heap.size → v.ownBlock = some g → P x → P (x.setCell ⟨g, i, none⟩ u))
    (hcf : ∀ args w, (callFunc gc args).run Tryz.prog w = .ok (.enter gc args) w) (hdo : TestsQ P gc cb p) :
    Calls Tryz.prog 38 #[v, .func (.func gc) #[] cb] w fun e w' => ∃ u, e = .returned u ∧ AnyLater W w' ∧ QR w' u M := by
  have HI := Lib.hid (qindex_any v gc cb p l _ w P rfl (OQ.rq ho) (by omega) hP hPl hcf hdo)
  rcases idxV_cases p l with ⟨h1, h2⟩ | ⟨-, i, h2, hi, hf, hp⟩
  · rw [h2] at HI
    have HB := Lib.hid (And.intro ((keptQ_all h1).symm.trans hM) (OQ.rq ho))
    obtain ⟨A, cap, rfl, -⟩ := ho.form
    clear ho hP hPl hPs hdo hcf hM h1 h2
    generalize l.length = n at *
    go_enter Tryz.func38, Tryz.ntmps38
    go_wp2_with fail
    refine HI.out.mono ?_
    rintro e w1 ⟨rfl, b_w1⟩
    go_wp2_with fail
    go_ret
    exact ⟨_, rfl, aW.trans b_w1, by rw [← HB.out.1]; exact HB.out.2.later b_w1⟩
  · rw [h2] at HI
    obtain ⟨g, cap, rfl, hBg, hlc, hgw, -⟩ := DelAt.begins rfl ho hi hf hp (AnyLater.refl w)
    have HD0 := Lib.hid (fun x (a : AnyLater w x) => by
      obtain ⟨g2, cap2, e, -, -, -, q⟩ := DelAt.begins rfl ho hi hf hp a
      cases e
      exact q)
    have HPs : Hid (∀ x k u, P x → P (x.setCell ⟨g, k, none⟩ u)) := Lib.hid (fun x k u h => hPs x g k u hBg hgw rfl h)
    have HPl := Lib.hid hPl
    have HP := Lib.hid hP
    have HDo := Lib.hid hdo
    have HM := Lib.hid hM
    have HWg : Hid (W.heap.size ≤ g) := Lib.hid (by omega)
    have HKle := Lib.hid (keptQ_le p l)
    have HKlt : Hid (∀ j, i < j → j ≤ l.length → (keptQ p (l.take j)).length < j) := Lib.hid (fun j hij hj => by
      have q0 : ∀ d, i + 1 + d ≤ l.length → (keptQ p (l.take (i + 1 + d))).length < i + 1 + d := fun d => by
        induction d with
        | zero =>
          intro _
          obtain ⟨_, _, _, _, _, _, _, q⟩ := DelAt.begins rfl ho hi hf hp (AnyLater.refl w)
          have q1 : (keptQ p (l.take (i + 1 + 0))).length = i := q
          omega
        | succ d ih =>
          intro hd
          have := ih (by omega)
          rw [show i + 1 + (d + 1) = i + 1 + d + 1 by omega, keptQ_take (by omega), List.length_append]
          split
          · simp only [List.length_nil]; omega
          · simp only [List.length_singleton]; omega
      have := q0 (j - (i + 1)) (by omega)
      rwa [show i + 1 + (j - (i + 1)) = j by omega] at this)
    have HSt := Lib.hid (fun (x : World) (j : Nat) (hj : j < l.length) (hq : p l[j] = false) (h : DelAt g l p j x) => h.stays hj hq)
    have HGo := Lib.hid (fun (x : World) (j : Nat) (hj : j < l.length) (hq : p l[j] = true) (h : DelAt g l p j x) => h.gone hj hq)
    have HT : Hid (∀ (j : Nat) (hj : j < l.length), (keptQ p (l.take (j + 1))).length = (keptQ p (l.take j)).length + (if p l[j] = true then 0 else 1)) := Lib.hid (fun j hj => by
      rw [keptQ_take hj, List.length_append]
      split <;> simp)
    obtain ⟨n, hn⟩ : ∃ n, l.length = n := ⟨_, rfl⟩
    have HN := Lib.hid hn
    rw [hn] at hl hlc hi HI ⊢
    clear hn ho hP hPl hPs hdo hM h2 hf hp
    have hi1 : (i : Int) + 1 ≤ 60000 := by omega
    have hi2 : ((i : Int) == -1) = false := by simp <;> omega
    go_enter Tryz.func38, Tryz.ntmps38
    go_wp2_with fail
    refine HI.out.mono ?_
    rintro e w1 ⟨rfl, b_w1⟩
    have HB1 := Lib.hid b_w1
    have HD1 := Lib.hid (HD0.out _ b_w1)
    have HP1 := Lib.hid (HPl.out _ _ HP.out b_w1)
    clear b_w1
    go_wp2_with fail
    go_loopg [5, 6] (n - (i + 1)) (fun kk iv jv wr => ∃ j : Nat, kk = n - j ∧ i < j ∧ j ≤ n ∧ jv = .int .i64 (j : Int) ∧ iv = .int .i64 (((keptQ p (l.take j)).length : Nat) : Int) ∧ AnyLater W wr ∧ P wr ∧ g < wr.heap.size ∧ DelAt g l p j wr)
    case atStart => exact ⟨i + 1, rfl, by omega, by omega, by go_num, by rw [HD1.out.2], aW.trans HB1.out, HP1.out, Nat.lt_of_lt_of_le hgw HB1.out.below.size, HD1.out.1⟩
    case round =>
      obtain ⟨j, hk, hij, hj, rfl, rfl, aWr, hPr, hgr, hd⟩ := hrel
      have HD := Lib.hid hd
      have HA := Lib.hid (And.intro aWr hPr)
      have hkle := HKle.out j
      have hklt := HKlt.out j hij (by rw [HN.out]; exact hj)
      by_cases hlt : j < n
      · have lj : j < l.length := by rw [HN.out]; exact hlt
        have i0 : (j : Int) < (n : Int) := by omega
        obtain ⟨cur, s0_wr, hcs, -, hcr⟩ := hd
        have c0 : wr.cell? ⟨g, j * 2, none⟩ = some (.int .i64 l[j].1) := (own_row s0_wr _).trans (hcr j lj (Nat.le_refl _)).1
        have c1 : wr.cell? ⟨g, j * 2 + 1, none⟩ = some (.int .i64 l[j].2) := (own_row s0_wr _).trans (hcr j lj (Nat.le_refl _)).2
        rw [HN.out] at hcs
        have HSt1 := Lib.hid (fun x => HSt.out x j lj)
        have HGo1 := Lib.hid (fun x => HGo.out x j lj)
        have HTj := Lib.hid (HT.out j lj)
        have HDo1 := Lib.hid (fun w' (h : P w') => HDo.out l[j].1 l[j].2 w' h)
        have hb1 := (AnyLater.refl wr).alloc (.cells #[.int .i64 l[j].1, .int .i64 l[j].2] 55)
        have HPb := Lib.hid (HPl.out _ _ hPr hb1)
        have HB2 := Lib.hid hb1
        clear hcr hb1 hPr
        generalize hki : (keptQ p (l.take j)).length = ki at *
        have HKi := Lib.hid hki
        clear hki
        generalize l[j] = s at *
        obtain ⟨f, t⟩ := s
        simp only at c0 c1
        cases hp : p (f, t) with
        | true =>
          have HC := Lib.hid (HDo1.out _ HPb.out)
          simp only [hp] at HC
          have HE : Hid ((keptQ p (l.take (j + 1))).length = ki) := Lib.hid (by rw [HTj.out, if_pos hp, Nat.add_zero])
          have HG2 := Lib.hid (fun x => HGo1.out x hp)
          clear hp HTj HSt1 HGo1
          go_wp2_with fail
          refine HC.out.mono ?_
          rintro e w2 ⟨rfl, b_w2⟩
          have b2 := HB2.out.trans b_w2
          have HZ := Lib.hid (And.intro (aWr.trans b2) (And.intro (HPl.out _ _ HPb.out b_w2) (And.intro (Nat.lt_of_lt_of_le hgr b2.below.size) (HG2.out _ (HD.out.later b2)))))
          clear b2 b_w2
          go_wp2_with fail
          go_roundg (n - (j + 1))
          case measure => omega
          case rel => exact ⟨j + 1, rfl, by omega, hlt, by go_num, by rw [HE.out], HZ.out⟩
        | false =>
          have HC := Lib.hid (HDo1.out _ HPb.out)
          simp only [hp] at HC
          have HE : Hid ((keptQ p (l.take (j + 1))).length = ki + 1) := Lib.hid (by rw [HTj.out, if_neg (by rw [hp]; decide)])
          have HG2 := Lib.hid (fun x => HSt1.out x hp)
          clear hp HTj HSt1 HGo1
          go_wp2_with fail
          refine HC.out.mono ?_
          rintro e w2 ⟨rfl, b_w2⟩
          have b2 := HB2.out.trans b_w2
          have s0_w2 := any_own b2 s0_wr
          have f0_w2 := own_free s0_w2
          have e0 : w2.cell? ⟨g, ki * 2, none⟩ = some (cur[ki * 2]'(by omega)) := (own_row s0_w2 _).trans (Array.getElem?_eq_getElem _)
          have e1 : w2.cell? ⟨g, ki * 2 + 1, none⟩ = some (cur[ki * 2 + 1]'(by omega)) := (own_row s0_w2 _).trans (Array.getElem?_eq_getElem _)
          have s1_w2 : w2.heap[wr.heap.size]? = some (.cells #[.int .i64 f, .int .i64 t] 55) := any_own b_w2 (heap_new rfl)
          have r1_w2 := own_row s1_w2
          have hne : g ≠ wr.heap.size := by omega
          have i2 : (ki : Int) < (n : Int) := by omega
          have HDx := HG2.out _ (HD.out.later b2)
          have HZ := Lib.hid (And.intro (AnyLater.setCell (AnyLater.setCell (aWr.trans b2) (p := ⟨g, ki * 2, none⟩) HWg.out (.int .i64 f)) (p := ⟨g, ki * 2 + 1, none⟩) HWg.out (.int .i64 t)) (And.intro (HPs.out _ (ki * 2 + 1) (.int .i64 t) (HPs.out _ (ki * 2) (.int .i64 f) (HPl.out _ _ HPb.out b_w2))) (And.intro (Nat.lt_of_lt_of_le hgr b2.below.size) HDx)))
          clear b2 b_w2 s0_w2 s1_w2 HDx
          generalize (cur[ki * 2]'_) = z0 at *
          generalize (cur[ki * 2 + 1]'_) = z1 at *
          go_wp2_with fail
          go_roundg (n - (j + 1))
          case measure => omega
          case rel => exact ⟨j + 1, rfl, by omega, hlt, by go_num, by rw [HE.out]; go_num, HZ.out.1, HZ.out.2.1, by rw [World.size_setCell, World.size_setCell]; exact HZ.out.2.2.1, HZ.out.2.2.2⟩
      · obtain rfl : j = n := by omega
        have d0 : decide ((j : Int) < (j : Int)) = false := by simp
        obtain ⟨cur, s0_wr, hcs, -, -⟩ := hd
        rw [HN.out] at hcs
        have HKM : Hid (keptQ p (l.take j) = M ∧ keptQ p l = M) := Lib.hid ⟨by rw [List.take_of_length_le (Nat.le_of_eq HN.out)]; exact HM.out, HM.out⟩
        have HDn : Hid (DelAt g l p l.length wr) := Lib.hid (by rw [HN.out]; exact HD.out)
        have HRd := Lib.hid (fun xs => HDn.out.reads (cap := cap) (by rw [HN.out]; exact hlc) xs)
        rw [HKM.out.2] at HRd
        rw [HKM.out.1] at hkle hklt ⊢
        have HML : Hid (M.length = M.length) := Lib.hid rfl
        obtain ⟨xs, hxs, hcl⟩ := clear_pairs (P := Tryz.prog) wr 23 55 (.int .i64 0) (.int .i64 0) Tryz.underlying23 zero_span rfl rfl rfl g (M.length * 2) (j - M.length) (cap - M.length) (by omega) (fun k hk => by rw [own_row s0_wr, Array.getElem?_eq_getElem (by omega)]; rfl) (fun k hk => own_free s0_wr _)
        have HRx := Lib.hid (HRd.out xs)
        have hs1 := cut_raw pairSpan g j cap M.length hklt hlc
        have hs2 := upto_raw pairSpan g j cap M.length hklt hlc
        have HZ := Lib.hid (AnyLater.setCells HWg.out xs (M.length * 2) wr aWr)
        clear hxs hcs s0_wr
        generalize hm : M.length = mM at *
        go_wp2_with fail
        go_ret
        exact ⟨_, rfl, HZ.out, HRx.out⟩
end Go.Proofs.YtiicaldnegcdiaaGreat
namespace Go.Proofs.YtiicaldnegcdiaaGreat
set_option linter.unusedSimpArgs false
set_option linter.unusedVariables false
set_option linter.unusedSectionVars false
open Go.RowKit

/-! ### Opens -/
def opensL (F : List Int) (n y : Int) (l : Qs) : Qs := if 0 ≤ y ∧ y ≤ n then keptQ (hid1 F n ((below y F : Nat) : Int)) l else l
set_option maxRecDepth 100000 in
set_option maxHeartbeats 1600000 in
theorem fopens_any (v : Value) (l : Qs) (tg g : Nat) (most : Int) (t : Tr) (y : Int) (M : Qs) (w : World) (hM : opensL (fds t) t.len y l = M) (hv : QR w v l) (hl : l.length ≤ 60000) (h : IsTx w tg g most t) (ok : t.Ok) (hy : -9223372036854775808 ≤ y ∧ y ≤ 9223372036854775807) :
    Calls Tryz.prog 19 #[v, .pointer (some ⟨tg, 0, none⟩), .int .i64 y] w fun e w' => ∃ u, e = .returned u ∧ AnyLater w w' ∧ QR w' u M := by
  unfold opensL at hM
  by_cases hin : 0 ≤ y ∧ y ≤ (t.len : Int)
  · rw [if_pos hin] at hM
    obtain ⟨k, hk⟩ : ∃ k, below y (fds t) = k := ⟨_, rfl⟩
    obtain ⟨q1, q2, -, -⟩ := below_ln (F := fds t) hin.1 hin.2
    rw [hk] at q1 q2 hM
    have hs0 := (fds_ok t).s0 q1
    have hq : hid1 (fds t) t.len (k : Int) = hidC (lnS (fds t) k) t.len := funext fun s => (hidC_eq (fds_ok t) q1 s).symm
    rw [hq] at hM
    obtain ⟨s, hs⟩ : ∃ s, lnS (fds t) k = s := ⟨_, rfl⟩
    rw [hs] at hM q2 hs0
    have HP := Lib.hid (fplace_any tg g most t y (k : Int) (y - s) true w h ok (by unfold placeK; rw [if_pos hin, hk]) (by unfold placeC; rw [if_pos hin, hk, hs]) (decide_eq_true hin))
    have HC := Lib.hid (fun (w' : World) (a : AnyLater w w') => qclone_any v l w' (hv.later a) (by omega))
    have HH := Lib.hid (fun (w' : World) (a : AnyLater w w') => fhiding_any tg g most t s w' (h.later a))
    have e1 : y - (y - s) = s := by omega
    have HD : Hid (∀ (w1 w2 w3 : World) (u f : Value), OQ 55 w2 w1.heap.size u l → AnyLater w1 w2 → AnyLater w2 w3 → HidF s t.len w2 f w3 → Calls Tryz.prog 38 #[u, f] w3 fun e w' => ∃ r, e = .returned r ∧ AnyLater w1 w' ∧ QR w' r M) := Lib.hid (fun w1 w2 w3 u f ho a12 a23 hf => by
      obtain ⟨p1, p2, rfl, h1, h2, h3, h4⟩ := hf
      refine qdelete_any w1 w1.heap.size u _ _ (hidC s t.len) l M w3 (fun x => x.heap[p1]? = some (.cells #[.int .i64 s] 3) ∧ x.heap[p2]? = some (.cells #[.int .i64 (t.len : Int)] 3)) hM (OQ.later a23 ho) (Nat.le_refl _) (a12.trans a23) (by omega) ⟨h1, h2⟩ (fun _ _ k b => ⟨any_own b k.1, any_own b k.2⟩) (fun x gg i uu hB hg hown hP => ?_) hid_enters (hid_tests s t.len p1 p2 _ fun _ h => h)
      have hgg : gg < w2.heap.size := by
        rcases ho.2 with ⟨rfl, _⟩ | ⟨g2, cap, cur, rfl, _, q, _⟩
        · cases hown
        · obtain rfl : g2 = gg := by simpa [Value.ownBlock] using hown
          exact own_lt q
      exact ⟨heap_far (by omega) hP.1, heap_far (by omega) hP.2⟩)
    have hin2 := hin.2
    have hin1 := hin.1
    have hyl : (y : Int) ≤ 60000 := by have := ok.len; omega
    obtain ⟨A, cap, rfl, -⟩ := hv.form
    clear h ok hv hM hq hk hs q1 hin hl
    generalize (t.len : Int) = n at *
    generalize l.length = m at *
    go_enter Tryz.func19, Tryz.ntmps19
    go_wp2_with fail
    refine HP.out.mono ?_
    rintro e w1 ⟨rfl, b1⟩
    have H1 := Lib.hid b1
    clear b1
    go_wp2_with fail
    refine (HC.out _ H1.out).mono ?_
    rintro e w2 ⟨u2, rfl, b2, o2⟩
    have H2 := Lib.hid (And.intro b2 o2)
    obtain ⟨A2, cap2, rfl, -⟩ := OQ.form o2
    clear b2 o2
    generalize l.length = m2 at *
    go_wp2_with fail
    refine (HH.out _ (H1.out.trans H2.out.1)).mono ?_
    rintro e w3 ⟨f3, rfl, b3, q3⟩
    have H3 := Lib.hid (And.intro b3 q3)
    obtain ⟨p1, p2, rfl, -⟩ := q3
    clear b3
    go_wp2_with fail
    refine (HD.out _ _ _ _ _ H2.out.2 H2.out.1 H3.out.1 H3.out.2).mono ?_
    rintro e w4 ⟨r, rfl, b4, q4⟩
    have H4 := Lib.hid (And.intro (H1.out.trans b4) q4)
    obtain ⟨A4, cap4, rfl, -⟩ := q4.form
    clear b4 q4
    go_wp2_with fail
    go_ret
    exact ⟨_, rfl, H4.out.1, H4.out.2⟩
  · rw [if_neg hin] at hM
    subst hM
    have HP := Lib.hid (fplace_any tg g most t y 0 0 false w h ok (by unfold placeK; rw [if_neg hin]) (by unfold placeC; rw [if_neg hin]) (decide_eq_false hin))
    have HC := Lib.hid (fun (w' : World) (a : AnyLater w w') => qclone_any v l w' (hv.later a) (by omega))
    obtain ⟨A, cap, rfl, -⟩ := hv.form
    clear h ok hv hin hl
    generalize l.length = m at *
    go_enter Tryz.func19, Tryz.ntmps19
    go_wp2_with fail
    refine HP.out.mono ?_
    rintro e w1 ⟨rfl, b1⟩
    have H1 := Lib.hid b1
    clear b1
    go_wp2_with fail
    refine (HC.out _ H1.out).mono ?_
    rintro e w2 ⟨u2, rfl, b2, o2⟩
    have H2 := Lib.hid (And.intro (H1.out.trans b2) (OQ.rq o2))
    obtain ⟨A2, cap2, rfl, -⟩ := OQ.form o2
    clear b2 o2
    generalize l.length = m2 at *
    go_wp2_with fail
    go_ret
    exact ⟨_, rfl, H2.out.1, H2.out.2⟩

/-! ### Visible -/
/-- append(v, x) at numbers; a block of another type stays -/
theorem appI_keep {w : World} {B F : Nat} {cs : Array Value} {t : TypeId} {v : Value} {l : List Int} (x : Int) (ho : ON .i64 3 w B v l) (hB : B ≤ w.heap.size) (hl : l.length ≤ 90000) (hF : w.heap[F]? = some (.cells cs t)) (hne : t ≠ 3) :
    ∃ u w2, (Builtin.append_ #[32, 32] 32 #[v, .slice (some ⟨w.heap.size, 0, none⟩) 1 1]).run Tryz.prog (w.alloc (.cells #[.int .i64 x] 3)) = .ok u w2 ∧ ON .i64 3 w2 B u (l ++ [x]) ∧ (∀ W, W.heap.size ≤ B → AnyLater W w → AnyLater W w2) ∧ w2.heap[F]? = some (.cells cs t) := by
  have a1 : AnyLater w (w.alloc (.cells #[.int .i64 x] 3)) := (AnyLater.refl w).alloc _
  have hm : RN .i64 (w.alloc (.cells #[.int .i64 x] 3)) (.slice (some ⟨w.heap.size, 0, none⟩) 1 1) [x] := (ON.one (B := 0) (Nat.zero_le _) (heap_new rfl)).rn
  have ho2 := ho.later a1
  obtain ⟨u, w2, k1, k2, k3⟩ := appN (s := 32) Tryz.underlying32 info_i64 (by decide) ho2 hm (Nat.le_trans hB a1.below.size) (by simp; omega)
  exact ⟨u, w2, k1, k2, fun W h1 h2 => ON.grown ho2 h1 (h2.trans a1) k3, grown_block k3 (any_own a1 hF) (owns_ne ho2 (any_own a1 hF) hne)⟩
set_option maxRecDepth 100000 in
set_option maxHeartbeats 3200000 in
theorem fvisible_any (v : Value) (l : Qs) (tg g : Nat) (most : Int) (t : Tr) (M : List Int) (w : World) (hM : visZ (fun k => !hidL (fds t) t.len k l) (t.nf + 1) = M) (hv : QR w v l) (hl : l.length ≤ 1000) (h : IsTx w tg g most t) (ok : t.Ok) :
    Calls Tryz.prog 12 #[v, .pointer (some ⟨tg, 0, none⟩)] w fun e w' => ∃ u, e = .returned u ∧ AnyLater w w' ∧ ON .i64 3 w' w.heap.size u M := by
  have hnf := ok.nf
  have HI := Lib.hid (fun (w' : World) (a : AnyLater w w') => fhidden_any v l tg g most t w' (hv.later a) (by omega) (h.later a) ok)
  have HLn := Lib.hid (tlines_some tg g most t w h ok.nf)
  have HTl : Hid (∀ T : Bands, GoodL T → (∀ y, inB T y = hidL (fds t) t.len y l) → T.length ≤ 5000) := Lib.hid (fun T h1 h2 => by
    have := told_len (l := l.map (bandS (fds t) t.len)) h1 (fun y => by rw [h2, inB_bandS (by rw [fds_len]; exact ok.nf)]) (by rw [List.length_map]; omega)
    have h3 := len_one (l := l.map (bandS (fds t) t.len)) h1 (fun y => by rw [h2, inB_bandS (by rw [fds_len]; exact ok.nf)])
    rw [List.length_map] at h3
    omega)
  have HF : Hid (∀ T V : Bands, GoodL V → (∀ y, inB T y = hidL (fds t) t.len y l) → (∀ y, inB V y = (inB [(0, ((t.nf + 1 : Nat) : Int))] y && !inB T y)) → rowsB V = M ∧ V.length ≤ 5000) := Lib.hid (fun T V h1 h2 h3 => by
    have e : ∀ y, inB [(0, ((t.nf + 1 : Nat) : Int))] y = decide (0 ≤ y ∧ y < ((t.nf + 1 : Nat) : Int)) := fun y => by
      rw [inB_cons, inB_nil, Bool.or_false, decide_eq_decide]
      simp only
      omega
    refine ⟨?_, ?_⟩
    · rw [← hM]
      exact vis_eq h1 (fun y => by rw [h3, e, h2])
    · have h4 := len_not (T := V) (a := [(0, ((t.nf + 1 : Nat) : Int))]) (b := l.map (bandS (fds t) t.len)) h1 (fun y => by rw [h3, h2, inB_bandS (by rw [fds_len]; exact ok.nf)])
      rw [List.length_map] at h4
      simp only [List.length_singleton] at h4
      omega)
  have HMl : Hid (M.length ≤ 60001) := Lib.hid (by rw [← hM]; have := visZ_le (fun k => !hidL (fds t) t.len k l) (t.nf + 1); omega)
  obtain ⟨A0, cap0, rfl, -⟩ := hv.form
  clear hM hv h ok hl
  generalize l.length = m0 at *
  obtain ⟨N, hN⟩ : ∃ N : Int, ((t.nf + 1 : Nat) : Int) = N := ⟨_, rfl⟩
  have hN1 : 0 ≤ N ∧ N ≤ 60001 := by omega
  rw [hN] at HLn HF
  clear hN hnf
  go_enter Tryz.func12, Tryz.ntmps12
  go_wp2_with fail
  refine HLn.out.mono ?_
  rintro e w1 ⟨rfl, b1⟩
  have HA1 := Lib.hid b1
  clear b1
  go_wp2_with fail
  have hb1 := (AnyLater.refl w1).alloc (.cells #[.int .i64 0, .int .i64 N] 56)
  have HR1 : Hid (RB (w1.alloc (.cells #[.int .i64 0, .int .i64 N] 56)) (.slice (some ⟨w1.heap.size, 0, none⟩) 1 1) [(0, N)]) := Lib.hid (RB.block (l := [(0, N)]) (heap_new rfl) rfl (Nat.le_refl 1))
  have HA2 := Lib.hid (HA1.out.trans hb1)
  refine (HI.out _ HA2.out).mono ?_
  rintro e w2 ⟨v2, T, rfl, b2, p2, g2, r2⟩
  have HL := Lib.hid (less_any _ v2 [(0, N)] T w2 (HR1.out.later b2) p2 (by simp) (HTl.out T g2 r2))
  have HA3 := Lib.hid (HA2.out.trans b2)
  have HT2 := Lib.hid (fun V hV => HF.out T V hV r2)
  obtain ⟨A2, cap2, rfl, -⟩ := p2
  clear b2 g2 r2 hb1 HF HTl HI HR1
  generalize T.length = mT at *
  go_wp2_with fail
  refine HL.out.mono ?_
  rintro e w3 ⟨v3, V, rfl, b3, p3, g3, r3⟩
  obtain ⟨hVM, hV5⟩ := HT2.out V g3 r3
  have HB3 := Lib.hid (HA3.out.trans b3)
  have HV := Lib.hid hVM
  have HG := Lib.hid g3
  obtain ⟨A, cap, rfl, h2, h3⟩ := p3
  have HCC : Hid (∀ (j : Nat) (h : j < V.length), ∃ b off, A = some ⟨b, off, none⟩ ∧ b < w3.heap.size ∧ w3.cell? ⟨b, off + j * 2, none⟩ = some (.int .i64 V[j].1) ∧ w3.cell? ⟨b, off + j * 2 + 1, none⟩ = some (.int .i64 V[j].2)) := Lib.hid (fun j hj => by
    obtain ⟨b, off, e, hb, hc⟩ := h3 (by omega)
    exact ⟨b, off, e, hb, hc j hj⟩)
  have HLe : Hid (∀ (j : Nat) (h : j < V.length) (i : Nat), i < (V[j].2 - V[j].1).toNat → (rowsB (V.take j) ++ upZ V[j].1 i).length ≤ 90000) := Lib.hid (fun j h i hi => by
    have h1 := HMl.out
    rw [← hVM] at h1
    have h2 := rowsB_append (V.take (j + 1)) (V.drop (j + 1))
    rw [List.take_append_drop, rowsB_take h] at h2
    rw [h2] at h1
    simp only [List.length_append, upZ_len] at h1 ⊢
    omega)
  obtain ⟨m, hm⟩ : ∃ m, V.length = m := ⟨_, rfl⟩
  have HN := Lib.hid hm
  rw [hm] at h2 hV5 ⊢
  clear hm h3 g3 r3 hVM b3 HT2 HL
  go_wp2_with fail
  go_loopg [5, 20] m (fun kk ov iv wr => ∃ (j : Nat), kk = m - j ∧ j ≤ m ∧ iv = .int .i64 (j : Int) ∧ AnyLater w3 wr ∧ ON .i64 3 wr w3.heap.size ov (rowsB (V.take j)))
  case atStart => exact ⟨0, by omega, by omega, rfl, AnyLater.refl _, ⟨rfl, .inl ⟨rfl, rfl⟩⟩⟩
  case round =>
    obtain ⟨j, hk, hj, rfl, a_wr, ho⟩ := hrel
    have HO := Lib.hid ho
    have HA := Lib.hid a_wr
    obtain ⟨A4, cap4, rfl, -⟩ := ho.form
    by_cases hlt : j < m
    · have lj : j < V.length := by rw [HN.out]; exact hlt
      obtain ⟨b, off, rfl, hb, k0, k1⟩ := HCC.out j lj
      have c0 : wr.cell? ⟨b, off + j * 2, none⟩ = some (.int .i64 V[j].1) := (a_wr.below.cell hb).trans k0
      have c1 : wr.cell? ⟨b, off + j * 2 + 1, none⟩ = some (.int .i64 V[j].2) := (a_wr.below.cell hb).trans k1
      have HT2 := Lib.hid (rowsB_take lj)
      have HLj := Lib.hid (HLe.out j lj)
      have n1 := HG.out.1 V[j] (List.getElem_mem lj)
      clear k0 k1 ho
      generalize V[j] = x at *
      obtain ⟨f, e0⟩ := x
      simp only at c0 c1 n1
      obtain ⟨cnt, hcnt⟩ : ∃ cnt, (e0 - f).toNat = cnt := ⟨_, rfl⟩
      simp only [hcnt] at HT2 HLj
      obtain rfl : e0 = f + (cnt : Int) := by omega
      have hb1 := (AnyLater.refl wr).alloc (.cells #[.int .i64 f, .int .i64 (f + (cnt : Int))] 56)
      have sb : (wr.alloc (.cells #[.int .i64 f, .int .i64 (f + (cnt : Int))] 56)).heap[wr.heap.size]? = some (.cells #[.int .i64 f, .int .i64 (f + (cnt : Int))] 56) := heap_new rfl
      have HWb := Lib.hid (And.intro (HA.out.trans hb1) (And.intro sb (HO.out.later hb1)))
      clear hcnt a_wr hb1 sb
      generalize (rowsB (V.take j)).length = nl at *
      go_wp2_with fail
      go_loopg [5, 9] cnt (fun kk ov lv wi => ∃ (i : Nat), kk = cnt - i ∧ i ≤ cnt ∧ lv = .int .i64 (f + (i : Int)) ∧ AnyLater w3 wi ∧ wi.heap[wr.heap.size]? = some (.cells #[.int .i64 f, .int .i64 (f + (cnt : Int))] 56) ∧ ON .i64 3 wi w3.heap.size ov (rowsB (V.take j) ++ upZ f i))
      case atStart => exact ⟨0, by omega, by omega, by go_num, HWb.out.1, HWb.out.2.1, by rw [show upZ f 0 = [] from rfl, List.append_nil]; exact HWb.out.2.2⟩
      case round =>
        obtain ⟨i, hki, hi, rfl, a_wi, s1_wi, hoi⟩ := hrel
        have HOi := Lib.hid hoi
        have HAi := Lib.hid a_wi
        have r1_wi := own_row s1_wi
        obtain ⟨A5, cap5, rfl, -⟩ := hoi.form
        clear hoi
        by_cases hil : i < cnt
        · have d0 : f + (i : Int) < f + (cnt : Int) := by omega
          obtain ⟨u, w6, q1, q2, q3, q4⟩ := appI_keep (f + (i : Int)) HOi.out HAi.out.below.size (HLj.out i hil) s1_wi (by decide)
          have K1 := Lib.hid q1
          have HU : Hid (rowsB (V.take j) ++ upZ f (i + 1) = rowsB (V.take j) ++ upZ f i ++ [f + (i : Int)]) := Lib.hid (by rw [show upZ f (i + 1) = upZ f i ++ [f + (i : Int)] from rfl, List.append_assoc])
          have K2 := Lib.hid (And.intro (q3 w3 (Nat.le_refl _) HAi.out) (And.intro q4 q2))
          clear q1 q2 q3 q4 s1_wi
          generalize (rowsB (V.take j) ++ upZ f i).length = nl5 at *
          have d1 : -1073741824 ≤ f + (i : Int) ∧ f + (i : Int) + 1 ≤ 9223372036854775807 := by omega
          go_wp2_with (at_builtin; refine Lib.wpList_append_run _ rfl _ _ _ _ rfl _ _ rfl rfl _ _ K1.out ?_)
          go_roundg (cnt - (i + 1))
          case measure => omega
          case rel => exact ⟨i + 1, rfl, by omega, by go_num, K2.out.1, K2.out.2.1, by rw [HU.out]; exact K2.out.2.2⟩
        · obtain rfl : i = cnt := by omega
          have d0 : decide (f + (i : Int) < f + (i : Int)) = false := decide_eq_false (by omega)
          generalize (rowsB (V.take j) ++ upZ f i).length = nl5 at *
          go_wp2_with fail
          go_roundg (m - (j + 1))
          case measure => omega
          case rel => exact ⟨j + 1, rfl, hlt, by go_num, HAi.out, by rw [HT2.out]; exact HOi.out⟩
    · obtain rfl : j = m := by omega
      have HE : Hid (rowsB (V.take j) = M) := Lib.hid (by rw [List.take_of_length_le (Nat.le_of_eq HN.out)]; exact HV.out)
      clear a_wr ho
      generalize (rowsB (V.take j)).length = nl at *
      go_wp2_with fail
      go_ret
      exact ⟨_, rfl, HB3.out.trans HA.out, by rw [← HE.out]; exact HO.out.wide HB3.out.below.size⟩
end Go.Proofs.YtiicaldnegcdiaaGreat
namespace Go.Proofs.YtiicaldnegcdiaaGreat
set_option linter.unusedSimpArgs false
set_option linter.unusedVariables false
set_option linter.unusedSectionVars false
open Go.RowKit

/-! ### two rows -/
def TwoN (w : World) (B : Nat) (v1 v2 : Value) (a b : List Int) : Prop := (∃ g c, v1 = .slice (some ⟨g, 0, none⟩) a.length c ∧ g < w.heap.size) ∧ (∃ g c, v2 = .slice (some ⟨g, 0, none⟩) b.length c ∧ g < w.heap.size) ∧ v1.ownBlock ≠ v2.ownBlock ∧ ON .i64 3 w B v1 a ∧ ON .i64 3 w B v2 b
theorem TwoN.symm {w : World} {B : Nat} {v1 v2 : Value} {a b : List Int} (h : TwoN w B v1 v2 a b) : TwoN w B v2 v1 b a := ⟨h.2.1, h.1, fun e => h.2.2.1 e.symm, h.2.2.2.2, h.2.2.2.1⟩
theorem TwoN.later {w w' : World} {B : Nat} {v1 v2 : Value} {a b : List Int} (l : AnyLater w w') (h : TwoN w B v1 v2 a b) : TwoN w' B v1 v2 a b := by
  obtain ⟨⟨g1, c1, e1, l1⟩, ⟨g2, c2, e2, l2⟩, h3, h4, h5⟩ := h
  exact ⟨⟨g1, c1, e1, Nat.lt_of_lt_of_le l1 l.below.size⟩, ⟨g2, c2, e2, Nat.lt_of_lt_of_le l2 l.below.size⟩, h3, h4.later l, h5.later l⟩
theorem TwoN.app {w : World} {B : Nat} {v1 v2 : Value} {a b : List Int} (x : Int) (h : TwoN w B v1 v2 a b) (hB : B ≤ w.heap.size) (hl : a.length ≤ 90000) :
    ∃ u w2, (Builtin.append_ #[32, 32] 32 #[v1, .slice (some ⟨w.heap.size, 0, none⟩) 1 1]).run Tryz.prog (w.alloc (.cells #[.int .i64 x] 3)) = .ok u w2 ∧ TwoN w2 B u v2 (a ++ [x]) b ∧ ∀ W, W.heap.size ≤ B → AnyLater W w → AnyLater W w2 := by
  obtain ⟨-, ⟨g2, c2, rfl, l2⟩, h3, h4, h5⟩ := h
  obtain ⟨i0, hi0, hz0, hz1, hz2⟩ := info_parts info_i64
  have a1 : AnyLater w (w.alloc (.cells #[.int .i64 x] 3)) := (AnyLater.refl w).alloc _
  have hz : (w.alloc (.cells #[.int .i64 x] 3)).heap[w.heap.size]? = some (.cells #[.int .i64 x] 3) := heap_new rfl
  obtain ⟨g, cap, w', k1, k2, k3, k4, k5⟩ := run_append_lies (P := Tryz.prog) (w := w.alloc (.cells #[.int .i64 x] 3)) 32 32 B 3 i0 (.int .i64 0) 1 8 Tryz.underlying32 hi0 hz0 hz1 hz2 rfl (by decide) v1 a.length (a.map (Value.int .i64)) (h4.later a1) ⟨w.heap.size, 0, none⟩ 1 1 [.int .i64 x] rfl (fun j u hj => by
      cases j with
      | zero =>
        cases hj
        rw [addr_add]
        exact (own_row hz 0).trans rfl
      | succ j => simp at hj) (by intro u hu; simp at hu; subst hu; rfl) (by decide) (by unfold maxLen; omega) (by omega) (Nat.le_trans hB a1.below.size) _ rfl
  have hn : v1.ownBlock ≠ some g2 := by simpa [Value.ownBlock] using h3
  refine ⟨_, w', k1, ⟨⟨g, cap, by rw [List.length_append]; rfl, k5⟩, ⟨g2, c2, rfl, Nat.lt_of_lt_of_le l2 (Nat.le_trans a1.below.size k3.size)⟩, ?_, ?_, ?_⟩, fun W h1 h2 => grown_later (h2.trans a1) k3 (fun q hq => Nat.le_trans h1 (owns_base h4 q hq))⟩
  · show some g ≠ some g2
    rcases k4 with k4 | k4
    · rw [← k4]; exact hn
    · rw [World.size_alloc] at k4
      intro e
      have : g = g2 := by simpa using e
      omega
  · show w'.ownsRow B 3 1 _ (a ++ [x]).length ((a ++ [x]).map (Value.int .i64))
    rw [List.length_append, List.map_append]
    exact k2
  · refine ⟨h5.1, ?_⟩
    rcases (h5.later a1).2 with q | ⟨g', c', cur, e, q2, q3, q4⟩
    · exact .inl q
    · cases e
      exact .inr ⟨g2, c2, cur, rfl, q2, grown_block k3 q3 hn, q4⟩
theorem two_new (w : World) : TwoN ((w.alloc (.cells #[] 3)).alloc (.cells #[] 3)) w.heap.size (.slice (some ⟨w.heap.size, 0, none⟩) 0 0) (.slice (some ⟨w.heap.size + 1, 0, none⟩) 0 0) [] [] :=
  ⟨⟨_, _, rfl, by simp only [World.size_alloc]; omega⟩, ⟨_, _, rfl, by simp only [World.size_alloc]; omega⟩, by simp [Value.ownBlock], ON.empty (Nat.le_refl _) (heap_old (by simp) (heap_new rfl)), ON.empty (Nat.le_succ _) (heap_new (by simp))⟩

/-! ### FoldsHide -/
set_option maxRecDepth 100000 in
set_option maxHeartbeats 3200000 in
theorem foldsHide_any (W : World) (v0 v1 : Value) (z0 : List Int) (z1 : Qs) (a2 : Int) (r0z : RN .u8 W v0 z0) (n0 : Bytes z0) (r1z : QR W v1 z1) (b2 : -9223372036854775808 ≤ a2 ∧ a2 ≤ 9223372036854775807) :
    Calls Tryz.prog 3 #[v0, v1, .int .i64 a2] W fun e W' => e = .returned (.bool true) ∧ AnyLater W W' := by
  generalize W = w at *
  generalize a2 = y at *
  obtain ⟨b, hb⟩ : ∃ b, z0.take 80 = b := ⟨_, rfl⟩
  obtain ⟨l, hl⟩ : ∃ l, z1.take 30 = l := ⟨_, rfl⟩
  have hll : l.length ≤ 30 := by rw [← hl, List.length_take]; omega
  have hbl : b.length ≤ 80 := by rw [← hb, List.length_take]; omega
  have hby : Bytes b := by rw [← hb]; exact fun c hc => n0 c (List.mem_of_mem_take hc)
  have ok : (newT b).Ok := newT_ok hby (by omega)
  have bs1 := newT_bs b
  have ln1 : (newT b).len = b.length := by rw [← Tr.len_bs, bs1]
  have fd1 : fds (newT b) = feN 0 b := by unfold fds; rw [bs1]
  have nf1 : (newT b).nf = (feN 0 b).length := by rw [← fd1, fds_len]
  have HFew0 := Lib.hid (few_any8 v0 z0 b 80 hb w r0z (by decide))
  have HFew1 := Lib.hid (fun (w' : World) (a : AnyLater w w') => (ffew_any v1 z1 l w' hl (r1z.later a)).mono fun _ _ q => q.qr)
  have HFew := Lib.hid (fun (x : World) (u : Value) (h : QR x u l) => (ffew_any u l l x (List.take_of_length_le hll) h).mono fun _ _ q => q.qr)
  have HNw := Lib.hid (fun (x : World) (u : Value) (h : RN .u8 x u b) => tnew_yes u b 100 x h hby (by omega) ⟨by decide, by decide⟩ (by omega))
  generalize newT b = t at *
  have HLn := Lib.hid (fun (x : World) (u : Value) (h : RN .u8 x u b) => xlines_any u b _ x rfl h (by omega))
  have HXH := Lib.hid (fun (x : World) (u ub : Value) (k : Int) (c : Bool) (hc : hidL (feN 0 b) b.length k l = c) (h : QR x u l) (h2 : RN .u8 x ub b) => xhidden_any u ub l b k c x hc h (by omega) h2 (by omega))
  have HHd := Lib.hid (fun (x : World) (u : Value) (tg g : Nat) (h : QR x u l) (h2 : IsTx x tg g 100 t) => fhidden_any u l tg g 100 t x h (by omega) h2 ok)
  have HVis := Lib.hid (fun (x : World) (u : Value) (tg g : Nat) (h : QR x u l) (h2 : IsTx x tg g 100 t) => fvisible_any u l tg g 100 t _ x rfl h (by omega) h2 ok)
  have HHds := Lib.hid (fun (x : World) (u : Value) (tg g : Nat) (h : QR x u l) (h2 : IsTx x tg g 100 t) => fheads_any u l tg g 100 t _ x rfl h (by omega) h2 ok)
  have HHl := Lib.hid (fun (x : World) (u : Value) (tg g : Nat) (c : Bool) (hc : hidL (fds t) t.len y l = c) (h : QR x u l) (h2 : IsTx x tg g 100 t) => fhidesline_any u l tg g 100 t y c x hc h (by omega) h2 ok)
  rw [fd1, ln1] at HHd HVis HHds HHl
  rw [nf1] at HVis HHds
  have hF80 : (feN 0 b).length ≤ 80 := Nat.le_trans (fe_len b) hbl
  have HIn : Hid (∀ k, hidL (feN 0 b) b.length k l = true → 1 ≤ k ∧ k < (((feN 0 b).length + 1 : Nat) : Int)) := Lib.hid (fun k h => by have := hidL_in h; omega)
  obtain ⟨q, hq⟩ : ∃ q : Int → Bool, (fun k => hidL (feN 0 b) b.length k l) = q := ⟨_, rfl⟩
  have hq2 : ∀ k, hidL (feN 0 b) b.length k l = q k := fun k => by rw [← hq]
  simp only [hq2] at HXH HHd HVis HHds HHl HIn
  obtain ⟨N, hN⟩ : ∃ N, (feN 0 b).length + 1 = N := ⟨_, rfl⟩
  rw [hN] at HVis HHds HIn
  have hN81 : N ≤ 81 := by omega
  have HTl : Hid (∀ T : Bands, GoodL T → (∀ y, inB T y = q y) → T.length ≤ 1000) := Lib.hid (fun T h1 h2 => by
    have h3 := len_one (l := l.map (bandS (feN 0 b) b.length)) h1 (fun y => by rw [h2, inB_bandS (by omega), hq2])
    rw [List.length_map] at h3
    omega)
  have HHt : Hid (∀ T : Bands, GoodL T → (∀ y, inB T y = q y) → heightL T = (N : Int) - (visZ (fun k => !q k) N).length) := Lib.hid (fun T h1 h2 => height_eq h1 h2 HIn.out)
  have hq0 : q 0 = false := by
    cases h : q 0
    · rfl
    · have := HIn.out 0 h; omega
  have HQ0 := Lib.hid hq0
  have HVl : Hid ((visZ (fun k => !q k) N).length ≤ 81 ∧ (visZ (fun k => !q k && q (k + 1)) N).length ≤ 81) := Lib.hid ⟨Nat.le_trans (visZ_le _ _) hN81, Nat.le_trans (visZ_le _ _) hN81⟩
  have HLnN : Hid (∀ (x : World) (u : Value), RN .u8 x u b → Calls Tryz.prog 8 #[u] x fun e w' => ∃ A c, e = .returned (.slice A N c) ∧ AnyLater x w') := Lib.hid (fun x u h => (HLn.out x u h).mono fun e w' ⟨u2, h1, h2, h3⟩ => by
    obtain ⟨A, c, rfl, -⟩ := h3.reads.form
    rw [lnL_length, hN] at h1
    exact ⟨A, c, h1, h2⟩)
  obtain ⟨Ab, cb, rfl, -⟩ := r0z.form
  obtain ⟨Al, cl, rfl, -⟩ := r1z.form
  clear hb hl hby ok bs1 ln1 fd1 nf1 hq hq2 hq0 hN hF80 r0z r1z n0 HLn
  generalize z0.length = m0 at *
  generalize z1.length = m1 at *
  go_enter Tryz.func3, Tryz.ntmps3
  go_wp2_with fail
  refine HFew0.out.mono ?_
  rintro e w1 ⟨u1, rfl, b_w1, o1⟩
  have HB1 := Lib.hid b_w1
  have HRb := Lib.hid o1.rn
  obtain ⟨A1, c1, rfl, -⟩ := o1.form
  clear b_w1 o1
  go_wp2_with fail
  refine (HFew1.out _ HB1.out).mono ?_
  rintro e w2 ⟨u2, rfl, b_w2, p2⟩
  have HB2 := Lib.hid (HB1.out.trans b_w2)
  have HRb2 := Lib.hid (HRb.out.later b_w2)
  have HRl := Lib.hid p2
  obtain ⟨A2, c2, rfl, -⟩ := p2.form
  obtain ⟨u3, w3, k1, k2, k3⟩ := copy8 HRb2.out (by omega)
  have K1 := Lib.hid k1
  have HB3 := Lib.hid (And.intro (HB2.out.trans k2) (And.intro (HRb2.out.later k2) (And.intro (HRl.out.later k2) k3.rn)))
  obtain ⟨A3, c3, rfl, -⟩ := k3.form
  clear b_w2 p2 k1 k2 k3
  generalize b.length = nb at *
  generalize l.length = nl at *
  go_wp2_with (at_builtin; refine Lib.wpList_append_run _ rfl _ _ _ _ rfl _ _ rfl rfl _ _ K1.out ?_)
  refine (HNw.out _ _ HB3.out.2.2.2).mono ?_
  rintro e w4 ⟨tg, g, rfl, b_w4, -, -, -, h4⟩
  have HB4 := Lib.hid (And.intro (HB3.out.1.trans b_w4) (And.intro (HB3.out.2.1.later b_w4) (And.intro (HB3.out.2.2.1.later b_w4) h4)))
  clear b_w4 h4
  go_wp2_with fail
  refine (HLnN.out _ _ HB4.out.2.1).mono ?_
  rintro e w5 ⟨A5, c5, rfl, b_w5⟩
  have HW5 := Lib.hid (And.intro (HB4.out.1.trans b_w5) (And.intro (HB4.out.2.1.later b_w5) (And.intro (HB4.out.2.2.1.later b_w5) (HB4.out.2.2.2.later b_w5))))
  clear b_w5 HB1 HB2 HB3 HB4 HRb HRb2 HRl HFew0 HFew1 HNw HLnN
  go_wp2_with fail
  have HT0 := Lib.hid (two_new w5)
  have HA0 := Lib.hid (((AnyLater.refl w5).alloc (.cells #[] 3)).alloc (.cells #[] 3))
  go_loopg [10, 11, 12] N (fun kk sv hv iv wr => ∃ k : Nat, kk = N - k ∧ k ≤ N ∧ iv = .int .i64 (k : Int) ∧ AnyLater w5 wr ∧ TwoN wr w5.heap.size sv hv (visZ (fun k => !q k) k) (visZ (fun k => !q k && q (k + 1)) k))
  case atStart => exact ⟨0, by omega, by omega, rfl, HA0.out, HT0.out⟩
  case round =>
    obtain ⟨k, hk, hkN, rfl, a_wr, ht⟩ := hrel
    have HT := Lib.hid ht
    have HA := Lib.hid a_wr
    have HS1 : Hid ((visZ (fun k => !q k) k).length ≤ 81) := Lib.hid (Nat.le_trans (visZ_le _ _) (by omega))
    have HS2 : Hid ((visZ (fun k => !q k && q (k + 1)) k).length ≤ 81) := Lib.hid (Nat.le_trans (visZ_le _ _) (by omega))
    obtain ⟨⟨g1, c1', rfl, -⟩, ⟨g2, c2', rfl, -⟩, -⟩ := ht
    by_cases hlt : k < N
    · have i0 : (k : Int) < (N : Int) := by omega
      have HE1 : Hid (visZ (fun k => !q k) (k + 1) = visZ (fun k => !q k) k ++ (if (!q (k : Int)) = true then [(k : Int)] else [])) := Lib.hid rfl
      have HE2 : Hid (visZ (fun k => !q k && q (k + 1)) (k + 1) = visZ (fun k => !q k && q (k + 1)) k ++ (if (!q (k : Int) && q ((k : Int) + 1)) = true then [(k : Int)] else [])) := Lib.hid rfl
      have HX1 := Lib.hid (fun c hc => HXH.out wr _ _ (k : Int) c hc (HW5.out.2.2.1.later a_wr) (HW5.out.2.1.later a_wr))
      have HX2 := Lib.hid (fun (x : World) (a : AnyLater w5 x) c hc => HXH.out x _ _ ((k : Int) + 1) c hc (HW5.out.2.2.1.later a) (HW5.out.2.1.later a))
      obtain ⟨qs, hqs⟩ : ∃ s, visZ (fun k => !q k) k = s := ⟨_, rfl⟩
      obtain ⟨qh, hqh⟩ : ∃ s, visZ (fun k => !q k && q (k + 1)) k = s := ⟨_, rfl⟩
      rw [hqs] at HT HE1 HS1 ⊢
      rw [hqh] at HT HE2 HS2 ⊢
      clear hqs hqh a_wr
      cases hc1 : q (k : Int) with
      | true =>
        have HC := Lib.hid (HX1.out true hc1)
        have HZ1 : Hid (visZ (fun k => !q k) (k + 1) = qs) := Lib.hid (by rw [HE1.out, hc1]; simp)
        have HZ2 : Hid (visZ (fun k => !q k && q (k + 1)) (k + 1) = qh) := Lib.hid (by rw [HE2.out, hc1]; simp)
        clear hc1
        generalize qs.length = ns at *
        generalize qh.length = nh at *
        go_wp2_with fail
        refine HC.out.mono ?_
        rintro e w6 ⟨rfl, b_w6⟩
        have HZ := Lib.hid (And.intro (HA.out.trans b_w6) (HT.out.later b_w6))
        clear b_w6
        go_wp2_with fail
        go_roundg (N - (k + 1))
        case measure => omega
        case rel => exact ⟨k + 1, rfl, hlt, by go_num, HZ.out.1, by rw [HZ1.out, HZ2.out]; exact HZ.out.2⟩
      | false =>
        have HC := Lib.hid (HX1.out false hc1)
        have HZ1 : Hid (visZ (fun k => !q k) (k + 1) = qs ++ [(k : Int)]) := Lib.hid (by rw [HE1.out, hc1]; simp)
        generalize hns : qs.length = ns at *
        generalize hnh : qh.length = nh at *
        have HNs := Lib.hid (And.intro hns hnh)
        clear hns hnh
        cases hc2 : q ((k : Int) + 1) with
        | true =>
          have HC2 := Lib.hid (fun x a => HX2.out x a true hc2)
          have HZ2 : Hid (visZ (fun k => !q k && q (k + 1)) (k + 1) = qh ++ [(k : Int)]) := Lib.hid (by rw [HE2.out, hc1, hc2]; simp)
          clear hc1 hc2
          go_wp2_with fail
          refine HC.out.mono ?_
          rintro e w6 ⟨rfl, b_w6⟩
          have a_w6 := HA.out.trans b_w6
          obtain ⟨u7, w7, q1, q2, q3⟩ := TwoN.app (k : Int) (HT.out.later b_w6) a_w6.below.size (by rw [HNs.out.1]; exact Nat.le_trans HS1.out (by decide))
          have K7 := Lib.hid q1
          have HT7 := Lib.hid (And.intro (q3 w5 (Nat.le_refl _) a_w6) q2)
          obtain ⟨⟨g7, c7, rfl, -⟩, -⟩ := q2
          clear q1 q3 b_w6 a_w6
          have HL7 : Hid ((qs ++ [(k : Int)]).length = ns + 1) := Lib.hid (by rw [List.length_append, HNs.out.1]; rfl)
          rw [HL7.out] at K7 HT7
          go_wp2_with (at_builtin; refine Lib.wpList_append_run _ rfl _ _ _ _ rfl _ _ rfl rfl _ _ K7.out ?_)
          refine (HC2.out _ HT7.out.1).mono ?_
          rintro e w8 ⟨rfl, b_w8⟩
          have a_w8 := HT7.out.1.trans b_w8
          obtain ⟨u9, w9, q1, q2, q3⟩ := TwoN.app (k : Int) (HT7.out.2.later b_w8).symm a_w8.below.size (by rw [HNs.out.2]; exact Nat.le_trans HS2.out (by decide))
          have K9 := Lib.hid q1
          have HT9 := Lib.hid (And.intro (q3 w5 (Nat.le_refl _) a_w8) q2.symm)
          obtain ⟨⟨g9, c9, rfl, -⟩, -⟩ := q2
          clear q1 q3 b_w8 a_w8
          have HL9 : Hid ((qh ++ [(k : Int)]).length = nh + 1) := Lib.hid (by rw [List.length_append, HNs.out.2]; rfl)
          rw [HL9.out] at K9 HT9
          go_wp2_with (at_builtin; refine Lib.wpList_append_run _ rfl _ _ _ _ rfl _ _ rfl rfl _ _ K9.out ?_)
          go_roundg (N - (k + 1))
          case measure => omega
          case rel => exact ⟨k + 1, rfl, hlt, by go_num, HT9.out.1, by rw [HZ1.out, HZ2.out]; exact HT9.out.2⟩
        | false =>
          have HC2 := Lib.hid (fun x a => HX2.out x a false hc2)
          have HZ2 : Hid (visZ (fun k => !q k && q (k + 1)) (k + 1) = qh) := Lib.hid (by rw [HE2.out, hc1, hc2]; simp)
          clear hc1 hc2
          go_wp2_with fail
          refine HC.out.mono ?_
          rintro e w6 ⟨rfl, b_w6⟩
          have a_w6 := HA.out.trans b_w6
          obtain ⟨u7, w7, q1, q2, q3⟩ := TwoN.app (k : Int) (HT.out.later b_w6) a_w6.below.size (by rw [HNs.out.1]; exact Nat.le_trans HS1.out (by decide))
          have K7 := Lib.hid q1
          have HT7 := Lib.hid (And.intro (q3 w5 (Nat.le_refl _) a_w6) q2)
          obtain ⟨⟨g7, c7, rfl, -⟩, -⟩ := q2
          clear q1 q3 b_w6 a_w6
          have HL7 : Hid ((qs ++ [(k : Int)]).length = ns + 1) := Lib.hid (by rw [List.length_append, HNs.out.1]; rfl)
          rw [HL7.out] at K7 HT7
          go_wp2_with (at_builtin; refine Lib.wpList_append_run _ rfl _ _ _ _ rfl _ _ rfl rfl _ _ K7.out ?_)
          refine (HC2.out _ HT7.out.1).mono ?_
          rintro e w8 ⟨rfl, b_w8⟩
          have HT8 := Lib.hid (And.intro (HT7.out.1.trans b_w8) (HT7.out.2.later b_w8))
          clear b_w8
          go_wp2_with fail
          go_roundg (N - (k + 1))
          case measure => omega
          case rel => exact ⟨k + 1, rfl, hlt, by go_num, HT8.out.1, by rw [HZ1.out, HZ2.out]; exact HT8.out.2⟩
    · obtain rfl : k = N := by omega
      have d0 : decide ((k : Int) < (k : Int)) = false := by simp
      have HS : Hid (RI wr (.slice (some ⟨g1, 0, none⟩) (visZ (fun k => !q k) k).length c1') (visZ (fun k => !q k) k) ∧ RI wr (.slice (some ⟨g2, 0, none⟩) (visZ (fun k => !q k && q (k + 1)) k).length c2') (visZ (fun k => !q k && q (k + 1)) k)) := Lib.hid ⟨HT.out.2.2.2.1.rn, HT.out.2.2.2.2.rn⟩
      have HWr := Lib.hid (And.intro (HW5.out.1.trans HA.out) (And.intro (HW5.out.2.1.later HA.out) (And.intro (HW5.out.2.2.1.later HA.out) (HW5.out.2.2.2.later HA.out))))
      generalize visZ (fun k => !q k) k = S at *
      generalize visZ (fun k => !q k && q (k + 1)) k = Hs at *
      have HSm := Lib.hid (fun (x : World) (u v : Value) (h : RI x u S) (h2 : RI x v S) => ints_any u v S S x true (decide_eq_true rfl) h h2 (Nat.le_trans HVl.out.1 (by decide)) (Nat.le_trans HVl.out.1 (by decide)))
      have HHm := Lib.hid (fun (x : World) (u v : Value) (h : RI x u Hs) (h2 : RI x v Hs) => ints_any u v Hs Hs x true (decide_eq_true rfl) h h2 (Nat.le_trans HVl.out.2 (by decide)) (Nat.le_trans HVl.out.2 (by decide)))
      have hS81 := HVl.out.1
      clear a_wr HA HA0 HT0 HT HW5 HVl HS1 HS2
      generalize hSn : S.length = nS at *
      have HSn := Lib.hid hSn
      clear hSn
      generalize Hs.length = nH at *
      go_wp2_with fail
      refine (HFew.out _ _ HWr.out.2.2.1).mono ?_
      rintro e w6 ⟨u6, rfl, b6, p6⟩
      have HP6 := Lib.hid p6
      have HB6 := Lib.hid b6
      obtain ⟨A6, c6, rfl, -⟩ := p6.form
      clear b6 p6
      generalize l.length = n6 at *
      go_wp2_with fail
      refine (HHd.out _ _ tg g HP6.out (HWr.out.2.2.2.later HB6.out)).mono ?_
      rintro e w7 ⟨v7, T, rfl, b7, p7, g7, r7⟩
      have HB7 := Lib.hid (HB6.out.trans b7)
      have HT7 := Lib.hid (And.intro p7 (And.intro g7 r7))
      have hT1 := HTl.out T g7 r7
      have hht := HHt.out T g7 r7
      have HGd := Lib.hid (fun (x : World) (a : AnyLater w7 x) => good_any v7 T x true ⟨fun _ => g7, fun _ => rfl⟩ (p7.later a) (by omega))
      have HHt2 := Lib.hid (fun (x : World) (a : AnyLater w7 x) => height_any v7 T T x (p7.later a) (by omega) g7 (fun _ => rfl))
      have HHas := Lib.hid (fun (x : World) (c : Bool) (hc : q y = c) (a : AnyLater w7 x) => has_any v7 T y x c ((r7 y).trans hc) (p7.later a) (by omega))
      have HHtv : Hid (heightL T = (k : Int) - (nS : Int)) := Lib.hid hht
      obtain ⟨A7, c7, rfl, -⟩ := p7
      clear b7 g7 r7 hht HB6 HP6 HTl HHt HHd
      rw [HHtv.out] at HHt2
      generalize T.length = mT at *
      go_wp2_with fail
      refine (HFew.out _ _ (HWr.out.2.2.1.later HB7.out)).mono ?_
      rintro e w8 ⟨u8, rfl, b8, p8⟩
      have HP8 := Lib.hid p8
      have HB8 := Lib.hid (And.intro b8 (HB7.out.trans b8))
      obtain ⟨A8, c8, rfl, -⟩ := p8.form
      clear b8 p8
      generalize l.length = n8 at *
      go_wp2_with fail
      refine (HVis.out _ _ tg g HP8.out (HWr.out.2.2.2.later HB8.out.2)).mono ?_
      rintro e w9 ⟨u9, rfl, b9, o9⟩
      have HP9 := Lib.hid o9.rn
      have HB9 := Lib.hid (And.intro (HB8.out.1.trans b9) (HB8.out.2.trans b9))
      obtain ⟨A9, c9, rfl, -⟩ := o9.form
      clear b9 o9
      generalize S.length = n9 at *
      go_wp2_with fail
      refine (HSm.out _ _ _ HP9.out (HS.out.1.later HB9.out.2)).mono ?_
      rintro e w10 ⟨rfl, b10⟩
      have HB10 := Lib.hid (And.intro (HB9.out.1.trans b10) (HB9.out.2.trans b10))
      clear b10
      go_wp2_with fail
      refine (HFew.out _ _ (HWr.out.2.2.1.later HB10.out.2)).mono ?_
      rintro e w11 ⟨u11, rfl, b11, p11⟩
      have HP11 := Lib.hid p11
      have HB11 := Lib.hid (And.intro (HB10.out.1.trans b11) (HB10.out.2.trans b11))
      obtain ⟨A11, c11, rfl, -⟩ := p11.form
      clear b11 p11
      generalize l.length = n11 at *
      go_wp2_with fail
      refine (HHds.out _ _ tg g HP11.out (HWr.out.2.2.2.later HB11.out.2)).mono ?_
      rintro e w12 ⟨u12, rfl, b12, o12⟩
      have HP12 := Lib.hid o12.rn
      have HB12 := Lib.hid (And.intro (HB11.out.1.trans b12) (HB11.out.2.trans b12))
      obtain ⟨A12, c12, rfl, -⟩ := o12.form
      clear b12 o12
      generalize Hs.length = n12 at *
      go_wp2_with fail
      refine (HHm.out _ _ _ HP12.out (HS.out.2.later HB12.out.2)).mono ?_
      rintro e w13 ⟨rfl, b13⟩
      have HB13 := Lib.hid (And.intro (HB12.out.1.trans b13) (HB12.out.2.trans b13))
      clear b13
      go_wp2_with fail
      refine (HGd.out _ HB13.out.1).mono ?_
      rintro e w14 ⟨rfl, b14⟩
      have HB14 := Lib.hid (And.intro (HB13.out.1.trans b14) (HB13.out.2.trans b14))
      clear b14
      go_wp2_with fail
      refine (HHt2.out _ HB14.out.1).mono ?_
      rintro e w15 ⟨rfl, b15⟩
      have HB15 := Lib.hid (And.intro (HB14.out.1.trans b15) (HB14.out.2.trans b15))
      clear b15
      have d15 : (((k : Int) - (nS : Int)) != ((k : Int) - (nS : Int))) = false := by simp
      go_wp2_with fail
      refine (HXH.out _ _ _ 0 false HQ0.out (HWr.out.2.2.1.later HB15.out.2) (HWr.out.2.1.later HB15.out.2)).mono ?_
      rintro e w16 ⟨rfl, b16⟩
      have HB16 := Lib.hid (And.intro (HB15.out.1.trans b16) (HB15.out.2.trans b16))
      clear b16
      go_wp2_with fail
      refine (HFew.out _ _ (HWr.out.2.2.1.later HB16.out.2)).mono ?_
      rintro e w17 ⟨u17, rfl, b17, p17⟩
      have HP17 := Lib.hid p17
      have HB17 := Lib.hid (And.intro (HB16.out.1.trans b17) (HB16.out.2.trans b17))
      obtain ⟨A17, c17, rfl, -⟩ := p17.form
      clear b17 p17
      generalize l.length = n17 at *
      obtain ⟨cy, hcy⟩ : ∃ c, q y = c := ⟨_, rfl⟩
      have HCy := Lib.hid hcy
      have dcy : (cy == cy) = true := by simp
      clear hcy
      go_wp2_with fail
      refine (HHl.out _ _ tg g cy HCy.out HP17.out (HWr.out.2.2.2.later HB17.out.2)).mono ?_
      rintro e w18 ⟨rfl, b18⟩
      have HB18 := Lib.hid (And.intro (HB17.out.1.trans b18) (HB17.out.2.trans b18))
      clear b18
      go_wp2_with fail
      refine (HXH.out _ _ _ y cy HCy.out (HWr.out.2.2.1.later HB18.out.2) (HWr.out.2.1.later HB18.out.2)).mono ?_
      rintro e w19 ⟨rfl, b19⟩
      have HB19 := Lib.hid (And.intro (HB18.out.1.trans b19) (HB18.out.2.trans b19))
      clear b19
      go_wp2_with fail
      refine (HHas.out _ cy HCy.out HB19.out.1).mono ?_
      rintro e w20 ⟨rfl, b20⟩
      have HB20 := Lib.hid (And.intro (HB19.out.1.trans b20) (HB19.out.2.trans b20))
      clear b20
      go_wp2_with fail
      refine (HXH.out _ _ _ y cy HCy.out (HWr.out.2.2.1.later HB20.out.2) (HWr.out.2.1.later HB20.out.2)).mono ?_
      rintro e w21 ⟨rfl, b21⟩
      have HB21 := Lib.hid (HB20.out.2.trans b21)
      clear b21
      go_wp2_with fail
      refine (flives _).mono ?_
      rintro e w22 ⟨rfl, b22⟩
      have HB22 := Lib.hid (HWr.out.1.trans (HB21.out.trans b22))
      clear b22
      go_wp2_with fail
      go_ret
      exact ⟨rfl, HB22.out⟩
end Go.Proofs.YtiicaldnegcdiaaGreat
