/- seq: the document's Find, Insert, Delete, Set: by contract. -/
import Derived.Test.YthgfmlfgbghfbaaSeqQ
import Derived.Test.YthgfmlfgbghfbaaFree
import Derived.Test.YthgfmlfgbghfbaaClc
import Derived.Test.YthgfmlfgbghfbaaStor
import Derived.Lib.AppendZeros
import Derived.LoopN
import Derived.Deep.LoopGhost
import Derived.BigRegion
import Derived.RegionTactic
import Derived.Shelf.Abstract
import Derived.ChangeKeysEq
import Derived.Deep.DeepCutAuto
import Derived.Deep.CutBlock
namespace Go.Proofs.Ythgfmlfgbghfbaa
set_option linter.unusedSimpArgs false
set_option linter.unusedVariables false
set_option linter.unusedSectionVars false
open Go.RowKit


set_option maxRecDepth 100000 in
set_option maxHeartbeats 1600000 in
theorem rfind_any1 (v : Value) (l : Qs) (y : Int) (w : World) (r : Int × Int) (hr : fdL 1 y l 0 (-1) 0 0 = r) (hv : QR w v l) (hl : l.length ≤ 90000) (hT : Tls l) : Calls Try.prog 18 #[v, .int .i64 y, .bool true] w fun e w' => e = .returned (.tuple #[.int .i64 r.1, .int .i64 r.2]) ∧ AnyLater w w' := by
  obtain ⟨A, cap, rfl, h2, h3⟩ := hv
  have HCC : Hid (∀ (j : Nat) (h : j < l.length), ∃ b off, A = some ⟨b, off, none⟩ ∧ b < w.heap.size ∧ w.cell? ⟨b, off + j * 2, none⟩ = some (.int .i64 l[j].1) ∧ w.cell? ⟨b, off + j * 2 + 1, none⟩ = some (.int .i64 l[j].2)) := Lib.hid (fun j hj => by
    obtain ⟨b, off, e, hb, hc⟩ := h3 (by omega)
    exact ⟨b, off, e, hb, hc j hj⟩)
  have HB : Hid (∀ j, (0 ≤ tlR (l.take j) ∧ tlR (l.take j) ≤ 2000000000000) ∧ 0 ≤ tlH (l.take j) ∧ tlH (l.take j) ≤ 2000000000000) := Lib.hid (hT.bound hl)
  have HTk : Hid (∀ (j : Nat) (h : j < l.length), tlR (l.take (j + 1)) = tlR (l.take j) + l[j].1) := Lib.hid (fun j h => (tl_take h).1)
  have HD : Hid (∀ (j : Nat) (h : j < l.length) (b t s : Int), fdL 1 y (l.drop j) j b t s = if 0 < l[j].1 ∧ (b < 0 ∨ s ≤ y) then fdL 1 y (l.drop (j + 1)) ((j : Int) + 1) j s (s + l[j].1) else fdL 1 y (l.drop (j + 1)) ((j : Int) + 1) b t (s + l[j].1)) := Lib.hid (fun j h b t s => by
    rw [List.drop_eq_getElem_cons h]; rfl)
  have HR := Lib.hid hr
  obtain ⟨n, hnn⟩ : ∃ n, l.length = n := ⟨_, rfl⟩
  have HN := Lib.hid hnn
  rw [hnn] at h2 hl ⊢
  clear h3 hnn hT hr
  go_enter Try.func18, Try.ntmps18
  go_wp2_with fail
  go_loopg [8, 9, 10, 11] n (fun kk bv tv sv iv wr => ∃ (j : Nat) (b t : Int), kk = n - j ∧ j ≤ n ∧ iv = .int .i64 j ∧ bv = .int .i64 b ∧ tv = .int .i64 t ∧ sv = .int .i64 (tlR (l.take j)) ∧ AnyLater w wr ∧ fdL 1 y (l.drop j) j b t (tlR (l.take j)) = r)
  case atStart => exact ⟨0, -1, 0, by omega, by omega, rfl, rfl, rfl, by simp [tlR, tlH], AnyLater.refl _, by simpa [tlR, tlH] using HR.out⟩
  case round =>
    obtain ⟨j, b, t, hk, hj, rfl, rfl, rfl, rfl, a_wr, hf⟩ := hrel
    by_cases hlt : j < n
    · have lj : j < l.length := by rw [HN.out]; omega
      obtain ⟨bb, off, rfl, hb, k0, k1⟩ := HCC.out j lj
      have c0 : wr.cell? ⟨bb, off + j * 2, none⟩ = some (.int .i64 l[j].1) := (a_wr.below.cell hb).trans k0
      have c1 : wr.cell? ⟨bb, off + j * 2 + 1, none⟩ = some (.int .i64 l[j].2) := (a_wr.below.cell hb).trans k1
      have t1 := HTk.out j lj
      obtain ⟨⟨p1, p2⟩, p3, p4⟩ := HB.out (j + 1)
      obtain ⟨S1, e1⟩ : ∃ S1, tlR (l.take (j + 1)) = S1 := ⟨_, rfl⟩
      have HS1 := Lib.hid e1
      rw [e1] at t1 p1 p2
      have hd := HD.out j lj b t (tlR (l.take j))
      rw [hf] at hd
      clear e1 k0 k1 hf p3 p4
      generalize tlR (l.take j) = S0 at *
      generalize l[j] = x at *
      obtain ⟨f, g⟩ := x
      simp only at c0 c1 t1 hd
      have t1' : S0 + f = S1 := t1.symm
      rw [t1'] at hd
      clear t1
      by_cases q1 : 0 < f
      · by_cases q2 : b < 0
        · rw [if_pos ⟨q1, .inl q2⟩] at hd
          have HZ := Lib.hid hd
          clear hd
          go_wp2_with fail
          go_roundg (n - (j + 1))
          case measure => omega
          case rel => exact ⟨j + 1, (j : Int), S0, rfl, hlt, by go_num, rfl, rfl, by rw [HS1.out], a_wr, by rw [HS1.out]; exact HZ.out.symm⟩
        · have d2 : decide (b < 0) = false := decide_eq_false q2
          by_cases q3 : S0 ≤ y
          · rw [if_pos ⟨q1, .inr q3⟩] at hd
            have HZ := Lib.hid hd
            clear hd
            go_wp2_with fail
            go_roundg (n - (j + 1))
            case measure => omega
            case rel => exact ⟨j + 1, (j : Int), S0, rfl, hlt, by go_num, rfl, rfl, by rw [HS1.out], a_wr, by rw [HS1.out]; exact HZ.out.symm⟩
          · rw [if_neg (fun h => h.2.elim q2 q3)] at hd
            have HZ := Lib.hid hd
            have d3 : decide (S0 ≤ y) = false := decide_eq_false q3
            clear hd
            go_wp2_with fail
            go_roundg (n - (j + 1))
            case measure => omega
            case rel => exact ⟨j + 1, b, t, rfl, hlt, by go_num, rfl, rfl, by rw [HS1.out], a_wr, by rw [HS1.out]; exact HZ.out.symm⟩
      · rw [if_neg (fun h => q1 h.1)] at hd
        have HZ := Lib.hid hd
        have d1 : decide (0 < f) = false := decide_eq_false q1
        clear hd
        go_wp2_with fail
        go_roundg (n - (j + 1))
        case measure => omega
        case rel => exact ⟨j + 1, b, t, rfl, hlt, by go_num, rfl, rfl, by rw [HS1.out], a_wr, by rw [HS1.out]; exact HZ.out.symm⟩
    · obtain rfl : j = n := by omega
      rw [List.drop_of_length_le (Nat.le_of_eq HN.out)] at hf
      have HF := Lib.hid hf
      clear hf
      go_wp2_with fail
      refine bodyPost_ret (v := .tuple #[.int .i64 b, .int .i64 t]) (by simp [results, Try.results18, go_sem]) rfl ?_
      have := HF.out
      unfold fdL at this
      rw [← this]
      exact ⟨rfl, a_wr⟩
set_option maxRecDepth 100000 in
set_option maxHeartbeats 1600000 in
theorem rfind_any2 (v : Value) (l : Qs) (y : Int) (w : World) (r : Int × Int) (hr : fdL 2 y l 0 (-1) 0 0 = r) (hv : QR w v l) (hl : l.length ≤ 90000) (hT : Tls l) : Calls Try.prog 18 #[v, .int .i64 y, .bool false] w fun e w' => e = .returned (.tuple #[.int .i64 r.1, .int .i64 r.2]) ∧ AnyLater w w' := by
  obtain ⟨A, cap, rfl, h2, h3⟩ := hv
  have HCC : Hid (∀ (j : Nat) (h : j < l.length), ∃ b off, A = some ⟨b, off, none⟩ ∧ b < w.heap.size ∧ w.cell? ⟨b, off + j * 2, none⟩ = some (.int .i64 l[j].1) ∧ w.cell? ⟨b, off + j * 2 + 1, none⟩ = some (.int .i64 l[j].2)) := Lib.hid (fun j hj => by
    obtain ⟨b, off, e, hb, hc⟩ := h3 (by omega)
    exact ⟨b, off, e, hb, hc j hj⟩)
  have HB : Hid (∀ j, (0 ≤ tlR (l.take j) ∧ tlR (l.take j) ≤ 2000000000000) ∧ 0 ≤ tlH (l.take j) ∧ tlH (l.take j) ≤ 2000000000000) := Lib.hid (hT.bound hl)
  have HTk : Hid (∀ (j : Nat) (h : j < l.length), tlH (l.take (j + 1)) = tlH (l.take j) + l[j].2) := Lib.hid (fun j h => (tl_take h).2)
  have HD : Hid (∀ (j : Nat) (h : j < l.length) (b t s : Int), fdL 2 y (l.drop j) j b t s = if 0 < l[j].2 ∧ (b < 0 ∨ s ≤ y) then fdL 2 y (l.drop (j + 1)) ((j : Int) + 1) j s (s + l[j].2) else fdL 2 y (l.drop (j + 1)) ((j : Int) + 1) b t (s + l[j].2)) := Lib.hid (fun j h b t s => by
    rw [List.drop_eq_getElem_cons h]; rfl)
  have HR := Lib.hid hr
  obtain ⟨n, hnn⟩ : ∃ n, l.length = n := ⟨_, rfl⟩
  have HN := Lib.hid hnn
  rw [hnn] at h2 hl ⊢
  clear h3 hnn hT hr
  go_enter Try.func18, Try.ntmps18
  go_wp2_with fail
  go_loopg [8, 9, 10, 11] n (fun kk bv tv sv iv wr => ∃ (j : Nat) (b t : Int), kk = n - j ∧ j ≤ n ∧ iv = .int .i64 j ∧ bv = .int .i64 b ∧ tv = .int .i64 t ∧ sv = .int .i64 (tlH (l.take j)) ∧ AnyLater w wr ∧ fdL 2 y (l.drop j) j b t (tlH (l.take j)) = r)
  case atStart => exact ⟨0, -1, 0, by omega, by omega, rfl, rfl, rfl, by simp [tlR, tlH], AnyLater.refl _, by simpa [tlR, tlH] using HR.out⟩
  case round =>
    obtain ⟨j, b, t, hk, hj, rfl, rfl, rfl, rfl, a_wr, hf⟩ := hrel
    by_cases hlt : j < n
    · have lj : j < l.length := by rw [HN.out]; omega
      obtain ⟨bb, off, rfl, hb, k0, k1⟩ := HCC.out j lj
      have c0 : wr.cell? ⟨bb, off + j * 2, none⟩ = some (.int .i64 l[j].1) := (a_wr.below.cell hb).trans k0
      have c1 : wr.cell? ⟨bb, off + j * 2 + 1, none⟩ = some (.int .i64 l[j].2) := (a_wr.below.cell hb).trans k1
      have t1 := HTk.out j lj
      obtain ⟨⟨p1, p2⟩, p3, p4⟩ := HB.out (j + 1)
      obtain ⟨S1, e1⟩ : ∃ S1, tlH (l.take (j + 1)) = S1 := ⟨_, rfl⟩
      have HS1 := Lib.hid e1
      rw [e1] at t1 p3 p4
      have hd := HD.out j lj b t (tlH (l.take j))
      rw [hf] at hd
      clear e1 k0 k1 hf p1 p2
      generalize tlH (l.take j) = S0 at *
      generalize l[j] = x at *
      obtain ⟨f, g⟩ := x
      simp only at c0 c1 t1 hd
      have t1' : S0 + g = S1 := t1.symm
      rw [t1'] at hd
      clear t1
      by_cases q1 : 0 < g
      · by_cases q2 : b < 0
        · rw [if_pos ⟨q1, .inl q2⟩] at hd
          have HZ := Lib.hid hd
          clear hd
          go_wp2_with fail
          go_roundg (n - (j + 1))
          case measure => omega
          case rel => exact ⟨j + 1, (j : Int), S0, rfl, hlt, by go_num, rfl, rfl, by rw [HS1.out], a_wr, by rw [HS1.out]; exact HZ.out.symm⟩
        · have d2 : decide (b < 0) = false := decide_eq_false q2
          by_cases q3 : S0 ≤ y
          · rw [if_pos ⟨q1, .inr q3⟩] at hd
            have HZ := Lib.hid hd
            clear hd
            go_wp2_with fail
            go_roundg (n - (j + 1))
            case measure => omega
            case rel => exact ⟨j + 1, (j : Int), S0, rfl, hlt, by go_num, rfl, rfl, by rw [HS1.out], a_wr, by rw [HS1.out]; exact HZ.out.symm⟩
          · rw [if_neg (fun h => h.2.elim q2 q3)] at hd
            have HZ := Lib.hid hd
            have d3 : decide (S0 ≤ y) = false := decide_eq_false q3
            clear hd
            go_wp2_with fail
            go_roundg (n - (j + 1))
            case measure => omega
            case rel => exact ⟨j + 1, b, t, rfl, hlt, by go_num, rfl, rfl, by rw [HS1.out], a_wr, by rw [HS1.out]; exact HZ.out.symm⟩
      · rw [if_neg (fun h => q1 h.1)] at hd
        have HZ := Lib.hid hd
        have d1 : decide (0 < g) = false := decide_eq_false q1
        clear hd
        go_wp2_with fail
        go_roundg (n - (j + 1))
        case measure => omega
        case rel => exact ⟨j + 1, b, t, rfl, hlt, by go_num, rfl, rfl, by rw [HS1.out], a_wr, by rw [HS1.out]; exact HZ.out.symm⟩
    · obtain rfl : j = n := by omega
      rw [List.drop_of_length_le (Nat.le_of_eq HN.out)] at hf
      have HF := Lib.hid hf
      clear hf
      go_wp2_with fail
      refine bodyPost_ret (v := .tuple #[.int .i64 b, .int .i64 t]) (by simp [results, Try.results18, go_sem]) rfl ?_
      have := HF.out
      unfold fdL at this
      rw [← this]
      exact ⟨rfl, a_wr⟩
/-! ### heights put in and taken away, one set: rows of the call's own, or what came in -/
/-- what the document's calls answer: a list, and a code -/
def RDone (W : World) (v : Value) (l : Qs) (c : Int) (e : Ending) (w' : World) : Prop := ∃ u, e = .returned (.tuple #[u, .int .i64 c]) ∧ AnyLater W w' ∧ ((u = v ∧ QR w' u l) ∨ OQ 34 w' W.heap.size u l)
/-- worlds in a row, as appends make them -/
def stQ (x0 x1 x2 x3 x4 : World) : Nat → (Nat → Value) → World → Prop
  | 0, _, x => x = x0
  | 1, _, x => x = x1
  | 2, _, x => x = x2
  | 3, _, x => x = x3
  | _, _, x => x = x4
set_option maxRecDepth 100000 in
set_option maxHeartbeats 1600000 in
theorem rins_yes (v u : Value) (l m : Qs) (i : Nat) (w : World) (hv : QR w v l) (hu : QR w u m) (hi : i ≤ l.length) (hm : l.length + m.length ≤ 90000) (hk : m.any tlBad = false) : Calls Try.prog 27 #[v, .int .i64 (i : Int), u] w (RDone w v (l.take i ++ m ++ l.drop i) 0) := by
  have HAl := Lib.hid (fun (w' : World) (a : AnyLater w w') => rall_any u m true w' (by rw [hk]; rfl) (hu.later a) (by omega))
  obtain ⟨A1, cap1, q1, k1⟩ := hv.uptoQ pairTall i hi
  obtain ⟨u2, q2, k2⟩ := hv.cutQ pairTall i hi
  have HQ := Lib.hid (And.intro q1 (And.intro q2 hu))
  have HLe : Hid ((l.take i).length = i ∧ (l.drop i).length = l.length - i) := Lib.hid ⟨by rw [List.length_take]; omega, List.length_drop⟩
  obtain ⟨A, cap, rfl, -⟩ := hv.form
  obtain ⟨A2, cap2, rfl, -⟩ := hu.form
  obtain ⟨A3, cap3, rfl, -⟩ := q2.form
  have d0 : decide ((i : Int) < 0) = false := decide_eq_false (by omega)
  have d1 : decide (l.length < i) = false := decide_eq_false (by omega)
  have HB : Hid (i ≤ l.length ∧ l.length + m.length ≤ 90000) := Lib.hid ⟨hi, hm⟩
  rw [HLe.out.2] at k2 HQ
  clear hv hu hk q1 q2
  generalize l.drop i = lb at *
  generalize l.take i = la at *
  generalize l.length = n at *
  generalize hml : m.length = k at *
  have HML := Lib.hid hml
  clear hml
  go_enter Try.func27, Try.ntmps27
  go_wp2_with fail
  refine (HAl.out _ (AnyLater.refl w)).mono ?_
  rintro e w1 ⟨rfl, b1⟩
  have HW1 := Lib.hid b1
  clear b1
  go_wp2_with fail
  have ha0 : AnyLater w w1.drew := HW1.out.drew
  obtain ⟨u4, w4, c1, c2, c3⟩ := copyQ pairTall (HQ.out.1.later ha0) (by rw [HLe.out.1]; have := HB.out; omega)
  have ha4 := ha0.trans c2
  obtain ⟨u6, w6, e1, e2, e3⟩ := appQ pairTall c3 (HQ.out.2.2.later ha4) c2.below.size (by rw [HLe.out.1]; have := HB.out; have := HML.out; omega)
  have ha6 : AnyLater w1.drew w6 := OQ.grown c3 (Nat.le_refl _) c2 e3
  obtain ⟨u8, w8, f1, f2, f3⟩ := appQ pairTall e2 (HQ.out.2.1.later (ha0.trans ha6)) ha6.below.size (by rw [List.length_append, HLe.out.1, HLe.out.2]; have := HB.out; have := HML.out; omega)
  have ha8 : AnyLater w1.drew w8 := OQ.grown e2 (Nat.le_refl _) ha6 f3
  have K1 := Lib.hid c1
  have K2 := Lib.hid e1
  have K3 := Lib.hid f1
  have KB := Lib.hid (And.intro ha4 (And.intro (ha0.trans ha6) (And.intro (ha0.trans ha8) (OQ.wide ha0.below.size f2))))
  obtain ⟨B4, g4, rfl, -⟩ := OQ.form c3
  obtain ⟨B6, g6, rfl, -⟩ := OQ.form e2
  obtain ⟨B8, g8, rfl, -⟩ := OQ.form f2
  rw [show (la ++ m).length = i + k by rw [List.length_append, HLe.out.1, HML.out]] at K2 K3
  rw [HLe.out.1] at K1 K2
  clear c1 c2 c3 e1 e2 e3 f1 f2 f3 ha4 ha6 ha8 HQ HAl HML
  generalize (la ++ m ++ lb).length = n8 at *
  generalize la ++ m ++ lb = L at *
  obtain ⟨x0, hx0⟩ : ∃ x0, w1.drew = x0 := ⟨_, rfl⟩
  have HX0 := Lib.hid hx0
  rw [hx0] at K1 ha0
  have HA0 := Lib.hid ha0
  apply wp_region_chain 11 [(0, .slice (some ⟨x0.heap.size, 0, none⟩) 0 0), (4, .slice B4 i g4), (6, .slice B6 (i + k) g6), (10, .slice B8 n8 g8)] [] (AnyLater w) (stQ x0 (x0.alloc (.cells #[] 34)) w4 w6 w8) (by kernel_rfl) (by kernel_rfl) (by kernel_rfl) (by simp) (by kernel_rfl) (by rw [hx0]; exact ha0) (fun _ => hx0)
  case hlex =>
    intro U hU
    simp only [actFrom, actOp, List.lookup, Nat.reduceBEq, Nat.reduceLeDiff, Nat.reduceAdd, if_false, if_true]
    repeat (go_big_quiet_step (fail))
    exact wpQuiet_nil rfl
  case hact =>
    intro jj hjj o ho
    have hj3 : jj = 0 ∨ jj = 1 ∨ jj = 2 ∨ jj = 3 := by simp at hjj; omega
    rcases hj3 with rfl | rfl | rfl | rfl
    · cases ho
      refine ⟨rfl, fun gv x hC hS => ?_⟩
      obtain rfl : x = x0 := hS
      exact chain_value (w' := x.alloc (.cells #[] 34)) (by simp [go_sem, execOp]) ⟨hC.alloc _, .inr rfl, rfl⟩
    · cases ho
      refine ⟨rfl, fun gv x hC hS => ?_⟩
      obtain rfl : x = x0.alloc (.cells #[] 34) := hS
      simp only [fillAll, Act.put, List.setIfInBounds_toArray, List.set_cons_zero, List.set_cons_succ]
      exact Whole.chain_app _ _ _ _ rfl _ _ rfl rfl K1.out ⟨KB.out.1, .inr rfl, rfl⟩
    · cases ho
      refine ⟨rfl, fun gv x hC hS => ?_⟩
      obtain rfl : x = w4 := hS
      simp only [fillAll, Act.put, List.setIfInBounds_toArray, List.set_cons_zero, List.set_cons_succ]
      exact Whole.chain_app _ _ _ _ rfl _ _ rfl rfl K2.out ⟨KB.out.2.1, .inr rfl, rfl⟩
    · cases ho
      refine ⟨rfl, fun gv x hC hS => ?_⟩
      obtain rfl : x = w6 := hS
      simp only [fillAll, Act.put, List.setIfInBounds_toArray, List.set_cons_zero, List.set_cons_succ]
      exact Whole.chain_app _ _ _ _ rfl _ _ rfl rfl K3.out ⟨KB.out.2.2.1, .inr rfl, rfl⟩
  case htail =>
    intro gz wz hC hS
    obtain rfl : wz = w8 := hS
    clear hC
    simp only [fillAll, Act.put, List.setIfInBounds_toArray, List.set_cons_zero, List.set_cons_succ, List.drop_succ_cons, List.drop_zero, List.drop_nil]
    go_wp2_with fail
    refine bodyPost_ret (v := .tuple #[.slice B8 n8 g8, .int .i64 0]) (by simp [results, Try.results27, go_sem]) rfl ?_
    exact ⟨_, rfl, KB.out.2.2.1, .inr KB.out.2.2.2⟩
set_option maxRecDepth 100000 in
set_option maxHeartbeats 1600000 in
theorem rdel_yes (v : Value) (l : Qs) (i k : Nat) (w : World) (hv : QR w v l) (hi : i + k ≤ l.length) (hm : l.length ≤ 90000) : Calls Try.prog 25 #[v, .int .i64 (i : Int), .int .i64 (k : Int)] w (RDone w v (l.take i ++ l.drop (i + k)) 0) := by
  obtain ⟨A1, cap1, q1, k1⟩ := hv.uptoQ pairTall i (by omega)
  obtain ⟨u2, q2, k2⟩ := hv.cutQ pairTall (i + k) hi
  have HQ := Lib.hid (And.intro q1 q2)
  have HLe : Hid ((l.take i).length = i ∧ (l.drop (i + k)).length = l.length - (i + k)) := Lib.hid ⟨by rw [List.length_take]; omega, List.length_drop⟩
  obtain ⟨A, cap, rfl, -⟩ := hv.form
  obtain ⟨A3, cap3, rfl, -⟩ := q2.form
  have d0 : decide ((i : Int) < 0) = false := decide_eq_false (by omega)
  have d00 : decide ((k : Int) < 0) = false := decide_eq_false (by omega)
  have d1 : decide (l.length < i) = false := decide_eq_false (by omega)
  have d2 : decide ((l.length : Int) - (i : Int) < (k : Int)) = false := decide_eq_false (by omega)
  have hs : ((i : Int) + (k : Int)) = ((i + k : Nat) : Int) := by omega
  have hs2 : (i : Int) + (k : Int) ≤ 90000 := by omega
  have k2' : ∀ w', (Instr.sliceAt 22 (.slice A l.length cap) (some (.int .i64 ((i : Int) + (k : Int)))) none none).run Try.prog w' = .ok (.slice A3 (l.length - (i + k)) cap3) w' := fun w' => by rw [hs, ← HLe.out.2]; exact k2 w'
  have HB : Hid (i + k ≤ l.length ∧ l.length ≤ 90000) := Lib.hid ⟨hi, hm⟩
  rw [HLe.out.2] at HQ
  have hi2 : i ≤ l.length := by omega
  clear hv q1 q2 k2 hs
  generalize l.drop (i + k) = lb at *
  generalize l.take i = la at *
  obtain ⟨n2, hn2⟩ : ∃ n2, l.length - (i + k) = n2 := ⟨_, rfl⟩
  rw [hn2] at k2' HQ HLe
  have HN2 : Hid (n2 ≤ l.length) := Lib.hid (by omega)
  clear hn2
  generalize l.length = n at *
  go_enter Try.func25, Try.ntmps25
  go_wp2_with fail
  have ha0 : AnyLater w w.drew := (AnyLater.refl w).drew
  obtain ⟨u4, w4, c1, c2, c3⟩ := copyQ pairTall (HQ.out.1.later ha0) (by rw [HLe.out.1]; have := HB.out; omega)
  have ha4 := ha0.trans c2
  obtain ⟨u8, w8, f1, f2, f3⟩ := appQ pairTall c3 (HQ.out.2.later ha4) c2.below.size (by rw [HLe.out.1, HLe.out.2]; have := HB.out; have := HN2.out; omega)
  have ha8 : AnyLater w.drew w8 := OQ.grown c3 (Nat.le_refl _) c2 f3
  have K1 := Lib.hid c1
  have K3 := Lib.hid f1
  have KB := Lib.hid (And.intro ha4 (And.intro (ha0.trans ha8) (OQ.wide ha0.below.size f2)))
  obtain ⟨B4, g4, rfl, -⟩ := OQ.form c3
  obtain ⟨B8, g8, rfl, -⟩ := OQ.form f2
  rw [HLe.out.1] at K1 K3
  clear c1 c2 c3 f1 f2 f3 ha4 ha8 HQ
  generalize (la ++ lb).length = n8 at *
  generalize la ++ lb = L at *
  obtain ⟨x0, hx0⟩ : ∃ x0, w.drew = x0 := ⟨_, rfl⟩
  have HX0 := Lib.hid hx0
  rw [hx0] at K1 ha0
  apply wp_region_chain 11 [(0, .slice (some ⟨x0.heap.size, 0, none⟩) 0 0), (4, .slice B4 i g4), (10, .slice B8 n8 g8)] [] (AnyLater w) (stQ x0 (x0.alloc (.cells #[] 34)) w4 w8 w8) (by kernel_rfl) (by kernel_rfl) (by kernel_rfl) (by simp) (by kernel_rfl) (by rw [hx0]; exact ha0) (fun _ => hx0)
  case hlex =>
    intro U hU
    simp only [actFrom, actOp, List.lookup, Nat.reduceBEq, Nat.reduceLeDiff, Nat.reduceAdd, if_false, if_true]
    repeat (go_big_quiet_step (fail))
    exact wpQuiet_nil rfl
  case hact =>
    intro jj hjj o ho
    have hj3 : jj = 0 ∨ jj = 1 ∨ jj = 2 := by simp at hjj; omega
    rcases hj3 with rfl | rfl | rfl
    · cases ho
      refine ⟨rfl, fun gv x hC hS => ?_⟩
      obtain rfl : x = x0 := hS
      exact chain_value (w' := x.alloc (.cells #[] 34)) (by simp [go_sem, execOp]) ⟨hC.alloc _, .inr rfl, rfl⟩
    · cases ho
      refine ⟨rfl, fun gv x hC hS => ?_⟩
      obtain rfl : x = x0.alloc (.cells #[] 34) := hS
      simp only [fillAll, Act.put, List.setIfInBounds_toArray, List.set_cons_zero, List.set_cons_succ]
      exact Whole.chain_app _ _ _ _ rfl _ _ rfl rfl K1.out ⟨KB.out.1, .inr rfl, rfl⟩
    · cases ho
      refine ⟨rfl, fun gv x hC hS => ?_⟩
      obtain rfl : x = w4 := hS
      simp only [fillAll, Act.put, List.setIfInBounds_toArray, List.set_cons_zero, List.set_cons_succ]
      exact Whole.chain_app _ _ _ _ rfl _ _ rfl rfl K3.out ⟨KB.out.2.1, .inr rfl, rfl⟩
  case htail =>
    intro gz wz hC hS
    obtain rfl : wz = w8 := hS
    clear hC
    simp only [fillAll, Act.put, List.setIfInBounds_toArray, List.set_cons_zero, List.set_cons_succ, List.drop_succ_cons, List.drop_zero, List.drop_nil]
    go_wp2_with fail
    refine bodyPost_ret (v := .tuple #[.slice B8 n8 g8, .int .i64 0]) (by simp [results, Try.results25, go_sem]) rfl ?_
    exact ⟨_, rfl, KB.out.2.1, .inr KB.out.2.2⟩
set_option maxRecDepth 100000 in
set_option maxHeartbeats 1600000 in
theorem rset_yes (v : Value) (l : Qs) (i : Nat) (x y : Int) (w : World) (hv : QR w v l) (hi : i < l.length) (hm : l.length ≤ 90000) (hx : tlBad (x, y) = false) : Calls Try.prog 26 #[v, .int .i64 (i : Int), .agg #[.int .i64 x, .int .i64 y]] w (RDone w v (l.set i (x, y)) 0) := by
  have HM := Lib.hid (fun w' => rmay_any x y true w' (by rw [hx]; rfl))
  have HCp := Lib.hid (fun (w' : World) (a : AnyLater w w') => copyQ pairTall (hv.later a) (by omega))
  have HI := Lib.hid hi
  obtain ⟨A, cap, rfl, -⟩ := hv.form
  have d0 : decide ((i : Int) < 0) = false := decide_eq_false (by omega)
  have d1 : decide (l.length ≤ i) = false := decide_eq_false (by omega)
  clear hv hm hx hi
  obtain ⟨n, hn⟩ : ∃ n, l.length = n := ⟨_, rfl⟩
  have HN := Lib.hid hn
  rw [hn] at d1 HCp ⊢
  clear hn
  go_enter Try.func26, Try.ntmps26
  go_wp2_with fail
  first | refine settle_wp (fun wS => AnyLater w wS ∧ wS.heap[w.heap.size]? = some (.cells #[.int .i64 x, .int .i64 y] 34)) ?_ ?_ | refine settle_calls (fun wS => AnyLater w wS ∧ wS.heap[w.heap.size]? = some (.cells #[.int .i64 x, .int .i64 y] 34)) ?_ ?_
  · refine ⟨?_, ?_⟩
    · repeat' (first | with_reducible assumption | with_reducible exact AnyLater.refl _ | with_reducible apply AnyLater.setCell | with_reducible apply AnyLater.later | with_reducible apply AnyLater.drewN | with_reducible apply AnyLater.drew | with_reducible apply AnyLater.alloc | ((try simp only [World.size_alloc, World.size_setCell, World.size_drew]); (try dsimp only); omega))
    · ((repeat (first | with_reducible assumption | ((with_reducible apply heap_new); (try simp only [World.size_alloc, World.size_setCell, World.size_drew, World.heap_drewN]); done) | ((with_reducible apply heap_new); (try simp only [World.size_alloc, World.size_setCell, World.size_drew, World.heap_drewN]); omega) | (with_reducible refine heap_old (by (try simp only [World.size_alloc, World.size_setCell, World.size_drew, World.heap_drewN]); omega) ?_) | (with_reducible refine heap_drew ?_) | (with_reducible refine heap_far (by omega) ?_) | (with_reducible apply heap_at))); all_goals rfl)
  rintro w1 ⟨b_w1, s0_w1⟩
  have a_w1 := b_w1
  have r0_w1 := own_row s0_w1
  have f0_w1 := own_free s0_w1
  have l0_w1 := own_lt s0_w1
  have z_w1 := b_w1.below.size
  refine (HM.out _).mono ?_
  rintro e w2 ⟨rfl, b_w2⟩
  have z_w2 := b_w2.below.size
  have a_w2 := a_w1.trans b_w2
  have s0_w2 := any_own b_w2 s0_w1
  have r0_w2 := own_row s0_w2
  have f0_w2 := own_free s0_w2
  have l0_w2 := own_lt s0_w2
  (try clear r0_w1); (try clear f0_w1)
  obtain ⟨u3, w3, c1, b_w3, c3⟩ := HCp.out w2 a_w2
  have K1 := Lib.hid c1
  obtain ⟨g, cp, rfl, hg⟩ := OQ.block c3 (by have := HI.out; omega)
  have HO := Lib.hid c3
  obtain ⟨-, cur, hb, -⟩ := OQ.tells c3
  obtain ⟨bb, off, e7, -, c4, c5⟩ := (OQ.rq c3).at i HI.out
  cases e7
  simp only [Nat.zero_add] at c4 c5
  have z_w3 := b_w3.below.size
  have a_w3 := a_w2.trans b_w3
  have s0_w3 := any_own b_w3 s0_w2
  have r0_w3 := own_row s0_w3
  have f0_w3 := own_free s0_w3
  have l0_w3 := own_lt s0_w3
  (try clear r0_w2); (try clear f0_w2)
  have fb := own_free hb
  have lb := own_lt hb
  have hgw : w.heap.size ≤ g := Nat.le_trans a_w2.below.size hg
  have HG := Lib.hid hb
  have hi2 : i < n := by have := HI.out; have := HN.out; omega
  rw [HN.out] at K1 HO
  clear c1 c3 hb
  generalize l[i].1 = u0 at *
  generalize l[i].2 = u1 at *
  go_wp2_with (at_builtin; refine Lib.wpList_append_run _ rfl _ _ _ _ rfl _ _ rfl rfl _ _ K1.out ?_)
  refine bodyPost_ret (v := .tuple #[.slice (some ⟨g, 0, none⟩) n cp, .int .i64 0]) (by simp [results, Try.results26, go_sem]) rfl ?_
  refine ⟨_, rfl, by repeat' (first | with_reducible assumption | with_reducible exact AnyLater.refl _ | with_reducible apply AnyLater.setCell | with_reducible apply AnyLater.later | with_reducible apply AnyLater.drewN | with_reducible apply AnyLater.drew | with_reducible apply AnyLater.alloc | ((try simp only [World.size_alloc, World.size_setCell, World.size_drew]); (try dsimp only); omega)), .inr ?_⟩
  exact OQ.wide a_w2.below.size (OQ.set (x, y) HO.out HI.out)
set_option maxRecDepth 100000 in
set_option maxHeartbeats 1600000 in
theorem rins_range (v u : Value) (l : Qs) (i : Int) (w : World) (hv : QR w v l) (hi : i < 0 ∨ (l.length : Int) < i) : Calls Try.prog 27 #[v, .int .i64 i, u] w (RDone w v l 1) := by
  have HV := Lib.hid hv
  obtain ⟨A, cap, rfl, -⟩ := hv.form
  clear hv
  by_cases h0 : i < 0
  · clear hi
    generalize l.length = n at *
    go_enter Try.func27, Try.ntmps27
    go_wp2_with fail
    refine bodyPost_ret (v := .tuple #[.slice A n cap, .int .i64 1]) (by simp [results, Try.results27, go_sem]) rfl ?_
    exact ⟨_, rfl, AnyLater.refl _, .inl ⟨rfl, HV.out⟩⟩
  · have h1 := hi.resolve_left h0
    clear hi
    generalize l.length = n at *
    have d0 : decide (i < 0) = false := decide_eq_false h0
    go_enter Try.func27, Try.ntmps27
    go_wp2_with fail
    refine bodyPost_ret (v := .tuple #[.slice A n cap, .int .i64 1]) (by simp [results, Try.results27, go_sem]) rfl ?_
    exact ⟨_, rfl, AnyLater.refl _, .inl ⟨rfl, HV.out⟩⟩
set_option maxRecDepth 100000 in
set_option maxHeartbeats 1600000 in
theorem rins_kind (v u : Value) (l m : Qs) (i : Nat) (w : World) (hv : QR w v l) (hu : QR w u m) (hi : i ≤ l.length) (hm : m.length ≤ 90000) (hk : m.any tlBad = true) : Calls Try.prog 27 #[v, .int .i64 (i : Int), u] w (RDone w v l 5) := by
  have HAl := Lib.hid (rall_any u m false w (by rw [hk]; rfl) hu hm)
  have HV := Lib.hid (fun (w' : World) (a : AnyLater w w') => hv.later a)
  obtain ⟨A, cap, rfl, -⟩ := hv.form
  have d0 : decide ((i : Int) < 0) = false := decide_eq_false (by omega)
  have d1 : decide (l.length < i) = false := decide_eq_false (by omega)
  clear hv hu hk hm hi
  generalize l.length = n at *
  go_enter Try.func27, Try.ntmps27
  go_wp2_with fail
  refine HAl.out.mono ?_
  rintro e w1 ⟨rfl, b1⟩
  have HB := Lib.hid b1
  clear b1
  go_wp2_with fail
  refine bodyPost_ret (v := .tuple #[.slice A n cap, .int .i64 5]) (by simp [results, Try.results27, go_sem]) rfl ?_
  exact ⟨_, rfl, HB.out, .inl ⟨rfl, HV.out _ HB.out⟩⟩
theorem rins_any (v u : Value) (l m : Qs) (i : Int) (w : World) (hv : QR w v l) (hu : QR w u m) (hm : l.length + m.length ≤ 90000) : Calls Try.prog 27 #[v, .int .i64 i, u] w (RDone w v (qinsO l i m) (qinsC l.length i m)) := by
  by_cases h1 : i < 0 ∨ (l.length : Int) < i
  · have e1 : qinsC l.length i m = 1 := by unfold qinsC; rw [if_pos h1]
    have e2 : qinsO l i m = l := by unfold qinsO; rw [if_neg (by rw [e1]; decide)]
    rw [e1, e2]
    exact rins_range v u l i w hv h1
  · obtain ⟨n, rfl⟩ := Int.eq_ofNat_of_zero_le (show 0 ≤ i by omega)
    cases h2 : m.any tlBad
    · have e1 : qinsC l.length n m = 0 := by unfold qinsC; rw [if_neg h1, h2]; rfl
      have e2 : qinsO l n m = l.take n ++ m ++ l.drop n := by unfold qinsO; rw [if_pos e1]; rfl
      rw [e1, e2]
      exact rins_yes v u l m n w hv hu (by omega) hm h2
    · have e1 : qinsC l.length n m = 5 := by unfold qinsC; rw [if_neg h1, h2]; rfl
      have e2 : qinsO l n m = l := by unfold qinsO; rw [if_neg (by rw [e1]; decide)]
      rw [e1, e2]
      exact rins_kind v u l m n w hv hu (by omega) (by omega) h2
set_option maxRecDepth 100000 in
set_option maxHeartbeats 1600000 in
theorem rdel_range (v : Value) (l : Qs) (i k : Int) (w : World) (hv : QR w v l) (hm : l.length ≤ 90000) (hi : ¬ (0 ≤ i ∧ i ≤ l.length ∧ 0 ≤ k ∧ k ≤ l.length - i)) : Calls Try.prog 25 #[v, .int .i64 i, .int .i64 k] w (RDone w v l 1) := by
  have HV := Lib.hid hv
  obtain ⟨A, cap, rfl, -⟩ := hv.form
  clear hv
  by_cases h0 : i < 0
  · clear hi
    generalize l.length = n at *
    go_enter Try.func25, Try.ntmps25
    go_wp2_with fail
    refine bodyPost_ret (v := .tuple #[.slice A n cap, .int .i64 1]) (by simp [results, Try.results25, go_sem]) rfl ?_
    exact ⟨_, rfl, AnyLater.refl _, .inl ⟨rfl, HV.out⟩⟩
  · have d0 : decide (i < 0) = false := decide_eq_false h0
    by_cases h1 : k < 0
    · clear hi
      generalize l.length = n at *
      go_enter Try.func25, Try.ntmps25
      go_wp2_with fail
      refine bodyPost_ret (v := .tuple #[.slice A n cap, .int .i64 1]) (by simp [results, Try.results25, go_sem]) rfl ?_
      exact ⟨_, rfl, AnyLater.refl _, .inl ⟨rfl, HV.out⟩⟩
    · have d1 : decide (k < 0) = false := decide_eq_false h1
      by_cases h2 : (l.length : Int) < i
      · clear hi
        generalize l.length = n at *
        go_enter Try.func25, Try.ntmps25
        go_wp2_with fail
        refine bodyPost_ret (v := .tuple #[.slice A n cap, .int .i64 1]) (by simp [results, Try.results25, go_sem]) rfl ?_
        exact ⟨_, rfl, AnyLater.refl _, .inl ⟨rfl, HV.out⟩⟩
      · have d2 : decide ((l.length : Int) < i) = false := decide_eq_false h2
        have h3 : (l.length : Int) - i < k := by omega
        have h4 : 0 ≤ (l.length : Int) - i := by omega
        have h5 : (l.length : Int) - i ≤ 90000 := by omega
        clear hi
        generalize l.length = n at *
        go_enter Try.func25, Try.ntmps25
        go_wp2_with fail
        refine bodyPost_ret (v := .tuple #[.slice A n cap, .int .i64 1]) (by simp [results, Try.results25, go_sem]) rfl ?_
        exact ⟨_, rfl, AnyLater.refl _, .inl ⟨rfl, HV.out⟩⟩
theorem rdel_any (v : Value) (l : Qs) (i k : Int) (w : World) (hv : QR w v l) (hm : l.length ≤ 90000) : Calls Try.prog 25 #[v, .int .i64 i, .int .i64 k] w (RDone w v (qdelO l i k) (qdelC l.length i k)) := by
  by_cases h1 : 0 ≤ i ∧ i ≤ l.length ∧ 0 ≤ k ∧ k ≤ l.length - i
  · have e1 : qdelC l.length i k = 0 := by unfold qdelC; rw [if_pos h1]
    have e2 : qdelO l i k = l.take i.toNat ++ l.drop (i.toNat + k.toNat) := by unfold qdelO; rw [if_pos e1]
    rw [e1, e2]
    obtain ⟨a, rfl⟩ := Int.eq_ofNat_of_zero_le h1.1
    obtain ⟨b, rfl⟩ := Int.eq_ofNat_of_zero_le h1.2.2.1
    exact rdel_yes v l a b w hv (by omega) hm
  · have e1 : qdelC l.length i k = 1 := by unfold qdelC; rw [if_neg h1]
    have e2 : qdelO l i k = l := by unfold qdelO; rw [if_neg (by rw [e1]; decide)]
    rw [e1, e2]
    exact rdel_range v l i k w hv hm h1
set_option maxRecDepth 100000 in
set_option maxHeartbeats 1600000 in
theorem rset_range (v : Value) (l : Qs) (i x y : Int) (w : World) (hv : QR w v l) (hi : ¬ (0 ≤ i ∧ i < l.length)) : Calls Try.prog 26 #[v, .int .i64 i, .agg #[.int .i64 x, .int .i64 y]] w (RDone w v l 1) := by
  have HV := Lib.hid (fun (w' : World) (a : AnyLater w w') => hv.later a)
  obtain ⟨A, cap, rfl, -⟩ := hv.form
  clear hv
  by_cases h0 : i < 0
  · clear hi
    generalize l.length = n at *
    go_enter Try.func26, Try.ntmps26
    go_wp2_with fail
    refine bodyPost_ret (v := .tuple #[.slice A n cap, .int .i64 1]) (by simp [results, Try.results26, go_sem]) rfl ?_
    have a : AnyLater w (w.alloc (.cells #[.int .i64 x, .int .i64 y] 34)) := (AnyLater.refl w).alloc _
    exact ⟨_, rfl, a, .inl ⟨rfl, HV.out _ a⟩⟩
  · have d0 : decide (i < 0) = false := decide_eq_false h0
    have h1 : (l.length : Int) ≤ i := by omega
    clear hi
    generalize l.length = n at *
    go_enter Try.func26, Try.ntmps26
    go_wp2_with fail
    refine bodyPost_ret (v := .tuple #[.slice A n cap, .int .i64 1]) (by simp [results, Try.results26, go_sem]) rfl ?_
    have a : AnyLater w (w.alloc (.cells #[.int .i64 x, .int .i64 y] 34)) := (AnyLater.refl w).alloc _
    exact ⟨_, rfl, a, .inl ⟨rfl, HV.out _ a⟩⟩
set_option maxRecDepth 100000 in
set_option maxHeartbeats 1600000 in
theorem rset_kind (v : Value) (l : Qs) (i : Nat) (x y : Int) (w : World) (hv : QR w v l) (hi : i < l.length) (hx : tlBad (x, y) = true) : Calls Try.prog 26 #[v, .int .i64 (i : Int), .agg #[.int .i64 x, .int .i64 y]] w (RDone w v l 5) := by
  have HM := Lib.hid (fun w' => rmay_any x y false w' (by rw [hx]; rfl))
  have HV := Lib.hid (fun (w' : World) (a : AnyLater w w') => hv.later a)
  obtain ⟨A, cap, rfl, -⟩ := hv.form
  have d0 : decide ((i : Int) < 0) = false := decide_eq_false (by omega)
  have d1 : decide (l.length ≤ i) = false := decide_eq_false (by omega)
  clear hv hx hi
  generalize l.length = n at *
  go_enter Try.func26, Try.ntmps26
  go_wp2_with fail
  first | refine settle_wp (fun wS => AnyLater w wS ∧ wS.heap[w.heap.size]? = some (.cells #[.int .i64 x, .int .i64 y] 34)) ?_ ?_ | refine settle_calls (fun wS => AnyLater w wS ∧ wS.heap[w.heap.size]? = some (.cells #[.int .i64 x, .int .i64 y] 34)) ?_ ?_
  · refine ⟨?_, ?_⟩
    · repeat' (first | with_reducible assumption | with_reducible exact AnyLater.refl _ | with_reducible apply AnyLater.setCell | with_reducible apply AnyLater.later | with_reducible apply AnyLater.drewN | with_reducible apply AnyLater.drew | with_reducible apply AnyLater.alloc | ((try simp only [World.size_alloc, World.size_setCell, World.size_drew]); (try dsimp only); omega))
    · ((repeat (first | with_reducible assumption | ((with_reducible apply heap_new); (try simp only [World.size_alloc, World.size_setCell, World.size_drew, World.heap_drewN]); done) | ((with_reducible apply heap_new); (try simp only [World.size_alloc, World.size_setCell, World.size_drew, World.heap_drewN]); omega) | (with_reducible refine heap_old (by (try simp only [World.size_alloc, World.size_setCell, World.size_drew, World.heap_drewN]); omega) ?_) | (with_reducible refine heap_drew ?_) | (with_reducible refine heap_far (by omega) ?_) | (with_reducible apply heap_at))); all_goals rfl)
  rintro w1 ⟨b_w1, s0_w1⟩
  have a_w1 := b_w1
  have r0_w1 := own_row s0_w1
  have f0_w1 := own_free s0_w1
  have l0_w1 := own_lt s0_w1
  have z_w1 := b_w1.below.size
  refine (HM.out _).mono ?_
  rintro e w2 ⟨rfl, b_w2⟩
  have z_w2 := b_w2.below.size
  have a_w2 := a_w1.trans b_w2
  have s0_w2 := any_own b_w2 s0_w1
  have r0_w2 := own_row s0_w2
  have f0_w2 := own_free s0_w2
  have l0_w2 := own_lt s0_w2
  (try clear r0_w1); (try clear f0_w1)
  have HA2 := Lib.hid a_w2
  go_wp2_with fail
  refine bodyPost_ret (v := .tuple #[.slice A n cap, .int .i64 5]) (by simp [results, Try.results26, go_sem]) rfl ?_
  exact ⟨_, rfl, HA2.out, .inl ⟨rfl, HV.out _ HA2.out⟩⟩
theorem rset_any (v : Value) (l : Qs) (i x y : Int) (w : World) (hv : QR w v l) (hm : l.length ≤ 90000) : Calls Try.prog 26 #[v, .int .i64 i, .agg #[.int .i64 x, .int .i64 y]] w (RDone w v (setO l i (x, y)) (setC l i (x, y))) := by
  by_cases h1 : 0 ≤ i ∧ i < l.length
  · obtain ⟨n, rfl⟩ := Int.eq_ofNat_of_zero_le h1.1
    cases h2 : tlBad (x, y)
    · have e1 : setC l n (x, y) = 0 := by unfold setC; rw [if_neg (not_not_intro h1), h2]; rfl
      have e2 : setO l n (x, y) = l.set n (x, y) := by unfold setO; rw [if_pos e1]; rfl
      rw [e1, e2]
      exact rset_yes v l n x y w hv (by omega) hm h2
    · have e1 : setC l n (x, y) = 5 := by unfold setC; rw [if_neg (not_not_intro h1), h2]; rfl
      have e2 : setO l n (x, y) = l := by unfold setO; rw [if_neg (by rw [e1]; decide)]
      rw [e1, e2]
      exact rset_kind v l n x y w hv (by omega) h2
  · have e1 : setC l i (x, y) = 1 := by unfold setC; rw [if_pos h1]
    have e2 : setO l i (x, y) = l := by unfold setO; rw [if_neg (by rw [e1]; decide)]
    rw [e1, e2]
    exact rset_range v l i x y w hv h1
end Go.Proofs.Ythgfmlfgbghfbaa
