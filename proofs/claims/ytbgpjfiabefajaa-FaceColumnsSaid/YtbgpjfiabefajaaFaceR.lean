/- face: add and line of the program, by contract. -/
import Derived.Test.YtbgpjfiabefajaaFaceQ
namespace Go.Proofs.Ytbgpjfiabefajaa
set_option linter.unusedSimpArgs false
set_option linter.unusedVariables false
set_option linter.unusedSectionVars false
open Go.RowKit

def orAt (l : List Int) (off n : Nat) (v : Int) : List Int := (List.range 5).map fun j => if off ≤ j ∧ j < off + n then bits .or .u8 (l.getD j 0) v else l.getD j 0
theorem orAt_len (l : List Int) (off n : Nat) (v : Int) : (orAt l off n v).length = 5 := by simp [orAt]
theorem orAt_getD (l : List Int) (off n : Nat) (v : Int) {j : Nat} (h : j < 5) : (orAt l off n v).getD j 0 = if off ≤ j ∧ j < off + n then bits .or .u8 (l.getD j 0) v else l.getD j 0 := by
  unfold orAt
  rw [List.getD_eq_getElem?_getD, List.getElem?_map, List.getElem?_range h]
  rfl
theorem five_ext {a b : List Int} (ha : a.length = 5) (hb : b.length = 5) (h : ∀ j, j < 5 → a.getD j 0 = b.getD j 0) : a = b := by
  apply List.ext_getElem (by omega)
  intro j h1 h2
  have := h j (by omega)
  rw [List.getD_eq_getElem?_getD, List.getD_eq_getElem?_getD, List.getElem?_eq_getElem h1, List.getElem?_eq_getElem h2] at this
  exact this
theorem orAt_zero {l : List Int} (hl : l.length = 5) (off : Nat) (v : Int) : orAt l off 0 v = l :=
  five_ext (orAt_len _ _ _ _) hl fun j hj => by rw [orAt_getD _ _ _ _ hj, if_neg (by omega)]
theorem orAt_set (l : List Int) {off i : Nat} (h : off + i < 5) (v : Int) : (orAt l off i v).set (off + i) (bits .or .u8 (l.getD (off + i) 0) v) = orAt l off (i + 1) v :=
  five_ext (by rw [List.length_set, orAt_len]) (orAt_len _ _ _ _) fun j hj => by
    rw [orAt_getD _ _ _ _ hj, List.getD_eq_getElem?_getD, List.getElem?_set]
    by_cases e : off + i = j
    · rw [if_pos e, if_pos (by rw [orAt_len]; omega), if_pos (by omega), Option.getD_some, e]
    · rw [if_neg e, ← List.getD_eq_getElem?_getD, orAt_getD _ _ _ _ hj]
      by_cases q : off ≤ j ∧ j < off + i
      · rw [if_pos q, if_pos (by omega)]
      · rw [if_neg q, if_neg (by omega)]
set_option maxRecDepth 100000 in
set_option maxHeartbeats 3200000 in
theorem fcAdd_any (W w : World) (q off n cap : Nat) (l : List Int) (v : Int) (hl : l.length = 5) (ho : off + n ≤ 5) (hc : n ≤ cap) (hW : AnyLater W w) (hq : W.heap.size ≤ q) (hs : w.heap[q]? = some (.cells (B8 l) 5)) :
    Calls Try.prog 85 #[.slice (some ⟨q, off, none⟩) n cap, .int .u8 v] w fun e w' => e = .returned (.tuple #[]) ∧ AnyLater W w' ∧ w'.heap[q]? = some (.cells (B8 (orAt l off n v)) 5) := by
  have HW := Lib.hid hW
  have HS := Lib.hid hs
  have HL := Lib.hid (orAt_zero hl off v)
  clear hW hs
  go_enter Try.func85, Try.ntmps85
  go_wp2_with fail
  go_loopg [7] n (fun kk iv wr => ∃ i : Nat, kk = n - i ∧ i ≤ n ∧ iv = .int .i64 i ∧ AnyLater W wr ∧ wr.heap[q]? = some (.cells (B8 (orAt l off i v)) 5))
  case atStart => exact ⟨0, by omega, by omega, rfl, HW.out, by rw [HL.out]; exact HS.out⟩
  case round =>
    obtain ⟨i, hk, hi, rfl, a_wr, s0_wr⟩ := hrel
    by_cases hlt : i < n
    · have cc : wr.cell? ⟨q, off + i, none⟩ = some (.int .u8 (l.getD (off + i) 0)) := by
        rw [own_row s0_wr, B8_get _ _ (by rw [orAt_len]; omega), orAt_getD _ _ _ _ (by omega), if_neg (by omega)]
      have f0_wr := own_free s0_wr
      have l0_wr := own_lt s0_wr
      have HA := Lib.hid a_wr
      have HS0 := Lib.hid s0_wr
      have HON : Hid ((B8 (orAt l off i v)).setIfInBounds (off + i) (.int .u8 (bits .or .u8 (l.getD (off + i) 0) v)) = B8 (orAt l off (i + 1) v)) := Lib.hid (by rw [B8_set, orAt_set l (by omega) v])
      generalize l.getD (off + i) 0 = x at *
      clear a_wr s0_wr
      go_wp2_with fail
      go_roundg (n - (i + 1))
      case measure => omega
      case rel => exact ⟨i + 1, rfl, by omega, by go_num, HA.out.setCell (by dsimp only; omega) _, by rw [← HON.out]; exact heap_at HS0.out rfl⟩
    · obtain rfl : i = n := by omega
      have HA := Lib.hid a_wr
      have HS0 := Lib.hid s0_wr
      clear a_wr s0_wr
      go_wp2_with fail
      go_end0
      exact ⟨rfl, HA.out, HS0.out⟩
/-! ### line -/
def z5 : List Int := [0, 0, 0, 0, 0]
def bitB (k : Int) (m : Int) : Bool := k / m % 2 == 1
def ln1 (a : Bool) : List Int := if a = true then orAt z5 0 3 8 else z5
def ln2 (a b : Bool) : List Int := if b = true then orAt (ln1 a) 2 3 8 else ln1 a
def ln3 (a b c : Bool) : List Int := if c = true then orAt (ln2 a b) 2 1 15 else ln2 a b
def ln4 (a b c d : Bool) : List Int := if d = true then orAt (ln3 a b c) 2 1 248 else ln3 a b c
def ln5 (a b c d e : Bool) : List Int := if e = true then orAt (ln4 a b c d) 1 3 ((ln4 a b c d).getD 2 0) else ln4 a b c d
theorem ln1_len (a : Bool) : (ln1 a).length = 5 := by cases a <;> rfl
theorem ln2_len (a b : Bool) : (ln2 a b).length = 5 := by cases b <;> first | exact orAt_len _ _ _ _ | exact ln1_len a
theorem ln3_len (a b c : Bool) : (ln3 a b c).length = 5 := by cases c <;> first | exact orAt_len _ _ _ _ | exact ln2_len a b
theorem ln4_len (a b c d : Bool) : (ln4 a b c d).length = 5 := by cases d <;> first | exact orAt_len _ _ _ _ | exact ln3_len a b c
set_option maxRecDepth 100000 in
theorem ln5_fin : ∀ k : Fin 128, ln5 (bitB k.1 1) (bitB k.1 2) (bitB k.1 4) (bitB k.1 8) (bitB k.1 16) = [boxZ k.1 0, boxZ k.1 1, boxZ k.1 2, boxZ k.1 3, boxZ k.1 4] := by decide +kernel
theorem ln5_box {k : Int} (h0 : 0 ≤ k) (h1 : k < 128) : ln5 (bitB k 1) (bitB k 2) (bitB k 4) (bitB k 8) (bitB k 16) = [boxZ k 0, boxZ k 1, boxZ k 2, boxZ k 3, boxZ k 4] := by
  obtain ⟨n, rfl⟩ := Int.eq_ofNat_of_zero_le h0
  exact ln5_fin ⟨n, by omega⟩
theorem and_fin : ∀ k : Fin 128, (bits .and .i32 (k.1 : Int) 1 != 0) = bitB k.1 1 ∧ (bits .and .i32 (k.1 : Int) 2 != 0) = bitB k.1 2 ∧ (bits .and .i32 (k.1 : Int) 4 != 0) = bitB k.1 4 ∧ (bits .and .i32 (k.1 : Int) 8 != 0) = bitB k.1 8 ∧ (bits .and .i32 (k.1 : Int) 16 != 0) = bitB k.1 16 := by decide +kernel
theorem and_bit {k : Int} (h0 : 0 ≤ k) (h1 : k < 128) : (bits .and .i32 k 1 != 0) = bitB k 1 ∧ (bits .and .i32 k 2 != 0) = bitB k 2 ∧ (bits .and .i32 k 4 != 0) = bitB k 4 ∧ (bits .and .i32 k 8 != 0) = bitB k 8 ∧ (bits .and .i32 k 16 != 0) = bitB k 16 := by
  obtain ⟨n, rfl⟩ := Int.eq_ofNat_of_zero_le h0
  exact and_fin ⟨n, by omega⟩
set_option maxRecDepth 100000 in
set_option maxHeartbeats 3200000 in
theorem line_any (k : Int) (w : World) (h0 : 0 ≤ k) (h1 : k < 128) : Calls Try.prog 75 #[.int .i32 k] w fun e w' => ∃ q, e = .returned (.slice (some ⟨q, 0, none⟩) 5 5) ∧ AnyLater w w' ∧ w'.heap[q]? = some (.cells (B8 [boxZ k 0, boxZ k 1, boxZ k 2, boxZ k 3, boxZ k 4]) 5) := by
  have HB := Lib.hid (ln5_box h0 h1)
  obtain ⟨e1, e2, e3, e4, e5⟩ := and_bit h0 h1
  have HAD := Lib.hid (fcAdd_any w)
  have hm0 := run_made5 w
  obtain ⟨w1, hw1⟩ : ∃ w1, w.alloc (.cells (B8 z5) 5) = w1 := ⟨_, rfl⟩
  have a_w1 : AnyLater w w1 := by rw [← hw1]; exact (AnyLater.refl w).alloc _
  have s0_w1 : w1.heap[w.heap.size]? = some (.cells (B8 z5) 5) := by rw [← hw1]; exact heap_new rfl
  rw [show ([0, 0, 0, 0, 0] : List Int) = z5 from rfl, hw1] at hm0
  have HS := Lib.hid (And.intro a_w1 s0_w1)
  clear hw1 a_w1 s0_w1
  have hq := Nat.le_refl w.heap.size
  generalize hqq : w.heap.size = qq at hm0 HS hq ⊢
  generalize bitB k 1 = a at *
  generalize bitB k 2 = b at *
  generalize bitB k 4 = c at *
  generalize bitB k 8 = d at *
  generalize bitB k 16 = f at *
  go_enter Try.func75, Try.ntmps75
  go_upto_if 7 with fail
  go_cut [] (fun wx => AnyLater w wx ∧ wx.heap[qq]? = some (.cells (B8 (ln1 a)) 5))
  case first =>
    rcases a
    · go_wp2_with fail
      go_meet
      case rel => exact HS.out
    · have HC := Lib.hid (HAD.out _ qq 0 3 5 _ 8 (rfl) (by omega) (by omega) HS.out.1 (by omega) HS.out.2)
      go_wp2_with fail
      refine HC.out.mono ?_
      rintro e wy ⟨rfl, by1, by2⟩
      have HY := Lib.hid (And.intro by1 by2)
      clear by1 by2
      go_wp2_with fail
      go_meet
      case rel => exact HY.out
  case rest =>
    have HC7 := Lib.hid hcut
    clear hcut
    go_upto_if 13 with fail
    go_cut [] (fun wx => AnyLater w wx ∧ wx.heap[qq]? = some (.cells (B8 (ln2 a b)) 5))
    case first =>
      rcases b
      · go_wp2_with fail
        go_meet
        case rel => exact HC7.out
      · have HC := Lib.hid (HAD.out _ qq 2 3 3 _ 8 (ln1_len a) (by omega) (by omega) HC7.out.1 (by omega) HC7.out.2)
        go_wp2_with fail
        refine HC.out.mono ?_
        rintro e wy ⟨rfl, by1, by2⟩
        have HY := Lib.hid (And.intro by1 by2)
        clear by1 by2
        go_wp2_with fail
        go_meet
        case rel => exact HY.out
    case rest =>
      have HC13 := Lib.hid hcut
      clear hcut
      go_upto_if 19 with fail
      go_cut [] (fun wx => AnyLater w wx ∧ wx.heap[qq]? = some (.cells (B8 (ln3 a b c)) 5))
      case first =>
        rcases c
        · go_wp2_with fail
          go_meet
          case rel => exact HC13.out
        · have HC := Lib.hid (HAD.out _ qq 2 1 3 _ 15 (ln2_len a b) (by omega) (by omega) HC13.out.1 (by omega) HC13.out.2)
          go_wp2_with fail
          refine HC.out.mono ?_
          rintro e wy ⟨rfl, by1, by2⟩
          have HY := Lib.hid (And.intro by1 by2)
          clear by1 by2
          go_wp2_with fail
          go_meet
          case rel => exact HY.out
      case rest =>
        have HC19 := Lib.hid hcut
        clear hcut
        go_upto_if 25 with fail
        go_cut [] (fun wx => AnyLater w wx ∧ wx.heap[qq]? = some (.cells (B8 (ln4 a b c d)) 5))
        case first =>
          rcases d
          · go_wp2_with fail
            go_meet
            case rel => exact HC19.out
          · have HC := Lib.hid (HAD.out _ qq 2 1 3 _ 248 (ln3_len a b c) (by omega) (by omega) HC19.out.1 (by omega) HC19.out.2)
            go_wp2_with fail
            refine HC.out.mono ?_
            rintro e wy ⟨rfl, by1, by2⟩
            have HY := Lib.hid (And.intro by1 by2)
            clear by1 by2
            go_wp2_with fail
            go_meet
            case rel => exact HY.out
        case rest =>
          have HC25 := Lib.hid hcut
          clear hcut
          obtain ⟨m, hm⟩ : ∃ m, (ln4 a b c d).getD 2 0 = m := ⟨_, rfl⟩
          have HM := Lib.hid hm
          clear hm
          go_upto_if 31 with fail
          go_cut [] (fun wx => AnyLater w wx ∧ wx.heap[qq]? = some (.cells (B8 (ln5 a b c d f)) 5))
          case first =>
            rcases f
            · go_wp2_with fail
              go_meet
              case rel => exact HC25.out
            · have s0_wc := HC25.out.2
              have a_wc := HC25.out.1
              have f0_wc := own_free s0_wc
              have l0_wc := own_lt s0_wc
              have cc : wc.cell? ⟨qq, 2, none⟩ = some (.int .u8 m) := by rw [own_row s0_wc, B8_get _ _ (by rw [ln4_len]; decide), HM.out]
              clear s0_wc
              go_wp2_with fail
              apply wp_region_mem (5) [] (by kernel_rfl) (by kernel_rfl) (by simp)
              case hstab =>
                intro e he v x y hxy hv
                simp only [List.mem_cons, List.not_mem_nil, or_false] at he
              case hlex =>
                intro U
                have q_cc := fun (v : Later (later U)) => cell_on (AnyLater.trans ⟨U, rfl⟩ ⟨v, rfl⟩) cc
                simp only [absFrom, absOp, idx, List.map_cons, List.map_nil, List.contains_cons, List.contains_nil, Nat.reduceBEq, Bool.or_false, Bool.false_or, Bool.true_or, Bool.or_true, Bool.false_eq_true, Nat.reduceLeDiff, Nat.reduceAdd, if_false, if_true]
                repeat (go_big_quiet_step (fail))
                exact wpQuiet_nil rfl
              case hown =>
                intro e he o ho
                simp only [List.mem_cons, List.not_mem_nil, or_false] at he
              case htail =>
                intro g u hst hne
                have b_w6 : AnyLater wc (later u) := ⟨u, rfl⟩
                generalize later u = w6 at *
                clear u
                clear hst hne
                simp only [fillAll, Act.put, List.setIfInBounds_toArray, List.set_cons_zero, List.set_cons_succ, List.drop_succ_cons, List.drop_zero]
                have z_w6 := b_w6.below.size
                have a_w6 := a_wc.trans b_w6
                have cc_w6 := cell_on b_w6 cc
                have HC6 := Lib.hid (HAD.out w6 qq 1 3 4 _ m (ln4_len a b c d) (by omega) (by omega) a_w6 (by omega) (any_own b_w6 HC25.out.2))
                have HL5 : Hid (ln5 a b c d true = orAt (ln4 a b c d) 1 3 m) := Lib.hid (by rw [← HM.out]; rfl)
                clear cc_w6 a_w6 b_w6
                go_wp2_with fail
                refine HC6.out.mono ?_
                rintro e wy ⟨rfl, by1, by2⟩
                have HY := Lib.hid (And.intro by1 by2)
                clear by1 by2
                go_wp2_with fail
                go_meet
                case rel => exact ⟨HY.out.1, by rw [HL5.out]; exact HY.out.2⟩
          case rest =>
            have HC31 := Lib.hid hcut
            clear hcut
            go_wp2_with fail
            go_ret
            exact ⟨qq, rfl, HC31.out.1, by rw [← HB.out]; exact HC31.out.2⟩
end Go.Proofs.Ytbgpjfiabefajaa
