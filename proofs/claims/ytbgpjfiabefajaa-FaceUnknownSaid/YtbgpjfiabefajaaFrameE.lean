/- frame: the document's own New, Shift and At, by contract. -/
import Derived.Test.YtbgpjfiabefajaaFrameD
import Derived.Deep.OwnRows
import Derived.Deep.Upon
import Derived.Lib.AppendZeros
namespace Go.Proofs.Ytbgpjfiabefajaa
set_option linter.unusedSimpArgs false
set_option linter.unusedVariables false
set_option linter.unusedSectionVars false
open Go.RowKit

theorem made_get (W x : Nat) (h : x < W) : (madeCells #[Value.int .u32 0] W)[x]? = some (.int .u32 0) := by
  unfold madeCells
  simp [h, Nat.mod_one]
theorem info_rows : (Try.prog.info? 34).map (fun i => (i.zero, i.size, i.bytes)) = some (some (.slice none 0 0), 1, 24) := by kernel_rfl
theorem info_pix : (Try.prog.info? 33).map (fun i => (i.zero, i.size, i.bytes)) = some (some (.int .u32 0), 1, 4) := by kernel_rfl
def sinceS (w w' : World) (k : Nat) : Prop := w.heap.size ≤ k ∧ k < w'.heap.size
def noughts (W y : Nat) : Pix := List.replicate y (List.replicate W 0)
set_option maxRecDepth 100000 in
set_option maxHeartbeats 6400000 in
theorem xnew_any (W H : Nat) (w : World) (hw : W ≤ 5000) (hh : H ≤ 5000) :
    Calls Try.prog 15 #[.int .i64 W, .int .i64 H] w fun e w' => ∃ p S, e = .returned (.pointer (some ⟨p, 0, none⟩)) ∧ AnyLater w w' ∧ RX w' p (newM W H) S ∧ ∀ k, S k → w.heap.size ≤ k := by
  obtain ⟨i0, hi0, hz0, hz1, hz2⟩ := info_parts info_rows
  go_enter Try.func15, Try.ntmps15
  go_wp2_with fail
  go_loopg [6] H (fun k yv wr => ∃ (y : Nat) (v : Value) (rs : List (Nat × Nat)), k = H - y ∧ y ≤ H ∧ yv = .int .i64 y ∧ AnyLater w wr ∧ RXr wr w.heap.size ⟨W, noughts W y, 0⟩ (sinceS w wr) v rs)
  case atStart =>
    refine ⟨0, .slice none 0 0, [], by omega, by omega, rfl, (AnyLater.refl w).alloc _, ⟨by simp [sinceS], heap_new rfl, by simp [Value.ownBlock], ⟨rfl, .inl ⟨rfl, rfl⟩⟩, RowsAt.nil _ _ _, fun k hk => hk.2⟩⟩
  case round =>
    obtain ⟨y, v, rs, hk, hy, rfl, a_wr, hX⟩ := hrel
    have HX := Lib.hid hX
    have HA := Lib.hid a_wr
    have s_p := hX.top
    clear hX
    by_cases hlt : y < H
    · have hm0 := run_make_row' (P := Try.prog) 34 33 (.int .u32 0) 4 Try.underlying34 info_pix rfl .i64 .i64 W (by omega) (by omega) wr.drew
      obtain ⟨W1, e1⟩ : ∃ W1, wr.drew.alloc (.cells (madeCells #[.int .u32 0] W) 33) = W1 := ⟨_, rfl⟩
      obtain ⟨W2, e2⟩ : ∃ W2, W1.alloc (.cells #[.slice (some ⟨wr.heap.size, 0, none⟩) W W] 34) = W2 := ⟨_, rfl⟩
      have z1 : W1.heap.size = wr.heap.size + 1 := by rw [← e1]; simp
      have z2 : W2.heap.size = wr.heap.size + 2 := by rw [← e2]; simp [z1]
      have b_W1 : AnyLater wr W1 := by rw [← e1]; exact ((AnyLater.refl wr).drew).alloc _
      have b_W2 : AnyLater wr W2 := by rw [← e2]; exact b_W1.alloc _
      have s1 := any_own b_W1 s_p
      have s2 := any_own b_W2 s_p
      have s_g : W2.heap[wr.heap.size]? = some (.cells (madeCells #[.int .u32 0] W) 33) := by rw [← e2]; exact heap_old (by omega) (by rw [← e1]; exact heap_new (by simp))
      have s_b : W2.heap[wr.heap.size + 1]? = some (.cells #[.slice (some ⟨wr.heap.size, 0, none⟩) W W] 34) := by rw [← e2]; exact heap_new (by omega)
      have ho := HX.out.own
      simp only [noughts, List.length_replicate] at ho
      have ho2 := owns_later b_W2 ho
      rw [e1] at hm0
      obtain ⟨gg, cap, w3, k1, k2, k3, k4, k5⟩ := run_append_lies (P := Try.prog) W2 38 38 0 34 i0 (.slice none 0 0) 1 24 Try.underlying38 hi0 hz0 hz1 hz2 rfl (by decide) v y (rs.map (rowV W)) ho2 ⟨wr.heap.size + 1, 0, none⟩ 1 1 [.slice (some ⟨wr.heap.size, 0, none⟩) W W] rfl (World.news_of_block s_b) (by simp [Value.oneCell']) (by decide) (by unfold maxLen; omega) (by omega) (Nat.zero_le _) _ rfl
      have ne_p := owns_ne ho2 s2 (by decide)
      have t_p := grown_block k3 s2 ne_p
      have HM := Lib.hid (And.intro hm0 (And.intro k1 (And.intro s1 (And.intro s2 (And.intro e2 (And.intro t_p z1))))))
      have HG := Lib.hid (And.intro k2 (And.intro k3 (And.intro k4 (And.intro k5 (And.intro ho2 (And.intro s_g (And.intro b_W2 z2)))))))
      have r_p3 := own_row t_p
      have f_p3 := own_free t_p
      clear hm0 k1 k2 k3 k4 k5 t_p ne_p s1 s2 s_g s_b ho ho2 b_W1 b_W2 z1 z2 e1 e2
      go_wp2_with fail
      apply wp_region_acts 11 [(6, .slice (some ⟨wr.heap.size, 0, none⟩) W W), (7, .slice (some ⟨wr.heap.size + 1, 0, none⟩) 1 1), (8, .slice (some ⟨gg, 0, none⟩) (y + 1) cap)] (fun w' => w'.heap[w.heap.size]? = some (.cells #[.int .i64 W, v, .int .i64 0] 40)) (stL [fun w' => w' = wr.drew, fun w' => w' = W1, fun w' => w' = W2, fun w' => w' = w3]) (by kernel_rfl) (by kernel_rfl) (by kernel_rfl) (heap_drew s_p) rfl
      case hlex =>
        intro U hU
        have q0 := own_row hU
        simp only [actFrom, actOp, List.lookup, Nat.reduceBEq, Nat.reduceLeDiff, Nat.reduceAdd, if_false, if_true]
        repeat (go_big_quiet_step (fail))
        exact wpQuiet_nil rfl
      case hact =>
        intro j hj o ho
        obtain ⟨hm0, k1, s1, s2, e2, t_p, z1⟩ := HM.out
        have hj3 : j = 0 ∨ j = 1 ∨ j = 2 := by simp at hj; omega
        rcases hj3 with rfl | rfl | rfl
        · cases ho
          refine ⟨rfl, fun w' hC hS => ?_⟩
          obtain rfl : w' = wr.drew := hS
          refine act_value (w' := W1) ?_ ⟨s1, rfl⟩
          simp [go_sem, execOp, hm0]
        · cases ho
          refine ⟨rfl, fun w' hC hS => ?_⟩
          obtain rfl : w' = W1 := hS
          refine act_value (w' := W2) ?_ ⟨s2, rfl⟩
          simp [go_sem, execOp, e2, z1]
        · cases ho
          refine ⟨rfl, fun w' hC hS => ?_⟩
          obtain rfl : w' = W2 := hS
          exact act_append _ _ _ _ rfl _ _ rfl rfl k1 ⟨t_p, rfl⟩
      case htail =>
        intro w' hC hS
        obtain rfl : w' = w3 := hS
        go_wp2_with fail
        go_roundg (H - (y + 1))
        case measure => omega
        case rel =>
          obtain ⟨k2, k3, k4, k5, ho2, s_g, b_W2, z2⟩ := HG.out
          obtain ⟨hm0, k1, s1, s2, e2, t_p, z1⟩ := HM.out
          have hpu := HX.out.outR.push (S' := fun k => w.heap.size ≤ k ∧ k < w'.heap.size) (r := List.replicate W 0) b_W2 (Nat.le_refl _) (Nat.le_refl W) (by simp) s_g (by intro x hx; rw [List.getElem_replicate]; exact made_get W x (by simpa using hx)) (by simpa [noughts] using k2) k3 k4 k5 (fun k hk hs => ⟨by rcases hs with hs | hs; exact hs.1; exact Nat.le_trans HA.out.below.size hs, hk⟩) (fun k hk => hk.2)
          have e3 : noughts W (y + 1) = noughts W y ++ [List.replicate W 0] := by unfold noughts; rw [List.replicate_succ']
          have hl := hpu.lay (p := w.heap.size) (m := ⟨W, noughts W (y + 1), 0⟩) ⟨Nat.le_refl _, own_lt t_p⟩ t_p
          refine ⟨y + 1, .slice (some ⟨gg, 0, none⟩) (y + 1) cap, rs ++ [(wr.heap.size, W)], rfl, by omega, by go_num, (grown_later (HA.out.trans b_W2) k3 (fun k hk => (HX.out.mid k hk).1)).setCell (Nat.le_refl _) _, ?_⟩
          have eS : sinceS w (w'.setCell ⟨w.heap.size, 1, none⟩ (.slice (some ⟨gg, 0, none⟩) (y + 1) cap)) = fun k => w.heap.size ≤ k ∧ k < w'.heap.size := by funext k; simp [sinceS]
          have eL : (noughts W y).length = y := by simp [noughts]
          rw [e3, eS]
          simp only [eL] at hl
          exact hl
    · obtain rfl : y = H := by omega
      go_wp2_with fail
      go_ret
      exact ⟨_, rfl, HA.out, _, ⟨v, rs, HX.out⟩, fun k hk => hk.1⟩

/-! ### a row copied -/
/-- append([]uint32{}, l...): the new row lies in a block of its own -/
theorem run_copy {w : World} {v2 : Value} {l : List Int} (hr : RU w v2 l) (hn : l.length ≤ 200000) :
    ∃ g c cells w2, (Builtin.append_ #[34, 34] 34 #[.slice (some ⟨w.heap.size, 0, none⟩) 0 0, v2]).run Try.prog (w.alloc (.cells #[] 33)) = .ok (.slice (some ⟨g, 0, none⟩) l.length c) w2 ∧ AnyLater w w2 ∧ w.heap.size ≤ g ∧ w2.heap[g]? = some (.cells cells 33) ∧ l.length ≤ c ∧ ∀ (x : Nat) (hx : x < l.length), cells[x]? = some (.int .u32 l[x]) := by
  obtain ⟨i0, hi0, hz0, hz1, hz2⟩ := info_parts info_pix
  obtain ⟨A, cap, rfl, h2, h3⟩ := hr
  have ho : (w.alloc (.cells #[] 33)).ownsRow w.heap.size 33 1 (.slice (some ⟨w.heap.size, 0, none⟩) 0 0) 0 [] := ⟨rfl, .inr ⟨w.heap.size, 0, #[], rfl, Nat.le_refl _, heap_new rfl, Nat.le_refl _, Nat.zero_le _, rfl, rfl⟩⟩
  have a1 : AnyLater w (w.alloc (.cells #[] 33)) := (AnyLater.refl w).alloc _
  cases A with
  | none =>
    have h0 : l.length = 0 := by
      rcases Nat.eq_zero_or_pos l.length with h | h
      · exact h
      · obtain ⟨b, off, e, _⟩ := h3 h; cases e
    obtain rfl := List.eq_nil_of_length_eq_zero h0
    have hs := Src.ofNil (P := Try.prog) (w.alloc (.cells #[] 33)) (size := i0.size) Try.underlying34 cap
    exact ⟨w.heap.size, 0, #[], _, run_append_nothing (P := Try.prog) _ 34 34 34 33 i0 Try.underlying34 hi0 _ 0 0 (Nat.le_refl _) _ hs, a1, Nat.le_refl _, heap_new rfl, Nat.le_refl _, fun x hx => by simp at hx⟩
  | some ad =>
    have hnews : ∀ j u, (l.map (Value.int .u32))[j]? = some u → (w.alloc (.cells #[] 33)).cell? (ad.add j) = some u := by
      intro j u hu
      have hj : j < l.length := by
        rcases Nat.lt_or_ge j l.length with h | h
        · exact h
        · rw [List.getElem?_eq_none (by simpa using h)] at hu; cases hu
      obtain ⟨b, off, e, hb, hc⟩ := h3 (by omega)
      cases e
      have hadd : (⟨b, off, none⟩ : Addr).add j = ⟨b, off + j, none⟩ := by unfold Addr.add; split <;> simp_all
      rw [hadd, a1.below.cell hb, hc j hj, ← hu]
      simp [hj]
    obtain ⟨v', w', k1, k2, k3, k4⟩ := run_append_own (P := Try.prog) (w.alloc (.cells #[] 33)) w.heap.size 34 34 33 i0 (.int .u32 0) 1 4 Try.underlying34 hi0 hz0 hz1 hz2 rfl (by decide) _ 0 [] ho ad l.length cap (l.map (Value.int .u32)) (by simp) hnews (by intro u hu; obtain ⟨z, _, rfl⟩ := List.mem_map.1 hu; rfl) (by unfold maxLen; omega) (by omega) (by simp)
    have aw : AnyLater w w' := grown_later a1 k3 (fun k hk => by simp only [Value.ownBlock, Option.some.injEq] at hk; omega)
    rcases k2.2 with ⟨e, _⟩ | ⟨g, c, cur, rfl, q1, q2, q3, q4, q5, q6⟩
    · have := (k4.1 e).1; cases this
    · rw [Nat.zero_add] at k1 q3 q6
      refine ⟨g, c, cur, w', k1, aw, q1, q2, q3, fun x hx => ?_⟩
      have : (cur.toList.take (l.length * 1))[x]? = (l.map (Value.int .u32))[x]? := by rw [q6]; rfl
      rw [List.getElem?_take_of_lt (by omega), Array.getElem?_toList] at this
      rw [this]
      simp [hx]

/-! ### Shift -/
set_option maxRecDepth 100000 in
set_option maxHeartbeats 6400000 in
theorem xshift_any (w : World) (p : Nat) (m : FM) (S : Nat → Prop) (d : Int) (hx : RX w p m S) (hw : m.w ≤ 5000) (hh : m.rows.length ≤ 5000) (hd : I64 d) :
    Calls Try.prog 54 #[.pointer (some ⟨p, 0, none⟩), .int .i64 d] w fun e w' => e = .returned (.tuple #[]) ∧ Keeps S w w' ∧ ∃ S', RX w' p (shiftM d m) S' ∧ Grown w S S' := by
  obtain ⟨i0, hi0, hz0, hz1, hz2⟩ := info_parts info_rows
  obtain ⟨v, rs, h⟩ := hx
  obtain ⟨W, rows, n0⟩ := m
  obtain ⟨A, cap, rfl⟩ := h.len
  simp only at hw hh h
  obtain ⟨H, hH⟩ : ∃ H, rows.length = H := ⟨_, rfl⟩
  rw [hH] at h hh
  have HX := Lib.hid h
  have HH := Lib.hid hH
  obtain ⟨hd1, hd2⟩ := hd
  have HL : Hid (rs.length = H) := Lib.hid (by rw [h.rows.len]; exact hH)
  clear h hH
  go_enter Try.func54, Try.ntmps54
  go_wp2_with fail
  go_loopg [4, 5] H (fun k ov yv wr => ∃ (y : Nat) (rs2 : List (Nat × Nat)), k = H - y ∧ y ≤ H ∧ yv = .int .i64 y ∧ AnyLater w wr ∧ OutR wr W ov rs2 ((shiftR d rows).take y) (sinceS w wr))
  case atStart =>
    refine ⟨0, [], by omega, by omega, rfl, (AnyLater.refl w).alloc _, ⟨?_, ⟨rfl, .inr ⟨w.heap.size, 0, #[], rfl, Nat.zero_le _, heap_new rfl, by simp, Nat.zero_le _, rfl, rfl⟩⟩, by rw [List.take_zero]; exact RowsAt.nil _ _ _, fun k hk => hk.2⟩⟩
    intro q hq
    obtain rfl : w.heap.size = q := by simpa [Value.ownBlock] using hq
    exact ⟨Nat.le_refl _, by simp⟩
  case round =>
    obtain ⟨y, rs2, hk, hy, rfl, a_wr, hO⟩ := hrel
    obtain ⟨A2, c2, rfl⟩ := hO.len
    have eY : ((shiftR d rows).take y).length = y := by rw [List.length_take, shiftR_len, HH.out]; omega
    rw [eY] at hO ⊢
    have HO := Lib.hid hO
    have HA := Lib.hid a_wr
    have h2 := HX.out.any a_wr
    have r_p := own_row h2.top
    have f_p := own_free h2.top
    have l_p := own_lt h2.top
    clear hO
    by_cases hlt : y < H
    · obtain ⟨q, cap2, cur, hv2, sq, hq, hcur⟩ := h2.outer (by show 0 < rows.length; rw [HH.out]; omega)
      have hv3 : Value.slice A H cap = .slice (some ⟨q, 0, none⟩) H cap2 := hv2.trans (by show Value.slice _ rows.length _ = _; rw [HH.out])
      clear hv2
      obtain ⟨rfl, rfl⟩ : A = some ⟨q, 0, none⟩ ∧ cap = cap2 := by cases hv3; exact ⟨rfl, rfl⟩
      clear hv3
      obtain ⟨j, hjE⟩ : ∃ j, fromY H d y = j := ⟨_, rfl⟩
      have jlt : j < H := by rw [← hjE]; exact fromY_lt d hlt
      have lj : j < rs.length := by rw [HL.out]; exact jlt
      have lj' : j < rows.length := by rw [HH.out]; exact jlt
      obtain ⟨sg, hwc, hwl, cells, hg, hcells⟩ := h2.rows.each j lj lj'
      have hcy := hcur j lj
      have r_q := own_row hq
      have f_q := own_free hq
      have l_q := own_lt hq
      -- the row that is copied
      have hRU : RU wr (.slice (some ⟨rs[j].1, 0, none⟩) W rs[j].2) rows[j] := ⟨some ⟨rs[j].1, 0, none⟩, rs[j].2, by rw [hwl], by rw [hwl]; exact hwc, fun _ => ⟨rs[j].1, 0, rfl, own_lt hg, fun x hx => by rw [own_row hg, Nat.zero_add]; exact hcells x hx⟩⟩
      obtain ⟨g1, c1, cells1, w2, m1, m2, m3, m4, m5, m6⟩ := run_copy hRU (by rw [hwl]; exact Nat.le_trans hw (by decide))
      rw [hwl] at m1 m5
      obtain ⟨w3, e3⟩ : ∃ w3, w2.alloc (.cells #[.slice (some ⟨g1, 0, none⟩) W c1] 34) = w3 := ⟨_, rfl⟩
      have b_w3 : AnyLater wr w3 := by rw [← e3]; exact m2.alloc _
      have m4' : w3.heap[g1]? = some (.cells cells1 33) := by rw [← e3]; exact heap_old (own_lt m4) m4
      have s_b : w3.heap[w2.heap.size]? = some (.cells #[.slice (some ⟨g1, 0, none⟩) W c1] 34) := by rw [← e3]; exact heap_new rfl
      have ho3 := owns_later b_w3 HO.out.own
      rw [eY] at ho3
      obtain ⟨gg, cap3, w4, k1, k2, k3, k4, k5⟩ := run_append_lies (P := Try.prog) w3 38 38 0 34 i0 (.slice none 0 0) 1 24 Try.underlying38 hi0 hz0 hz1 hz2 rfl (by decide) (.slice A2 y c2) y (rs2.map (rowV W)) ho3 ⟨w2.heap.size, 0, none⟩ 1 1 [.slice (some ⟨g1, 0, none⟩) W c1] rfl (World.news_of_block s_b) (by simp [Value.oneCell']) (by decide) (by unfold maxLen; omega) (by omega) (Nat.zero_le _) _ rfl
      have hpu := HO.out.push (S' := sinceS w w4) (r := rows[j]) b_w3 m3 m5 hwl m4' m6 (by rw [eY]; exact k2) k3 k4 k5 (fun k hk hs => ⟨by rcases hs with hs | hs; exact hs.1; exact Nat.le_trans HA.out.below.size hs, hk⟩) (fun k hk => hk.2)
      rw [eY] at hpu
      have a_w4 := grown_later (HA.out.trans b_w3) k3 (fun k hk => (HO.out.mid k hk).1)
      have eT : (shiftR d rows).take (y + 1) = (shiftR d rows).take y ++ [rows[j]] := by
        have ly : y < (shiftR d rows).length := by rw [shiftR_len, HH.out]; exact hlt
        rw [List.take_succ_eq_append_getElem ly, shiftR_get d rows y (by rw [HH.out]; exact hlt)]
        have : fromY rows.length d y = j := by rw [HH.out]; exact hjE
        simp only [this]
      rw [← eT] at hpu
      have HP := Lib.hid (And.intro hpu a_w4)
      rw [← e3] at k1
      have K1 := Lib.hid m1
      have K2 := Lib.hid k1
      unfold rowV at hcy
      obtain ⟨e, he⟩ : ∃ e, rs[j] = e := ⟨_, rfl⟩
      rw [he] at hcy K1
      obtain ⟨g0, c0⟩ := e
      simp only at hcy K1 r_p
      clear hpu a_w4 k1 k2 k3 k4 k5 m1 m2 m3 m4 m4' m5 m6 hRU eT s_b ho3 e3 b_w3 h2 he hcells hg hwl hwc sg sq hcur hq
      by_cases d1 : d < 0
      · by_cases d2 : (y : Int) < (H : Int) + d
        · have e : (y : Int) - d = (j : Int) := by rw [← hjE]; unfold fromY; rw [if_pos (by omega)]; omega
          clear hjE
          go_wp2_with (first | (at_builtin; refine Lib.wpList_append_run _ rfl _ _ _ _ rfl _ _ rfl rfl _ _ K1.out ?_) | (at_builtin; refine Lib.wpList_append_run _ rfl _ _ _ _ rfl _ _ rfl rfl _ _ K2.out ?_))
          go_roundg (H - (y + 1))
          case measure => omega
          case rel => exact ⟨y + 1, rs2 ++ [(g1, c1)], rfl, by omega, by go_num, HP.out.2, HP.out.1⟩
        · obtain rfl : j = y := by rw [← hjE]; unfold fromY; rw [if_neg (by omega)]
          clear hjE
          go_wp2_with (first | (at_builtin; refine Lib.wpList_append_run _ rfl _ _ _ _ rfl _ _ rfl rfl _ _ K1.out ?_) | (at_builtin; refine Lib.wpList_append_run _ rfl _ _ _ _ rfl _ _ rfl rfl _ _ K2.out ?_))
          go_roundg (H - (j + 1))
          case measure => omega
          case rel => exact ⟨j + 1, rs2 ++ [(g1, c1)], rfl, by omega, by go_num, HP.out.2, HP.out.1⟩
      · by_cases d2 : d ≤ (y : Int)
        · have e : (y : Int) - d = (j : Int) := by rw [← hjE]; unfold fromY; rw [if_pos (by omega)]; omega
          clear hjE
          go_wp2_with (first | (at_builtin; refine Lib.wpList_append_run _ rfl _ _ _ _ rfl _ _ rfl rfl _ _ K1.out ?_) | (at_builtin; refine Lib.wpList_append_run _ rfl _ _ _ _ rfl _ _ rfl rfl _ _ K2.out ?_))
          go_roundg (H - (y + 1))
          case measure => omega
          case rel => exact ⟨y + 1, rs2 ++ [(g1, c1)], rfl, by omega, by go_num, HP.out.2, HP.out.1⟩
        · obtain rfl : j = y := by rw [← hjE]; unfold fromY; rw [if_neg (by omega)]
          clear hjE
          go_wp2_with (first | (at_builtin; refine Lib.wpList_append_run _ rfl _ _ _ _ rfl _ _ rfl rfl _ _ K1.out ?_) | (at_builtin; refine Lib.wpList_append_run _ rfl _ _ _ _ rfl _ _ rfl rfl _ _ K2.out ?_))
          go_roundg (H - (j + 1))
          case measure => omega
          case rel => exact ⟨j + 1, rs2 ++ [(g1, c1)], rfl, by omega, by go_num, HP.out.2, HP.out.1⟩
    · obtain rfl : y = H := by omega
      have hl := (HO.out.wide (S' := fun k => S k ∨ sinceS w wr k) (fun k hk => .inr hk) (fun k hk => by rcases hk with hk | hk; exact Nat.lt_of_lt_of_le (HX.out.below k hk) a_wr.below.size; exact hk.2)).lay (p := p) (m := ⟨W, rows, n0⟩) (.inl h2.here) h2.top
      have HF := Lib.hid hl
      have eT : Hid ((shiftR d rows).take y = shiftR d rows) := Lib.hid (List.take_of_length_le (by rw [shiftR_len, HH.out]; exact Nat.le_refl _))
      clear hl h2
      go_wp2_with fail
      go_end0
      refine ⟨rfl, (Keeps.of HA.out).setCell HX.out.here _, fun k => S k ∨ sinceS w wr k, ⟨.slice A2 y c2, rs2, ?_⟩, fun k hk => ?_⟩
      · have := HF.out
        rw [eT.out] at this
        exact this
      · rcases hk with hk | hk
        · exact .inl hk
        · exact .inr hk.1
end Go.Proofs.Ytbgpjfiabefajaa
