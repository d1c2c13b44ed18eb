/- rope: RopeTells, walked: any part of a text, any byte, where its line feeds are, and how many stand ahead of any place. -/
import Derived.Test.YtiiojgneljgakaaRopX
import Derived.Deep.DeepCutAuto
import Derived.Deep.CutBlock
namespace Go.Proofs.Ytiiojgneljgakaa
set_option linter.unusedSimpArgs false
set_option linter.unusedVariables false
set_option linter.unusedSectionVars false
open Go.RowKit

/-- how many of these places lie below x -/
def fewB (x : Int) (F : List Int) : Nat := (F.filter (fun y => decide (y < x))).length
theorem fewB_below (x : Int) : ∀ (F : List Int), F.Pairwise (· < ·) → fewB x F = below x F
  | [], _ => rfl
  | y :: F, h => by
    have h1 := List.pairwise_cons.1 h
    have ih := fewB_below x F h1.2
    unfold fewB below at *
    by_cases hy : y < x
    · rw [List.filter_cons_of_pos (by simpa using hy), List.takeWhile_cons_of_pos (by simpa using hy), List.length_cons, List.length_cons, ih]
    · rw [List.filter_cons_of_neg (by simpa using hy), List.takeWhile_cons_of_neg (by simpa using hy), List.length_nil]
      have : F.filter (fun z => decide (z < x)) = [] := List.filter_eq_nil_iff.2 (fun z hz => by
        have := h1.1 z hz
        simp; omega)
      rw [this]; rfl
theorem fewB_snoc (x : Int) (F : List Int) (i : Nat) (h : i < F.length) : fewB x (F.take (i + 1)) = fewB x (F.take i) + (if F.getD i 0 < x then 1 else 0) := by
  have e : F.getD i 0 = F[i] := by simp [List.getD_eq_getElem?_getD, h]
  unfold fewB
  rw [List.take_succ_eq_append_getElem h, List.filter_append, List.length_append, e]
  congr 1
  by_cases hy : F[i] < x
  · rw [if_pos hy, List.filter_cons_of_pos (by simpa using hy)]; rfl
  · rw [if_neg hy, List.filter_cons_of_neg (by simpa using hy)]; rfl
theorem conv_ones (w : World) (o : Obj) (C : Array Value) (n c : Nat) : (convert 28 28 (.slice (some ⟨w.heap.size + 1, 0, none⟩) n c)).run Try.prog ((w.alloc o).alloc (.cells C 5)) = .ok (.slice (some ⟨w.heap.size + 1, 0, none⟩) n c) ((w.alloc o).alloc (.cells C 5 (C.size, C.size + 1))) := conv_one w o C n c
set_option maxRecDepth 100000 in
set_option maxHeartbeats 6400000 in
theorem ropeTells_any (w : World) (v : Value) (l : List AM) (a0 a1 k : Int) (hv : RAct w v l) : Calls Try.prog 3 #[v, .agg #[.int .i64 a0, .int .i64 a1], .int .i64 k] w fun e w' => e = .returned (.bool true) ∧ AnyLater w w' := by
  obtain ⟨Av, capv, rfl, hok, hcells⟩ := hv
  have HOk := Lib.hid (And.intro hok hcells)
  have HNew := Lib.hid new_one
  have HDo := Lib.hid does_any
  have kc1 := conv_one
  have kc := fun (w : World) (C : Array Value) (n c : Nat) => Lib.run_convert_bytes_const (P := Try.prog) w 28 5 C n c Try.underlying28 Try.underlying5
  clear hok hcells
  obtain ⟨nl, hnl⟩ : ∃ nl, l.length = nl := ⟨_, rfl⟩
  have HNL := Lib.hid hnl
  rw [hnl]
  clear hnl
  go_enter Try.func3, Try.ntmps3
  go_wp2_with fail
  obtain ⟨w1, hw1⟩ : ∃ w1, (w.alloc (.cells #[.int .i64 a0, .int .i64 a1] 23)).alloc (.cells #[.int .u8 111, .int .u8 110, .int .u8 101, .int .u8 10, .int .u8 116, .int .u8 119, .int .u8 111, .int .u8 10] 5 (8, 9)) = w1 := ⟨_, rfl⟩
  have a_w1 : AnyLater w w1 := by rw [← hw1]; exact ((AnyLater.refl w).alloc _).alloc _
  have s0_w1 : w1.heap[w.heap.size]? = some (.cells #[.int .i64 a0, .int .i64 a1] 23) := by rw [← hw1]; exact heap_old (by simp) (heap_new rfl)
  have hone : RT .u8 5 w1 (.slice (some ⟨w.heap.size + 1, 0, none⟩) 8 8) one := by rw [← hw1]; exact lit_one (heap_new (by simp))
  have hw1' : (w.alloc (.cells #[.int .i64 a0, .int .i64 a1] 23)).alloc (.cells #[.int .u8 111, .int .u8 110, .int .u8 101, .int .u8 10, .int .u8 116, .int .u8 119, .int .u8 111, .int .u8 10] 5 (Array.size #[Value.int .u8 111, .int .u8 110, .int .u8 101, .int .u8 10, .int .u8 116, .int .u8 119, .int .u8 111, .int .u8 10], Array.size #[Value.int .u8 111, .int .u8 110, .int .u8 101, .int .u8 10, .int .u8 116, .int .u8 119, .int .u8 111, .int .u8 10] + 1)) = w1 := hw1
  simp only [hw1, hw1']
  refine (HNew.out w1 _ hone.rn).mono ?_
  rintro e w2 ⟨g, rfl, b_w2, hg, r2⟩
  have R2 := Lib.hid r2
  clear r2 hone hw1 hw1' kc1
  go_upto_block 0 with fail
  obtain ⟨w3, hw3⟩ : ∃ w3, (w2.alloc (.cells #[.int .u8 111, .int .u8 110, .int .u8 101, .int .u8 10, .int .u8 116, .int .u8 119, .int .u8 111, .int .u8 10] 5 (8, 9))).alloc (.cells #[.slice (some ⟨w2.heap.size, 0, none⟩) 8 8, .int .i64 3000] 31) = w3 := ⟨_, rfl⟩
  simp only [hw3]
  have b_w3 : AnyLater w2 w3 := by rw [← hw3]; exact ((AnyLater.refl w2).alloc _).alloc _
  have HBoth : Hid (Both w3 g (w2.heap.size + 1) one) := Lib.hid (both_one (bv := .slice (some ⟨w2.heap.size, 0, none⟩) 8 8) (R2.out.later b_w3) (by rw [← hw3]; exact heap_new (by simp)) (by rw [← hw3]; exact lit_one (heap_old (by simp) (heap_new rfl))))
  obtain ⟨xg, hxg⟩ : ∃ xg, w2.heap.size + 1 = xg := ⟨_, rfl⟩
  have hxw : w1.heap.size ≤ xg := by have := b_w2.below.size; omega
  rw [hxg] at HBoth ⊢
  have HG := Lib.hid (And.intro hg hxw)
  have HW3 := Lib.hid (b_w2.trans b_w3)
  have HA1 := Lib.hid a_w1
  have HS0 := Lib.hid s0_w1
  clear hw3 b_w2 b_w3 hg hxw hxg R2 kc a_w1 s0_w1
  go_cut [] (fun wx => AnyLater w1 wx ∧ ∃ L, Both wx g xg L)
  case first =>
    go_wp2_with fail
    go_loopg [10] nl (fun kk iv wr => AnyLater w1 wr ∧ ∃ (i : Nat) (L : List Int), kk = nl - i ∧ i ≤ nl ∧ iv = .int .i64 (i : Int) ∧ Both wr g xg L)
    case atStart => exact ⟨HW3.out, 0, one, by omega, by omega, rfl, HBoth.out⟩
    case round =>
      obtain ⟨a_wr, i, L, hk, hi, rfl, hboth⟩ := hrel
      have HBo := Lib.hid hboth
      have HAr := Lib.hid a_wr
      clear hboth a_wr
      by_cases hlt : i < nl ∧ i < 40
      · obtain ⟨h1, h2⟩ := hlt
        have hil : i < l.length := by rw [HNL.out]; exact h1
        obtain ⟨b0, off, rfl, hb0, hcs⟩ := HOk.out.2 (by omega)
        obtain ⟨c0, c1, c2, c3⟩ := hcs i hil
        have aw := HA1.out.trans HAr.out
        have c0 := cell_on aw c0
        have c1 := cell_on aw c1
        have c2 := cell_on aw c2
        have c3 := cell_on aw c3
        have HDoi := Lib.hid (HDo.out w1 wr g xg L l[i] HBo.out HAr.out HG.out.1 HG.out.2 ((HOk.out.1 i hil).later aw))
        have d0 : (i : Int) < (nl : Int) := by omega
        have d1 : (i : Int) < 40 := by omega
        have HAi := Lib.hid (HOk.out.1 i hil).row.form
        generalize l[i] = Ai at *
        obtain ⟨k4, a4, n4, v4, b4⟩ := Ai
        simp only at c0 c1 c2 c3 HDoi
        obtain ⟨A4, cap4, e4, -⟩ := HAi.out
        simp only at e4
        subst e4
        clear hcs hil aw HAi
        simp only at *
        generalize b4.length = m4 at *
        go_wp2_with fail
        refine HDoi.out.mono ?_
        rintro e w4 ⟨rfl, a4', L', hL'⟩
        have HN := Lib.hid (And.intro a4' hL')
        clear a4' hL'
        go_wp2_with fail
        go_roundg (nl - (i + 1))
        case measure => omega
        case rel => exact ⟨HN.out.1, i + 1, L', rfl, by omega, by go_num, HN.out.2⟩
      · have h12 : nl ≤ i ∨ 40 ≤ i := by omega
        by_cases h1 : i < nl
        · have d0 : (i : Int) < (nl : Int) := by omega
          have d1 : decide ((i : Int) < 40) = false := decide_eq_false (by omega)
          have d2 : decide (i < 40) = false := decide_eq_false (by omega)
          clear hlt hk h12
          go_wp2_with fail
          go_meet
          case rel => exact ⟨HAr.out, L, HBo.out⟩
        · have d0 : decide ((i : Int) < (nl : Int)) = false := decide_eq_false (by omega)
          have d1 : decide (i < nl) = false := decide_eq_false (by omega)
          clear hlt hk h12
          go_wp2_with fail
          go_meet
          case rel => exact ⟨HAr.out, L, HBo.out⟩
  case rest =>
    obtain ⟨a_wr, L, hboth⟩ := hcut
    generalize wc = wr at *
    have HAr := Lib.hid a_wr
    have HBo := Lib.hid hboth
    clear a_wr hboth
    obtain ⟨t, hr, ok, hbs, hX, hby, hlen⟩ := HBo.out
    have htl : t.len = L.length := by rw [← Tr.len_bs, hbs]
    have htf : t.nf = (feN 0 L).length := by rw [← Tr.nf_bs, hbs]
    obtain ⟨F, hF⟩ : ∃ F, feN 0 L = F := ⟨_, rfl⟩
    obtain ⟨P, hP⟩ : ∃ P, cutZ L a0 a1 = P := ⟨_, rfl⟩
    have hFs : F.Pairwise (· < ·) := by rw [← hF]; exact feN_sorted L 0
    have hFl : F.length ≤ 3000 := by rw [← hF]; exact Nat.le_trans (feN_le L 0) hlen
    have HPt : Hid (∀ w', IsR w' g 3000 t → Calls Try.prog 9 #[.pointer (some ⟨g, 0, none⟩), .int .i64 a0, .int .i64 a1] w' (Ans (isB P) w')) := Lib.hid (fun w' h => rpart_any _ t a0 a1 P (by rw [hbs]; exact hP) w' (.inr ⟨g, 3000, rfl, h⟩) ok)
    have HXt : Hid (∀ w', IsX w' xg 3000 L → Calls Try.prog 10 #[.pointer (some ⟨xg, 0, none⟩), .int .i64 a0, .int .i64 a1] w' (Ans (isB P) w')) := Lib.hid (fun w' h => xpart_any xg 3000 a0 a1 L P hP w' h (by omega))
    have HBk : Hid (∀ w' u, RN .u8 w' u L → Calls Try.prog 11 #[u] w' fun e w'' => ∃ u, e = .returned u ∧ AnyLater w' w'' ∧ ON .i64 3 w'' w'.heap.size u F) := Lib.hid (fun w' u h => by
      have := breaks_any u L w' h (by omega)
      rwa [hF] at this)
    have HAh : Hid (∀ w', IsR w' g 3000 t → Calls Try.prog 13 #[.pointer (some ⟨g, 0, none⟩), .int .i64 a1] w' fun e w'' => e = .returned (.int .i64 (fewB a1 F : Int)) ∧ AnyLater w' w'') := Lib.hid (fun w' h => rahead_any _ t a1 (fewB a1 F) w' (by rw [hbs, hF, fewB_below a1 F hFs]) (.inr ⟨g, 3000, rfl, h⟩) ok)
    obtain ⟨ob, cb, hob, hcb⟩ : ∃ (ob : Bool) (cb : Int), (∀ w', IsR w' g 3000 t → Calls Try.prog 8 #[.pointer (some ⟨g, 0, none⟩), .int .i64 a0] w' fun e w'' => e = .returned (.tuple #[.int .u8 cb, .bool ob]) ∧ AnyLater w' w'') ∧ ((ob = false ∧ cb = 0 ∧ (a0 < 0 ∨ (L.length : Int) ≤ a0)) ∨ (ob = true ∧ ∃ j : Nat, a0 = j ∧ j < L.length ∧ cb = L.getD j 0)) := by
      by_cases h : a0 < 0 ∨ (L.length : Int) ≤ a0
      · exact ⟨false, 0, fun w' hR => rbyte_no _ t a0 w' (.inr ⟨g, 3000, rfl, hR⟩) ok.len (by omega), .inl ⟨rfl, rfl, h⟩⟩
      · obtain ⟨j, rfl⟩ := Int.eq_ofNat_of_zero_le (show 0 ≤ a0 by omega)
        exact ⟨true, L.getD j 0, fun w' hR => rbyte_yes g 3000 t j _ w' (by rw [hbs]) hR ok (by omega), .inr ⟨rfl, j, rfl, by omega, rfl⟩⟩
    obtain ⟨oc, cc, hoc, hcc⟩ : ∃ (oc : Bool) (cc : Int), (∀ w', IsR w' g 3000 t → Calls Try.prog 12 #[.pointer (some ⟨g, 0, none⟩), .int .i64 k] w' fun e w'' => e = .returned (.tuple #[.int .i64 cc, .bool oc]) ∧ AnyLater w' w'') ∧ ((oc = false ∧ cc = 0 ∧ (k < 0 ∨ (F.length : Int) ≤ k)) ∨ (oc = true ∧ ∃ j : Nat, k = j ∧ j < F.length ∧ cc = F.getD j 0)) := by
      by_cases h : k < 0 ∨ (F.length : Int) ≤ k
      · exact ⟨false, 0, fun w' hR => rbreak_no _ t k w' (.inr ⟨g, 3000, rfl, hR⟩) (by rw [htf, hF]; exact h), .inl ⟨rfl, rfl, h⟩⟩
      · obtain ⟨j, rfl⟩ := Int.eq_ofNat_of_zero_le (show 0 ≤ k by omega)
        exact ⟨true, F.getD j 0, fun w' hR => rbreak_yes g 3000 t j _ w' (by unfold brk; rw [hbs, hF]) hR ok (by rw [htf, hF]; omega), .inr ⟨rfl, j, rfl, by omega, rfl⟩⟩
    have HOb := Lib.hid hob
    have HOc := Lib.hid hoc
    have HCc := Lib.hid hcc
    have HR := Lib.hid hr
    have HFF := Lib.hid (And.intro hFs hFl)
    obtain ⟨xv, s1_wr, hxv⟩ := hX
    have aw := HA1.out.trans HAr.out
    have s0_wr := any_own HAr.out HS0.out
    have r0_wr := own_row s0_wr
    have HXv := Lib.hid hxv
    have HV := Lib.hid rlives
    have HLt := Lib.hid hlen
    have hcell : ∀ j, j < L.length → ∃ b off cap, xv = .slice (some ⟨b, off, none⟩) L.length cap ∧ wr.cell? ⟨b, off + j, none⟩ = some (.int .u8 (L.getD j 0)) := fun j hj => by
      obtain ⟨A, cap, e, _, h3⟩ := hxv.rn
      obtain ⟨b, off, eA, _, hc⟩ := h3 (by omega)
      exact ⟨b, off, cap, by rw [e, eA], by rw [hc j hj]; simp [List.getD_eq_getElem?_getD, hj]⟩
    obtain ⟨Ax, capx, ex, -⟩ := RT.form hxv
    obtain ⟨S, hS⟩ : ∃ S, strOfNums P = S := ⟨_, rfl⟩
    have HSt := Lib.hid hS
    clear hr ok hbs hby hlen htl htf hF hP hFs hFl hob hoc hcc hxv hS
    have HIx : Hid (IsX wr xg 3000 L) := Lib.hid ⟨_, s1_wr, HXv.out⟩
    subst ex
    generalize hnL : L.length = nL at *
    go_wp2_with fail
    refine (HOb.out _ HR.out).mono ?_
    rintro e w5 ⟨rfl, b_w5⟩
    have s0_w5 := any_own b_w5 s0_wr
    have s1_w5 := any_own b_w5 s1_wr
    have a_w5 := HAr.out.trans b_w5
    have HB5 := Lib.hid b_w5
    have HX5 := Lib.hid (HIx.out.later b_w5)
    clear r0_wr s0_wr s1_wr b_w5
    go_upto_if 112 with fail
    go_cut [112] (fun v wx => v = .bool false ∧ AnyLater w5 wx)
    case first =>
      rcases hcb with ⟨rfl, rfl, h⟩ | ⟨rfl, j, rfl, hj, rfl⟩
      · by_cases h0 : a0 < 0
        · have d0 : decide (0 ≤ a0) = false := decide_eq_false (by omega)
          clear h h0
          go_wp2_with fail
          apply Wild.wp_region_free (55) [⟨44, 102, undef, true, isB P⟩, ⟨45, 103, .string S, false, fun v _ => v = .string S⟩, ⟨51, 109, undef, true, isB P⟩, ⟨52, 110, .string S, false, fun v _ => v = .string S⟩] [⟨44, 102, isB P⟩, ⟨51, 109, isB P⟩] rfl (by kernel_rfl) (by kernel_rfl) (by kernel_rfl) (by simp) (by kernel_rfl)
          case hstab =>
            intro c hc
            simp only [List.mem_cons, List.not_mem_nil, or_false] at hc
            rcases hc with rfl | rfl | rfl | rfl
            · intro v x y hxy hv; exact isB_stays hxy hv
            · intro v x y hxy hv; exact hv
            · intro v x y hxy hv; exact isB_stays hxy hv
            · intro v x y hxy hv; exact hv
          case hfix =>
            intro c hc
            simp only [List.mem_cons, List.not_mem_nil, or_false] at hc
            rcases hc with rfl | rfl | rfl | rfl
            · exact .inl rfl
            · exact .inr fun u x h => h
            · exact .inl rfl
            · exact .inr fun u x h => h
          case hlex =>
            intro U hU
            have q0 := own_row (any_own hU s0_w5)
            have q1 := own_row (any_own hU s1_w5)
            simp only [List.map_cons, List.map_nil, CA.act, actFrom, actOp, List.lookup, Nat.reduceBEq, Nat.reduceLeDiff, Nat.reduceAdd, if_false, if_true]
            repeat (go_big_quiet_step (fail))
            exact wpQuiet_nil rfl
          case hstep =>
            intro j hj o ho
            have hj2 : j = 0 ∨ j = 1 ∨ j = 2 ∨ j = 3 := by simp at hj; omega
            rcases hj2 with rfl | rfl | rfl | rfl
            · cases ho
              refine ⟨rfl, fun g x hx hp => ?_⟩
              clear hp
              simp only [fillAll, Act.put, List.setIfInBounds_toArray, List.set_cons_zero, List.set_cons_succ]
              refine chain_go ?_ (Wild.free_tells (HPt.out x (HR.out.later (HB5.out.trans hx))))
              simp [go_sem, execOp]
            · cases ho
              refine ⟨rfl, fun g x hx hp => ?_⟩
              have p102 : (isB P) (g 44) x := hp _ (List.mem_of_getElem? (i := 0) rfl) (List.contains_iff_mem.1 (by kernel_rfl))
              clear hp
              simp only [fillAll, Act.put, List.setIfInBounds_toArray, List.set_cons_zero, List.set_cons_succ]
              (have hr := RN.str (RT.rn p102); rw [HSt.out] at hr; refine Wild.free_op ?_; simp [go_sem, execOp, hr])
            · cases ho
              refine ⟨rfl, fun g x hx hp => ?_⟩
              clear hp
              simp only [fillAll, Act.put, List.setIfInBounds_toArray, List.set_cons_zero, List.set_cons_succ]
              refine chain_go ?_ (Wild.free_tells (HXt.out x (HX5.out.later hx)))
              simp [go_sem, execOp]
            · cases ho
              refine ⟨rfl, fun g x hx hp => ?_⟩
              have p109 : (isB P) (g 51) x := hp _ (List.mem_of_getElem? (i := 1) rfl) (List.contains_iff_mem.1 (by kernel_rfl))
              clear hp
              simp only [fillAll, Act.put, List.setIfInBounds_toArray, List.set_cons_zero, List.set_cons_succ]
              (have hr := RN.str (RT.rn p109); rw [HSt.out] at hr; refine Wild.free_op ?_; simp [go_sem, execOp, hr])
          case htail =>
            intro g u hst hne
            have b_w6 : AnyLater w5 (later u) := ⟨u, rfl⟩
            generalize later u = w6 at *
            clear u hne
            obtain ⟨p102_w6, -⟩ := hst _ (List.mem_of_getElem? (i := 0) rfl)
            (try dsimp only at p102_w6)
            obtain ⟨p109_w6, -⟩ := hst _ (List.mem_of_getElem? (i := 1) rfl)
            (try dsimp only at p109_w6)
            clear hst
            simp only [fillAll, Act.put, List.setIfInBounds_toArray, List.set_cons_zero, List.set_cons_succ, List.drop_succ_cons, List.drop_zero, List.drop_nil]
            generalize g 44 = v102 at *
            generalize g 51 = v109 at *
            have z_w6 := b_w6.below.size
            have a_w6 := a_w5.trans b_w6
            have s0_w6 := any_own b_w6 s0_w5
            have s1_w6 := any_own b_w6 s1_w5
            have r0_w6 := own_row s0_w6
            have f0_w6 := own_free s0_w6
            have l0_w6 := own_lt s0_w6
            have r1_w6 := own_row s1_w6
            have f1_w6 := own_free s1_w6
            have l1_w6 := own_lt s1_w6
            (try clear r0_w5); (try clear f0_w5)
            (try clear r1_w5); (try clear f1_w5)
            go_wp2_with fail
            go_meet
            case rel => exact ⟨rfl, b_w6⟩
        · have d0 : 0 ≤ a0 := by omega
          have d1 : decide (a0 < (nL : Int)) = false := decide_eq_false (by omega)
          clear h h0
          go_wp2_with fail
          apply Wild.wp_region_free (55) [⟨44, 102, undef, true, isB P⟩, ⟨45, 103, .string S, false, fun v _ => v = .string S⟩, ⟨51, 109, undef, true, isB P⟩, ⟨52, 110, .string S, false, fun v _ => v = .string S⟩] [⟨44, 102, isB P⟩, ⟨51, 109, isB P⟩] rfl (by kernel_rfl) (by kernel_rfl) (by kernel_rfl) (by simp) (by kernel_rfl)
          case hstab =>
            intro c hc
            simp only [List.mem_cons, List.not_mem_nil, or_false] at hc
            rcases hc with rfl | rfl | rfl | rfl
            · intro v x y hxy hv; exact isB_stays hxy hv
            · intro v x y hxy hv; exact hv
            · intro v x y hxy hv; exact isB_stays hxy hv
            · intro v x y hxy hv; exact hv
          case hfix =>
            intro c hc
            simp only [List.mem_cons, List.not_mem_nil, or_false] at hc
            rcases hc with rfl | rfl | rfl | rfl
            · exact .inl rfl
            · exact .inr fun u x h => h
            · exact .inl rfl
            · exact .inr fun u x h => h
          case hlex =>
            intro U hU
            have q0 := own_row (any_own hU s0_w5)
            have q1 := own_row (any_own hU s1_w5)
            simp only [List.map_cons, List.map_nil, CA.act, actFrom, actOp, List.lookup, Nat.reduceBEq, Nat.reduceLeDiff, Nat.reduceAdd, if_false, if_true]
            repeat (go_big_quiet_step (fail))
            exact wpQuiet_nil rfl
          case hstep =>
            intro j hj o ho
            have hj2 : j = 0 ∨ j = 1 ∨ j = 2 ∨ j = 3 := by simp at hj; omega
            rcases hj2 with rfl | rfl | rfl | rfl
            · cases ho
              refine ⟨rfl, fun g x hx hp => ?_⟩
              clear hp
              simp only [fillAll, Act.put, List.setIfInBounds_toArray, List.set_cons_zero, List.set_cons_succ]
              refine chain_go ?_ (Wild.free_tells (HPt.out x (HR.out.later (HB5.out.trans hx))))
              simp [go_sem, execOp]
            · cases ho
              refine ⟨rfl, fun g x hx hp => ?_⟩
              have p102 : (isB P) (g 44) x := hp _ (List.mem_of_getElem? (i := 0) rfl) (List.contains_iff_mem.1 (by kernel_rfl))
              clear hp
              simp only [fillAll, Act.put, List.setIfInBounds_toArray, List.set_cons_zero, List.set_cons_succ]
              (have hr := RN.str (RT.rn p102); rw [HSt.out] at hr; refine Wild.free_op ?_; simp [go_sem, execOp, hr])
            · cases ho
              refine ⟨rfl, fun g x hx hp => ?_⟩
              clear hp
              simp only [fillAll, Act.put, List.setIfInBounds_toArray, List.set_cons_zero, List.set_cons_succ]
              refine chain_go ?_ (Wild.free_tells (HXt.out x (HX5.out.later hx)))
              simp [go_sem, execOp]
            · cases ho
              refine ⟨rfl, fun g x hx hp => ?_⟩
              have p109 : (isB P) (g 51) x := hp _ (List.mem_of_getElem? (i := 1) rfl) (List.contains_iff_mem.1 (by kernel_rfl))
              clear hp
              simp only [fillAll, Act.put, List.setIfInBounds_toArray, List.set_cons_zero, List.set_cons_succ]
              (have hr := RN.str (RT.rn p109); rw [HSt.out] at hr; refine Wild.free_op ?_; simp [go_sem, execOp, hr])
          case htail =>
            intro g u hst hne
            have b_w6 : AnyLater w5 (later u) := ⟨u, rfl⟩
            generalize later u = w6 at *
            clear u hne
            obtain ⟨p102_w6, -⟩ := hst _ (List.mem_of_getElem? (i := 0) rfl)
            (try dsimp only at p102_w6)
            obtain ⟨p109_w6, -⟩ := hst _ (List.mem_of_getElem? (i := 1) rfl)
            (try dsimp only at p109_w6)
            clear hst
            simp only [fillAll, Act.put, List.setIfInBounds_toArray, List.set_cons_zero, List.set_cons_succ, List.drop_succ_cons, List.drop_zero, List.drop_nil]
            generalize g 44 = v102 at *
            generalize g 51 = v109 at *
            have z_w6 := b_w6.below.size
            have a_w6 := a_w5.trans b_w6
            have s0_w6 := any_own b_w6 s0_w5
            have s1_w6 := any_own b_w6 s1_w5
            have r0_w6 := own_row s0_w6
            have f0_w6 := own_free s0_w6
            have l0_w6 := own_lt s0_w6
            have r1_w6 := own_row s1_w6
            have f1_w6 := own_free s1_w6
            have l1_w6 := own_lt s1_w6
            (try clear r0_w5); (try clear f0_w5)
            (try clear r1_w5); (try clear f1_w5)
            go_wp2_with fail
            go_meet
            case rel => exact ⟨rfl, b_w6⟩
      · have d0 : (0 : Int) ≤ (j : Int) := by omega
        have d1 : (j : Int) < (nL : Int) := by omega
        obtain ⟨b8, off8, cap8, e8, c8⟩ := hcell j hj
        obtain ⟨rfl, -⟩ : Ax = some ⟨b8, off8, none⟩ ∧ capx = cap8 := by simpa using e8
        have c8 := cell_on HB5.out c8
        generalize L.getD j 0 = z8 at *
        clear hcell e8
        go_wp2_with fail
        apply Wild.wp_region_free (55) [⟨44, 102, undef, true, isB P⟩, ⟨45, 103, .string S, false, fun v _ => v = .string S⟩, ⟨51, 109, undef, true, isB P⟩, ⟨52, 110, .string S, false, fun v _ => v = .string S⟩] [⟨44, 102, isB P⟩, ⟨51, 109, isB P⟩] rfl (by kernel_rfl) (by kernel_rfl) (by kernel_rfl) (by simp) (by kernel_rfl)
        case hstab =>
          intro c hc
          simp only [List.mem_cons, List.not_mem_nil, or_false] at hc
          rcases hc with rfl | rfl | rfl | rfl
          · intro v x y hxy hv; exact isB_stays hxy hv
          · intro v x y hxy hv; exact hv
          · intro v x y hxy hv; exact isB_stays hxy hv
          · intro v x y hxy hv; exact hv
        case hfix =>
          intro c hc
          simp only [List.mem_cons, List.not_mem_nil, or_false] at hc
          rcases hc with rfl | rfl | rfl | rfl
          · exact .inl rfl
          · exact .inr fun u x h => h
          · exact .inl rfl
          · exact .inr fun u x h => h
        case hlex =>
          intro U hU
          have q0 := own_row (any_own hU s0_w5)
          have q1 := own_row (any_own hU s1_w5)
          have q_c8 := cell_on hU c8
          simp only [List.map_cons, List.map_nil, CA.act, actFrom, actOp, List.lookup, Nat.reduceBEq, Nat.reduceLeDiff, Nat.reduceAdd, if_false, if_true]
          repeat (go_big_quiet_step (fail))
          exact wpQuiet_nil rfl
        case hstep =>
          intro j hj o ho
          have hj2 : j = 0 ∨ j = 1 ∨ j = 2 ∨ j = 3 := by simp at hj; omega
          rcases hj2 with rfl | rfl | rfl | rfl
          · cases ho
            refine ⟨rfl, fun g x hx hp => ?_⟩
            clear hp
            simp only [fillAll, Act.put, List.setIfInBounds_toArray, List.set_cons_zero, List.set_cons_succ]
            refine chain_go ?_ (Wild.free_tells (HPt.out x (HR.out.later (HB5.out.trans hx))))
            simp [go_sem, execOp]
          · cases ho
            refine ⟨rfl, fun g x hx hp => ?_⟩
            have p102 : (isB P) (g 44) x := hp _ (List.mem_of_getElem? (i := 0) rfl) (List.contains_iff_mem.1 (by kernel_rfl))
            clear hp
            simp only [fillAll, Act.put, List.setIfInBounds_toArray, List.set_cons_zero, List.set_cons_succ]
            (have hr := RN.str (RT.rn p102); rw [HSt.out] at hr; refine Wild.free_op ?_; simp [go_sem, execOp, hr])
          · cases ho
            refine ⟨rfl, fun g x hx hp => ?_⟩
            clear hp
            simp only [fillAll, Act.put, List.setIfInBounds_toArray, List.set_cons_zero, List.set_cons_succ]
            refine chain_go ?_ (Wild.free_tells (HXt.out x (HX5.out.later hx)))
            simp [go_sem, execOp]
          · cases ho
            refine ⟨rfl, fun g x hx hp => ?_⟩
            have p109 : (isB P) (g 51) x := hp _ (List.mem_of_getElem? (i := 1) rfl) (List.contains_iff_mem.1 (by kernel_rfl))
            clear hp
            simp only [fillAll, Act.put, List.setIfInBounds_toArray, List.set_cons_zero, List.set_cons_succ]
            (have hr := RN.str (RT.rn p109); rw [HSt.out] at hr; refine Wild.free_op ?_; simp [go_sem, execOp, hr])
        case htail =>
          intro g u hst hne
          have b_w6 : AnyLater w5 (later u) := ⟨u, rfl⟩
          generalize later u = w6 at *
          clear u hne
          obtain ⟨p102_w6, -⟩ := hst _ (List.mem_of_getElem? (i := 0) rfl)
          (try dsimp only at p102_w6)
          obtain ⟨p109_w6, -⟩ := hst _ (List.mem_of_getElem? (i := 1) rfl)
          (try dsimp only at p109_w6)
          clear hst
          simp only [fillAll, Act.put, List.setIfInBounds_toArray, List.set_cons_zero, List.set_cons_succ, List.drop_succ_cons, List.drop_zero, List.drop_nil]
          generalize g 44 = v102 at *
          generalize g 51 = v109 at *
          have z_w6 := b_w6.below.size
          have a_w6 := a_w5.trans b_w6
          have s0_w6 := any_own b_w6 s0_w5
          have s1_w6 := any_own b_w6 s1_w5
          have r0_w6 := own_row s0_w6
          have f0_w6 := own_free s0_w6
          have l0_w6 := own_lt s0_w6
          have r1_w6 := own_row s1_w6
          have f1_w6 := own_free s1_w6
          have l1_w6 := own_lt s1_w6
          (try clear r0_w5); (try clear f0_w5)
          (try clear r1_w5); (try clear f1_w5)
          have c8_w6 := cell_on b_w6 c8
          go_wp2_with fail
          go_meet
          case rel => exact ⟨rfl, b_w6⟩
    case rest =>
      obtain ⟨rfl, b_w6⟩ := hcut
      generalize wc = w6 at *
      have a_w6 := a_w5.trans b_w6
      have s0_w6 := any_own b_w6 s0_w5
      have r1_w6 := own_row (any_own b_w6 s1_w5)
      have HR6 := Lib.hid (HR.out.later (HB5.out.trans b_w6))
      have HX6 := Lib.hid (HXv.out.rn.later (HB5.out.trans b_w6))
      clear s0_w5 s1_w5 hcb hcell b_w6 a_w5
      go_wp2_with fail
      refine (HBk.out _ _ HX6.out).mono ?_
      rintro e w7 ⟨fv, rfl, b_w7, hfv⟩
      have hrn := hfv.rn
      obtain ⟨Af, capf, rfl, -⟩ := hfv.form
      have a_w7 := a_w6.trans b_w7
      have s0_w7 := any_own b_w7 s0_w6
      have HR7 := Lib.hid (HR6.out.later b_w7)
      clear s0_w6 r1_w6 a_w6 b_w7 hfv
      generalize hnF : F.length = nF at *
      have HNF := Lib.hid hnF
      have HFC : Hid (∀ j, j < nF → ∃ b off, Af = some ⟨b, off, none⟩ ∧ w7.cell? ⟨b, off + j, none⟩ = some (.int .i64 (F.getD j 0))) := Lib.hid (fun j hj => by
        obtain ⟨A, cap, e, _, h3⟩ := hrn
        obtain ⟨b, off, eA, _, hc⟩ := h3 (by omega)
        have e2 : Af = A := by simp at e; exact e.1
        exact ⟨b, off, by rw [e2, eA], by rw [hc j (by omega)]; simp [List.getD_eq_getElem?_getD, show j < F.length by omega]⟩)
      clear hrn hnF
      go_wp2_with fail
      refine (HOc.out _ HR7.out).mono ?_
      rintro e w8 ⟨rfl, b_w8⟩
      have a_w8 := a_w7.trans b_w8
      have s0_w8 := any_own b_w8 s0_w7
      have HR8 := Lib.hid (HR7.out.later b_w8)
      have HB8 := Lib.hid b_w8
      clear s0_w7 a_w7 b_w8
      go_upto_region 14 with fail
      go_cut [152] (fun v wx => v = .bool false ∧ wx = w8)
      case first =>
        have hcc := HCc.out
        rcases hcc with ⟨rfl, rfl, h⟩ | ⟨rfl, j, rfl, hj, rfl⟩
        · by_cases h0 : k < 0
          · have d0 : decide (0 ≤ k) = false := decide_eq_false (by omega)
            clear h h0
            go_wp2_with fail
            go_meet
            case rel => exact ⟨rfl, rfl⟩
          · have d0 : 0 ≤ k := by omega
            have d1 : decide (k < (nF : Int)) = false := decide_eq_false (by omega)
            clear h h0
            go_wp2_with fail
            go_meet
            case rel => exact ⟨rfl, rfl⟩
        · have d0 : (0 : Int) ≤ (j : Int) := by omega
          have d1 : (j : Int) < (nF : Int) := by omega
          obtain ⟨b8, off8, rfl, c8⟩ := HFC.out j hj
          have c8 := cell_on HB8.out c8
          generalize F.getD j 0 = z8 at *
          go_wp2_with fail
          go_meet
          case rel => exact ⟨rfl, rfl⟩
      case rest =>
        obtain ⟨rfl, rfl⟩ := hcut
        go_wp2_with fail
        have r0_wc := own_row s0_w8
        go_loopg [16, 17] nF (fun kk nv iv wr => ∃ i : Nat, kk = nF - i ∧ i ≤ nF ∧ nv = .int .i64 ((fewB a1 (F.take i) : Nat) : Int) ∧ iv = .int .i64 (i : Int) ∧ AnyLater wc wr)
        case atStart => exact ⟨0, rfl, Nat.zero_le _, rfl, rfl, AnyLater.refl _⟩
        case round =>
          obtain ⟨i, hk, hi, rfl, rfl, b_wz⟩ := hrel
          generalize wr = wz at *
          have s0_wz := any_own b_wz s0_w8
          have r0_wz := own_row s0_wz
          have HBz := Lib.hid b_wz
          clear s0_wz r0_wc b_wz
          by_cases hlt : i < nF
          · obtain ⟨b8, off8, rfl, c8⟩ := HFC.out i hlt
            have c8 := cell_on (HB8.out.trans HBz.out) c8
            have hsn := fewB_snoc a1 F i (by rw [HNF.out]; exact hlt)
            have hm : fewB a1 (F.take i) ≤ i := Nat.le_trans (List.length_filter_le _ _) (by rw [List.length_take]; omega)
            have h3 := HFF.out.2
            generalize F.getD i 0 = z8 at *
            generalize fewB a1 (F.take i) = m at *
            have d0 : (i : Int) < (nF : Int) := by omega
            by_cases h : z8 < a1
            · rw [if_pos h] at hsn
              have HSn := Lib.hid hsn
              clear hsn
              go_wp2_with fail
              go_quiet (fail)
              go_wp2_with fail
              go_roundg (nF - (i + 1))
              case measure => omega
              case rel => exact ⟨i + 1, rfl, by omega, by rw [HSn.out]; go_num, by go_num, HBz.out.drewN _⟩
            · rw [if_neg h] at hsn
              have HSn := Lib.hid hsn
              have h9 : decide (z8 < a1) = false := decide_eq_false h
              clear hsn h
              go_wp2_with fail
              go_quiet (fail)
              go_wp2_with fail
              go_roundg (nF - (i + 1))
              case measure => omega
              case rel => exact ⟨i + 1, rfl, by omega, by rw [HSn.out]; go_num, by go_num, HBz.out.drewN _⟩
          · have hiE : F.take i = F := List.take_of_length_le (by rw [HNF.out]; omega)
            rw [hiE]
            have d0 : decide ((i : Int) < (nF : Int)) = false := decide_eq_false (by omega)
            have d1 : decide (i < nF) = false := decide_eq_false hlt
            clear hiE
            generalize fewB a1 F = m at *
            go_wp2_with fail
            refine (HAh.out _ (HR8.out.later HBz.out)).mono ?_
            rintro e w9 ⟨rfl, b_w9⟩
            have HB9 := Lib.hid (a_w8.trans (HBz.out.trans b_w9))
            clear b_w9
            go_wp2_with fail
            refine (HV.out _).mono ?_
            rintro e wd ⟨rfl, b_wd⟩
            have HBd := Lib.hid (HA1.out.trans (HB9.out.trans b_wd))
            clear b_wd
            go_wp2_with fail
            go_ret
            exact ⟨rfl, HBd.out⟩
end Go.Proofs.Ytiiojgneljgakaa
