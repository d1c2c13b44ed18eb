/- rope: RopeBack, walked: what is inserted and deleted again, or deleted and inserted again, leaves the text as it was. -/
import Derived.Test.YtiiojgneljgakaaRopW
import Derived.Test.YtiiojgneljgakaaSteps
namespace Go.Proofs.Ytiiojgneljgakaa
set_option linter.unusedSimpArgs false
set_option linter.unusedVariables false
set_option linter.unusedSectionVars false
open Go.RowKit

theorem ins_back (L B : List Int) (most a : Int) (h : insC L.length most a B.length = 0) : delC (insO L most a B).length a B.length = 0 ∧ delG (insO L most a B) a B.length = B ∧ delL (insO L most a B) a B.length = L := by
  obtain ⟨h1, h2, h3⟩ := insC_zero h
  obtain ⟨i, rfl⟩ := Int.eq_ofNat_of_zero_le h1
  have e : insO L most i B = L.take i ++ (B ++ L.drop i) := by unfold insO; rw [if_pos h]; rfl
  have hl : (L.take i).length = i := by rw [List.length_take]; omega
  have hn : (L.take i ++ (B ++ L.drop i)).length = L.length + B.length := by rw [List.length_append, List.length_append, hl, List.length_drop]; omega
  have hin : In3 (i : Int) (B.length : Int) (L.take i ++ (B ++ L.drop i)).length := by rw [hn]; unfold In3; omega
  rw [e]
  refine ⟨by unfold delC; rw [if_pos hin], ?_, ?_⟩
  · unfold delG
    rw [if_pos hin, Int.toNat_natCast, Int.toNat_natCast, List.drop_append_of_le_length (by omega), List.drop_of_length_le (by omega), List.nil_append, List.take_left]
  · unfold delL
    rw [if_pos hin, Int.toNat_natCast, Int.toNat_natCast, List.take_append_of_le_length (by omega), List.take_of_length_le (by omega), List.drop_append, List.drop_of_length_le (by omega), List.nil_append, hl, Nat.add_sub_cancel_left, List.drop_left, List.take_append_drop]
theorem ins_not {L B : List Int} {most a : Int} (h : insC L.length most a B.length ≠ 0) : insO L most a B = L := by unfold insO; rw [if_neg h]
theorem del_back (L : List Int) (a n : Int) (h : In3 a n L.length) (hl : L.length ≤ 3000) : insC (delL L a n).length 3000 a (delG L a n).length = 0 ∧ insO (delL L a n) 3000 a (delG L a n) = L := by
  obtain ⟨h1, h2, h3, h4⟩ := id h
  obtain ⟨i, rfl⟩ := Int.eq_ofNat_of_zero_le h1
  obtain ⟨m, rfl⟩ := Int.eq_ofNat_of_zero_le h3
  have e1 : delL L i m = L.take i ++ L.drop (i + m) := by unfold delL; rw [if_pos h]; rfl
  have e2 : delG L i m = (L.drop i).take m := by unfold delG; rw [if_pos h]; rfl
  have hl1 : (L.take i).length = i := by rw [List.length_take]; omega
  have hn1 : (L.take i ++ L.drop (i + m)).length = L.length - m := by rw [List.length_append, hl1, List.length_drop]; omega
  have hn2 : ((L.drop i).take m).length = m := by rw [List.length_take, List.length_drop]; omega
  have hc : insC (delL L i m).length 3000 i (delG L i m).length = 0 := by
    rw [e1, e2, hn1, hn2]
    unfold insC
    rw [if_neg (by omega), if_neg (by omega)]
  refine ⟨hc, ?_⟩
  unfold insO
  rw [if_pos hc, e1, e2, Int.toNat_natCast, List.take_append_of_le_length (by omega), List.take_of_length_le (show (L.take i).length ≤ i by omega), List.drop_append_of_le_length (by omega), List.drop_of_length_le (show (L.take i).length ≤ i by omega), List.nil_append]
  conv => rhs; rw [← List.take_append_drop i L, ← List.take_append_drop m (L.drop i), List.drop_drop]
theorem del_not {L : List Int} {a n : Int} (h : ¬ In3 a n L.length) : delC L.length a n = 1 ∧ delL L a n = L := ⟨by unfold delC; rw [if_neg h], by unfold delL; rw [if_neg h]⟩
theorem del_yes {L : List Int} {a n : Int} (h : In3 a n L.length) : delC L.length a n = 0 := by unfold delC; rw [if_pos h]
def st1 (i : Nat) (is : Value → World → Prop) (j : Nat) (g : Nat → Value) (x : World) : Prop := match j with
  | 0 => True
  | _ => is (g i) x
def st17 (P0 P1 : World → Prop) (is : Value → World → Prop) (j : Nat) (g : Nat → Value) (x : World) : Prop := match j with
  | 0 => P0 x
  | 1 => P1 x
  | _ => P1 x ∧ is (g 8) x
theorem updG_at (g : Nat → Value) (i : Nat) (u : Value) : updG g i u i = u := by unfold updG; rw [if_pos rfl]
theorem updG_ne (g : Nat → Value) (i j : Nat) (u : Value) (h : j ≠ i) : updG g i u j = g j := by unfold updG; rw [if_neg h]
theorem conv_one (w : World) (o : Obj) (C : Array Value) (n c : Nat) : (convert 28 28 (.slice (some ⟨w.heap.size + 1, 0, none⟩) n c)).run Try.prog ((w.alloc o).alloc (.cells C 5)) = .ok (.slice (some ⟨w.heap.size + 1, 0, none⟩) n c) ((w.alloc o).alloc (.cells C 5 (C.size, C.size + 1))) := by
  have h := Lib.run_convert_bytes_const (P := Try.prog) (w.alloc o) 28 5 C n c Try.underlying28 Try.underlying5
  rw [World.size_alloc] at h
  exact h
set_option maxRecDepth 100000 in
set_option maxHeartbeats 6400000 in
theorem ropeBack_any (w : World) (v : Value) (l : List AM) (A : AM) (hv : RAct w v l) (hA : A.Ok w) : Calls Try.prog 4 #[v, .agg #[.int .i64 A.kind, .int .i64 A.at_, .int .i64 A.n, A.v]] w fun e w' => e = .returned (.bool true) ∧ AnyLater w w' := by
  obtain ⟨Av, capv, rfl, hok, hcells⟩ := hv
  have HOk := Lib.hid (And.intro hok hcells)
  obtain ⟨k, a, n, bv, b⟩ := A
  have HB := Lib.hid hA
  obtain ⟨A0, cap0, e0, -⟩ := hA.row.form
  simp only at e0
  subst e0
  have HNew := Lib.hid new_one
  have HDo := Lib.hid does_any
  have kc1 := conv_one
  have kc := fun (w : World) (C : Array Value) (n c : Nat) => Lib.run_convert_bytes_const (P := Try.prog) w 28 5 C n c Try.underlying28 Try.underlying5
  clear hok hcells hA
  simp only
  generalize b.length = mb at *
  obtain ⟨nl, hnl⟩ : ∃ nl, l.length = nl := ⟨_, rfl⟩
  have HNL := Lib.hid hnl
  rw [hnl]
  clear hnl
  obtain ⟨B, hB⟩ : ∃ B, b.take 40 = B := ⟨_, rfl⟩
  have hB40 : B.length ≤ 40 := by rw [← hB, List.length_take]; omega
  have hBy : Bytes B := by rw [← hB]; exact fun c hc => HB.out.bytes c (List.mem_of_mem_take hc)
  have HF := Lib.hid (fun (w' : World) (e : AnyLater w w') => few_any8 _ b B 40 hB w' (HB.out.row.later e) (by omega))
  have HB40 := Lib.hid (And.intro hB40 hBy)
  clear hB hB40 hBy
  go_enter Try.func4, Try.ntmps4
  go_wp2_with fail
  obtain ⟨w1, hw1⟩ : ∃ w1, (w.alloc (.cells #[.int .i64 k, .int .i64 a, .int .i64 n, .slice A0 mb cap0] 34)).alloc (.cells #[.int .u8 111, .int .u8 110, .int .u8 101, .int .u8 10, .int .u8 116, .int .u8 119, .int .u8 111, .int .u8 10] 5 (8, 9)) = w1 := ⟨_, rfl⟩
  have a_w1 : AnyLater w w1 := by rw [← hw1]; exact ((AnyLater.refl w).alloc _).alloc _
  have s0_w1 : w1.heap[w.heap.size]? = some (.cells #[.int .i64 k, .int .i64 a, .int .i64 n, .slice A0 mb cap0] 34) := by rw [← hw1]; exact heap_old (by simp) (heap_new rfl)
  have hone : RT .u8 5 w1 (.slice (some ⟨w.heap.size + 1, 0, none⟩) 8 8) one := by rw [← hw1]; exact lit_one (heap_new (by simp))
  have hw1' : (w.alloc (.cells #[.int .i64 k, .int .i64 a, .int .i64 n, .slice A0 mb cap0] 34)).alloc (.cells #[.int .u8 111, .int .u8 110, .int .u8 101, .int .u8 10, .int .u8 116, .int .u8 119, .int .u8 111, .int .u8 10] 5 (Array.size #[Value.int .u8 111, .int .u8 110, .int .u8 101, .int .u8 10, .int .u8 116, .int .u8 119, .int .u8 111, .int .u8 10], Array.size #[Value.int .u8 111, .int .u8 110, .int .u8 101, .int .u8 10, .int .u8 116, .int .u8 119, .int .u8 111, .int .u8 10] + 1)) = w1 := hw1
  simp only [hw1, hw1']
  refine (HNew.out w1 _ hone.rn).mono ?_
  rintro e w2 ⟨g, rfl, b_w2, hg, r2⟩
  have R2 := Lib.hid r2
  clear r2 hone hw1 hw1' kc1
  go_wp2_with fail
  obtain ⟨w3, hw3⟩ : ∃ w3, (w2.alloc (.cells #[.int .u8 111, .int .u8 110, .int .u8 101, .int .u8 10, .int .u8 116, .int .u8 119, .int .u8 111, .int .u8 10] 5 (8, 9))).alloc (.cells #[.slice (some ⟨w2.heap.size, 0, none⟩) 8 8, .int .i64 3000] 31) = w3 := ⟨_, rfl⟩
  simp only [hw3]
  have b_w3 : AnyLater w2 w3 := by rw [← hw3]; exact ((AnyLater.refl w2).alloc _).alloc _
  have HBoth : Hid (Both w3 g (w2.heap.size + 1) one) := Lib.hid (both_one (bv := .slice (some ⟨w2.heap.size, 0, none⟩) 8 8) (R2.out.later b_w3) (by rw [← hw3]; exact heap_new (by simp)) (by rw [← hw3]; exact lit_one (heap_old (by simp) (heap_new rfl))))
  obtain ⟨xg, hxg⟩ : ∃ xg, w2.heap.size + 1 = xg := ⟨_, rfl⟩
  have hxw : w1.heap.size ≤ xg := by have := b_w2.below.size; omega
  rw [hxg] at HBoth ⊢
  have HG := Lib.hid (And.intro hg hxw)
  have HW3 := Lib.hid (b_w2.trans b_w3)
  have HA1 := Lib.hid a_w1
  have HS0 := Lib.hid s0_w1
  clear hw3 b_w2 b_w3 hg hxw hxg R2 kc a_w1 s0_w1
  go_loopg [8] nl (fun kk iv wr => AnyLater w1 wr ∧ ∃ (i : Nat) (L : List Int), kk = nl - i ∧ i ≤ nl ∧ iv = .int .i64 (i : Int) ∧ Both wr g xg L)
  case atStart => exact ⟨HW3.out, 0, one, by omega, by omega, rfl, HBoth.out⟩
  case round =>
    obtain ⟨a_wr, i, L, hk, hi, rfl, hboth⟩ := hrel
    have HBo := Lib.hid hboth
    have HAr := Lib.hid a_wr
    clear hboth a_wr
    by_cases hlt : i < nl ∧ i < 40
    · obtain ⟨h1, h2⟩ := hlt
      have hil : i < l.length := by rw [HNL.out]; exact h1
      obtain ⟨b0, off, rfl, hb0, hcs⟩ := HOk.out.2 (by omega)
      obtain ⟨c0, c1, c2, c3⟩ := hcs i hil
      have aw := HA1.out.trans HAr.out
      have c0 := cell_on aw c0
      have c1 := cell_on aw c1
      have c2 := cell_on aw c2
      have c3 := cell_on aw c3
      have HDoi := Lib.hid (HDo.out w1 wr g xg L l[i] HBo.out HAr.out HG.out.1 HG.out.2 ((HOk.out.1 i hil).later aw))
      have d0 : (i : Int) < (nl : Int) := by omega
      have d1 : (i : Int) < 40 := by omega
      have HAi := Lib.hid (HOk.out.1 i hil).row.form
      generalize l[i] = Ai at *
      obtain ⟨k4, a4, n4, v4, b4⟩ := Ai
      simp only at c0 c1 c2 c3 HDoi
      obtain ⟨A4, cap4, e4, -⟩ := HAi.out
      simp only at e4
      subst e4
      clear hcs hil aw HAi
      simp only at *
      generalize b4.length = m4 at *
      go_wp2_with fail
      refine HDoi.out.mono ?_
      rintro e w4 ⟨rfl, a4', L', hL'⟩
      have HN := Lib.hid (And.intro a4' hL')
      clear a4' hL'
      go_wp2_with fail
      go_roundg (nl - (i + 1))
      case measure => omega
      case rel => exact ⟨HN.out.1, i + 1, L', rfl, by omega, by go_num, HN.out.2⟩
    · obtain ⟨t, hr, ok, hbs, hX, hby, hlen⟩ := HBo.out
      have htl : t.len = L.length := by rw [← Tr.len_bs, hbs]
      have hB40 := HB40.out.1
      have HI : Hid (∀ (w' : World) (u : Value), IsR w' g 3000 t → RN .u8 w' u B → Calls Try.prog 16 #[.pointer (some ⟨g, 0, none⟩), .int .i64 a, u] w' fun e w'' => e = .returned (.int .i64 (insC L.length 3000 a B.length)) ∧ But g w' w'' ∧ IsR w'' g 3000 (insTT t 3000 a B)) := Lib.hid (fun w' u h hu => by
        have := rins_all g 3000 a t u B w' h ok hu HB40.out.2 (by omega)
        rwa [htl] at this)
      obtain ⟨c, hc⟩ : ∃ c, insC L.length 3000 a B.length = c := ⟨_, rfl⟩
      rw [hc] at HI
      have HC := Lib.hid hc
      clear hc
      have ok2 : (insTT t 3000 a B).Ok := insTT_ok ok HB40.out.2 (by decide)
      have bs2 : (insTT t 3000 a B).bs = insO L 3000 a B := by rw [insTT_bs, hbs]
      have H2 := Lib.hid (And.intro ok2 bs2)
      have HO := Lib.hid (And.intro hr hX)
      have HL := Lib.hid (And.intro ok (And.intro hbs (And.intro hby hlen)))
      have HPt : Hid (∀ (w' : World) (T : Tr), IsR w' g 3000 T → T.Ok → T.bs = L → Calls Try.prog 9 #[.pointer (some ⟨g, 0, none⟩), .int .i64 0, .int .i64 9999] w' (Ans (isB L) w')) := Lib.hid (fun w' T h ok hb => rpart_any _ T 0 9999 L (by
        rw [hb]; unfold cutZ
        rw [List.take_of_length_le (by omega)]; rfl) w' (.inr ⟨g, 3000, rfl, h⟩) ok)
      have HDl : Hid (∀ (w' : World) (T : Tr), IsR w' g 3000 T → T.Ok → T.bs = L → Calls Try.prog 17 #[.pointer (some ⟨g, 0, none⟩), .int .i64 a, .int .i64 n] w' fun e w'' => ∃ u, e = .returned (.tuple #[u, .int .i64 (delC L.length a n)]) ∧ But g w' w'' ∧ IsR w'' g 3000 (delTT T a n) ∧ isB (delG L a n) u w'') := Lib.hid (fun w' T h ok hb => by
        have := rdel_all g 3000 a n T w' h ok
        rwa [← Tr.len_bs, hb] at this)
      have aw := HA1.out.trans HAr.out
      have s0_wr := any_own HAr.out HS0.out
      have r0_wr := own_row s0_wr
      have HF2 := Lib.hid (HF.out wr aw)
      have HV := Lib.hid rlives
      clear hr ok hbs hX hby hlen htl hB40 ok2 bs2
      by_cases h1 : i < nl
      case' pos =>
        have d0 : (i : Int) < (nl : Int) := by omega
        have d1 : decide ((i : Int) < 40) = false := decide_eq_false (by omega)
        have d2 : decide (i < 40) = false := decide_eq_false (by omega)
        clear hlt hk
        go_wp2_with fail
      case' neg =>
        have d0 : decide ((i : Int) < (nl : Int)) = false := decide_eq_false (by omega)
        have d1 : decide (i < nl) = false := decide_eq_false (by omega)
        clear hlt hk
        go_wp2_with fail
      all_goals
        refine HF2.out.mono ?_
        rintro e w5 ⟨fv, rfl, b_w5, hfv⟩
        have a_w5 : AnyLater w1 w5 := HAr.out.trans b_w5
        have HS5 := Lib.hid (any_own b_w5 s0_wr)
        have HFV := Lib.hid hfv.rt
        obtain ⟨Af, capf, rfl, -⟩ := hfv.form
        obtain ⟨u8, w8, c1, c2, c3⟩ := copy8 (w := w5.drew) (hfv.rn.later (AnyLater.refl w5).drew) (by have := HB40.out.1; omega)
        have C1 := Lib.hid c1
        have C2 := Lib.hid (And.intro ((AnyLater.refl w5).drew.trans c2) c3.rn)
        have HA5 := Lib.hid (And.intro a_w5 b_w5)
        clear c1 c2 c3 hfv a_w5 b_w5 r0_wr s0_wr
        generalize hnb : B.length = nb at *
        have HNB := Lib.hid hnb
        clear hnb
        go_wp2_with fail
        apply wp_region_chain 8 [(3, .slice (some ⟨w5.heap.size, 0, none⟩) 0 0), (5, u8), (6, .int .i64 c)] [] (fun x => x.heap[w.heap.size]? = some (.cells #[.int .i64 k, .int .i64 a, .int .i64 n, .slice A0 mb cap0] 34))
          (stI w5.drew (w5.drew.alloc (.cells #[] 5)) w8 (fun x => IsR x g 3000 (insTT t 3000 a B) ∧ IsX x xg 3000 L ∧ AnyLater w1 x ∧ RT .u8 5 x (.slice Af nb capf) B) (fun _ => True)) (by kernel_rfl) (by kernel_rfl) (by kernel_rfl) (by simp) (by kernel_rfl) (heap_drew HS5.out) (fun _ => rfl)
        case hlex =>
          intro U hU
          have r0 := own_row hU
          simp only [actFrom, actOp, List.lookup, Nat.reduceBEq, Nat.reduceLeDiff, Nat.reduceAdd, if_false, if_true]
          repeat (go_big_quiet_step (fail))
          exact wpQuiet_nil rfl
        case hact =>
          intro i hi o ho
          have hj3 : i = 0 ∨ i = 1 ∨ i = 2 := by simp at hi; omega
          rcases hj3 with rfl | rfl | rfl
          · cases ho
            refine ⟨rfl, fun gv x hC hS => ?_⟩
            obtain rfl : x = w5.drew := hS
            exact chain_value (w' := w5.drew.alloc (.cells #[] 5)) (by simp [go_sem, execOp]) ⟨heap_old (own_lt hC) hC, .inr rfl, rfl⟩
          · cases ho
            refine ⟨rfl, fun gv x hC hS => ?_⟩
            obtain rfl : x = w5.drew.alloc (.cells #[] 5) := hS
            simp only [fillAll, Act.put, List.setIfInBounds_toArray, List.set_cons_zero, List.set_cons_succ]
            exact chain_app _ _ _ _ rfl _ _ rfl rfl C1.out ⟨any_own C2.out.1 HS5.out, .inr rfl, rfl⟩
          · cases ho
            refine ⟨rfl, fun gv x hC hS => ?_⟩
            obtain rfl : x = w8 := hS
            simp only [fillAll, Act.put, List.setIfInBounds_toArray, List.set_cons_zero, List.set_cons_succ]
            have hR := HO.out.1.later (HA5.out.2.trans C2.out.1)
            have hXx := HO.out.2.later (HA5.out.2.trans C2.out.1)
            refine chain_go ?_ ((HI.out x _ hR C2.out.2).mono fun e w'' ⟨h1, h2, h3⟩ => ⟨_, h1, h2.own hC (by have := HG.out.1; have := own_lt HS0.out; omega), .inr rfl, h3, ?_, ?_, ?_⟩)
            · simp [go_sem, execOp]
            · obtain ⟨rv, q1, _⟩ := hR
              exact hXx.but h2 q1
            · exact But.any (HA5.out.1.trans C2.out.1) HG.out.1 h2
            · obtain ⟨rv, q1, _⟩ := hR
              exact RT.but (RT.later HFV.out C2.out.1) h2 q1 (by decide)
        case htail =>
          intro gz w6 hC hS
          obtain ⟨hR6, hX6, hW6, hF6⟩ : IsR w6 g 3000 (insTT t 3000 a B) ∧ IsX w6 xg 3000 L ∧ AnyLater w1 w6 ∧ RT .u8 5 w6 (.slice Af nb capf) B := hS
          have HZ := Lib.hid (And.intro hR6 (And.intro hX6 (And.intro hW6 hF6)))
          have HCz := Lib.hid hC
          clear hR6 hX6 hW6 hF6 hC
          simp only [fillAll, Act.put, List.setIfInBounds_toArray, List.set_cons_zero, List.set_cons_succ, List.drop_succ_cons, List.drop_zero, List.drop_nil]
          have hlw : w.heap.size < g ∧ w.heap.size < xg := by have := HG.out; have := own_lt HS0.out; omega
          have HLt := Lib.hid hlw
          clear hlw
          obtain ⟨S, hS⟩ : ∃ S, strOfNums L = S := ⟨_, rfl⟩
          obtain ⟨Sb, hSb⟩ : ∃ S, strOfNums B = S := ⟨_, rfl⟩
          have HSt := Lib.hid (And.intro hS hSb)
          clear hS hSb
          generalize hnL : L.length = nL at *
          have HnL := Lib.hid hnL
          clear hnL
          by_cases hc0 : c = 0
          case' pos =>
            subst hc0
            obtain ⟨T3, hT3⟩ : ∃ T, delTT (insTT t 3000 a B) a nb = T := ⟨_, rfl⟩
            have hb3 := ins_back L B 3000 a (by rw [HNB.out, HnL.out]; exact HC.out)
            rw [HNB.out] at hb3
            have HD1 : Hid (∀ w', IsR w' g 3000 (insTT t 3000 a B) → Calls Try.prog 17 #[.pointer (some ⟨g, 0, none⟩), .int .i64 a, .int .i64 (nb : Int)] w' fun e w'' => ∃ u, e = .returned (.tuple #[u, .int .i64 0]) ∧ But g w' w'' ∧ IsR w'' g 3000 T3 ∧ isB B u w'') := Lib.hid (fun w' h => by
              have := rdel_all g 3000 a nb _ w' h H2.out.1
              rw [← Tr.len_bs, H2.out.2, hb3.1, hb3.2.1, hT3] at this
              exact this)
            have HT3 : Hid (T3.Ok ∧ T3.bs = L) := Lib.hid ⟨by rw [← hT3]; exact delTT_ok H2.out.1, by rw [← hT3, delTT_bs, H2.out.2, hb3.2.2]⟩
            have r6 := own_row HCz.out
            clear hb3 hT3
            go_wp2_with fail
            refine (HD1.out _ HZ.out.1).mono ?_
            rintro e w7 ⟨u7, rfl, bb7, r7, hu7⟩
            obtain ⟨rv6, q6, _⟩ := id HZ.out.1
            have s0_w7 := bb7.own HCz.out (by have := HLt.out; omega)
            have X7 := HZ.out.2.1.but bb7 q6
            have F7 := RT.but HZ.out.2.2.2 bb7 q6 (by decide)
            have a_w7 := But.any HZ.out.2.2.1 HG.out.1 bb7
            obtain ⟨xv, s1_w7, hxv⟩ := X7
            have HC1 : Hid (∀ x, AnyLater w7 x → (convert 28 9 (.slice Af nb capf)).run Try.prog x = .ok (.string Sb) x) := Lib.hid (fun x h => by rw [← HSt.out.2]; exact RN.str (RT.rn (F7.later h)))
            have HC2 : Hid (∀ x, AnyLater w7 x → (convert 28 9 u7).run Try.prog x = .ok (.string Sb) x) := Lib.hid (fun x h => by rw [← HSt.out.2]; exact RN.str (RT.rn (RT.later hu7 h)))
            have HC3 : Hid (∀ x, AnyLater w7 x → (convert 28 9 xv).run Try.prog x = .ok (.string S) x) := Lib.hid (fun x h => by rw [← HSt.out.1]; exact RN.str (RT.rn (hxv.later h)))
            have HQ7 := Lib.hid (And.intro r7 (And.intro hxv a_w7))
            have HS7 := Lib.hid (And.intro s0_w7 s1_w7)
            obtain ⟨A7, cap7, e7, -⟩ := isB.form hu7
            rw [HNB.out] at e7
            subst e7
            obtain ⟨Ax, capx, ex, -⟩ := RT.form hxv
            rw [HnL.out] at ex
            subst ex
            clear r6 s0_w7 s1_w7 F7 hxv a_w7 r7 hu7 bb7 q6
            go_wp2_with fail
            apply wp_region_steps 20 [(11, undef), (12, .string S)] [⟨11, 78, isB L⟩] (AnyLater w7) (st1 11 (isB L)) (by kernel_rfl) (by kernel_rfl) (by kernel_rfl) (by kernel_rfl) (by simp) (by kernel_rfl) (AnyLater.refl w7).drew (fun _ => trivial)
            case hlex =>
              intro U hU
              have q0 := own_row (any_own hU HS7.out.1)
              have q1 := own_row (any_own hU HS7.out.2)
              have q2 := HC1.out U hU
              have q3 := HC2.out U hU
              have q4 := HC3.out U hU
              simp only [actFrom, actOp, List.lookup, Nat.reduceBEq, Nat.reduceLeDiff, Nat.reduceAdd, if_false, if_true]
              repeat (go_big_quiet_step (fail))
              exact wpQuiet_nil rfl
            case hact =>
              intro j hj o ho
              have hj4 : j = 0 ∨ j = 1 := by simp at hj; omega
              rcases hj4 with rfl | rfl
              · cases ho
                refine ⟨rfl, fun gv x hC hS => ?_⟩
                simp only [fillAll, Act.put, List.setIfInBounds_toArray, List.set_cons_zero, List.set_cons_succ]
                refine chain_go ?_ ((HPt.out x T3 (HQ7.out.1.later hC) HT3.out.1 HT3.out.2).mono ?_)
                · simp [go_sem, execOp]
                · rintro e x2 ⟨u, rfl, b, h1⟩
                  refine ⟨u, rfl, hC.trans b, .inl ⟨_, List.mem_singleton.2 rfl, rfl⟩, ?_⟩
                  show isB L (updG gv 11 u 11) x2
                  rw [updG_at]; exact h1
              · cases ho
                refine ⟨rfl, fun gv x hC hS => ?_⟩
                have hS : isB L (gv 11) x := hS
                have hrun := RN.str (RT.rn hS)
                rw [HSt.out.1] at hrun
                simp only [fillAll, Act.put, List.setIfInBounds_toArray, List.set_cons_zero, List.set_cons_succ]
                refine chain_value (w' := x) (by simp [go_sem, execOp, hrun]) ⟨hC, .inr rfl, ?_⟩
                show isB L (updG gv 12 _ 11) x
                rw [updG_ne _ _ _ _ (by decide)]; exact hS
            case' htail =>
              intro gz2 wq hCq hSq
              have HBq := Lib.hid (any_own hCq HS7.out.1)
              have HRq := Lib.hid (And.intro (HQ7.out.1.later hCq) HT3.out)
              have HXq : Hid (IsX wq xg 3000 L ∧ AnyLater w1 wq) := Lib.hid ⟨⟨_, any_own hCq HS7.out.2, HQ7.out.2.1.later hCq⟩, HQ7.out.2.2.trans hCq⟩
              clear hSq hCq
              simp only [fillAll, Act.put, List.setIfInBounds_toArray, List.set_cons_zero, List.set_cons_succ, List.drop_succ_cons, List.drop_zero, List.drop_nil]
              generalize gz2 11 = v78 at *
              have r6 := own_row HBq.out
              go_wp2_with fail
          case' neg =>
            have hcb : (c == 0) = false := by simpa using hc0
            obtain ⟨T3, hT3⟩ : ∃ T, insTT t 3000 a B = T := ⟨_, rfl⟩
            have HBq := HCz
            have HRq : Hid (IsR w6 g 3000 T3 ∧ T3.Ok ∧ T3.bs = L) := Lib.hid ⟨by rw [← hT3]; exact HZ.out.1, by rw [← hT3]; exact H2.out.1, by rw [← hT3, H2.out.2]; exact ins_not (by rw [HNB.out, HnL.out, HC.out]; exact hc0)⟩
            have HXq : Hid (IsX w6 xg 3000 L ∧ AnyLater w1 w6) := Lib.hid ⟨HZ.out.2.1, HZ.out.2.2.1⟩
            clear hc0 hT3
            have r6 := own_row HCz.out
            go_wp2_with fail
            generalize w6 = wq at *
          all_goals
            obtain ⟨xv, s1_wq, hxv⟩ := HXq.out.1
            have hQ1 := HRq.out.1
            obtain ⟨rvq, q6, _⟩ := id hQ1
            have HD2 := Lib.hid (HDl.out _ T3 HRq.out.1 HRq.out.2.1 HRq.out.2.2)
            have HT4 : Hid ((delTT T3 a n).Ok ∧ (delTT T3 a n).bs = delL L a n) := Lib.hid ⟨delTT_ok HRq.out.2.1, by rw [delTT_bs, HRq.out.2.2]⟩
            obtain ⟨T4, hT4⟩ : ∃ T, delTT T3 a n = T := ⟨_, rfl⟩
            rw [hT4] at HD2 HT4
            clear hT4
            by_cases hin : In3 a n nL
            · have hin2 : In3 a n L.length := by rw [HnL.out]; exact hin
              have hde := del_yes hin2
              rw [HnL.out] at hde
              have hbk := del_back L a n hin2 (by rw [HnL.out]; exact HL.out.2.2.2)
              rw [hde] at HD2
              obtain ⟨G, hG⟩ : ∃ G, delG L a n = G := ⟨_, rfl⟩
              rw [hG] at HD2 hbk
              have hGy : Bytes G := by
                rw [← hG]
                unfold delG
                rw [if_pos hin2]
                exact fun c hc => HL.out.2.2.1 c (List.mem_of_mem_drop (List.mem_of_mem_take hc))
              have ht4 : T4.len = (delL L a n).length := by rw [← Tr.len_bs, HT4.out.2]
              have ht4l : T4.len ≤ 3000 := by
                have := delL_len L a n
                have := HL.out.2.2.2
                have := HnL.out
                omega
              have HT5 : Hid ((insTT T4 3000 a G).Ok ∧ (insTT T4 3000 a G).bs = L) := Lib.hid ⟨insTT_ok HT4.out.1 hGy (by decide), by rw [insTT_bs, HT4.out.2]; exact hbk.2⟩
              have HI2 : Hid (∀ (w' : World) (u : Value), IsR w' g 3000 T4 → RN .u8 w' u G → Calls Try.prog 16 #[.pointer (some ⟨g, 0, none⟩), .int .i64 a, u] w' fun e w'' => e = .returned (.int .i64 0) ∧ But g w' w'' ∧ IsR w'' g 3000 (insTT T4 3000 a G)) := Lib.hid (fun w' u h hu => by
                have := rins_all g 3000 a T4 u G w' h HT4.out.1 hu hGy (by omega)
                rw [ht4, hbk.1] at this
                exact this)
              generalize insTT T4 3000 a G = T5 at *
              clear hin hin2 hde hbk hG hGy ht4 ht4l
              refine HD2.out.mono ?_
              rintro e wd ⟨ud, rfl, bbd, rd, hud⟩
              have hne : xg ≠ g := fun e => by rw [e, q6] at s1_wq; cases s1_wq
              have s0_wd := bbd.own HBq.out (by have := HLt.out; omega)
              have s1_wd := bbd.own s1_wq hne
              have hxd := hxv.but bbd q6 (by decide)
              have a_wd := But.any HXq.out.2 HG.out.1 bbd
              have HQd := Lib.hid (And.intro rd (And.intro a_wd (RT.rn hud)))
              have HSd := Lib.hid (And.intro s0_wd (And.intro s1_wd hxd))
              have HNe := Lib.hid hne
              obtain ⟨A7, cap7, rfl, -⟩ := isB.form hud
              obtain ⟨Ax, capx, ex, -⟩ := RT.form hxd
              rw [HnL.out] at ex
              subst ex
              generalize G.length = nG at *
              clear r6 s0_wd s1_wd hxd a_wd rd hud bbd q6 hne s1_wq hxv hQ1
              go_wp2_with fail
              apply wp_region_steps 24 [(4, .int .i64 0), (8, undef), (9, .string S), (19, .bool true), (22, .bool true)] [⟨8, 118, isB L⟩]
                (fun x => x.heap[w.heap.size]? = some (.cells #[.int .i64 k, .int .i64 a, .int .i64 n, .slice A0 mb cap0] 34) ∧ x.heap[xg]? = some (.cells #[.slice Ax nL capx, .int .i64 3000] 31) ∧ RT .u8 5 x (.slice Ax nL capx) L)
                (st17 (fun x => x = wd.drew) (fun x => IsR x g 3000 T5 ∧ AnyLater w1 x) (isB L)) (by kernel_rfl) (by kernel_rfl) (by kernel_rfl) (by kernel_rfl) (by simp) (by kernel_rfl) ⟨heap_drew HSd.out.1, heap_drew HSd.out.2.1, HSd.out.2.2.later (AnyLater.refl wd).drew⟩ (fun _ => rfl)
              case hlex =>
                intro U hU
                have q0 := own_row hU.1
                have q1 := own_row hU.2.1
                have q4 := RN.str (RT.rn hU.2.2)
                rw [HSt.out.1] at q4
                simp only [actFrom, actOp, List.lookup, Nat.reduceBEq, Nat.reduceLeDiff, Nat.reduceAdd, if_false, if_true]
                repeat (go_big_quiet_step (fail))
                exact wpQuiet_nil rfl
              case hact =>
                intro j hj o ho
                have hj4 : j = 0 ∨ j = 1 ∨ j = 2 ∨ j = 3 ∨ j = 4 := by simp at hj; omega
                rcases hj4 with rfl | rfl | rfl | rfl | rfl
                · cases ho
                  refine ⟨rfl, fun gv x hC hS => ?_⟩
                  obtain rfl : x = wd.drew := hS
                  simp only [fillAll, Act.put, List.setIfInBounds_toArray, List.set_cons_zero, List.set_cons_succ]
                  have hRd := HQd.out.1.later (AnyLater.refl wd).drew
                  refine chain_go ?_ ((HI2.out _ _ hRd (HQd.out.2.2.later (AnyLater.refl wd).drew)).mono ?_)
                  · simp [go_sem, execOp]
                  · rintro e x2 ⟨rfl, h2, h3⟩
                    obtain ⟨rv, q1, _⟩ := hRd
                    exact ⟨_, rfl, ⟨h2.own hC.1 (by have := HLt.out; omega), h2.own hC.2.1 HNe.out, hC.2.2.but h2 q1 (by decide)⟩, .inr rfl, h3, But.any HQd.out.2.1.drew HG.out.1 h2⟩
                · cases ho
                  refine ⟨rfl, fun gv x hC hS => ?_⟩
                  obtain ⟨hS1, hS2⟩ : IsR x g 3000 T5 ∧ AnyLater w1 x := hS
                  simp only [fillAll, Act.put, List.setIfInBounds_toArray, List.set_cons_zero, List.set_cons_succ]
                  refine chain_go ?_ ((HPt.out x T5 hS1 HT5.out.1 HT5.out.2).mono ?_)
                  · simp [go_sem, execOp]
                  · rintro e x2 ⟨u, rfl, b, h1⟩
                    refine ⟨u, rfl, ⟨any_own b hC.1, any_own b hC.2.1, hC.2.2.later b⟩, .inl ⟨_, List.mem_singleton.2 rfl, rfl⟩, ⟨hS1.later b, hS2.trans b⟩, ?_⟩
                    show isB L (updG gv 8 u 8) x2
                    rw [updG_at]; exact h1
                · cases ho
                  refine ⟨rfl, fun gv x hC hS => ?_⟩
                  obtain ⟨hS1, hS2⟩ : (IsR x g 3000 T5 ∧ AnyLater w1 x) ∧ isB L (gv 8) x := hS
                  have hrun := RN.str (RT.rn hS2)
                  rw [HSt.out.1] at hrun
                  simp only [fillAll, Act.put, List.setIfInBounds_toArray, List.set_cons_zero, List.set_cons_succ]
                  refine chain_value (w' := x) (by simp [go_sem, execOp, hrun]) ⟨hC, .inr rfl, hS1, ?_⟩
                  show isB L (updG gv 9 _ 8) x
                  rw [updG_ne _ _ _ _ (by decide)]; exact hS2
                · cases ho
                  refine ⟨rfl, fun gv x hC hS => ?_⟩
                  obtain ⟨hS1, hS2⟩ : (IsR x g 3000 T5 ∧ AnyLater w1 x) ∧ isB L (gv 8) x := hS
                  simp only [fillAll, Act.put, List.setIfInBounds_toArray, List.set_cons_zero, List.set_cons_succ]
                  refine chain_go ?_ ((rcheck_any g 3000 T5 x hS1.1 HT5.out.1).mono ?_)
                  · simp [go_sem, execOp]
                  · rintro e x2 ⟨rfl, b⟩
                    refine ⟨_, rfl, ⟨any_own b hC.1, any_own b hC.2.1, hC.2.2.later b⟩, .inr rfl, ⟨hS1.1.later b, hS1.2.trans b⟩, ?_⟩
                    show isB L (updG gv 19 _ 8) x2
                    rw [updG_ne _ _ _ _ (by decide)]; exact isB_stays b hS2
                · cases ho
                  refine ⟨rfl, fun gv x hC hS => ?_⟩
                  obtain ⟨hS1, hS2⟩ : (IsR x g 3000 T5 ∧ AnyLater w1 x) ∧ isB L (gv 8) x := hS
                  simp only [fillAll, Act.put, List.setIfInBounds_toArray, List.set_cons_zero, List.set_cons_succ]
                  refine chain_go ?_ ((HV.out x).mono ?_)
                  · simp [go_sem, execOp]
                  · rintro e x2 ⟨rfl, b⟩
                    refine ⟨_, rfl, ⟨any_own b hC.1, any_own b hC.2.1, hC.2.2.later b⟩, .inr rfl, ⟨hS1.1.later b, hS1.2.trans b⟩, ?_⟩
                    show isB L (updG gv 22 _ 8) x2
                    rw [updG_ne _ _ _ _ (by decide)]; exact isB_stays b hS2
              case htail =>
                intro gz3 wz hCz hSz
                obtain ⟨hS1, hS2⟩ : (IsR wz g 3000 T5 ∧ AnyLater w1 wz) ∧ isB L (gz3 8) wz := hSz
                have HEnd := Lib.hid (HA1.out.trans hS1.2)
                clear hS1 hS2 hCz
                simp only [fillAll, Act.put, List.setIfInBounds_toArray, List.set_cons_zero, List.set_cons_succ, List.drop_succ_cons, List.drop_zero, List.drop_nil]
                generalize gz3 8 = v118 at *
                go_wp2_with fail
                go_ret
                exact ⟨rfl, HEnd.out⟩
            · have hin2 : ¬ In3 a n L.length := by rw [HnL.out]; exact hin
              obtain ⟨hde, hdl⟩ := del_not hin2
              rw [HnL.out] at hde
              rw [hde] at HD2
              have HT5 : Hid (T4.Ok ∧ T4.bs = L) := Lib.hid ⟨HT4.out.1, by rw [HT4.out.2]; exact hdl⟩
              clear hin hin2 hde hdl
              refine HD2.out.mono ?_
              rintro e wd ⟨ud, rfl, bbd, rd, hud⟩
              have hne : xg ≠ g := fun e => by rw [e, q6] at s1_wq; cases s1_wq
              have s1_wd := bbd.own s1_wq hne
              have hxd := hxv.but bbd q6 (by decide)
              have a_wd := But.any HXq.out.2 HG.out.1 bbd
              have HQd := Lib.hid (And.intro rd (And.intro a_wd (And.intro s1_wd hxd)))
              have HC3 : Hid (∀ x, AnyLater wd x → (convert 28 9 xv).run Try.prog x = .ok (.string S) x) := Lib.hid (fun x h => by rw [← HSt.out.1]; exact RN.str (RT.rn (hxd.later h)))
              obtain ⟨A7, cap7, rfl, -⟩ := isB.form hud
              obtain ⟨Ax, capx, ex, -⟩ := RT.form hxd
              rw [HnL.out] at ex
              subst ex
              generalize (delG L a n).length = nG at *
              clear r6 s1_wd hxd a_wd rd hud bbd q6 hne s1_wq hxv hQ1
              go_wp2_with fail
              apply wp_region_steps 12 [(1, undef), (2, .string S), (10, .bool true)] [⟨1, 99, isB L⟩] (AnyLater wd) (st1 1 (isB L)) (by kernel_rfl) (by kernel_rfl) (by kernel_rfl) (by kernel_rfl) (by simp) (by kernel_rfl) (AnyLater.refl wd).drew (fun _ => trivial)
              case hlex =>
                intro U hU
                have q1 := own_row (any_own hU HQd.out.2.2.1)
                have q4 := HC3.out U hU
                simp only [actFrom, actOp, List.lookup, Nat.reduceBEq, Nat.reduceLeDiff, Nat.reduceAdd, if_false, if_true]
                repeat (go_big_quiet_step (fail))
                exact wpQuiet_nil rfl
              case hact =>
                intro j hj o ho
                have hj4 : j = 0 ∨ j = 1 ∨ j = 2 := by simp at hj; omega
                rcases hj4 with rfl | rfl | rfl
                · cases ho
                  refine ⟨rfl, fun gv x hC hS => ?_⟩
                  simp only [fillAll, Act.put, List.setIfInBounds_toArray, List.set_cons_zero, List.set_cons_succ]
                  refine chain_go ?_ ((HPt.out x T4 (HQd.out.1.later hC) HT5.out.1 HT5.out.2).mono ?_)
                  · simp [go_sem, execOp]
                  · rintro e x2 ⟨u, rfl, b, h1⟩
                    refine ⟨u, rfl, hC.trans b, .inl ⟨_, List.mem_singleton.2 rfl, rfl⟩, ?_⟩
                    show isB L (updG gv 1 u 1) x2
                    rw [updG_at]; exact h1
                · cases ho
                  refine ⟨rfl, fun gv x hC hS => ?_⟩
                  have hS : isB L (gv 1) x := hS
                  have hrun := RN.str (RT.rn hS)
                  rw [HSt.out.1] at hrun
                  simp only [fillAll, Act.put, List.setIfInBounds_toArray, List.set_cons_zero, List.set_cons_succ]
                  refine chain_value (w' := x) (by simp [go_sem, execOp, hrun]) ⟨hC, .inr rfl, ?_⟩
                  show isB L (updG gv 2 _ 1) x
                  rw [updG_ne _ _ _ _ (by decide)]; exact hS
                · cases ho
                  refine ⟨rfl, fun gv x hC hS => ?_⟩
                  have hS : isB L (gv 1) x := hS
                  simp only [fillAll, Act.put, List.setIfInBounds_toArray, List.set_cons_zero, List.set_cons_succ]
                  refine chain_go ?_ ((HV.out x).mono ?_)
                  · simp [go_sem, execOp]
                  · rintro e x2 ⟨rfl, b⟩
                    refine ⟨_, rfl, hC.trans b, .inr rfl, ?_⟩
                    show isB L (updG gv 10 _ 1) x2
                    rw [updG_ne _ _ _ _ (by decide)]; exact isB_stays b hS
              case htail =>
                intro gz3 wz hCz hSz
                have HEnd := Lib.hid (HA1.out.trans (HQd.out.2.1.trans hCz))
                clear hSz hCz
                simp only [fillAll, Act.put, List.setIfInBounds_toArray, List.set_cons_zero, List.set_cons_succ, List.drop_succ_cons, List.drop_zero, List.drop_nil]
                generalize gz3 1 = v118 at *
                go_wp2_with fail
                go_ret
                exact ⟨rfl, HEnd.out⟩
end Go.Proofs.Ytiiojgneljgakaa
