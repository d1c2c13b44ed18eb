/- rope: bytes taken away; a byte: by contract. -/
import Derived.Test.YtiicaldnegcdiaaRopM
namespace Go.Proofs.Ytiicaldnegcdiaa
set_option linter.unusedSimpArgs false
set_option linter.unusedVariables false
set_option linter.unusedSectionVars false
open Go.RowKit

/-! ### bytes taken away -/
set_option maxRecDepth 100000 in
theorem rdel_nil (x n : Int) (w : World) : Calls Try.prog 71 #[.pointer none, .int .i64 x, .int .i64 n] w fun e w' => e = .returned (.tuple #[.slice none 0 0, .int .i64 1]) ∧ AnyLater w w' := by
  have HL := Lib.hid (rlen_any (.pointer none) .nil w (.inl ⟨rfl, rfl⟩))
  have HS : Hid (∀ w', Calls Try.prog 74 #[.int .i64 x, .int .i64 n, .int .i64 0] w' fun e w'' => (∃ (a b : Int) (c : Bool), e = .returned (.tuple #[.int .i64 a, .int .i64 b, .bool c])) ∧ w' = w'') := Lib.hid (fun w' => by
    by_cases h : In3 x n 0
    · refine (rspan_yes x n 0 w' h (by decide)).mono ?_
      rintro e w'' ⟨rfl, rfl⟩
      exact ⟨⟨_, _, _, rfl⟩, rfl⟩
    · refine (rspan_no x n 0 w' h (by decide) (by decide)).mono ?_
      rintro e w'' ⟨rfl, rfl⟩
      exact ⟨⟨_, _, _, rfl⟩, rfl⟩)
  have e0 : ((Tr.nil.len : Nat) : Int) = 0 := rfl
  rw [e0] at HL
  clear e0
  go_enter Try.func71, Try.ntmps71
  go_wp2_with fail
  refine HL.out.mono ?_
  rintro e w2 ⟨rfl, b2⟩
  go_wp2_with fail
  refine (HS.out _).mono ?_
  rintro e w3 ⟨⟨a, b, c, rfl⟩, rfl⟩
  have B2 := Lib.hid b2
  clear b2
  go_wp2_with fail
  refine bodyPost_ret (v := .tuple #[.slice none 0 0, .int .i64 1]) (by simp [results, Try.results71, go_sem]) rfl ?_
  exact ⟨rfl, B2.out⟩
set_option maxRecDepth 100000 in
theorem rdel_bad (g : Nat) (most : Int) (t : Tr) (x n : Int) (w : World) (h : IsR w g most t) (ok : t.Ok) (hx : ¬ In3 x n t.len) :
    Calls Try.prog 71 #[.pointer (some ⟨g, 0, none⟩), .int .i64 x, .int .i64 n] w fun e w' => e = .returned (.tuple #[.slice none 0 0, .int .i64 1]) ∧ AnyLater w w' := by
  have HL := Lib.hid (rlen_any _ t w (.inr ⟨g, most, rfl, h⟩))
  have hlen := ok.len
  have HS := Lib.hid (fun w' => rspan_no x n t.len w' hx (by omega) (by omega))
  clear h ok hx
  generalize t.len = m at *
  go_enter Try.func71, Try.ntmps71
  go_wp2_with fail
  refine HL.out.mono ?_
  rintro e w2 ⟨rfl, b2⟩
  have B2 := Lib.hid b2
  clear b2
  go_wp2_with fail
  refine (HS.out _).mono ?_
  rintro e w3 ⟨rfl, rfl⟩
  go_wp2_with fail
  refine bodyPost_ret (v := .tuple #[.slice none 0 0, .int .i64 1]) (by simp [results, Try.results71, go_sem]) rfl ?_
  exact ⟨rfl, B2.out⟩
set_option maxRecDepth 100000 in
theorem rdel_none (g : Nat) (most : Int) (t : Tr) (x : Int) (w : World) (h : IsR w g most t) (ok : t.Ok) (hx : In3 x 0 t.len) :
    Calls Try.prog 71 #[.pointer (some ⟨g, 0, none⟩), .int .i64 x, .int .i64 0] w fun e w' => e = .returned (.tuple #[.slice none 0 0, .int .i64 0]) ∧ AnyLater w w' := by
  have HL := Lib.hid (rlen_any _ t w (.inr ⟨g, most, rfl, h⟩))
  have hlen := ok.len
  have HS := Lib.hid (fun w' => rspan_yes x 0 t.len w' hx (by omega))
  clear h ok hx
  generalize t.len = m at *
  go_enter Try.func71, Try.ntmps71
  go_wp2_with fail
  refine HL.out.mono ?_
  rintro e w2 ⟨rfl, b2⟩
  have B2 := Lib.hid b2
  clear b2
  go_wp2_with fail
  refine (HS.out _).mono ?_
  rintro e w3 ⟨rfl, rfl⟩
  go_wp2_with fail
  refine bodyPost_ret (v := .tuple #[.slice none 0 0, .int .i64 0]) (by simp [results, Try.results71, go_sem]) rfl ?_
  exact ⟨rfl, B2.out⟩
/-- what a text is behind bytes are taken away -/
def delT (t : Tr) (i m : Nat) : Tr := Tr.meet (Tr.split (Tr.split t (i + m)).1 i).1 (Tr.split t (i + m)).2
theorem delT_bs (t : Tr) (i m : Nat) : (delT t i m).bs = t.bs.take i ++ t.bs.drop (i + m) := by
  unfold delT
  rw [Tr.bs_meet, (Tr.bs_split _ i).1, (Tr.bs_split t (i + m)).1, (Tr.bs_split t (i + m)).2, List.take_take, Nat.min_eq_left (Nat.le_add_right i m)]
theorem delT_ok {t : Tr} {i m : Nat} (ok : t.Ok) : (delT t i m).Ok := by
  obtain ⟨f1, f2⟩ := Tr.fair_split t (i + m) ok.fair
  obtain ⟨e1, e2⟩ := Tr.even_split t (i + m) ok.even
  refine ⟨Tr.fair_meet (Tr.fair_split _ i f1).1 f2, Tr.even_meet _ _ (Tr.even_split _ i e1).1 e2, ?_⟩
  have := ok.len
  rw [← Tr.len_bs, delT_bs, List.length_append, List.length_take, List.length_drop, Tr.len_bs]; omega
set_option maxRecDepth 100000 in
set_option maxHeartbeats 1600000 in
theorem rdel_yes (g : Nat) (most : Int) (t : Tr) (i m : Nat) (w : World) (h : IsR w g most t) (ok : t.Ok) (hi : i + m ≤ t.len) (hm : 0 < m) :
    Calls Try.prog 71 #[.pointer (some ⟨g, 0, none⟩), .int .i64 (i : Int), .int .i64 (m : Int)] w fun e w' => ∃ u, e = .returned (.tuple #[u, .int .i64 0]) ∧ But g w w' ∧ IsR w' g most (delT t i m) ∧ isB ((t.bs.drop i).take m) u w' := by
  have HL := Lib.hid (rlen_any _ t w (.inr ⟨g, most, rfl, h⟩))
  have hlen := ok.len
  have HS := Lib.hid (fun w' => rspan_yes (i : Int) (m : Int) t.len w' ⟨by omega, by omega, by omega, by omega⟩ (by omega))
  have hcut : cutZ t.bs (i : Int) ((i : Int) + (m : Int)) = (t.bs.drop i).take m := by
    unfold cutZ
    rw [show ((i : Int) + (m : Int)).toNat = i + m by omega, Int.toNat_natCast, List.drop_take, Nat.add_sub_cancel_left]
  have HP := Lib.hid (fun (w' : World) (b : AnyLater w w') => rpart_any (.pointer (some ⟨g, 0, none⟩)) t (i : Int) ((i : Int) + (m : Int)) _ hcut w' (.inr ⟨g, most, rfl, h.later b⟩) ok)
  obtain ⟨rv, hg, ht⟩ := h
  have HG := Lib.hid hg
  obtain ⟨f1, f2⟩ := Tr.fair_split t (i + m) ok.fair
  obtain ⟨l1, l2⟩ := Tr.len_split t (i + m) hi
  have f3 := (Tr.fair_split _ i f1).1
  have l3 := (Tr.len_split (Tr.split t (i + m)).1 i (by omega)).1
  have HS1 := Lib.hid (fun (w' : World) (a : AnyLater w w') => rsplit_any t (i + m) ((i : Int) + (m : Int)) rv w' (by omega) (ht.later a) ok.fair (by omega) (by omega))
  have HS2 := Lib.hid (fun (w' : World) (u : Value) (hu : IsT w' (Tr.split t (i + m)).1 u) => rsplit_any (Tr.split t (i + m)).1 i (i : Int) u w' rfl hu f1 (by omega) (by omega))
  have HM := Lib.hid (fun (w' : World) (u1 u2 : Value) (h1 : IsT w' (Tr.split (Tr.split t (i + m)).1 i).1 u1) (h2 : IsT w' (Tr.split t (i + m)).2 u2) => (rmeet_any _ _ u1 u2 w' h1 h2 f3 f2 (by omega) : Calls Try.prog 110 #[u1, u2] w' (Ans (isT (delT t i m)) w')))
  obtain ⟨q, rfl⟩ := ht.ptr
  have d6 : ((m : Int) == 0) = false := by simpa using (by omega : m ≠ 0)
  have d7 : (m == 0) = false := by simpa using (by omega : m ≠ 0)
  have i9 : i ≤ 60000 := by omega
  have m9 : m ≤ 60000 := by omega
  clear ht hg ok hi f1 f2 f3 l1 l2 l3 hcut hm
  generalize t.len = n at *
  go_enter Try.func71, Try.ntmps71
  go_wp2_with fail
  refine HL.out.mono ?_
  rintro e w1 ⟨rfl, b_w1⟩
  have a_w1 := b_w1
  have s0_w1 := any_own a_w1 HG.out
  go_wp2_with fail
  refine (HS.out _).mono ?_
  rintro e w1' ⟨rfl, rfl⟩
  go_wp2_with fail
  refine (HP.out _ a_w1).mono ?_
  rintro e w2 ⟨gv, rfl, b_w2, hgv⟩
  have z_w2 := b_w2.below.size
  have a_w2 := a_w1.trans b_w2
  have s0_w2 := any_own b_w2 s0_w1
  have r0_w2 := own_row s0_w2
  have f0_w2 := own_free s0_w2
  have l0_w2 := own_lt s0_w2
  (try clear r0_w1); (try clear f0_w1)
  have HGV := Lib.hid hgv
  obtain ⟨A9, cap9, rfl, -⟩ := RT.form hgv
  clear hgv
  generalize ((t.bs.drop i).take m).length = m3 at *
  go_wp2_with fail
  refine (HS1.out _ a_w2).mono ?_
  rintro e w3 ⟨_, rfl, b_w3, u1, u2, rfl, t1, t2⟩
  have z_w3 := b_w3.below.size
  have a_w3 := a_w2.trans b_w3
  have s0_w3 := any_own b_w3 s0_w2
  have r0_w3 := own_row s0_w3
  have f0_w3 := own_free s0_w3
  have l0_w3 := own_lt s0_w3
  (try clear r0_w2); (try clear f0_w2)
  have HT := Lib.hid (And.intro t1 t2)
  clear t1 t2
  go_wp2_with fail
  refine (HS2.out _ _ HT.out.1).mono ?_
  rintro e w4 ⟨_, rfl, b_w4, u3, u4, rfl, t3, t4⟩
  have z_w4 := b_w4.below.size
  have a_w4 := a_w3.trans b_w4
  have s0_w4 := any_own b_w4 s0_w3
  have r0_w4 := own_row s0_w4
  have f0_w4 := own_free s0_w4
  have l0_w4 := own_lt s0_w4
  (try clear r0_w3); (try clear f0_w3)
  have HT2 := Lib.hid t3
  clear t3 t4
  go_wp2_with fail
  refine (HM.out _ _ _ HT2.out (HT.out.2.later b_w4)).mono ?_
  rintro e w5 ⟨u5, rfl, b_w5, t5⟩
  have z_w5 := b_w5.below.size
  have a_w5 := a_w4.trans b_w5
  have s0_w5 := any_own b_w5 s0_w4
  have r0_w5 := own_row s0_w5
  have f0_w5 := own_free s0_w5
  have l0_w5 := own_lt s0_w5
  (try clear r0_w4); (try clear f0_w4)
  have HT5 := Lib.hid t5
  obtain ⟨q5, rfl⟩ := IsT.ptr t5
  clear t5
  go_wp2_with fail
  refine bodyPost_ret (v := .tuple #[.slice A9 m3 cap9, .int .i64 0]) (by simp [results, Try.results71, go_sem]) rfl ?_
  exact ⟨_, rfl, (But.of a_w5).setCell 0 _, ⟨_, heap_at s0_w5 rfl, IsT.far s0_w5 (by decide) (by decide) (by decide) HT5.out⟩, RT.far (RT.later HGV.out (b_w3.trans (b_w4.trans b_w5))) s0_w5 (by decide)⟩

/-! ### a byte -/
theorem getD_bs (a b : Tr) (p : Pc) (j : Nat) : (Tr.node a p b).bs.getD j 0 = if j < a.len then a.bs.getD j 0 else if j < a.len + p.b.length then p.b.getD (j - a.len) 0 else b.bs.getD (j - (a.len + p.b.length)) 0 := by
  have h1 := Tr.len_bs a
  rw [Tr.bs]
  simp only [List.getD_eq_getElem?_getD]
  split
  · rw [List.getElem?_append_left (by omega)]
  · rw [List.getElem?_append_right (by omega), h1]
    split
    · rw [List.getElem?_append_left (by omega)]
    · rw [List.getElem?_append_right (by omega), Nat.sub_sub]
set_option maxRecDepth 100000 in
theorem rbyte_no (v : Value) (t : Tr) (x : Int) (w : World) (h : IsRN w v t) (hn : t.len ≤ 60000) (hx : x < 0 ∨ (t.len : Int) ≤ x) :
    Calls Try.prog 27 #[v, .int .i64 x] w fun e w' => e = .returned (.tuple #[.int .u8 0, .bool false]) ∧ AnyLater w w' := by
  have HL := Lib.hid (rlen_any v t w h)
  have HS := Lib.hid (fun w' => rspan_no x 1 t.len w' (by unfold In3; omega) (by omega) (by omega))
  clear h hx
  generalize t.len = m at *
  go_enter Try.func27, Try.ntmps27
  go_wp2_with fail
  refine HL.out.mono ?_
  rintro e w2 ⟨rfl, b2⟩
  have B2 := Lib.hid b2
  clear b2
  go_wp2_with fail
  refine (HS.out _).mono ?_
  rintro e w3 ⟨rfl, rfl⟩
  go_wp2_with fail
  refine bodyPost_ret (v := .tuple #[.int .u8 0, .bool false]) (by simp [results, Try.results27, go_sem]) rfl ?_
  exact ⟨rfl, B2.out⟩
set_option maxRecDepth 100000 in
set_option maxHeartbeats 3200000 in
theorem rbyte_yes (g : Nat) (most : Int) (t : Tr) (i : Nat) (c : Int) (w : World) (hc : t.bs.getD i 0 = c) (h : IsR w g most t) (ok : t.Ok) (hi : i < t.len) :
    Calls Try.prog 27 #[.pointer (some ⟨g, 0, none⟩), .int .i64 (i : Int)] w fun e w' => e = .returned (.tuple #[.int .u8 c, .bool true]) ∧ AnyLater w w' := by
  have HL := Lib.hid (rlen_any _ t w (.inr ⟨g, most, rfl, h⟩))
  have hlen := ok.len
  have HS := Lib.hid (fun w' => rspan_yes (i : Int) 1 t.len w' ⟨by omega, by omega, by omega, by omega⟩ (by omega))
  obtain ⟨rv, hg, ht⟩ := h
  have HG := Lib.hid (And.intro hg ht)
  obtain ⟨q, rfl⟩ := ht.ptr
  have HC := Lib.hid (And.intro hc (And.intro hi ok.fair))
  have i9 : i ≤ 60000 := by omega
  clear ht hg ok hi hc
  generalize hn : t.len = n at *
  have HN := Lib.hid hn
  clear hn
  go_enter Try.func27, Try.ntmps27
  go_wp2_with fail
  refine HL.out.mono ?_
  rintro e w1 ⟨rfl, b_w1⟩
  have a_w1 := b_w1
  have r1 := own_row (any_own a_w1 HG.out.1)
  go_wp2_with fail
  refine (HS.out _).mono ?_
  rintro e w1' ⟨rfl, rfl⟩
  go_wp2_with fail
  go_loopg [1, 9] t.np (fun kk xv nv wr => AnyLater w1 wr ∧ ∃ (s : Tr) (j : Nat), kk = s.np ∧ xv = .int .i64 (j : Int) ∧ IsT w s nv ∧ s.Fair ∧ s.len ≤ n ∧ j < s.len ∧ s.bs.getD j 0 = c)
  case atStart => exact ⟨AnyLater.refl _, t, i, rfl, rfl, HG.out.2, HC.out.2.2, Nat.le_of_eq HN.out, by rw [HN.out]; exact HC.out.2.1, HC.out.1⟩
  case round =>
    obtain ⟨b_wr, s, j, hk, rfl, hs, fs, hsn, hj, hgc⟩ := hrel
    have a_wr := a_w1.trans b_wr
    cases s with
    | nil => simp [Tr.len] at hj
    | node a p b =>
      have HE := Lib.hid (ends_any a b p _ wr (hs.later a_wr) (by omega))
      obtain ⟨kb, lv, rv, bv, fv, rfl, hkb, ha, hb, hp⟩ := hs
      obtain ⟨fa, fp, fb⟩ := fs
      rw [getD_bs] at hgc
      have hl2 : a.len + p.b.length + b.len ≤ n := hsn
      have hj2 : j < a.len + p.b.length + b.len := hj
      have np2 : (Tr.node a p b).np = a.np + 1 + b.np := rfl
      have HK := Lib.hid hkb
      obtain ⟨A, cap, rfl, hcap, h3⟩ := hp.1
      obtain ⟨b0, off, cs, mk, rfl, hb0, hcs⟩ := h3 fp.1
      have hcell : ∀ d, d < p.b.length → w.cell? ⟨b0, off + d, none⟩ = some (.int .u8 (p.b.getD d 0)) := fun d hd => by
        have := hcs d hd
        simp [World.cell?, hb0, this, List.getD_eq_getElem?_getD, hd]
      unfold nodeC at HK
      have HA := Lib.hid a_wr
      have HB := Lib.hid b_wr
      clear hkb hsn hj h3 hb0 hcs hp a_wr b_wr r1
      by_cases c1 : j < a.len
      · rw [if_pos c1] at hgc
        have HR : Hid (IsT w a lv ∧ a.Fair ∧ a.len ≤ n ∧ j < a.len ∧ a.bs.getD j 0 = c) := Lib.hid ⟨ha, fa, by omega, c1, hgc⟩
        have d1 : (j : Int) < (a.len : Int) := by omega
        clear ha fa fp fb hb hgc hcell hj2
        generalize p.b.length = m at *
        go_wp2_with fail
        refine HE.out.mono ?_
        rintro e w2 ⟨rfl, b2⟩
        have r2 := own_row (any_own (HA.out.trans b2) HK.out)
        have B2 := Lib.hid (HB.out.trans b2)
        clear b2
        go_wp2_with fail
        go_roundg a.np
        case measure => omega
        case rel => exact ⟨B2.out, a, j, rfl, rfl, HR.out.1, HR.out.2.1, HR.out.2.2.1, HR.out.2.2.2.1, HR.out.2.2.2.2⟩
      · have d1 : decide (j < a.len) = false := decide_eq_false c1
        have d1' : decide ((j : Int) < (a.len : Int)) = false := decide_eq_false (by omega)
        rw [if_neg c1] at hgc
        by_cases c2 : j < a.len + p.b.length
        · rw [if_pos c2] at hgc
          obtain ⟨d, hd⟩ : ∃ d, j = a.len + d := ⟨j - a.len, by omega⟩
          subst hd
          rw [Nat.add_sub_cancel_left] at hgc
          have hdl : d < p.b.length := by omega
          have hcd := hcell d hdl
          rw [hgc] at hcd
          have d2 : decide ((a.len : Int) + (p.b.length : Int) ≤ (a.len : Int) + (d : Int)) = false := decide_eq_false (by omega)
          have d3 : decide (p.b.length ≤ d) = false := decide_eq_false (by omega)
          have d4 : (d : Int) < (p.b.length : Int) := by omega
          have d5 : (a.len : Int) + (d : Int) - (a.len : Int) = (d : Int) := by omega
          have HCell := Lib.hid hcd
          have e9 : a.len ≤ 60000 := by omega
          clear ha fa fp fb hb hgc hcell hj2 hcd
          generalize p.b.length = m at *
          generalize a.len = e1 at *
          go_wp2_with fail
          refine HE.out.mono ?_
          rintro e w2 ⟨rfl, b2⟩
          have r2 := own_row (any_own (HA.out.trans b2) HK.out)
          have cd := cell_on (HA.out.trans b2) HCell.out
          have B2 := Lib.hid (HA.out.trans b2)
          clear b2
          go_wp2_with fail
          refine bodyPost_ret (v := .tuple #[.int .u8 c, .bool true]) (by simp [results, Try.results27, go_sem]) rfl ?_
          exact ⟨rfl, B2.out⟩
        · rw [if_neg c2] at hgc
          have HR : Hid (IsT w b rv ∧ b.Fair ∧ b.len ≤ n ∧ j - (a.len + p.b.length) < b.len ∧ b.bs.getD (j - (a.len + p.b.length)) 0 = c) := Lib.hid ⟨hb, fb, by omega, by omega, hgc⟩
          have d2 : (a.len : Int) + (p.b.length : Int) ≤ (j : Int) := by omega
          have e9 : a.len ≤ 60000 := by omega
          have m9 : p.b.length ≤ 60000 := by omega
          have j9 : j ≤ 60000 := by omega
          clear ha fa fp fb hb hgc hcell hj2 hl2
          generalize p.b.length = m at *
          generalize a.len = e1 at *
          go_wp2_with fail
          refine HE.out.mono ?_
          rintro e w2 ⟨rfl, b2⟩
          have r2 := own_row (any_own (HA.out.trans b2) HK.out)
          have B2 := Lib.hid (HB.out.trans b2)
          clear b2
          go_wp2_with fail
          try go_quiet (fail)
          go_wp2_with fail
          go_roundg b.np
          case measure => omega
          case rel => exact ⟨B2.out, b, j - (e1 + m), rfl, by (congr 1; omega), HR.out.1, HR.out.2.1, HR.out.2.2.1, HR.out.2.2.2.1, HR.out.2.2.2.2⟩
end Go.Proofs.Ytiicaldnegcdiaa
