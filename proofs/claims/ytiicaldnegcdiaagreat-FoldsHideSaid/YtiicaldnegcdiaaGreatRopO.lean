/- rope: where a line feed stands; how many stand ahead of a place: by contract. -/
import Derived.Test.YtiicaldnegcdiaaGreatRopN
namespace Go.Proofs.YtiicaldnegcdiaaGreat
set_option linter.unusedSimpArgs false
set_option linter.unusedVariables false
set_option linter.unusedSectionVars false
open Go.RowKit

theorem feN_getD (l : List Int) (i : Int) (k : Nat) (h : k < (feN 0 l).length) : (feN i l).getD k 0 = i + (feN 0 l).getD k 0 := by
  rw [feN_base l i]
  simp only [List.getD_eq_getElem?_getD, List.getElem?_map, List.getElem?_eq_getElem h, Option.map_some, Option.getD_some]
  omega
/-- the k-th line feed of a tree -/
def brk (t : Tr) (k : Nat) : Int := (feN 0 t.bs).getD k 0
theorem brk_node (a b : Tr) (p : Pc) (j : Nat) (hj : j < (Tr.node a p b).nf) : brk (Tr.node a p b) j = if j < a.nf then brk a j else if j < a.nf + p.fs.length then (a.len : Int) + (p.fs.getD (j - a.nf) 0 - p.base) else (a.len : Int) + (p.b.length : Int) + brk b (j - (a.nf + p.fs.length)) := by
  have h1 := Tr.nf_bs a
  have h2 : (feN ((0 : Int) + (a.bs.length : Int)) p.b).length = p.fs.length := by rw [feN_length, ← feN_length p.b p.base]; rfl
  have h3 : (feN 0 p.b).length = p.fs.length := (feN_length p.b p.base).symm
  have hj2 : j < a.nf + p.fs.length + b.nf := hj
  unfold brk
  rw [Tr.bs, feN_append, feN_append]
  simp only [List.getD_eq_getElem?_getD]
  split
  · rw [List.getElem?_append_left (by omega)]
  · rw [List.getElem?_append_right (by omega), h1]
    split
    · rw [List.getElem?_append_left (by omega)]
      have e1 := feN_getD p.b ((0 : Int) + (a.bs.length : Int)) (j - a.nf) (by omega)
      have e2 := feN_getD p.b p.base (j - a.nf) (by omega)
      simp only [List.getD_eq_getElem?_getD] at e1 e2
      unfold Pc.fs
      rw [e1, e2, Tr.len_bs]
      omega
    · rw [List.getElem?_append_right (by omega), h2, Nat.sub_sub]
      have e1 := feN_getD b.bs ((0 : Int) + (a.bs.length : Int) + (p.b.length : Int)) (j - (a.nf + p.fs.length)) (by rw [Tr.nf_bs]; omega)
      simp only [List.getD_eq_getElem?_getD] at e1
      rw [e1, Tr.len_bs]
      omega
set_option maxRecDepth 100000 in
theorem rbreak_no (v : Value) (t : Tr) (x : Int) (w : World) (h : IsRN w v t) (hx : x < 0 ∨ (t.nf : Int) ≤ x) :
    Calls Tryz.prog 48 #[v, .int .i64 x] w fun e w' => e = .returned (.tuple #[.int .i64 0, .bool false]) ∧ AnyLater w w' := by
  have HL := Lib.hid (rbreaks_any v t w h)
  clear h
  generalize t.nf = m at *
  by_cases h1 : x < 0
  · clear hx
    go_enter Tryz.func48, Tryz.ntmps48
    go_wp2_with fail
    refine bodyPost_ret (v := .tuple #[.int .i64 0, .bool false]) (by simp [results, Tryz.results48, go_sem]) rfl ?_
    exact ⟨rfl, AnyLater.refl _⟩
  · have h2 : (m : Int) ≤ x := by omega
    have d1 : decide (x < 0) = false := decide_eq_false h1
    clear hx h1
    go_enter Tryz.func48, Tryz.ntmps48
    go_wp2_with fail
    refine HL.out.mono ?_
    rintro e w2 ⟨rfl, b2⟩
    have B2 := Lib.hid b2
    clear b2
    go_wp2_with fail
    refine bodyPost_ret (v := .tuple #[.int .i64 0, .bool false]) (by simp [results, Tryz.results48, go_sem]) rfl ?_
    exact ⟨rfl, B2.out⟩
set_option maxRecDepth 100000 in
set_option maxHeartbeats 3200000 in
theorem rbreak_yes (g : Nat) (most : Int) (t : Tr) (i : Nat) (c : Int) (w : World) (hc : brk t i = c) (h : IsR w g most t) (ok : t.Ok) (hi : i < t.nf) :
    Calls Tryz.prog 48 #[.pointer (some ⟨g, 0, none⟩), .int .i64 (i : Int)] w fun e w' => e = .returned (.tuple #[.int .i64 c, .bool true]) ∧ AnyLater w w' := by
  have HL := Lib.hid (rbreaks_any _ t w (.inr ⟨g, most, rfl, h⟩))
  have hlen := ok.len
  obtain ⟨rv, hg, ht⟩ := h
  have HG := Lib.hid (And.intro hg ht)
  obtain ⟨q, rfl⟩ := ht.ptr
  have HC := Lib.hid (And.intro hc (And.intro hi ok.fair))
  have d0 : decide ((i : Int) < 0) = false := decide_eq_false (by omega)
  have d1 : decide ((t.nf : Int) ≤ (i : Int)) = false := decide_eq_false (by omega)
  have d2 : decide (t.nf ≤ i) = false := decide_eq_false (by omega)
  have hnf := t.nf_le
  have i9 : i ≤ 60000 := by omega
  have f1 := fld1
  clear ht hg ok hi hc hnf
  generalize hnn : t.nf = nn at *
  generalize hn : t.len = n at *
  have HN := Lib.hid (And.intro hnn hn)
  clear hn hnn
  go_enter Tryz.func48, Tryz.ntmps48
  go_wp2_with fail
  refine HL.out.mono ?_
  rintro e w1 ⟨rfl, b_w1⟩
  have a_w1 := b_w1
  have r1 := own_row (any_own a_w1 HG.out.1)
  go_wp2_with fail
  go_loopg [1, 6, 7] t.np (fun kk xv nv fv wr => AnyLater w1 wr ∧ ∃ (s : Tr) (j f : Nat), kk = s.np ∧ xv = .int .i64 (j : Int) ∧ fv = .int .i64 (f : Int) ∧ IsT w s nv ∧ s.Fair ∧ f + s.len ≤ n ∧ j < s.nf ∧ (f : Int) + brk s j = c)
  case atStart => exact ⟨AnyLater.refl _, t, i, 0, rfl, rfl, rfl, HG.out.2, HC.out.2.2, by rw [HN.out.2, Nat.zero_add]; exact Nat.le_refl _, by rw [HN.out.1]; exact HC.out.2.1, by rw [HC.out.1]; omega⟩
  case round =>
    obtain ⟨b_wr, s, j, f, hk, rfl, rfl, hs, fs, hsn, hj, hgc⟩ := hrel
    have a_wr := a_w1.trans b_wr
    cases s with
    | nil => simp [Tr.nf] at hj
    | node a p b =>
      have hl2 : f + (a.len + p.b.length + b.len) ≤ n := hsn
      have HE := Lib.hid (ends_any a b p _ wr (hs.later a_wr) (by simp only [Tr.len]; omega))
      obtain ⟨kb, lv, rv, bv, fv, rfl, hkb, ha, hb, hp⟩ := hs
      obtain ⟨fa, fp, fb⟩ := fs
      rw [brk_node a b p j hj] at hgc
      have hj2 : j < a.nf + p.fs.length + b.nf := hj
      have np2 : (Tr.node a p b).np = a.np + 1 + b.np := rfl
      have HNo := Lib.hid (fun (w' : World) (e : AnyLater w w') => noted_any a lv w' (ha.later e))
      unfold sumV at HNo
      have HPl := Lib.hid (fun (w' : World) (d : Nat) (e : AnyLater w w') (hd : d < p.fs.length) => place_any p bv fv w' (d : Int) _ d rfl hd rfl (hp.later e) fp)
      have HK := Lib.hid hkb
      have hnf := a.nf_le
      have hfl := p.fs_len
      obtain ⟨A, cap, rfl, -⟩ := hp.1.form
      obtain ⟨A2, cap2, rfl, -⟩ := hp.2.form
      unfold nodeC at HK
      unfold pcV at HPl
      have HA := Lib.hid a_wr
      have HB := Lib.hid b_wr
      clear hkb hsn hj hp a_wr b_wr r1
      by_cases c1 : j < a.nf
      · rw [if_pos c1] at hgc
        have HR : Hid (IsT w a lv ∧ a.Fair ∧ f + a.len ≤ n ∧ j < a.nf ∧ (f : Int) + brk a j = c) := Lib.hid ⟨ha, fa, by omega, c1, hgc⟩
        have d3 : (j : Int) < (a.nf : Int) := by omega
        have e9 : a.nf ≤ 60000 := by omega
        have m9 : p.fs.length ≤ 60000 := by omega
        clear ha fa fp fb hb hgc hj2 hl2 hnf hfl HPl
        generalize p.b.length = m at *
        generalize p.fs.length = m2 at *
        generalize p.base = b0 at *
        generalize he1 : a.nf = e1 at *
        have HE1 := Lib.hid he1
        clear he1
        go_wp2_with fail
        refine HE.out.mono ?_
        rintro e w2 ⟨rfl, b2⟩
        have r2 := own_row (any_own (HA.out.trans b2) HK.out)
        go_wp2_with fail
        refine (HNo.out _ (HA.out.trans b2)).mono ?_
        rintro e w3 ⟨rfl, b3⟩
        have r3 := own_row (any_own ((HA.out.trans b2).trans b3) HK.out)
        have B3 := Lib.hid ((HB.out.trans b2).trans b3)
        clear b2 b3 r2
        go_wp2_with fail
        go_roundg a.np
        case measure => omega
        case rel => exact ⟨B3.out, a, j, f, rfl, rfl, rfl, HR.out.1, HR.out.2.1, HR.out.2.2.1, by rw [HE1.out]; exact HR.out.2.2.2.1, HR.out.2.2.2.2⟩
      · rw [if_neg c1] at hgc
        have d3 : decide (j < a.nf) = false := decide_eq_false c1
        have d3' : decide ((j : Int) < (a.nf : Int)) = false := decide_eq_false (by omega)
        by_cases c2 : j < a.nf + p.fs.length
        · rw [if_pos c2] at hgc
          obtain ⟨d, hd⟩ : ∃ d, j = a.nf + d := ⟨j - a.nf, by omega⟩
          subst hd
          rw [Nat.add_sub_cancel_left] at hgc
          have hdl : d < p.fs.length := by omega
          have hgd : p.fs.getD d 0 = p.fs[d] := by simp [List.getD_eq_getElem?_getD, hdl]
          rw [hgd] at hgc
          have hmm := feN_mem p.b p.base p.fs[d] (List.getElem_mem hdl)
          have HP2 : Hid (∀ w', AnyLater w w' → Calls Tryz.prog 67 #[.agg #[.slice A p.b.length cap, .slice A2 p.fs.length cap2, .int .i64 p.base], .int .i64 (d : Int)] w' fun e w'' => e = .returned (.int .i64 (p.fs[d] - p.base)) ∧ AnyLater w' w'') := Lib.hid (fun w' e => HPl.out w' d e hdl)
          have d4 : decide ((a.nf : Int) + (p.fs.length : Int) ≤ (a.nf : Int) + (d : Int)) = false := decide_eq_false (by omega)
          have d5 : decide (p.fs.length ≤ d) = false := decide_eq_false (by omega)
          have d6 : (a.nf : Int) + (d : Int) - (a.nf : Int) = (d : Int) := by omega
          have e9 : a.nf ≤ 60000 := by omega
          have m9 : p.fs.length ≤ 60000 := by omega
          have q9 : a.len ≤ 60000 := by omega
          have f9 : f ≤ 60000 := by omega
          have d9 : d ≤ 60000 := by omega
          have y1 : 0 ≤ p.fs[d] - p.base := by omega
          have y2 : p.fs[d] - p.base ≤ 60000 := by omega
          generalize p.fs[d] - p.base = y at *
          have HCc : Hid ((f : Int) + (a.len : Int) + y = c) := Lib.hid (by omega)
          clear ha fa fp fb hb hgc hj2 hl2 hnf hfl HPl hgd hmm hdl c2
          generalize p.b.length = m at *
          generalize p.fs.length = m2 at *
          generalize p.base = b0 at *
          generalize a.nf = e1 at *
          generalize a.len = e2 at *
          go_wp2_with fail
          refine HE.out.mono ?_
          rintro e w2 ⟨rfl, b2⟩
          have r2 := own_row (any_own (HA.out.trans b2) HK.out)
          go_wp2_with fail
          refine (HNo.out _ (HA.out.trans b2)).mono ?_
          rintro e w3 ⟨rfl, b3⟩
          have r3 := own_row (any_own ((HA.out.trans b2).trans b3) HK.out)
          have B3 := Lib.hid ((HA.out.trans b2).trans b3)
          clear b2 b3 r2
          go_wp2_with fail
          refine (HP2.out _ B3.out).mono ?_
          rintro e w4 ⟨rfl, b4⟩
          have B4 := Lib.hid (B3.out.trans b4)
          clear b4 r3
          go_wp2_with fail
          refine bodyPost_ret (v := .tuple #[.int .i64 ((f : Int) + (e2 : Int) + y), .bool true]) (by simp [results, Tryz.results48, go_sem]) rfl ?_
          exact ⟨by rw [HCc.out], B4.out⟩
        · rw [if_neg c2] at hgc
          have HR : Hid (IsT w b rv ∧ b.Fair ∧ f + (a.len + p.b.length) + b.len ≤ n ∧ j - (a.nf + p.fs.length) < b.nf ∧ ((f + (a.len + p.b.length) : Nat) : Int) + brk b (j - (a.nf + p.fs.length)) = c) := Lib.hid ⟨hb, fb, by omega, by omega, by omega⟩
          have d4 : (a.nf : Int) + (p.fs.length : Int) ≤ (j : Int) := by omega
          have bnf := b.nf_le
          have e9 : a.nf ≤ 60000 := by omega
          have m9 : p.fs.length ≤ 60000 := by omega
          have q9 : a.len ≤ 60000 := by omega
          have f9 : f ≤ 60000 := by omega
          have p9 : p.b.length ≤ 60000 := by omega
          have j9 : j ≤ 200000 := by omega
          clear ha fa fp fb hb hgc hj2 hl2 hnf hfl HPl bnf
          generalize p.b.length = m at *
          generalize p.fs.length = m2 at *
          generalize p.base = b0 at *
          generalize a.nf = e1 at *
          generalize a.len = e2 at *
          go_wp2_with fail
          refine HE.out.mono ?_
          rintro e w2 ⟨rfl, b2⟩
          have r2 := own_row (any_own (HA.out.trans b2) HK.out)
          go_wp2_with fail
          refine (HNo.out _ (HA.out.trans b2)).mono ?_
          rintro e w3 ⟨rfl, b3⟩
          have r3 := own_row (any_own ((HA.out.trans b2).trans b3) HK.out)
          have B3 := Lib.hid ((HB.out.trans b2).trans b3)
          clear b2 b3 r2
          go_wp2_with fail
          try go_quiet (fail)
          go_wp2_with fail
          go_roundg b.np
          case measure => omega
          case rel => exact ⟨by first | exact B3.out | exact B3.out.drewN _, b, j - (e1 + m2), f + (e2 + m), rfl, by (congr 1; omega), by (congr 1), HR.out.1, HR.out.2.1, HR.out.2.2.1, HR.out.2.2.2.1, HR.out.2.2.2.2⟩

/-! ### how many stand ahead -/
def rcnt (t : Tr) (j : Nat) : Nat := (feN 0 (t.bs.take j)).length
theorem cnt_node (a b : Tr) (p : Pc) (j : Nat) : rcnt (Tr.node a p b) j = if j < a.len then rcnt a j else if j < a.len + p.b.length then a.nf + (feN p.base (p.b.take (j - a.len))).length else a.nf + p.fs.length + rcnt b (j - (a.len + p.b.length)) := by
  have h1 := Tr.len_bs a
  unfold rcnt
  rw [Tr.bs]
  split
  · rw [List.take_append_of_le_length (by omega)]
  · split
    · rw [List.take_append, List.take_of_length_le (by omega), h1, List.take_append_of_le_length (by omega), feN_append, List.length_append, Tr.nf_bs, feN_length _ ((0 : Int) + _), feN_length _ p.base]
    · rw [List.take_append, List.take_of_length_le (by omega), h1, List.take_append, List.take_of_length_le (by omega), feN_append, feN_append, List.length_append, List.length_append, Tr.nf_bs, feN_length p.b ((0 : Int) + _), feN_length _ ((0 : Int) + _ + _), Nat.sub_sub]
      have e : p.fs.length = (feN 0 p.b).length := feN_length p.b p.base
      omega
set_option maxRecDepth 100000 in
theorem rahead_end (v : Value) (t : Tr) (x : Int) (w : World) (h : IsRN w v t) (hm : midZ x 0 (t.len : Int) = (t.len : Int)) :
    Calls Tryz.prog 55 #[v, .int .i64 x] w fun e w' => e = .returned (.int .i64 (t.nf : Int)) ∧ AnyLater w w' := by
  have HL := Lib.hid (fun (w' : World) (b : AnyLater w w') => rlen_any v t w' (h.later b))
  have HB := Lib.hid (fun (w' : World) (b : AnyLater w w') => rbreaks_any v t w' (h.later b))
  have HM := Lib.hid (fun w' => rclamp_any x 0 t.len w' _ hm)
  clear h hm
  generalize t.len = n at *
  generalize t.nf = m at *
  go_enter Tryz.func55, Tryz.ntmps55
  go_wp2_with fail
  refine (HL.out _ (AnyLater.refl _)).mono ?_
  rintro e w2 ⟨rfl, b2⟩
  have B2 := Lib.hid b2
  clear b2
  go_wp2_with fail
  refine (HM.out _).mono ?_
  rintro e w2' ⟨rfl, rfl⟩
  go_wp2_with fail
  refine (HL.out _ B2.out).mono ?_
  rintro e w3 ⟨rfl, b3⟩
  have B3 := Lib.hid (B2.out.trans b3)
  clear b3
  go_wp2_with fail
  refine (HB.out _ B3.out).mono ?_
  rintro e w4 ⟨rfl, b4⟩
  have B4 := Lib.hid (B3.out.trans b4)
  clear b4
  go_wp2_with fail
  go_ret
  exact ⟨rfl, B4.out⟩
set_option maxRecDepth 100000 in
set_option maxHeartbeats 3200000 in
theorem rahead_mid (g : Nat) (most : Int) (t : Tr) (x : Int) (i c : Nat) (w : World) (hm : midZ x 0 (t.len : Int) = (i : Int)) (hc : rcnt t i = c) (h : IsR w g most t) (ok : t.Ok) (hi : i < t.len) :
    Calls Tryz.prog 55 #[.pointer (some ⟨g, 0, none⟩), .int .i64 x] w fun e w' => e = .returned (.int .i64 (c : Int)) ∧ AnyLater w w' := by
  have HL := Lib.hid (fun (w' : World) (b : AnyLater w w') => rlen_any (.pointer (some ⟨g, 0, none⟩)) t w' (.inr ⟨g, most, rfl, h.later b⟩))
  have HM := Lib.hid (fun w' => rclamp_any x 0 t.len w' _ hm)
  have hlen := ok.len
  obtain ⟨rv, hg, ht⟩ := h
  have HG := Lib.hid (And.intro hg ht)
  obtain ⟨q, rfl⟩ := ht.ptr
  have HC := Lib.hid (And.intro hc (And.intro hi ok.fair))
  have d0 : ((i : Int) == (t.len : Int)) = false := by simp; omega
  have d1 : (i == t.len) = false := by simpa using (by omega : i ≠ t.len)
  have d2 : decide (i = t.len) = false := decide_eq_false (by omega)
  have c9 : c ≤ 60000 := by
    have := feN_le (t.bs.take i) 0
    rw [List.length_take] at this
    unfold rcnt at hc
    omega
  have i9 : i ≤ 60000 := by omega
  have f1 := fld1
  clear ht hg ok hi hc hm
  generalize hn : t.len = n at *
  have HN := Lib.hid hn
  clear hn
  go_enter Tryz.func55, Tryz.ntmps55
  go_wp2_with fail
  refine (HL.out _ (AnyLater.refl _)).mono ?_
  rintro e w0 ⟨rfl, b0⟩
  have B0 := Lib.hid b0
  clear b0
  go_wp2_with fail
  refine (HM.out _).mono ?_
  rintro e w0' ⟨rfl, rfl⟩
  go_wp2_with fail
  refine (HL.out _ B0.out).mono ?_
  rintro e w1 ⟨rfl, b1⟩
  have a_w1 := B0.out.trans b1
  have r1 := own_row (any_own a_w1 HG.out.1)
  go_wp2_with fail
  go_loopg [1, 5, 6] t.np (fun kk xv nv fv wr => AnyLater w1 wr ∧ ∃ (s : Tr) (j f : Nat), kk = s.np ∧ xv = .int .i64 (j : Int) ∧ fv = .int .i64 (f : Int) ∧ IsT w s nv ∧ s.Fair ∧ s.len ≤ n ∧ j < s.len ∧ f + rcnt s j = c)
  case atStart => exact ⟨AnyLater.refl _, t, i, 0, rfl, rfl, rfl, HG.out.2, HC.out.2.2, Nat.le_of_eq HN.out, by rw [HN.out]; exact HC.out.2.1, by rw [HC.out.1]; omega⟩
  case round =>
    obtain ⟨b_wr, s, j, f, hk, rfl, rfl, hs, fs, hsn, hj, hgc⟩ := hrel
    have a_wr := a_w1.trans b_wr
    cases s with
    | nil => simp [Tr.len] at hj
    | node a p b =>
      have hl2 : a.len + p.b.length + b.len ≤ n := hsn
      have HE := Lib.hid (ends_any a b p _ wr (hs.later a_wr) (by simp only [Tr.len]; omega))
      obtain ⟨kb, lv, rv, bv, fv, rfl, hkb, ha, hb, hp⟩ := hs
      obtain ⟨fa, fp, fb⟩ := fs
      rw [cnt_node a b p j] at hgc
      have hj2 : j < a.len + p.b.length + b.len := hj
      have np2 : (Tr.node a p b).np = a.np + 1 + b.np := rfl
      have HNo := Lib.hid (fun (w' : World) (e : AnyLater w w') => noted_any a lv w' (ha.later e))
      unfold sumV at HNo
      have HPl := Lib.hid (fun (w' : World) (d : Nat) (e : AnyLater w w') (hd : d ≤ p.b.length) => ahead_any p bv fv w' (d : Int) d _ rfl rfl (hp.later e) fp hd)
      have HK := Lib.hid hkb
      have hnf := a.nf_le
      have hfl := p.fs_len
      obtain ⟨A, cap, rfl, -⟩ := hp.1.form
      obtain ⟨A2, cap2, rfl, -⟩ := hp.2.form
      unfold nodeC at HK
      unfold pcV at HPl
      have HA := Lib.hid a_wr
      have HB := Lib.hid b_wr
      clear hkb hsn hj hp a_wr b_wr r1
      have f9 : f ≤ 60000 := by omega
      by_cases c1 : j < a.len
      · rw [if_pos c1] at hgc
        have HR : Hid (IsT w a lv ∧ a.Fair ∧ a.len ≤ n ∧ j < a.len ∧ f + rcnt a j = c) := Lib.hid ⟨ha, fa, by omega, c1, hgc⟩
        have d3 : (j : Int) < (a.len : Int) := by omega
        have e9 : a.nf ≤ 60000 := by omega
        have m9 : p.fs.length ≤ 60000 := by omega
        clear ha fa fp fb hb hgc hj2 hl2 hnf hfl HPl
        generalize p.b.length = m at *
        generalize p.fs.length = m2 at *
        generalize p.base = b0 at *
        generalize he1 : a.len = e1 at *
        have HE1 := Lib.hid he1
        clear he1
        generalize a.nf = e3 at *
        go_wp2_with fail
        refine HE.out.mono ?_
        rintro e w2 ⟨rfl, b2⟩
        have r2 := own_row (any_own (HA.out.trans b2) HK.out)
        go_wp2_with fail
        refine (HNo.out _ (HA.out.trans b2)).mono ?_
        rintro e w3 ⟨rfl, b3⟩
        have r3 := own_row (any_own ((HA.out.trans b2).trans b3) HK.out)
        have B3 := Lib.hid ((HB.out.trans b2).trans b3)
        clear b2 b3 r2
        go_wp2_with fail
        go_roundg a.np
        case measure => omega
        case rel => exact ⟨B3.out, a, j, f, rfl, rfl, rfl, HR.out.1, HR.out.2.1, by rw [HE1.out]; exact HR.out.2.2.1, by rw [HE1.out]; exact HR.out.2.2.2.1, HR.out.2.2.2.2⟩
      · rw [if_neg c1] at hgc
        have d3 : decide (j < a.len) = false := decide_eq_false c1
        have d3' : decide ((j : Int) < (a.len : Int)) = false := decide_eq_false (by omega)
        by_cases c2 : j < a.len + p.b.length
        · rw [if_pos c2] at hgc
          obtain ⟨d, hd⟩ : ∃ d, j = a.len + d := ⟨j - a.len, by omega⟩
          subst hd
          rw [Nat.add_sub_cancel_left] at hgc
          have hdl : d ≤ p.b.length := by omega
          obtain ⟨y, hy⟩ : ∃ y, (feN p.base (p.b.take d)).length = y := ⟨_, rfl⟩
          have HP2 : Hid (∀ w', AnyLater w w' → Calls Tryz.prog 69 #[.agg #[.slice A p.b.length cap, .slice A2 p.fs.length cap2, .int .i64 p.base], .int .i64 (d : Int)] w' fun e w'' => e = .returned (.int .i64 (y : Int)) ∧ AnyLater w' w'') := Lib.hid (fun w' e => by rw [← hy]; exact HPl.out w' d e hdl)
          rw [hy] at hgc
          have d4 : decide ((a.len : Int) + (p.b.length : Int) ≤ (a.len : Int) + (d : Int)) = false := decide_eq_false (by omega)
          have d5 : decide (p.b.length ≤ d) = false := decide_eq_false (by omega)
          have d6 : (a.len : Int) + (d : Int) - (a.len : Int) = (d : Int) := by omega
          have e9 : a.nf ≤ 60000 := by omega
          have q9 : a.len ≤ 60000 := by omega
          have d9 : d ≤ 60000 := by omega
          have y9 : y ≤ 60000 := by omega
          have HCc : Hid ((f : Int) + (a.nf : Int) + (y : Int) = (c : Int)) := Lib.hid (by omega)
          clear ha fa fp fb hb hgc hj2 hl2 hnf hfl HPl hdl c2 hy
          generalize p.b.length = m at *
          generalize p.fs.length = m2 at *
          generalize p.base = b0 at *
          generalize a.nf = e1 at *
          generalize a.len = e2 at *
          go_wp2_with fail
          refine HE.out.mono ?_
          rintro e w2 ⟨rfl, b2⟩
          have r2 := own_row (any_own (HA.out.trans b2) HK.out)
          go_wp2_with fail
          refine (HNo.out _ (HA.out.trans b2)).mono ?_
          rintro e w3 ⟨rfl, b3⟩
          have r3 := own_row (any_own ((HA.out.trans b2).trans b3) HK.out)
          have B3 := Lib.hid ((HA.out.trans b2).trans b3)
          clear b2 b3 r2
          go_wp2_with fail
          refine (HP2.out _ B3.out).mono ?_
          rintro e w4 ⟨rfl, b4⟩
          have B4 := Lib.hid (B3.out.trans b4)
          clear b4 r3
          go_wp2_with fail
          go_ret
          exact ⟨ret_z HCc.out, B4.out⟩
        · rw [if_neg c2] at hgc
          have HR : Hid (IsT w b rv ∧ b.Fair ∧ b.len ≤ n ∧ j - (a.len + p.b.length) < b.len ∧ f + (a.nf + p.fs.length) + rcnt b (j - (a.len + p.b.length)) = c) := Lib.hid ⟨hb, fb, by omega, by omega, by omega⟩
          have d4 : (a.len : Int) + (p.b.length : Int) ≤ (j : Int) := by omega
          have e9 : a.nf ≤ 60000 := by omega
          have m9 : p.fs.length ≤ 60000 := by omega
          have q9 : a.len ≤ 60000 := by omega
          have p9 : p.b.length ≤ 60000 := by omega
          have j9 : j ≤ 200000 := by omega
          clear ha fa fp fb hb hgc hj2 hl2 hnf hfl HPl
          generalize p.b.length = m at *
          generalize p.fs.length = m2 at *
          generalize p.base = b0 at *
          generalize a.nf = e1 at *
          generalize a.len = e2 at *
          go_wp2_with fail
          refine HE.out.mono ?_
          rintro e w2 ⟨rfl, b2⟩
          have r2 := own_row (any_own (HA.out.trans b2) HK.out)
          go_wp2_with fail
          refine (HNo.out _ (HA.out.trans b2)).mono ?_
          rintro e w3 ⟨rfl, b3⟩
          have r3 := own_row (any_own ((HA.out.trans b2).trans b3) HK.out)
          have B3 := Lib.hid ((HB.out.trans b2).trans b3)
          clear b2 b3 r2
          go_wp2_with fail
          try go_quiet (fail)
          go_wp2_with fail
          go_roundg b.np
          case measure => omega
          case rel => exact ⟨by first | exact B3.out | exact B3.out.drewN _, b, j - (e2 + m), f + (e1 + m2), rfl, by (congr 1; omega), by (congr 1; omega), HR.out.1, HR.out.2.1, HR.out.2.2.1, HR.out.2.2.2.1, HR.out.2.2.2.2⟩
theorem below_take (l : List Int) (i : Nat) (hi : i ≤ l.length) : (feN 0 (l.take i)).length = below (i : Int) (feN 0 l) := by
  have := feN_below l 0 i hi
  rw [Int.zero_add] at this
  exact this.symm
/-- how many line feeds stand ahead of a place -/
theorem rahead_any (v : Value) (t : Tr) (x : Int) (c : Nat) (w : World) (hc : below x (feN 0 t.bs) = c) (h : IsRN w v t) (ok : t.Ok) :
    Calls Tryz.prog 55 #[v, .int .i64 x] w fun e w' => e = .returned (.int .i64 (c : Int)) ∧ AnyLater w w' := by
  obtain ⟨i, ei, hi, mi⟩ := midZ_cast x 0 t.len
  simp only [Nat.zero_add, Int.natCast_zero, Int.sub_zero] at ei mi
  have hb : below x (feN 0 t.bs) = below (i : Int) (feN 0 t.bs) := by
    have hlb := Tr.len_bs t
    rcases Int.lt_or_le x 0 with h1 | h1
    · have e0 : i = 0 := by unfold midZ at mi; split at mi <;> omega
      subst e0
      have e1 := below_append x [] (feN 0 t.bs) (by simp) (fun y hy => by have := feN_mem _ _ _ hy; omega)
      have e2 := below_append ((0 : Nat) : Int) [] (feN 0 t.bs) (by simp) (fun y hy => by have := feN_mem _ _ _ hy; omega)
      rw [List.nil_append] at e1 e2
      rw [e1, e2]
    · rcases Int.lt_or_le (t.len : Int) x with h2 | h2
      · have e0 : i = t.len := by unfold midZ at mi; split at mi <;> (try split at mi) <;> omega
        have e1 := below_append x (feN 0 t.bs) [] (fun y hy => by have := feN_mem _ _ _ hy; omega) (by simp)
        have e2 := below_append ((i : Nat) : Int) (feN 0 t.bs) [] (fun y hy => by have := feN_mem _ _ _ hy; omega) (by simp)
        rw [List.append_nil] at e1 e2
        rw [e1, e2]
      · have e0 : (i : Int) = x := by unfold midZ at mi; split at mi <;> (try split at mi) <;> omega
        rw [e0]
  rw [hb, ← below_take t.bs i (by rw [Tr.len_bs]; exact hi)] at hc
  by_cases hie : i = t.len
  · have e : c = t.nf := by
      rw [← hc, List.take_of_length_le (by rw [Tr.len_bs]; omega), Tr.nf_bs]
    rw [e]
    exact rahead_end v t x w h (by rw [ei, hie])
  · rcases h with ⟨rfl, rfl⟩ | ⟨g, most, rfl, h⟩
    · simp only [Tr.len] at hi hie; omega
    · exact rahead_mid g most t x i c w ei hc h ok (by omega)
end Go.Proofs.YtiicaldnegcdiaaGreat
