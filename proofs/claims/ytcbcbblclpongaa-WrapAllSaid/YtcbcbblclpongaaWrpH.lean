/- wrap: WrapAll, walked. -/
import Derived.Test.YtcbcbblclpongaaWrpF
import Derived.BigGuardPart
namespace Go.Proofs.Ytcbcbblclpongaa
set_option linter.unusedSimpArgs false
set_option linter.unusedVariables false
set_option linter.unusedSectionVars false
open Go.RowKit

theorem widR_more (r s : Int) : 6 ≤ widR r s 0 := by
  have := advC_in s
  unfold widR
  split
  · simp
  · omega
theorem wEnd_mono {l : Cels} {f : Nat} : ∀ (d t : Nat), f ≤ t → t + d ≤ l.length → wEnd l f t ≤ wEnd l f (t + d)
  | 0, t, _, _ => Int.le_refl _
  | d + 1, t, h, k => by
    have h1 := wEnd_mono (l := l) d t h (by omega)
    have h2 := wEnd_succ (l := l) (f := f) (t := t + d) (by omega) (by omega)
    have h3 := widR_in (l[t + d]'(by omega)).2.2.1 (l[t + d]'(by omega)).2.2.2 (wEnd l f (t + d))
    rw [show t + (d + 1) = t + d + 1 by omega, h2]
    unfold widC
    omega
theorem wEnd_one {l : Cels} {f : Nat} (h : f < l.length) : 6 ≤ wEnd l f (f + 1) := by
  rw [wEnd_succ (Nat.le_refl _) h, wEnd_self]
  have := widR_more l[f].2.2.1 l[f].2.2.2
  unfold widC
  omega
theorem wStop_ok {l : Cels} {m : Int} {f : Nat} : ∀ g t, (t ≤ f + 1 ∨ wEnd l f t ≤ m) → (wStop l m f g t ≤ f + 1 ∨ wEnd l f (wStop l m f g t) ≤ m)
  | 0, t, h => h
  | g + 1, t, h => by
    unfold wStop
    split
    · rename_i q
      refine wStop_ok g (t + 1) ?_
      rcases q.2 with e | e
      · left; omega
      · exact .inr e
    · exact h
theorem wNext_le {l : Cels} {m : Int} {f : Nat} (h : f < l.length) : wNext l m f ≤ wStop l m f (l.length - f) f := by
  have a := wStop_first (W := m) h
  unfold wNext
  split
  · assumption
  · exact (wBreak_in a).2
/-- a row that is wider than may be has one cell -/
theorem wNext_wide {l : Cels} {x : Int} {f : Nat} (h : f ≤ l.length) : wNext l (max x 1) f ≤ f + 1 ∨ wEnd l f (wNext l (max x 1) f) ≤ x := by
  by_cases hf : f < l.length
  · have h1 := wNext_le (m := max x 1) hf
    have h2 := wNext_in (W := max x 1) h
    have h3 := (wStop_in l (max x 1) f (l.length - f) f).2 h
    by_cases q : wNext l (max x 1) f ≤ f + 1
    · exact .inl q
    · right
      rcases wStop_ok (m := max x 1) (l := l) (f := f) (l.length - f) f (.inl (by omega)) with e | e
      · omega
      · have h4 := wEnd_mono (l := l) (f := f) (wStop l (max x 1) f (l.length - f) f - wNext l (max x 1) f) (wNext l (max x 1) f) (by omega) (by omega)
        rw [show wNext l (max x 1) f + (wStop l (max x 1) f (l.length - f) f - wNext l (max x 1) f) = wStop l (max x 1) f (l.length - f) f by omega] at h4
        have h5 := wEnd_one hf
        have h6 := wEnd_mono (l := l) (f := f) (wNext l (max x 1) f - (f + 1)) (f + 1) (by omega) (by omega)
        rw [show f + 1 + (wNext l (max x 1) f - (f + 1)) = wNext l (max x 1) f by omega] at h6
        omega
  · left
    have := wNext_in (W := max x 1) h
    omega
theorem wLast_bl {l : Cels} {f : Nat} : ∀ t, wLast l f t ≠ f → wBl l (wLast l f t - 1) = true
  | 0, h => absurd rfl h
  | t + 1, h => by
    unfold wLast at h ⊢
    split at h
    · exact absurd rfl h
    · rename_i q
      rw [if_neg q]
      split at h
      · rename_i e; rw [if_pos e]; exact e
      · rename_i e; rw [if_neg e]; exact wLast_bl t h
/-- a row that is not the last one ends behind a blank, or has none -/
theorem wNext_bl {l : Cels} {m : Int} {f : Nat} (h : wNext l m f < l.length) (hb : wLast l f (wNext l m f) ≠ f) : wBl l (wNext l m f - 1) = true := by
  obtain ⟨t, ht⟩ : ∃ t, wStop l m f (l.length - f) f = t := ⟨_, rfl⟩
  have hlt : t < l.length := by
    rcases Nat.lt_or_ge t l.length with q | q
    · exact q
    · unfold wNext at h; rw [ht, if_pos q] at h; omega
  rw [wNext_part ht hlt] at hb ⊢
  by_cases q : wLast l f t = f
  · have e : wBreak l f t = t := by unfold wBreak; rw [if_pos q]
    rw [e] at hb
    exact absurd q hb
  · have e : wBreak l f t = wLast l f t := by unfold wBreak; rw [if_neg q]
    rw [e]
    exact wLast_bl t q
theorem wRows_last {l : Cels} {m : Int} : ∀ g f, l.length + 1 ≤ g + f → f ≤ l.length → ∃ r, (wRows l m g f).getLast? = some r ∧ r.2.1 = (l.length : Int)
  | 0, f, h, k => by omega
  | g + 1, f, h, k => by
    have b := wNext_in (W := m) k
    rw [wRows_succ]
    split
    · refine ⟨_, rfl, ?_⟩
      show ((wNext l m f : Nat) : Int) = _
      omega
    · rename_i q
      obtain ⟨r, h1, h2⟩ := wRows_last (l := l) (m := m) g (wNext l m f) (by omega) (by omega)
      refine ⟨r, ?_, h2⟩
      rw [List.getLast?_cons, h1]; rfl
theorem rowsW_last (l : Cels) (x : Int) {k : Nat} (hk : (rowsW l x).length = k + 1) : ∃ r, (rowsW l x)[k]? = some r ∧ r.2.1 = (l.length : Int) := by
  obtain ⟨r, h1, h2⟩ := wRows_last (l := l) (m := max x 1) (l.length + 1) 0 (by omega) (by omega)
  have : (rowsW l x).getLast? = some r := h1
  rw [List.getLast?_eq_getElem?, hk, Nat.add_sub_cancel] at this
  exact ⟨r, this, h2⟩
set_option maxRecDepth 100000 in
set_option maxHeartbeats 3200000 in
theorem wrapAll_any (W : World) (v : Value) (l0 : Cels) (x : Int) (hv : FR celF W v l0) (hN0 : CelsOk l0) (hx : I64s x) : Calls Try.prog 4 #[v, .int .i64 x] W fun e w' => e = .returned (.bool true) ∧ AnyLater W w' := by
  have HF0 := Lib.hid (cfew_any v l0 W hv)
  obtain ⟨l, hm⟩ : ∃ m, l0.take 60 = m := ⟨_, rfl⟩
  rw [hm] at HF0
  have hml : l.length ≤ 60 := by rw [← hm, List.length_take]; omega
  have hNm : CelsOk l := by rw [← hm]; exact WCelsOk.take hN0 60
  have HNN := Lib.hid hNm
  have HF := Lib.hid (fun w u (h : FR celF w u l) => cfew_any u l w h)
  rw [List.take_of_length_le hml] at HF
  have HR := Lib.hid (fun w u (h : FR celF w u l) => wrows_any u l x w h hNm (by omega) hx)
  obtain ⟨p1, p2⟩ := rowsW_few l x
  obtain ⟨m, hmm⟩ : ∃ m, max x 1 = m := ⟨_, rfl⟩
  have HW : Hid (∀ f, f ≤ l.length → wNext l m f ≤ f + 1 ∨ wEnd l f (wNext l m f) ≤ x) := Lib.hid (fun f h => by rw [← hmm]; exact wNext_wide h)
  have hlast0 := fun k => rowsW_last l x (k := k)
  have HROWS : Hid (rowsW l x = wRows l m (l.length + 1) 0) := Lib.hid (by rw [← hmm]; rfl)
  obtain ⟨rs, hrs⟩ : ∃ rs, rowsW l x = rs := ⟨_, rfl⟩
  rw [hrs] at HR p1 p2 HROWS
  rw [hrs] at hlast0
  obtain ⟨q, hq⟩ : ∃ q, rs.length = q + 1 := ⟨rs.length - 1, by omega⟩
  have HQ := Lib.hid hq
  have HLV := Lib.hid (fun w => wlives_any w)
  obtain ⟨A, cap, rfl, -⟩ := hv.form
  generalize l0.length = n0 at *
  obtain ⟨n, hn⟩ : ∃ n, l.length = n := ⟨_, rfl⟩
  have HL := Lib.hid hn
  obtain ⟨rq, hrq, hlast⟩ := hlast0 q hq
  have HRQ := Lib.hid hrq
  rw [hn] at p2 HROWS HW hml hlast
  rw [hq] at p1 p2
  obtain ⟨hx1, hx2⟩ := hx
  clear hv hN0 hNm hm hmm hrs hlast0 hn hrq hq
  go_enter Try.func4, Try.ntmps4
  go_wp2_with fail
  refine HF0.out.mono ?_
  rintro e w1 ⟨u1, rfl, b1, o1⟩
  have H1 := Lib.hid (And.intro b1 o1.fr)
  obtain ⟨A1, c1, rfl, hc1⟩ := o1.form
  rw [HL.out] at H1 hc1 ⊢
  clear b1 o1
  go_wp2_with fail
  refine (HF.out _ _ H1.out.2).mono ?_
  rintro e w2 ⟨u2, rfl, b2, o2⟩
  have H2 := Lib.hid (And.intro (H1.out.1.trans b2) (And.intro (H1.out.2.later b2) o2.fr))
  clear b2 o2
  go_wp2_with fail
  refine (HR.out _ _ H2.out.2.2).mono ?_
  rintro e w3 ⟨u3, rfl, b3, o3⟩
  have h3 := o3.fr
  obtain ⟨A3, c3, rfl, hc3⟩ := h3.form
  have H3 := Lib.hid (And.intro (H2.out.1.trans b3) (And.intro (H2.out.2.1.later b3) h3))
  obtain ⟨b, off, rfl, hb, d0, d1, d2⟩ := rowAt h3 q (by rw [HQ.out]; exact Nat.lt_succ_self q)
  have erq : rs[q]'(by rw [HQ.out]; exact Nat.lt_succ_self q) = rq := Option.some.inj (by rw [← HRQ.out, List.getElem?_eq_getElem])
  rw [erq, hlast] at d1
  rw [HQ.out] at H3 hc3 ⊢
  clear b3 o3 h3 hlast erq d0 d2
  have HWAY := Lib.hid (show 0 < n ∧ decide (0 < n) = true ∨ n = 0 by
    by_cases h : 0 < n
    · exact .inl ⟨h, decide_eq_true h⟩
    · exact .inr (by omega))
  go_upto_region 3 with fail
  go_cut [35] (fun v wx => v = .bool false ∧ wx = w3)
  case first =>
    rcases HWAY.out with ⟨h0, d0⟩ | rfl
    all_goals
      go_wp2_with fail
      go_meet
      case rel => exact ⟨rfl, rfl⟩
  obtain ⟨rfl, rfl⟩ := hcut
  clear d1 hb
  go_wp2_with fail
  go_loopg [6, 7, 8, 9] (q + 1) (fun kk av iv bv tv wr => AnyLater W wr ∧ FR celF wr (.slice A1 n c1) l ∧ FR rowF wr (.slice (some ⟨b, off, none⟩) (q + 1) c3) rs ∧ ∃ (i f : Nat), kk = q + 1 - i ∧ i ≤ q + 1 ∧ iv = .int .i64 i ∧ av = .int .i64 f ∧ f ≤ n ∧ (i < q + 1 → (f < n ∨ n = 0) ∧ ∃ g, n + 1 ≤ g + f ∧ rs.drop i = wRows l m g f))
  case atStart => exact ⟨H3.out.1, H3.out.2.1, H3.out.2.2, 0, 0, by omega, by omega, rfl, rfl, by omega, fun _ => ⟨by omega, n + 1, by omega, HROWS.out⟩⟩
  case round =>
    obtain ⟨a_wr, h_l, h_r, i, f, hk, hi, rfl, rfl, hf, hstep⟩ := hrel
    have HA := Lib.hid a_wr
    have HFL := Lib.hid h_l
    have HFR := Lib.hid h_r
    clear a_wr h_l h_r
    by_cases hlt : i < q + 1
    · obtain ⟨hfn, g, hg, hdrop⟩ := hstep hlt
      obtain ⟨g, rfl⟩ : ∃ g', g = g' + 1 := ⟨g - 1, by omega⟩
      rw [wRows_succ] at hdrop
      have li : i < rs.length := by rw [HQ.out]; exact hlt
      rw [List.drop_eq_getElem_cons li] at hdrop
      obtain ⟨hd1, hd2⟩ := List.cons.inj hdrop
      obtain ⟨b', off', e', hb, d0, d1, d2⟩ := rowAt HFR.out i li
      obtain ⟨rfl, rfl⟩ : b = b' ∧ off = off' := by cases e'; exact ⟨rfl, rfl⟩
      rw [hd1] at d0 d1 d2
      simp only at d0 d1 d2
      obtain ⟨N, hN⟩ : ∃ N, wNext l m f = N := ⟨_, rfl⟩
      have hNb := wNext_in (l := l) (W := m) (f := f) (by rw [HL.out]; exact hf)
      have hwd := HW.out f hf
      have HBLK := Lib.hid (wNext_bl (l := l) (m := m) (f := f))
      have hzb := wEnd_in l f N
      rw [hN] at hNb hwd d1 d2 hd2 HBLK
      rw [HL.out] at hNb hd2 HBLK
      obtain ⟨z, hz⟩ : ∃ z, wEnd l f N = z := ⟨_, rfl⟩
      rw [hz] at hwd d2 hzb
      obtain ⟨n1, n2, n3⟩ := hNb
      have hNf : (((N : Int) == (f : Int)) = false) ∨ ((N : Int) == (f : Int)) = true ∧ decide (0 < n) = false := by
        by_cases h0 : 0 < n
        · exact .inl (by simpa using (by omega : (N : Int) ≠ (f : Int)))
        · exact .inr ⟨by simpa using (by omega : (N : Int) = (f : Int)), decide_eq_false h0⟩
      have hwz : decide (x < z) = false ∨ decide (x < z) = true ∧ decide ((f : Int) + 1 < (N : Int)) = false := by
        by_cases h0 : x < z
        · exact .inr ⟨decide_eq_true h0, decide_eq_false (by omega)⟩
        · exact .inl (decide_eq_false h0)
      have e1 : decide (N < f) = false := decide_eq_false (by omega)
      have e2 : decide (n < N) = false := decide_eq_false (by omega)
      have i1 : (i : Int) < (q : Int) + 1 := by omega
      have HDROP := Lib.hid hd2
      clear hstep hdrop hd1 hd2 e' hwd hN hz
      go_upto_region 8 with fail
      go_cut [100] (fun v wx => v = .bool false ∧ wx = wr)
      case first =>
        rcases hNf with k1 | ⟨k1, k2⟩
        all_goals
          rcases hwz with k3 | ⟨k3, k4⟩
          all_goals
            go_wp2_with fail
            go_meet
            case rel => exact ⟨rfl, rfl⟩
      obtain ⟨rfl, rfl⟩ := hcut
      clear hNf hwz
      go_wp2_with fail
      go_loopg [8, 9] (N - f) (fun kk bv kv wr => wr = wc ∧ ∃ (k : Nat) (bb : Bool), kk = N - k ∧ f ≤ k ∧ k ≤ N ∧ kv = .int .i64 k ∧ bv = .bool bb ∧ decide (wLast l f k ≠ f) = bb)
      case atStart => exact ⟨rfl, f, false, rfl, Nat.le_refl _, n1, rfl, rfl, by rw [wLast_self]; simp⟩
      case round =>
        obtain ⟨rfl, k, bb, hk, hfk, hkN, rfl, rfl, hbb⟩ := hrel
        have HBB := Lib.hid hbb
        clear hbb
        by_cases hkl : k < N
        · have j1 : (k : Int) < (N : Int) := by omega
          have lk : k < l.length := by rw [HL.out]; omega
          have hB := wBl_at lk
          obtain ⟨bc, offc, rfl, hbc, x0, x1, x2, x3⟩ := celAt HFL.out k lk
          generalize l[k] = cel at *
          obtain ⟨ca, cn, cr, cs⟩ := cel
          simp only at x0 x1 x2 x3
          have hcr : (cr = 32 ∨ (cr == 32) = false ∧ cr = 9) ∧ wBl l k = true ∨ ((cr == 32) = false ∧ (cr == 9) = false) ∧ wBl l k = false := by
            by_cases h32 : cr = 32
            · exact .inl ⟨.inl h32, by rw [hB]; simp [blC, h32]⟩
            · by_cases h9 : cr = 9
              · exact .inl ⟨.inr ⟨by simpa using h32, h9⟩, by rw [hB]; simp [blC, h9]⟩
              · exact .inr ⟨⟨by simpa using h32, by simpa using h9⟩, by rw [hB]; simp [blC, h9, h32]⟩
          clear hB lk
          cases bb with
          | true =>
            have HNB : Hid (decide (wLast l f (k + 1) ≠ f) = true) := Lib.hid (by
              have h := HBB.out
              rw [decide_eq_true_eq] at h
              rcases hcr with ⟨_, hb⟩ | ⟨_, hb⟩
              · rw [wLast_yes hfk hb]; exact decide_eq_true (by omega)
              · rw [wLast_no hfk hb]; exact decide_eq_true h)
            clear hcr
            go_wp2_with fail
            go_roundg (N - (k + 1))
            case measure => omega
            case rel => exact ⟨rfl, k + 1, true, rfl, by omega, by omega, by go_num, rfl, HNB.out⟩
          | false =>
            rcases hcr with ⟨hc, hb⟩ | ⟨⟨hc, hc9⟩, hb⟩
            · have HNB : Hid (decide (wLast l f (k + 1) ≠ f) = true) := Lib.hid (by rw [wLast_yes hfk hb]; exact decide_eq_true (by omega))
              rcases hc with rfl | ⟨hc, rfl⟩
              all_goals
                go_wp2_with fail
                go_roundg (N - (k + 1))
                case measure => omega
                case rel => exact ⟨rfl, k + 1, true, rfl, by omega, by omega, by go_num, rfl, HNB.out⟩
            · have HNB : Hid (decide (wLast l f (k + 1) ≠ f) = false) := Lib.hid (by rw [wLast_no hfk hb]; exact HBB.out)
              go_wp2_with fail
              go_roundg (N - (k + 1))
              case measure => omega
              case rel => exact ⟨rfl, k + 1, false, rfl, by omega, by omega, by go_num, rfl, HNB.out⟩
        · obtain rfl : k = N := by omega
          by_cases hend : n ≤ k
          · have hie : i + 1 = q + 1 := by
              have h := HDROP.out
              rw [if_pos hend, List.drop_eq_nil_iff, HQ.out] at h
              omega
            have e5 : decide ((i : Int) < (q : Int) + 1 - 1) = false := decide_eq_false (by omega)
            have e6 : decide (i < q) = false := decide_eq_false (by omega)
            go_wp2_with fail
            go_roundg (q + 1 - (i + 1))
            case measure => omega
            case rel => exact ⟨HA.out, HFL.out, HFR.out, i + 1, k, rfl, by omega, by go_num, rfl, n2, fun h => by omega⟩
          · have hkn : k < n := by omega
            have hfk2 : f < k := n3 (by omega)
            have hd := HDROP.out
            rw [if_neg hend] at hd
            have hnext : i + 1 < q + 1 := by
              obtain ⟨g', rfl⟩ : ∃ g', g = g' + 1 := ⟨g - 1, by omega⟩
              rw [wRows_succ] at hd
              rcases Nat.lt_or_ge (i + 1) rs.length with h | h
              · rw [HQ.out] at h; exact h
              · rw [List.drop_of_length_le h] at hd; cases hd
            have HNXT : Hid (n + 1 ≤ g + k ∧ rs.drop (i + 1) = wRows l m g k) := Lib.hid ⟨by omega, hd⟩
            have e6 : decide (i < q) = true := decide_eq_true (by omega)
            clear hd
            cases bb with
            | false =>
              go_wp2_with fail
              go_roundg (q + 1 - (i + 1))
              case measure => omega
              case rel => exact ⟨HA.out, HFL.out, HFR.out, i + 1, k, rfl, by omega, by go_num, rfl, n2, fun h => ⟨.inl hkn, g, HNXT.out⟩⟩
            | true =>
              obtain ⟨j, rfl⟩ : ∃ j, k = j + 1 := ⟨k - 1, by omega⟩
              have lj : j < l.length := by rw [HL.out]; omega
              have hB := wBl_at lj
              have hbj : wBl l j = true := by
                have := HBLK.out hkn (by have := HBB.out; rwa [decide_eq_true_eq] at this)
                rwa [Nat.add_sub_cancel] at this
              obtain ⟨bc, offc, rfl, hbc, x0, x1, x2, x3⟩ := celAt HFL.out j lj
              generalize l[j] = cel at *
              obtain ⟨ca, cn, cr, cs⟩ := cel
              simp only at x0 x1 x2 x3
              rw [hbj] at hB
              have hcr : cr = 9 ∨ cr = 32 := by simpa [blC] using hB.symm
              rw [Int.natCast_add] at *
              have HJ : Hid (((j + 1 : Nat) : Int) = (j : Int) + ((1 : Nat) : Int)) := Lib.hid (by omega)
              clear hB hbj lj
              rcases hcr with rfl | rfl
              all_goals
                go_wp2_with fail
                go_roundg (q + 1 - (i + 1))
                case measure => omega
                case rel => exact ⟨HA.out, HFL.out, HFR.out, i + 1, j + 1, rfl, by omega, by go_num, by go_num, n2, fun h => ⟨.inl hkn, g, HNXT.out⟩⟩
    · have i1 : i = q + 1 := by omega
      subst i1
      go_wp2_with fail
      refine (HLV.out _).mono ?_
      rintro e w4 ⟨rfl, b4⟩
      have H4 := Lib.hid (HA.out.trans b4)
      clear b4
      go_wp2_with fail
      go_ret
      exact ⟨rfl, H4.out⟩
end Go.Proofs.Ytcbcbblclpongaa
