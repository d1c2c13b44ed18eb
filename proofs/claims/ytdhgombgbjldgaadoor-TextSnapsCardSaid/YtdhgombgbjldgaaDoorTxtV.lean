/- text: where the runes around a place begin: the program's and the document's answers by contract. -/
import Derived.Test.YtdhgombgbjldgaaDoorTxtU
import Derived.Test.YtdhgombgbjldgaaDoorTxtD
import Derived.Test.YtdhgombgbjldgaaDoorUtfI
namespace Go.Proofs.YtdhgombgbjldgaaDoor
set_option linter.unusedSimpArgs false
set_option linter.unusedVariables false
set_option linter.unusedSectionVars false
open Go.RowKit

theorem run_max3 {P : Program} (w : World) (ts : Array TypeId) (t : TypeId) (a : Nat) : (Builtin.max_ ts t #[.int .i64 ((a : Int) - 3), .int .i64 0]).run P w = .ok (.int .i64 ((a - 3 : Nat) : Int)) w := by
  rw [run_max_int2]; split <;> (congr 2; omega)
theorem cutZ_about (L : List Int) (a : Nat) : cutZ L ((a - 3 : Nat) : Int) ((a : Int) + 3) = aboutP L a := by
  unfold cutZ aboutP
  rw [Int.toNat_natCast, show ((a : Int) + 3).toNat = a + 3 by omega]
theorem cutZ_four (L : List Int) (s : Nat) : cutZ L (s : Int) ((s : Int) + 1 + 3) = (L.drop s).take 4 := by
  unfold cutZ
  rw [Int.toNat_natCast, show ((s : Int) + 1 + 3).toNat = s + 4 by omega, List.drop_take]
  congr 1
  omega
set_option maxRecDepth 100000 in
set_option maxHeartbeats 1600000 in
theorem tsnap_any (v : Value) (t : Tr) (n : Nat) (L : List Int) (x : Int) (r : Nat) (w : World) (hr : SnapP L x r) (hL : t.bs = L) (h : IsTL w v t n) (ok : t.Ok) (hb : Bytes L) (hg : GlobU w) :
    Calls Tryd.prog 18 #[v, .int .i64 x] w fun e w' => e = .returned (.int .i64 (r : Int)) ∧ AnyLater w w' := by
  have hlen : t.len = L.length := by rw [← Tr.len_bs, hL]
  obtain ⟨a, ha, ha2, -⟩ := midZ_cast x 0 t.len
  simp only [Nat.zero_add, Int.natCast_zero] at ha ha2
  obtain ⟨s, s1, s2⟩ := snap_near hb x a (by rw [← hlen]; exact ha)
  have e : a - 3 + s = r := SnapP.uniq hb s2 hr
  have hP6 := aboutP_le L a
  have hPb : Bytes (aboutP L a) := aboutP_bytes hb
  have hcz : cutZ t.bs ((a - 3 : Nat) : Int) ((a : Int) + 3) = aboutP L a := by rw [hL]; exact cutZ_about L a
  have HL := Lib.hid (tlen_any v t n w h)
  have HC := Lib.hid (fun w' => rclamp_any x 0 t.len w' _ ha)
  have HB := Lib.hid (fun (w' : World) (q : AnyLater w w') => tbytes_any v t n w' (h.later q))
  have HP := Lib.hid (fun (w' : World) (q : Option Addr) (h : IsRN w' (.pointer q) t) => rpart_any (.pointer q) t _ _ _ hcz w' h ok)
  have HS := Lib.hid (fun (w' : World) (q : AnyLater w w') (u : Value) (hu : isB (aboutP L a) u w') => snap_any u (aboutP L a) _ s w' s1 (RT.rn hu) hPb (by omega) (hg.later q) ⟨by omega, by omega⟩)
  have hmx := fun (w : World) (ts : Array TypeId) (t : TypeId) => run_max3 (P := Tryd.prog) w ts t a
  have hs := SnapP.le hPb s1
  have hl6 := ok.len
  have e1 : ((a - (a - 3) : Nat) : Int) = (a : Int) - ((a - 3 : Nat) : Int) := by omega
  rw [e1] at HS
  have HE : Hid (((a - 3 : Nat) : Int) + (s : Int) = (r : Int)) := Lib.hid (by omega)
  have hfr : ((a - 3 : Nat) : Int) ≤ (a : Int) := by omega
  clear h ok hb hg hr hL hlen ha s1 s2 e hcz hPb e1
  generalize aboutP L a = P at *
  generalize a - 3 = fr at *
  generalize t.len = m at *
  go_enter Tryd.func18, Tryd.ntmps18
  go_wp2_with fail
  refine HL.out.mono ?_
  rintro e w2 ⟨rfl, b2⟩
  have H2 := Lib.hid b2
  clear b2
  go_wp2_with fail
  refine (HC.out _).mono ?_
  rintro e w2' ⟨rfl, rfl⟩
  go_wp2_with fail
  refine (HB.out _ H2.out).mono ?_
  rintro e w3 ⟨q, rfl, b3, h3⟩
  have H3 := Lib.hid (And.intro (H2.out.trans b3) h3)
  clear b3 h3
  go_wp2_with fail
  refine (HP.out _ _ H3.out.2).mono ?_
  rintro e w4 ⟨u, rfl, b4, h4⟩
  have H4 := Lib.hid (And.intro (H3.out.1.trans b4) h4)
  have HS4 := Lib.hid (HS.out w4 H4.out.1 u h4)
  obtain ⟨A4, c4, rfl, -⟩ := isB.form h4
  clear b4 h4
  generalize P.length = k at *
  go_wp2_with fail
  refine HS4.out.mono ?_
  rintro e w5 ⟨rfl, b5⟩
  have H5 := Lib.hid (H4.out.1.trans b5)
  clear b5
  go_wp2_with fail
  go_ret
  exact ⟨by simp [HE.out], H5.out⟩
set_option maxRecDepth 100000 in
set_option maxHeartbeats 1600000 in
theorem tnext_any (v : Value) (t : Tr) (n : Nat) (L : List Int) (x : Int) (r : Nat) (w : World) (hr : NextP L x r) (hL : t.bs = L) (h : IsTL w v t n) (ok : t.Ok) (hb : Bytes L) (hg : GlobU w) :
    Calls Tryd.prog 20 #[v, .int .i64 x] w fun e w' => e = .returned (.int .i64 (r : Int)) ∧ AnyLater w w' := by
  by_cases hx : x < 0
  · have e : r = 0 := NextP.uniq hb hr (.inl ⟨hx, rfl⟩)
    subst e
    clear hr
    go_enter Tryd.func20, Tryd.ntmps20
    go_wp2_with fail
    go_ret
    exact ⟨rfl, AnyLater.refl _⟩
  · obtain ⟨s, hs⟩ := snapP_ex hb x
    obtain ⟨c, k, hdec⟩ : ∃ c k, decU ((L.drop s).take 4) = (c, k) := ⟨_, _, rfl⟩
    have hn := next_near x s (by omega) hs
    rw [hdec] at hn
    have e : s + k = r := NextP.uniq hb hn hr
    have hsl := hs.le hb
    have hlen : t.len = L.length := by rw [← Tr.len_bs, hL]
    have hl6 := ok.len
    have hk := dec_len ((hb.drop s).take 4)
    rw [hdec] at hk
    have hk4 := hk.2.2
    simp only at hk4
    have hcz : cutZ t.bs (s : Int) ((s : Int) + 1 + 3) = (L.drop s).take 4 := by rw [hL]; exact cutZ_four L s
    have HSn := Lib.hid (tsnap_any v t n L x s w hs hL h ok hb hg)
    have HB := Lib.hid (fun (w' : World) (q : AnyLater w w') => tbytes_any v t n w' (h.later q))
    have HP := Lib.hid (fun (w' : World) (q : Option Addr) (h : IsRN w' (.pointer q) t) => rpart_any (.pointer q) t _ _ _ hcz w' h ok)
    have HD := Lib.hid (fun (w' : World) (q : AnyLater w w') (u : Value) (hu : isB ((L.drop s).take 4) u w') => dec_any u _ w' c k hdec (RT.rn hu) ((hb.drop s).take 4) (by rw [List.length_take]; omega) (hg.later q))
    have HE : Hid ((s : Int) + (k : Int) = (r : Int)) := Lib.hid (by omega)
    have hs6 : s ≤ 60000 := by omega
    have d0 : decide (x < 0) = false := decide_eq_false hx
    clear hx h ok hb hg hr hL hlen hdec hn e hk hcz hs
    generalize (L.drop s).take 4 = P at *
    go_enter Tryd.func20, Tryd.ntmps20
    go_wp2_with fail
    refine HSn.out.mono ?_
    rintro e w2 ⟨rfl, b2⟩
    have H2 := Lib.hid b2
    clear b2
    go_wp2_with fail
    refine (HB.out _ H2.out).mono ?_
    rintro e w3 ⟨q, rfl, b3, h3⟩
    have H3 := Lib.hid (And.intro (H2.out.trans b3) h3)
    clear b3 h3
    go_wp2_with fail
    refine (HP.out _ _ H3.out.2).mono ?_
    rintro e w4 ⟨u, rfl, b4, h4⟩
    have H4 := Lib.hid (And.intro (H3.out.1.trans b4) h4)
    have HD4 := Lib.hid (HD.out w4 H4.out.1 u h4)
    obtain ⟨A4, c4, rfl, -⟩ := isB.form h4
    clear b4 h4
    generalize P.length = m at *
    go_wp2_with fail
    refine HD4.out.mono ?_
    rintro e w5 ⟨rfl, b5⟩
    have H5 := Lib.hid (H4.out.1.trans b5)
    clear b5
    go_wp2_with fail
    go_ret
    exact ⟨by simp [HE.out], H5.out⟩
/-- the greatest one below a place -/
def PrevP (L : List Int) (x : Int) (r : Nat) : Prop := (x ≤ 0 ∧ r = 0) ∨ (0 < x ∧ SnapP L (x - 1) r)
set_option maxRecDepth 100000 in
theorem tprev_any (v : Value) (t : Tr) (n : Nat) (L : List Int) (x : Int) (r : Nat) (w : World) (hr : PrevP L x r) (hL : t.bs = L) (h : IsTL w v t n) (ok : t.Ok) (hb : Bytes L) (hg : GlobU w) (hx : x ≤ 9223372036854775807) :
    Calls Tryd.prog 22 #[v, .int .i64 x] w fun e w' => e = .returned (.int .i64 (r : Int)) ∧ AnyLater w w' := by
  rcases hr with ⟨h1, rfl⟩ | ⟨h1, h2⟩
  · clear hb hL h ok hg
    go_enter Tryd.func22, Tryd.ntmps22
    go_wp2_with fail
    go_ret
    exact ⟨rfl, AnyLater.refl _⟩
  · have HS := Lib.hid (tsnap_any v t n L (x - 1) r w h2 hL h ok hb hg)
    have d0 : decide (x ≤ 0) = false := decide_eq_false (by omega)
    clear hb hL h ok hg h2
    go_enter Tryd.func22, Tryd.ntmps22
    go_wp2_with fail
    refine HS.out.mono ?_
    rintro e w2 ⟨rfl, b2⟩
    have H2 := Lib.hid b2
    clear b2
    go_wp2_with fail
    go_ret
    exact ⟨rfl, H2.out⟩

/-! ### the document's answers -/
theorem stU_cell {w : World} {v : Value} {l : List Int} {c : Nat} (h : RI w v (stU l c)) : ∃ A cap, v = .slice A (c + 1) cap ∧ ∀ j, j ≤ c → ∃ b off, A = some ⟨b, off, none⟩ ∧ w.cell? ⟨b, off + j, none⟩ = some (.int .i64 (it l j)) := by
  obtain ⟨A, cap, rfl, h2, h3⟩ := h
  have hl := stU_len l c
  refine ⟨A, cap, by rw [hl], fun j hj => ?_⟩
  obtain ⟨b, off, e, _, hc⟩ := h3 (by omega)
  have := hc j (by omega)
  rw [stU_get] at this
  exact ⟨b, off, e, this⟩
set_option maxRecDepth 100000 in
set_option maxHeartbeats 1600000 in
theorem xsnap_any (v : Value) (l : List Int) (x : Int) (r : Nat) (w : World) (hr : SnapP l x r) (hv : RU8 w v l) (hb : Bytes l) (hl : l.length ≤ 1000) :
    Calls Tryd.prog 19 #[v, .int .i64 x] w fun e w' => e = .returned (.int .i64 (r : Int)) ∧ AnyLater w w' := by
  obtain ⟨c, hc, hcl⟩ := cnt_ex hb
  have HSt := Lib.hid (refStarts_any v l c w hv hb hl hc)
  obtain ⟨A, cap, rfl, -⟩ := hv.form
  have HE : Hid (∀ s, UpT l x (c + 1) s → s = r) := Lib.hid (fun s h => SnapP.uniq hb (h.snap hc) hr)
  have HIl := Lib.hid (fun j => it_le hb j)
  clear hr hv hb hc
  generalize l.length = n at *
  go_enter Tryd.func19, Tryd.ntmps19
  go_wp2_with fail
  refine HSt.out.mono ?_
  rintro e w2 ⟨u, rfl, b2, o2⟩
  have H2 := Lib.hid b2
  obtain ⟨A2, cap2, rfl, hcell⟩ := stU_cell o2.rn
  have HC := Lib.hid hcell
  clear b2 o2 hcell
  go_wp2_with fail
  go_loopg [6, 7] (c + 1) (fun kk sv iv wr => AnyLater w2 wr ∧ ∃ t sn : Nat, kk = c + 1 - t ∧ t ≤ c + 1 ∧ iv = .int .i64 t ∧ sv = .int .i64 sn ∧ UpT l x t sn)
  case atStart => exact ⟨AnyLater.refl _, 0, 0, by omega, by omega, rfl, rfl, .inr ⟨fun q h1 => by omega, rfl⟩⟩
  case round =>
    obtain ⟨a_wr, t, sn, hk, ht, rfl, rfl, hu⟩ := hrel
    have HA := Lib.hid a_wr
    have HUp := Lib.hid hu
    clear hu
    by_cases htc : t ≤ c
    · obtain ⟨b, off, rfl, c0⟩ := HC.out t htc
      have c0 := cell_on a_wr c0
      have hil := HIl.out t
      have HY : Hid ((it l t : Int) ≤ x → UpT l x (t + 1) (it l t)) := Lib.hid (fun h => UpT.yes h)
      have HNo : Hid (x < it l t → UpT l x (t + 1) sn) := Lib.hid (fun h => HUp.out.no h)
      generalize it l t = p at *
      have d0 : (t : Int) < ((c + 1 : Nat) : Int) := by omega
      have d1 : t < c + 1 := by omega
      clear a_wr
      by_cases q : (p : Int) ≤ x
      · have HZ := Lib.hid (HY.out q)
        go_wp2_with fail
        go_roundg (c + 1 - (t + 1))
        case measure => omega
        case rel => exact ⟨HA.out, t + 1, p, rfl, by omega, by go_num, rfl, HZ.out⟩
      · have HZ := Lib.hid (HNo.out (by omega))
        have d2 : decide ((p : Int) ≤ x) = false := decide_eq_false q
        go_wp2_with fail
        go_roundg (c + 1 - (t + 1))
        case measure => omega
        case rel => exact ⟨HA.out, t + 1, sn, rfl, by omega, by go_num, rfl, HZ.out⟩
    · obtain rfl : t = c + 1 := by omega
      have e := HE.out sn HUp.out
      subst e
      have H9 := Lib.hid (H2.out.trans a_wr)
      clear a_wr hk ht htc
      go_wp2_with fail
      go_ret
      exact ⟨rfl, H9.out⟩
set_option maxRecDepth 100000 in
set_option maxHeartbeats 1600000 in
theorem xnext_any (v : Value) (l : List Int) (x : Int) (r : Nat) (w : World) (hr : NextP l x r) (hv : RU8 w v l) (hb : Bytes l) (hl : l.length ≤ 1000) :
    Calls Tryd.prog 21 #[v, .int .i64 x] w fun e w' => e = .returned (.int .i64 (r : Int)) ∧ AnyLater w w' := by
  obtain ⟨c, hc, hcl⟩ := cnt_ex hb
  have HSt := Lib.hid (refStarts_any v l c w hv hb hl hc)
  obtain ⟨A, cap, rfl, -⟩ := hv.form
  have HE : Hid (∀ q, x < it l q → (∀ q', q' < q → (it l q' : Int) ≤ x) → it l q = r) := Lib.hid (fun q h1 h2 => NextP.uniq hb (next_first h1 h2) hr)
  have HEn : Hid ((∀ q', q' < c + 1 → (it l q' : Int) ≤ x) → l.length = r) := Lib.hid (fun h => NextP.uniq hb (next_last hc h) hr)
  have HIl := Lib.hid (fun j => it_le hb j)
  clear hr hv hb hc
  generalize l.length = n at *
  go_enter Tryd.func21, Tryd.ntmps21
  go_wp2_with fail
  refine HSt.out.mono ?_
  rintro e w2 ⟨u, rfl, b2, o2⟩
  have H2 := Lib.hid b2
  obtain ⟨A2, cap2, rfl, hcell⟩ := stU_cell o2.rn
  have HC := Lib.hid hcell
  clear b2 o2 hcell
  go_wp2_with fail
  go_loopg [6] (c + 1) (fun kk iv wr => AnyLater w2 wr ∧ ∃ t : Nat, kk = c + 1 - t ∧ t ≤ c + 1 ∧ iv = .int .i64 t ∧ ∀ q', q' < t → (it l q' : Int) ≤ x)
  case atStart => exact ⟨AnyLater.refl _, 0, by omega, by omega, rfl, fun q h1 => by omega⟩
  case round =>
    obtain ⟨a_wr, t, hk, ht, rfl, hu⟩ := hrel
    have HA := Lib.hid a_wr
    have HUp := Lib.hid hu
    clear hu
    by_cases htc : t ≤ c
    · obtain ⟨b, off, rfl, c0⟩ := HC.out t htc
      have c0 := cell_on a_wr c0
      have hil := HIl.out t
      have HY : Hid (x < it l t → it l t = r) := Lib.hid (fun h => HE.out t h HUp.out)
      have HNo : Hid ((it l t : Int) ≤ x → ∀ q', q' < t + 1 → (it l q' : Int) ≤ x) := Lib.hid (fun h q' hq => by
        by_cases e : q' = t
        · subst e; exact h
        · exact HUp.out q' (by omega))
      generalize it l t = p at *
      have d0 : (t : Int) < ((c + 1 : Nat) : Int) := by omega
      have d1 : t < c + 1 := by omega
      clear a_wr
      by_cases q : (p : Int) ≤ x
      · have HZ := Lib.hid (HNo.out q)
        have d2 : decide (x < (p : Int)) = false := decide_eq_false (by omega)
        go_wp2_with fail
        go_roundg (c + 1 - (t + 1))
        case measure => omega
        case rel => exact ⟨HA.out, t + 1, rfl, by omega, by go_num, HZ.out⟩
      · have e := HY.out (by omega)
        subst e
        have d2 : x < (p : Int) := by omega
        have H9 := Lib.hid (H2.out.trans HA.out)
        go_wp2_with fail
        go_ret
        exact ⟨rfl, H9.out⟩
    · obtain rfl : t = c + 1 := by omega
      have e := HEn.out HUp.out
      subst e
      have H9 := Lib.hid (H2.out.trans a_wr)
      clear a_wr hk ht htc
      go_wp2_with fail
      go_ret
      exact ⟨rfl, H9.out⟩
set_option maxRecDepth 100000 in
theorem xprev_any (v : Value) (l : List Int) (x : Int) (r : Nat) (w : World) (hr : PrevP l x r) (hv : RU8 w v l) (hb : Bytes l) (hl : l.length ≤ 1000) (hx : x ≤ 9223372036854775807) :
    Calls Tryd.prog 23 #[v, .int .i64 x] w fun e w' => e = .returned (.int .i64 (r : Int)) ∧ AnyLater w w' := by
  rcases hr with ⟨h1, rfl⟩ | ⟨h1, h2⟩
  · obtain ⟨A, cap, rfl, -⟩ := hv.form
    clear hb hl hv
    go_enter Tryd.func23, Tryd.ntmps23
    go_wp2_with fail
    go_ret
    exact ⟨rfl, AnyLater.refl _⟩
  · have HS := Lib.hid (xsnap_any v l (x - 1) r w h2 hv hb hl)
    have d0 : decide (x ≤ 0) = false := decide_eq_false (by omega)
    obtain ⟨A, cap, rfl, -⟩ := hv.form
    clear hb hl hv h2
    generalize l.length = n at *
    go_enter Tryd.func23, Tryd.ntmps23
    go_wp2_with fail
    refine HS.out.mono ?_
    rintro e w2 ⟨rfl, b2⟩
    have H2 := Lib.hid b2
    clear b2
    go_wp2_with fail
    go_ret
    exact ⟨rfl, H2.out⟩
end Go.Proofs.YtdhgombgbjldgaaDoor
