/- carets: Snap and Set of the program, Snap of the document, by contract. carets: CaretsSets. -/
import Derived.Test.YtkobnijjahpifaaDoorCarP
import Derived.Test.YtkobnijjahpifaaDoorCarN
import Derived.Test.YtkobnijjahpifaaDoorCarM
import Derived.Test.YtkobnijjahpifaaDoorTxtsA
import Derived.Test.YtkobnijjahpifaaDoorCarO
import Derived.Test.YtkobnijjahpifaaDoorRopsB
import Derived.Test.YtkobnijjahpifaaDoorPairZ
namespace Go.Proofs.YtkobnijjahpifaaDoor
set_option linter.unusedSimpArgs false
set_option linter.unusedVariables false
set_option linter.unusedSectionVars false
open Go.RowKit

/-- where each place comes, of a text -/
theorem snap_fun {L : List Int} (hb : Bytes L) : ∃ fz : Int → Int, ∀ p, ∃ r : Nat, fz p = (r : Int) ∧ SnapP L p r ∧ r ≤ L.length :=
  ⟨fun p => ((Classical.choose (snapP_ex hb p) : Nat) : Int), fun p => ⟨_, rfl, Classical.choose_spec (snapP_ex hb p), SnapP.le hb (Classical.choose_spec (snapP_ex hb p))⟩⟩
theorem tsnap_enters : ∀ args w, (callFunc 18 args).run Tryd.prog w = .ok (.enter 18 args) w := enters_of Tryd.func18 (by kernel_rfl) rfl
theorem csnap_any (v tv : Value) (t : Tr) (nn : Nat) (L : List Int) (fz : Int → Int) (l M : Qs) (w : World) (hfz : ∀ p, ∃ r : Nat, fz p = (r : Int) ∧ SnapP L p r ∧ r ≤ L.length) (hM : movedC fz l = M) (hv : QR w v l) (hl : l.length ≤ 39) (hL : t.bs = L) (h : IsTL w tv t nn) (ok : t.Ok) (hb : Bytes L) (hg : GlobU w) :
    Calls Tryd.prog 9 #[v, tv] w (RowT w M) := by
  have HK := Lib.hid (moved_any v 18 #[tv] #[] fz l M w (fun x => AnyLater w x) hM hv hl (AnyLater.refl w) (fun x y hx hxy => hx.trans hxy) tsnap_enters (fun p w' hP => by
    obtain ⟨r, e, hr, _⟩ := hfz p
    have := tsnap_any tv t nn L p r w' hr hL (h.later hP) ok hb (hg.later hP)
    rw [← e] at this
    simpa using this))
  obtain ⟨A, cap, rfl, h2⟩ := hv.form
  clear hfz hM hv hl h2 hL h ok hb hg
  generalize l.length = m at *
  go_enter Tryd.func9, Tryd.ntmps9
  go_wp2_with fail
  refine HK.out.mono ?_
  rintro e w1 ⟨u, rfl, b1, o1⟩
  have HB1 := Lib.hid (And.intro b1 o1)
  clear b1 o1
  go_wp2_with fail
  go_ret
  exact ⟨_, rfl, HB1.out.1, HB1.out.2⟩
set_option maxRecDepth 100000 in
set_option maxHeartbeats 3200000 in
theorem xcsnap_any (v bv : Value) (L : List Int) (fz : Int → Int) (l M : Qs) (w : World) (hfz : ∀ p, ∃ r : Nat, fz p = (r : Int) ∧ SnapP L p r ∧ r ≤ L.length) (hM : movedC fz l = M) (hv : QR w v l) (hl : l.length ≤ 39) (hbv : RU8 w bv L) (hb : Bytes L) (hL : L.length ≤ 1000) :
    Calls Tryd.prog 10 #[v, bv] w (RowT w M) := by
  obtain ⟨A, cap, rfl, h2, h3⟩ := hv
  have HCC : Hid (∀ (j : Nat) (h : j < l.length), ∃ b off, A = some ⟨b, off, none⟩ ∧ b < w.heap.size ∧ w.cell? ⟨b, off + j * 2, none⟩ = some (.int .i64 l[j].1) ∧ w.cell? ⟨b, off + j * 2 + 1, none⟩ = some (.int .i64 l[j].2)) := Lib.hid (fun j hj => by
    obtain ⟨b, off, e, hb, hc⟩ := h3 (by omega)
    exact ⟨b, off, e, hb, hc j hj⟩)
  have HD := Lib.hid (fun (p : Int) (w' : World) (hP : AnyLater w w') => by
    obtain ⟨r, e, hr, _⟩ := hfz p
    have := xsnap_any bv L p r w' hr (hbv.later hP) hb hL
    rw [← e] at this
    exact this)
  have HTd := Lib.hid (fun (w' : World) (u : Value) (h : QR w' u (l.map (bothC fz))) => xtidy_any u _ M w' hM h (by rw [List.length_map]; exact hl))
  have HMl : Hid (∀ j, ((l.take j).map (bothC fz)).length ≤ 39) := Lib.hid (fun j => by rw [List.length_map, List.length_take]; omega)
  obtain ⟨Ab, nb, capb, rfl⟩ : ∃ Ab nb capb, bv = .slice Ab nb capb := by obtain ⟨Ab, capb, e, _⟩ := hbv; exact ⟨_, _, _, e⟩
  obtain ⟨n, hn⟩ : ∃ n, l.length = n := ⟨_, rfl⟩
  have HN := Lib.hid hn
  rw [hn] at h2 hl ⊢
  have HE0 : Hid (OQ 45 (w.alloc (.cells #[] 45)) w.heap.size (.slice (some ⟨w.heap.size, 0, none⟩) 0 0) [] ∧ AnyLater w (w.alloc (.cells #[] 45))) := Lib.hid ⟨OQ.empty (Nat.le_refl _) (heap_new rfl), (AnyLater.refl _).alloc _⟩
  clear h3 hM hn hfz hbv hb hL
  go_enter Tryd.func10, Tryd.ntmps10
  go_wp2_with fail
  go_loopg [5, 6] n (fun kk ov iv wr => ∃ j : Nat, kk = n - j ∧ j ≤ n ∧ iv = .int .i64 (j : Int) ∧ AnyLater w wr ∧ OQ 45 wr w.heap.size ov ((l.take j).map (bothC fz)))
  case atStart => exact ⟨0, by omega, by omega, rfl, HE0.out.2, HE0.out.1⟩
  case round =>
    obtain ⟨j, hk, hj, rfl, a_wr, ho⟩ := hrel
    have HR := Lib.hid (And.intro a_wr ho)
    obtain ⟨A4, cap4, rfl, -⟩ := ho.form
    by_cases hlt : j < n
    · have lj : j < l.length := by rw [HN.out]; exact hlt
      have i0 : (j : Int) < (n : Int) := by omega
      obtain ⟨b, off, rfl, hb, k0, k1⟩ := HCC.out j lj
      have c0 : wr.cell? ⟨b, off + j * 2, none⟩ = some (.int .i64 l[j].1) := (a_wr.below.cell hb).trans k0
      have c1 : wr.cell? ⟨b, off + j * 2 + 1, none⟩ = some (.int .i64 l[j].2) := (a_wr.below.cell hb).trans k1
      have HT := Lib.hid (map_take (f := fz) lj)
      have lw : w.heap.size ≤ wr.heap.size := a_wr.below.size
      have HAr := Lib.hid a_wr
      clear k0 k1
      obtain ⟨c, hc⟩ : ∃ c, l[j] = c := ⟨_, rfl⟩
      rw [hc] at c0 c1 HT
      clear hc
      obtain ⟨f, t⟩ := c
      simp only at c0 c1
      obtain ⟨px, hpx⟩ : ∃ px, fz f = px := ⟨_, rfl⟩
      obtain ⟨py, hpy⟩ : ∃ py, fz t = py := ⟨_, rfl⟩
      have HE : Hid ((l.take (j + 1)).map (bothC fz) = (l.take j).map (bothC fz) ++ [(px, py)]) := Lib.hid (by rw [HT.out]; unfold bothC; rw [hpx, hpy])
      have HD1 := Lib.hid (HD.out f)
      have HD2 := Lib.hid (HD.out t)
      rw [hpx] at HD1
      rw [hpy] at HD2
      have HL := Lib.hid (HMl.out j)
      clear hpx hpy HT ho
      generalize (l.take j).map (bothC fz) = K at *
      generalize hkl : K.length = m at *
      have HKl := Lib.hid hkl
      clear hkl
      go_wp2_with fail
      apply Wild.wp_region_free (17) [⟨7, 21, .int .i64 px, false, fun v _ => v = .int .i64 px⟩, ⟨14, 28, .int .i64 py, false, fun v _ => v = .int .i64 py⟩, ⟨16, 30, undef, true, fun u w => QR w u [(px, py)]⟩] [⟨16, 30, fun u w => QR w u [(px, py)]⟩] rfl (by kernel_rfl) (by kernel_rfl) (by kernel_rfl) (by simp) (by kernel_rfl)
      case hstab =>
        intro c hc
        simp only [List.mem_cons, List.not_mem_nil, or_false] at hc
        rcases hc with rfl | rfl | rfl
        · intro v x y hxy hv; exact hv
        · intro v x y hxy hv; exact hv
        · intro v x y hxy hv; exact (fun h k => QR.later k h) hxy hv
      case hfix =>
        intro c hc
        simp only [List.mem_cons, List.not_mem_nil, or_false] at hc
        rcases hc with rfl | rfl | rfl
        · exact .inr fun u x h => h
        · exact .inr fun u x h => h
        · exact .inl rfl
      case hlex =>
        intro U hU
        have q_c0 := cell_on hU c0
        have q_c1 := cell_on hU c1
        simp only [List.map_cons, List.map_nil, CA.act, actFrom, actOp, List.lookup, Nat.reduceBEq, Nat.reduceLeDiff, Nat.reduceAdd, if_false, if_true]
        repeat (go_big_quiet_step (fail))
        exact wpQuiet_nil rfl
      case hstep =>
        intro j hj o ho
        have hj2 : j = 0 ∨ j = 1 ∨ j = 2 := by simp at hj; omega
        rcases hj2 with rfl | rfl | rfl
        · cases ho
          refine ⟨rfl, fun g x hx hp => ?_⟩
          clear hp
          simp only [fillAll, Act.put, List.setIfInBounds_toArray, List.set_cons_zero, List.set_cons_succ]
          refine chain_go ?_ (Wild.free_fix (HD1.out x (HAr.out.trans hx)))
          first | (simp [go_sem, execOp]; done) | simp [go_sem, execOp, hcf]
        · cases ho
          refine ⟨rfl, fun g x hx hp => ?_⟩
          clear hp
          simp only [fillAll, Act.put, List.setIfInBounds_toArray, List.set_cons_zero, List.set_cons_succ]
          refine chain_go ?_ (Wild.free_fix (HD2.out x (HAr.out.trans hx)))
          first | (simp [go_sem, execOp]; done) | simp [go_sem, execOp, hcf]
        · cases ho
          refine ⟨rfl, fun g x hx hp => ?_⟩
          clear hp
          simp only [fillAll, Act.put, List.setIfInBounds_toArray, List.set_cons_zero, List.set_cons_succ]
          refine Wild.free_make (v := .slice (some ⟨x.heap.size, 0, none⟩) 1 1) (w' := x.alloc (.cells #[.int .i64 px, .int .i64 py] 45)) (by simp [go_sem, execOp]) ((AnyLater.refl x).alloc _) (OQ.rq (OQ.one (B := 0) (r := (px, py)) (Nat.zero_le _) (heap_new rfl)))
      case htail =>
        intro g u hst hne
        have b_w2 : AnyLater wr (later u) := ⟨u, rfl⟩
        generalize later u = w2 at *
        clear u hne
        obtain ⟨p30_w2, -⟩ := hst _ (List.mem_of_getElem? (i := 0) rfl)
        (try dsimp only at p30_w2)
        clear hst
        simp only [fillAll, Act.put, List.setIfInBounds_toArray, List.set_cons_zero, List.set_cons_succ, List.drop_succ_cons, List.drop_zero, List.drop_nil]
        generalize g 16 = v30 at *
        have z_w2 := b_w2.below.size
        have a_w2 := a_wr.trans b_w2
        have c0_w2 := cell_on b_w2 c0
        have c1_w2 := cell_on b_w2 c1
        obtain ⟨A7, c7, rfl, -⟩ := p30_w2.form
        have ho2 := OQ.later b_w2 HR.out.2
        obtain ⟨u, w3, q1, q2, q3⟩ := appQ pairCaret ho2 p30_w2 (Nat.le_trans lw b_w2.below.size) (by rw [HKl.out]; simp; have := HL.out; omega)
        rw [show ([(px, py)] : Qs).length = 1 from rfl] at q1
        have K1 := Lib.hid q1
        have K2 := Lib.hid (And.intro (OQ.grown ho2 (Nat.le_refl _) a_w2 q3) q2)
        clear q1 q2 q3 ho2
        go_wp2_with (at_builtin; refine Lib.wpList_append_run _ rfl _ _ _ _ rfl _ _ rfl rfl _ _ K1.out ?_)
        go_roundg (n - (j + 1))
        case measure => omega
        case rel => exact ⟨j + 1, rfl, hlt, by go_num, K2.out.1, by rw [HE.out]; exact K2.out.2⟩
    · obtain rfl : j = n := by omega
      have d9 : decide ((j : Int) < (j : Int)) = false := by simp
      have HE : Hid (QR wr (.slice A4 ((l.take j).map (bothC fz)).length cap4) (l.map (bothC fz))) := Lib.hid (by
        have := OQ.rq HR.out.2
        rwa [List.take_of_length_le (Nat.le_of_eq HN.out)] at this ⊢)
      clear ho
      generalize ((l.take j).map (bothC fz)).length = t at *
      go_wp2_with fail
      refine (HTd.out _ _ HE.out).mono ?_
      rintro e w2 ⟨u, rfl, b2, o2⟩
      have HZ := Lib.hid (And.intro (a_wr.trans b2) (OQ.wide a_wr.below.size o2))
      clear b2 o2
      go_wp2_with fail
      go_ret
      exact ⟨_, rfl, HZ.out.1, HZ.out.2⟩

/-! ### Set -/
theorem set_empty (A : Option Addr) (cap : Nat) (tv : Value) (w : World) : Calls Tryd.prog 7 #[.slice A 0 cap, tv] w fun e w' => e = .returned (.tuple #[.slice none 0 0, .int .i64 7]) ∧ AnyLater w w' := by
  go_enter Tryd.func7, Tryd.ntmps7
  go_wp2_with fail
  refine bodyPost_ret (v := .tuple #[.slice none 0 0, .int .i64 7]) (by simp [results, Tryd.results7, go_sem]) rfl ⟨rfl, AnyLater.refl _⟩
theorem set_far (v tv : Value) (t : Tr) (nn : Nat) (l : Qs) (w : World) (h0 : 0 < l.length) (hw : withinC l (t.len : Int) = false) (hv : QR w v l) (hl : l.length ≤ 39) (h : IsTL w tv t nn) : Calls Tryd.prog 7 #[v, tv] w fun e w' => e = .returned (.tuple #[.slice none 0 0, .int .i64 1]) ∧ AnyLater w w' := by
  have HL := Lib.hid (tlen_any tv t nn w h)
  have HW := Lib.hid (fun (w' : World) (a : AnyLater w w') => kwithin_any v l _ false w' hw (hv.later a) (by omega))
  obtain ⟨A, cap, rfl, -⟩ := hv.form
  have g0 : ((l.length : Int) == 0) = false := by simp; intro e; rw [e] at h0; simp at h0
  have g1 : (l.length == 0) = false := by simp; intro e; rw [e] at h0; simp at h0
  clear hw hv h
  generalize (t.len : Int) = tl at *
  generalize l.length = m at *
  go_enter Tryd.func7, Tryd.ntmps7
  go_wp2_with fail
  refine HL.out.mono ?_
  rintro e w1 ⟨rfl, b1⟩
  have B1 := Lib.hid b1
  clear b1
  go_wp2_with fail
  refine (HW.out _ B1.out).mono ?_
  rintro e w2 ⟨rfl, b2⟩
  have B2 := Lib.hid (B1.out.trans b2)
  clear b2
  go_wp2_with fail
  refine bodyPost_ret (v := .tuple #[.slice none 0 0, .int .i64 1]) (by simp [results, Tryd.results7, go_sem]) rfl ⟨rfl, B2.out⟩
theorem set_yes (v tv : Value) (t : Tr) (nn : Nat) (L : List Int) (fz : Int → Int) (l M : Qs) (w : World) (hfz : ∀ p, ∃ r : Nat, fz p = (r : Int) ∧ SnapP L p r ∧ r ≤ L.length) (hM : movedC fz l = M) (h0 : 0 < l.length) (hw : withinC l (t.len : Int) = true) (hv : QR w v l) (hl : l.length ≤ 39) (hL : t.bs = L) (h : IsTL w tv t nn) (ok : t.Ok) (hb : Bytes L) (hg : GlobU w) :
    Calls Tryd.prog 7 #[v, tv] w fun e w' => ∃ u, e = .returned (.tuple #[u, .int .i64 0]) ∧ AnyLater w w' ∧ OQ 45 w' w.heap.size u M := by
  have HL := Lib.hid (tlen_any tv t nn w h)
  have HW := Lib.hid (fun (w' : World) (a : AnyLater w w') => kwithin_any v l _ true w' hw (hv.later a) (by omega))
  have HS := Lib.hid (fun (w' : World) (a : AnyLater w w') => csnap_any v tv t nn L fz l M w' hfz hM (hv.later a) hl hL (h.later a) ok hb (hg.later a))
  obtain ⟨A, cap, rfl, -⟩ := hv.form
  have g0 : ((l.length : Int) == 0) = false := by simp; intro e; rw [e] at h0; simp at h0
  have g1 : (l.length == 0) = false := by simp; intro e; rw [e] at h0; simp at h0
  have g2 : decide ((65536 : Int) < (l.length : Int)) = false := decide_eq_false (by omega)
  have g3 : decide (65536 < l.length) = false := decide_eq_false (by omega)
  clear hw hv h hfz hM hL ok hb hg
  generalize (t.len : Int) = tl at *
  generalize l.length = m at *
  go_enter Tryd.func7, Tryd.ntmps7
  go_wp2_with fail
  refine HL.out.mono ?_
  rintro e w1 ⟨rfl, b1⟩
  have B1 := Lib.hid b1
  clear b1
  go_wp2_with fail
  refine (HW.out _ B1.out).mono ?_
  rintro e w2 ⟨rfl, b2⟩
  have B2 := Lib.hid (B1.out.trans b2)
  clear b2
  go_wp2_with fail
  refine (HS.out _ B2.out).mono ?_
  rintro e w3 ⟨u, rfl, b3, o3⟩
  have B3 := Lib.hid (And.intro (B2.out.trans b3) (OQ.wide B2.out.below.size o3))
  clear b3 o3
  go_wp2_with fail
  refine bodyPost_ret (v := .tuple #[u, .int .i64 0]) (by simp [results, Tryd.results7, go_sem]) rfl ⟨u, rfl, B3.out⟩
end Go.Proofs.YtkobnijjahpifaaDoor
namespace Go.Proofs.YtkobnijjahpifaaDoor
set_option linter.unusedSimpArgs false
set_option linter.unusedVariables false
set_option linter.unusedSectionVars false
open Go.RowKit

set_option maxRecDepth 100000 in
set_option maxHeartbeats 6400000 in
theorem caretsSets_any (W : World) (v0 v1 : Value) (z0 : List Int) (z1 : Qs) (hb : RN .u8 W v0 z0) (hby : Bytes z0) (hv : QR W v1 z1) (hg : GlobU W) : Calls Tryd.prog 3 #[v0, v1] W fun e w' => e = .returned (.bool true) ∧ AnyLater W w' := by
  obtain ⟨B, hB⟩ : ∃ B, z0.take 80 = B := ⟨_, rfl⟩
  have hB1 : B.length ≤ 80 := by rw [← hB, List.length_take]; omega
  have hBy : Bytes B := by rw [← hB]; exact fun c hc => hby c (List.mem_of_mem_take hc)
  obtain ⟨l, hl⟩ : ∃ l, z1.take 30 = l := ⟨_, rfl⟩
  have hlen : l.length ≤ 30 := by rw [← hl, List.length_take]; omega
  have HF8 := Lib.hid (few_any8 v0 z0 B 80 hB W hb (by omega))
  have HF0 := Lib.hid (fun (w' : World) (a : AnyLater W w') => cfew_any v1 z1 l w' hl (hv.later a))
  have HF := Lib.hid (fun (w : World) (u : Value) (h : QR w u l) => cfew_any u l l w (List.take_of_length_le hlen) h)
  obtain ⟨fz, hfz⟩ := snap_fun hBy
  obtain ⟨M, hM⟩ : ∃ M, movedC fz l = M := ⟨_, rfl⟩
  have hMl : M.length ≤ 30 := by rw [← hM]; exact Nat.le_trans (tidyC_len _) (by rw [List.length_map]; exact hlen)
  have ok : (newT B).Ok := newT_ok hBy (by omega)
  have hbs : (newT B).bs = B := newT_bs B
  have hln : (newT B).len = B.length := by rw [← Tr.len_bs, hbs]
  have HNw := Lib.hid (fun (w' : World) (u : Value) (hu : RN .u8 w' u B) => tnew_yes u B 100 w' hu hBy (by omega) ⟨by decide, by decide⟩ (by omega))
  have HG := Lib.hid hg
  have HSn := Lib.hid (fun (w' : World) (u tv : Value) (a : AnyLater W w') (h : QR w' u l) (k : IsTL w' tv (newT B) (newT B).len) => csnap_any u tv (newT B) _ B fz l M w' hfz hM h (by omega) hbs k ok hBy (hg.later a))
  have HXs := Lib.hid (fun (w' : World) (u bv : Value) (h : QR w' u l) (k : RN .u8 w' bv B) => xcsnap_any u bv B fz l M w' hfz hM h (by omega) k hBy (by omega))
  have HS := Lib.hid (fun (w : World) (u v : Value) (h : QR w u M) (k : QR w v M) => csame_any u v M M w true (by simp) h k (by omega))
  have HLv := Lib.hid clives_any
  obtain ⟨b1, hb1⟩ : ∃ b, withinC l (B.length : Int) = b := ⟨_, rfl⟩
  have HW := Lib.hid (fun (w : World) (u : Value) (h : QR w u l) => xwithin_any u l (B.length : Int) b1 w hb1 h (by omega))
  have HSe : Hid (l.length = 0 → ∀ (w' : World) (u tv : Value), QR w' u l → Calls Tryd.prog 7 #[u, tv] w' fun e w'' => e = .returned (.tuple #[.slice none 0 0, .int .i64 7]) ∧ AnyLater w' w'') := Lib.hid (fun h0 w' u tv h => by
    obtain ⟨A, cap, rfl, -⟩ := h.form
    rw [h0]; exact set_empty A cap tv w')
  have HSf : Hid (0 < l.length → b1 = false → ∀ (w' : World) (u : Value) (tg g : Nat), QR w' u l → IsTx w' tg g 100 (newT B) → Calls Tryd.prog 7 #[u, .pointer (some ⟨tg, 0, none⟩)] w' fun e w'' => e = .returned (.tuple #[.slice none 0 0, .int .i64 1]) ∧ AnyLater w' w'') := Lib.hid (fun h0 hf w' u tg g h k =>
    set_far u _ (newT B) _ l w' h0 (by rw [hln, hb1]; exact hf) h (by omega) k.tl)
  have HSy : Hid (0 < l.length → b1 = true → ∀ (w' : World) (u : Value) (tg g : Nat), AnyLater W w' → QR w' u l → IsTx w' tg g 100 (newT B) → Calls Tryd.prog 7 #[u, .pointer (some ⟨tg, 0, none⟩)] w' fun e w'' => ∃ u, e = .returned (.tuple #[u, .int .i64 0]) ∧ AnyLater w' w'' ∧ QR w'' u M) := Lib.hid (fun h0 ht w' u tg g a h k =>
    (set_yes u _ (newT B) _ B fz l M w' hfz hM h0 (by rw [hln, hb1]; exact ht) h (by omega) hbs k.tl ok hBy (hg.later a)).mono fun _ _ ⟨x, q1, q2, q3⟩ => ⟨x, q1, q2, OQ.rq q3⟩)
  have HSnp : Hid (∀ (w' : World) (u : Value) (tg g : Nat), AnyLater W w' → QR w' u l → IsTx w' tg g 100 (newT B) → Calls Tryd.prog 9 #[u, .pointer (some ⟨tg, 0, none⟩)] w' (RowT w' M)) := Lib.hid (fun w' u tg g a h k => csnap_any u _ (newT B) _ B fz l M w' hfz hM h (by omega) hbs k.tl ok hBy (hg.later a))
  have HGd : Hid (0 < l.length → b1 = true → ∀ (w : World) (u : Value), QR w u M → Calls Tryd.prog 13 #[u, .int .i64 (B.length : Int)] w fun e w' => e = .returned (.bool true) ∧ AnyLater w w') := Lib.hid (fun h0 ht w u hu =>
    kgood_any u M (B.length : Int) true w (by rw [← hM]; exact movedC_good h0 (hb1.trans ht) (fun p _ _ => by obtain ⟨r, e1, _, e2⟩ := hfz p; rw [e1]; omega)) hu (by omega))
  generalize newT B = t at *
  obtain ⟨Ab, cb, rfl, -⟩ := hb.form
  obtain ⟨Al, cl, rfl, -⟩ := hv.form
  obtain ⟨nb, hnb⟩ : ∃ nb, B.length = nb := ⟨_, rfl⟩
  obtain ⟨nl, hnl⟩ : ∃ nl, l.length = nl := ⟨_, rfl⟩
  obtain ⟨nm, hnm⟩ : ∃ nm, M.length = nm := ⟨_, rfl⟩
  have HN := Lib.hid (And.intro hnb (And.intro hnl hnm))
  rw [hnb] at HW HGd
  rw [hnl] at HSe HSf HSy HGd
  have hnb9 : nb ≤ 80 := by omega
  clear hb hby hv hg hB hBy hl hM ok hbs hln hfz hb1 HSn hnb hnl hnm hB1 hlen hMl
  generalize z0.length = m0 at *
  generalize z1.length = m1 at *
  go_enter Tryd.func3, Tryd.ntmps3
  go_wp2_with fail
  refine HF8.out.mono ?_
  rintro e w1 ⟨u1, rfl, b_w1, o1⟩
  have HB1 := Lib.hid b_w1
  have HRb := Lib.hid o1.rn
  obtain ⟨A1, c1, rfl, -⟩ := o1.form
  clear b_w1 o1
  go_wp2_with fail
  refine (HF0.out _ HB1.out).mono ?_
  rintro e w2 ⟨u2, rfl, b_w2, o2⟩
  have HB2 := Lib.hid (HB1.out.trans b_w2)
  have HRb2 := Lib.hid (HRb.out.later b_w2)
  have HRl := Lib.hid (OQ.rq o2)
  obtain ⟨A2, c2, rfl, -⟩ := o2.form
  obtain ⟨u3, w3, k1, k2, k3⟩ := copy8 HRb2.out (by rw [HN.out.1]; omega)
  have K1 := Lib.hid k1
  have HB3 := Lib.hid (And.intro (HB2.out.trans k2) (And.intro (HRb2.out.later k2) (And.intro (HRl.out.later k2) k3.rn)))
  obtain ⟨A3, c3, rfl, -⟩ := k3.form
  rw [HN.out.1] at K1 HB3 ⊢
  rw [HN.out.2.1] at HB3 ⊢
  clear b_w2 o2 k1 k2 k3
  go_wp2_with (at_builtin; refine Lib.wpList_append_run _ rfl _ _ _ _ rfl _ _ rfl rfl _ _ K1.out ?_)
  refine (HNw.out _ _ HB3.out.2.2.2).mono ?_
  rintro e w4 ⟨tg, g, rfl, b_w4, -, -, -, h4⟩
  have HB4 := Lib.hid (And.intro (HB3.out.1.trans b_w4) (And.intro (HB3.out.2.1.later b_w4) (And.intro (HB3.out.2.2.1.later b_w4) h4)))
  clear b_w4 h4 HB1 HB2 HB3 HRb HRb2 HRl HF8 HF0 HNw
  go_wp2_with fail
  refine (HF.out _ _ HB4.out.2.2.1).mono ?_
  rintro e w5 ⟨u5, rfl, b5, o5⟩
  have H5 := Lib.hid (And.intro b5 (OQ.rq o5))
  clear b5 o5
  go_wp2_with fail
  by_cases g0 : nl = 0
  · have HSe2 := Lib.hid (HSe.out g0)
    have g1 : ((nl : Int) == 0) = true := by simp [g0]
    have g1' : (nl == 0) = true := by simp [g0]
    clear g0
    refine (HSe2.out _ _ _ H5.out.2).mono ?_
    rintro e w6 ⟨rfl, b6⟩
    have H6 := Lib.hid (H5.out.1.trans b6)
    clear b6
    go_wp2_with fail
    refine (HF.out _ _ (HB4.out.2.2.1.later H6.out)).mono ?_
    rintro e y1 ⟨x1, rfl, z1, o1⟩
    have Y1 := Lib.hid (And.intro (H6.out.trans z1) (OQ.rq o1))
    clear z1 o1
    go_wp2_with fail
    refine (HSnp.out _ _ tg g (HB4.out.1.trans Y1.out.1) Y1.out.2 (HB4.out.2.2.2.later Y1.out.1)).mono ?_
    rintro e y2 ⟨x2, rfl, z2, o2⟩
    have Y2 := Lib.hid (And.intro (Y1.out.1.trans z2) (OQ.rq o2))
    clear z2 o2
    go_wp2_with fail
    refine (HXs.out _ _ _ (HB4.out.2.2.1.later Y2.out.1) (HB4.out.2.1.later Y2.out.1)).mono ?_
    rintro e y3 ⟨x3, rfl, z3, o3⟩
    have Y3 := Lib.hid (And.intro (Y2.out.1.trans z3) (And.intro (Y2.out.2.later z3) (OQ.rq o3)))
    clear z3 o3
    go_wp2_with fail
    refine (HS.out _ _ _ Y3.out.2.1 Y3.out.2.2).mono ?_
    rintro e y4 ⟨rfl, z4⟩
    have Y4 := Lib.hid (Y3.out.1.trans z4)
    clear z4
    go_wp2_with fail
    refine (HLv.out _).mono ?_
    rintro e y9 ⟨rfl, z9⟩
    have Y9 := Lib.hid (HB4.out.1.trans (Y4.out.trans z9))
    clear z9
    go_wp2_with fail
    go_ret
    exact ⟨rfl, Y9.out⟩
  · have g1 : ((nl : Int) == 0) = false := by simp [g0]
    have g1' : (nl == 0) = false := by simp [g0]
    have gp := Lib.hid (Nat.pos_of_ne_zero g0)
    clear g0
    cases b1 with
    | false =>
      have HSf2 := Lib.hid (HSf.out gp.out (by simp))
      refine (HSf2.out _ _ tg g H5.out.2 (HB4.out.2.2.2.later H5.out.1)).mono ?_
      rintro e w6 ⟨rfl, b6⟩
      have H6 := Lib.hid (H5.out.1.trans b6)
      clear b6
      go_wp2_with fail
      refine (HF.out _ _ (HB4.out.2.2.1.later H6.out)).mono ?_
      rintro e y1 ⟨x1, rfl, z1, o1⟩
      have Y1 := Lib.hid (And.intro (H6.out.trans z1) (OQ.rq o1))
      clear z1 o1
      go_wp2_with fail
      refine (HSnp.out _ _ tg g (HB4.out.1.trans Y1.out.1) Y1.out.2 (HB4.out.2.2.2.later Y1.out.1)).mono ?_
      rintro e y2 ⟨x2, rfl, z2, o2⟩
      have Y2 := Lib.hid (And.intro (Y1.out.1.trans z2) (OQ.rq o2))
      clear z2 o2
      go_wp2_with fail
      refine (HXs.out _ _ _ (HB4.out.2.2.1.later Y2.out.1) (HB4.out.2.1.later Y2.out.1)).mono ?_
      rintro e y3 ⟨x3, rfl, z3, o3⟩
      have Y3 := Lib.hid (And.intro (Y2.out.1.trans z3) (And.intro (Y2.out.2.later z3) (OQ.rq o3)))
      clear z3 o3
      go_wp2_with fail
      refine (HS.out _ _ _ Y3.out.2.1 Y3.out.2.2).mono ?_
      rintro e y4 ⟨rfl, z4⟩
      have Y4 := Lib.hid (Y3.out.1.trans z4)
      clear z4
      go_wp2_with fail
      refine (HW.out _ _ (HB4.out.2.2.1.later Y4.out)).mono ?_
      rintro e y5 ⟨rfl, z5⟩
      have Y5 := Lib.hid (Y4.out.trans z5)
      clear z5
      go_wp2_with fail
      refine (HLv.out _).mono ?_
      rintro e y9 ⟨rfl, z9⟩
      have Y9 := Lib.hid (HB4.out.1.trans (Y5.out.trans z9))
      clear z9
      go_wp2_with fail
      go_ret
      exact ⟨rfl, Y9.out⟩
    | true =>
      have HSy2 := Lib.hid (HSy.out gp.out (by simp))
      have HGd2 := Lib.hid (HGd.out gp.out (by simp))
      refine (HSy2.out _ _ tg g (HB4.out.1.trans H5.out.1) H5.out.2 (HB4.out.2.2.2.later H5.out.1)).mono ?_
      rintro e w6 ⟨ux, rfl, b6, q6⟩
      have H6 := Lib.hid (H5.out.1.trans b6)
      have HX6 := Lib.hid q6
      have hX6 : ∀ y, AnyLater w6 y → QR y ux M := fun y a => HX6.out.later a
      obtain ⟨A6, c6, rfl, -⟩ := q6.form
      rw [HN.out.2.2] at HX6 hX6 ⊢
      have HX6' := Lib.hid hX6
      have H60 := Lib.hid (AnyLater.refl w6)
      have HB6 := Lib.hid (And.intro (HB4.out.1.trans H6.out) (And.intro (HB4.out.2.1.later H6.out) (And.intro (HB4.out.2.2.1.later H6.out) (HB4.out.2.2.2.later H6.out))))
      clear b6 q6 hX6
      go_wp2_with fail
      refine (HF.out _ _ (HB6.out.2.2.1.later H60.out)).mono ?_
      rintro e y1 ⟨x1, rfl, z1, o1⟩
      have Y1 := Lib.hid (And.intro (H60.out.trans z1) (OQ.rq o1))
      clear z1 o1
      go_wp2_with fail
      refine (HSnp.out _ _ tg g (HB6.out.1.trans Y1.out.1) Y1.out.2 (HB6.out.2.2.2.later Y1.out.1)).mono ?_
      rintro e y2 ⟨x2, rfl, z2, o2⟩
      have Y2 := Lib.hid (And.intro (Y1.out.1.trans z2) (OQ.rq o2))
      clear z2 o2
      go_wp2_with fail
      refine (HXs.out _ _ _ (HB6.out.2.2.1.later Y2.out.1) (HB6.out.2.1.later Y2.out.1)).mono ?_
      rintro e y3 ⟨x3, rfl, z3, o3⟩
      have Y3 := Lib.hid (And.intro (Y2.out.1.trans z3) (And.intro (Y2.out.2.later z3) (OQ.rq o3)))
      clear z3 o3
      go_wp2_with fail
      refine (HS.out _ _ _ Y3.out.2.1 Y3.out.2.2).mono ?_
      rintro e y4 ⟨rfl, z4⟩
      have Y4 := Lib.hid (Y3.out.1.trans z4)
      clear z4
      go_wp2_with fail
      refine (HW.out _ _ (HB6.out.2.2.1.later Y4.out)).mono ?_
      rintro e y5 ⟨rfl, z5⟩
      have Y5 := Lib.hid (Y4.out.trans z5)
      clear z5
      go_wp2_with fail
      refine (HXs.out _ _ _ (HB6.out.2.2.1.later Y5.out) (HB6.out.2.1.later Y5.out)).mono ?_
      rintro e y6 ⟨x6, rfl, z6, o6⟩
      have Y6 := Lib.hid (And.intro (Y5.out.trans z6) (OQ.rq o6))
      clear z6 o6
      go_wp2_with fail
      refine (HS.out _ _ _ (HX6'.out _ Y6.out.1) Y6.out.2).mono ?_
      rintro e y7 ⟨rfl, z7⟩
      have Y7 := Lib.hid (Y6.out.1.trans z7)
      clear z7
      go_wp2_with fail
      refine (HGd2.out _ _ (HX6'.out _ Y7.out)).mono ?_
      rintro e y8 ⟨rfl, z8⟩
      have Y8 := Lib.hid (Y7.out.trans z8)
      clear z8
      go_wp2_with fail
      refine (HLv.out _).mono ?_
      rintro e y9 ⟨rfl, z9⟩
      have Y9 := Lib.hid (HB6.out.1.trans (Y8.out.trans z9))
      clear z9
      go_wp2_with fail
      go_ret
      exact ⟨rfl, Y9.out⟩
end Go.Proofs.YtkobnijjahpifaaDoor
