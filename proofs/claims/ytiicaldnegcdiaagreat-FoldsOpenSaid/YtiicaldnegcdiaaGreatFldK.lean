/- folds, the program: Opens and Visible by contract. -/
import Derived.Test.YtiicaldnegcdiaaGreatFldJ
namespace Go.Proofs.YtiicaldnegcdiaaGreat
set_option linter.unusedSimpArgs false
set_option linter.unusedVariables false
set_option linter.unusedSectionVars false
open Go.RowKit

/-! ### Opens -/
def opensL (F : List Int) (n y : Int) (l : Qs) : Qs := if 0 ≤ y ∧ y ≤ n then keptQ (hid1 F n ((below y F : Nat) : Int)) l else l
set_option maxRecDepth 100000 in
set_option maxHeartbeats 1600000 in
theorem fopens_any (v : Value) (l : Qs) (tg g : Nat) (most : Int) (t : Tr) (y : Int) (M : Qs) (w : World) (hM : opensL (fds t) t.len y l = M) (hv : QR w v l) (hl : l.length ≤ 60000) (h : IsTx w tg g most t) (ok : t.Ok) (hy : -9223372036854775808 ≤ y ∧ y ≤ 9223372036854775807) :
    Calls Tryz.prog 19 #[v, .pointer (some ⟨tg, 0, none⟩), .int .i64 y] w fun e w' => ∃ u, e = .returned u ∧ AnyLater w w' ∧ QR w' u M := by
  unfold opensL at hM
  by_cases hin : 0 ≤ y ∧ y ≤ (t.len : Int)
  · rw [if_pos hin] at hM
    obtain ⟨k, hk⟩ : ∃ k, below y (fds t) = k := ⟨_, rfl⟩
    obtain ⟨q1, q2, -, -⟩ := below_ln (F := fds t) hin.1 hin.2
    rw [hk] at q1 q2 hM
    have hs0 := (fds_ok t).s0 q1
    have hq : hid1 (fds t) t.len (k : Int) = hidC (lnS (fds t) k) t.len := funext fun s => (hidC_eq (fds_ok t) q1 s).symm
    rw [hq] at hM
    obtain ⟨s, hs⟩ : ∃ s, lnS (fds t) k = s := ⟨_, rfl⟩
    rw [hs] at hM q2 hs0
    have HP := Lib.hid (fplace_any tg g most t y (k : Int) (y - s) true w h ok (by unfold placeK; rw [if_pos hin, hk]) (by unfold placeC; rw [if_pos hin, hk, hs]) (decide_eq_true hin))
    have HC := Lib.hid (fun (w' : World) (a : AnyLater w w') => qclone_any v l w' (hv.later a) (by omega))
    have HH := Lib.hid (fun (w' : World) (a : AnyLater w w') => fhiding_any tg g most t s w' (h.later a))
    have e1 : y - (y - s) = s := by omega
    have HD : Hid (∀ (w1 w2 w3 : World) (u f : Value), OQ 55 w2 w1.heap.size u l → AnyLater w1 w2 → AnyLater w2 w3 → HidF s t.len w2 f w3 → Calls Tryz.prog 38 #[u, f] w3 fun e w' => ∃ r, e = .returned r ∧ AnyLater w1 w' ∧ QR w' r M) := Lib.hid (fun w1 w2 w3 u f ho a12 a23 hf => by
      obtain ⟨p1, p2, rfl, h1, h2, h3, h4⟩ := hf
      refine qdelete_any w1 w1.heap.size u _ _ (hidC s t.len) l M w3 (fun x => x.heap[p1]? = some (.cells #[.int .i64 s] 3) ∧ x.heap[p2]? = some (.cells #[.int .i64 (t.len : Int)] 3)) hM (OQ.later a23 ho) (Nat.le_refl _) (a12.trans a23) (by omega) ⟨h1, h2⟩ (fun _ _ k b => ⟨any_own b k.1, any_own b k.2⟩) (fun x gg i uu hB hg hown hP => ?_) hid_enters (hid_tests s t.len p1 p2 _ fun _ h => h)
      have hgg : gg < w2.heap.size := by
        rcases ho.2 with ⟨rfl, _⟩ | ⟨g2, cap, cur, rfl, _, q, _⟩
        · cases hown
        · obtain rfl : g2 = gg := by simpa [Value.ownBlock] using hown
          exact own_lt q
      exact ⟨heap_far (by omega) hP.1, heap_far (by omega) hP.2⟩)
    have hin2 := hin.2
    have hin1 := hin.1
    have hyl : (y : Int) ≤ 60000 := by have := ok.len; omega
    obtain ⟨A, cap, rfl, -⟩ := hv.form
    clear h ok hv hM hq hk hs q1 hin hl
    generalize (t.len : Int) = n at *
    generalize l.length = m at *
    go_enter Tryz.func19, Tryz.ntmps19
    go_wp2_with fail
    refine HP.out.mono ?_
    rintro e w1 ⟨rfl, b1⟩
    have H1 := Lib.hid b1
    clear b1
    go_wp2_with fail
    refine (HC.out _ H1.out).mono ?_
    rintro e w2 ⟨u2, rfl, b2, o2⟩
    have H2 := Lib.hid (And.intro b2 o2)
    obtain ⟨A2, cap2, rfl, -⟩ := OQ.form o2
    clear b2 o2
    generalize l.length = m2 at *
    go_wp2_with fail
    refine (HH.out _ (H1.out.trans H2.out.1)).mono ?_
    rintro e w3 ⟨f3, rfl, b3, q3⟩
    have H3 := Lib.hid (And.intro b3 q3)
    obtain ⟨p1, p2, rfl, -⟩ := q3
    clear b3
    go_wp2_with fail
    refine (HD.out _ _ _ _ _ H2.out.2 H2.out.1 H3.out.1 H3.out.2).mono ?_
    rintro e w4 ⟨r, rfl, b4, q4⟩
    have H4 := Lib.hid (And.intro (H1.out.trans b4) q4)
    obtain ⟨A4, cap4, rfl, -⟩ := q4.form
    clear b4 q4
    go_wp2_with fail
    go_ret
    exact ⟨_, rfl, H4.out.1, H4.out.2⟩
  · rw [if_neg hin] at hM
    subst hM
    have HP := Lib.hid (fplace_any tg g most t y 0 0 false w h ok (by unfold placeK; rw [if_neg hin]) (by unfold placeC; rw [if_neg hin]) (decide_eq_false hin))
    have HC := Lib.hid (fun (w' : World) (a : AnyLater w w') => qclone_any v l w' (hv.later a) (by omega))
    obtain ⟨A, cap, rfl, -⟩ := hv.form
    clear h ok hv hin hl
    generalize l.length = m at *
    go_enter Tryz.func19, Tryz.ntmps19
    go_wp2_with fail
    refine HP.out.mono ?_
    rintro e w1 ⟨rfl, b1⟩
    have H1 := Lib.hid b1
    clear b1
    go_wp2_with fail
    refine (HC.out _ H1.out).mono ?_
    rintro e w2 ⟨u2, rfl, b2, o2⟩
    have H2 := Lib.hid (And.intro (H1.out.trans b2) (OQ.rq o2))
    obtain ⟨A2, cap2, rfl, -⟩ := OQ.form o2
    clear b2 o2
    generalize l.length = m2 at *
    go_wp2_with fail
    go_ret
    exact ⟨_, rfl, H2.out.1, H2.out.2⟩

/-! ### Visible -/
/-- append(v, x) at numbers; a block of another type stays -/
theorem appI_keep {w : World} {B F : Nat} {cs : Array Value} {t : TypeId} {v : Value} {l : List Int} (x : Int) (ho : ON .i64 3 w B v l) (hB : B ≤ w.heap.size) (hl : l.length ≤ 90000) (hF : w.heap[F]? = some (.cells cs t)) (hne : t ≠ 3) :
    ∃ u w2, (Builtin.append_ #[32, 32] 32 #[v, .slice (some ⟨w.heap.size, 0, none⟩) 1 1]).run Tryz.prog (w.alloc (.cells #[.int .i64 x] 3)) = .ok u w2 ∧ ON .i64 3 w2 B u (l ++ [x]) ∧ (∀ W, W.heap.size ≤ B → AnyLater W w → AnyLater W w2) ∧ w2.heap[F]? = some (.cells cs t) := by
  have a1 : AnyLater w (w.alloc (.cells #[.int .i64 x] 3)) := (AnyLater.refl w).alloc _
  have hm : RN .i64 (w.alloc (.cells #[.int .i64 x] 3)) (.slice (some ⟨w.heap.size, 0, none⟩) 1 1) [x] := (ON.one (B := 0) (Nat.zero_le _) (heap_new rfl)).rn
  have ho2 := ho.later a1
  obtain ⟨u, w2, k1, k2, k3⟩ := appN (s := 32) Tryz.underlying32 info_i64 (by decide) ho2 hm (Nat.le_trans hB a1.below.size) (by simp; omega)
  exact ⟨u, w2, k1, k2, fun W h1 h2 => ON.grown ho2 h1 (h2.trans a1) k3, grown_block k3 (any_own a1 hF) (owns_ne ho2 (any_own a1 hF) hne)⟩
set_option maxRecDepth 100000 in
set_option maxHeartbeats 3200000 in
theorem fvisible_any (v : Value) (l : Qs) (tg g : Nat) (most : Int) (t : Tr) (M : List Int) (w : World) (hM : visZ (fun k => !hidL (fds t) t.len k l) (t.nf + 1) = M) (hv : QR w v l) (hl : l.length ≤ 1000) (h : IsTx w tg g most t) (ok : t.Ok) :
    Calls Tryz.prog 12 #[v, .pointer (some ⟨tg, 0, none⟩)] w fun e w' => ∃ u, e = .returned u ∧ AnyLater w w' ∧ ON .i64 3 w' w.heap.size u M := by
  have hnf := ok.nf
  have HI := Lib.hid (fun (w' : World) (a : AnyLater w w') => fhidden_any v l tg g most t w' (hv.later a) (by omega) (h.later a) ok)
  have HLn := Lib.hid (tlines_some tg g most t w h ok.nf)
  have HTl : Hid (∀ T : Bands, GoodL T → (∀ y, inB T y = hidL (fds t) t.len y l) → T.length ≤ 5000) := Lib.hid (fun T h1 h2 => by
    have := told_len (l := l.map (bandS (fds t) t.len)) h1 (fun y => by rw [h2, inB_bandS (by rw [fds_len]; exact ok.nf)]) (by rw [List.length_map]; omega)
    have h3 := len_one (l := l.map (bandS (fds t) t.len)) h1 (fun y => by rw [h2, inB_bandS (by rw [fds_len]; exact ok.nf)])
    rw [List.length_map] at h3
    omega)
  have HF : Hid (∀ T V : Bands, GoodL V → (∀ y, inB T y = hidL (fds t) t.len y l) → (∀ y, inB V y = (inB [(0, ((t.nf + 1 : Nat) : Int))] y && !inB T y)) → rowsB V = M ∧ V.length ≤ 5000) := Lib.hid (fun T V h1 h2 h3 => by
    have e : ∀ y, inB [(0, ((t.nf + 1 : Nat) : Int))] y = decide (0 ≤ y ∧ y < ((t.nf + 1 : Nat) : Int)) := fun y => by
      rw [inB_cons, inB_nil, Bool.or_false, decide_eq_decide]
      simp only
      omega
    refine ⟨?_, ?_⟩
    · rw [← hM]
      exact vis_eq h1 (fun y => by rw [h3, e, h2])
    · have h4 := len_not (T := V) (a := [(0, ((t.nf + 1 : Nat) : Int))]) (b := l.map (bandS (fds t) t.len)) h1 (fun y => by rw [h3, h2, inB_bandS (by rw [fds_len]; exact ok.nf)])
      rw [List.length_map] at h4
      simp only [List.length_singleton] at h4
      omega)
  have HMl : Hid (M.length ≤ 60001) := Lib.hid (by rw [← hM]; have := visZ_le (fun k => !hidL (fds t) t.len k l) (t.nf + 1); omega)
  obtain ⟨A0, cap0, rfl, -⟩ := hv.form
  clear hM hv h ok hl
  generalize l.length = m0 at *
  obtain ⟨N, hN⟩ : ∃ N : Int, ((t.nf + 1 : Nat) : Int) = N := ⟨_, rfl⟩
  have hN1 : 0 ≤ N ∧ N ≤ 60001 := by omega
  rw [hN] at HLn HF
  clear hN hnf
  go_enter Tryz.func12, Tryz.ntmps12
  go_wp2_with fail
  refine HLn.out.mono ?_
  rintro e w1 ⟨rfl, b1⟩
  have HA1 := Lib.hid b1
  clear b1
  go_wp2_with fail
  have hb1 := (AnyLater.refl w1).alloc (.cells #[.int .i64 0, .int .i64 N] 56)
  have HR1 : Hid (RB (w1.alloc (.cells #[.int .i64 0, .int .i64 N] 56)) (.slice (some ⟨w1.heap.size, 0, none⟩) 1 1) [(0, N)]) := Lib.hid (RB.block (l := [(0, N)]) (heap_new rfl) rfl (Nat.le_refl 1))
  have HA2 := Lib.hid (HA1.out.trans hb1)
  refine (HI.out _ HA2.out).mono ?_
  rintro e w2 ⟨v2, T, rfl, b2, p2, g2, r2⟩
  have HL := Lib.hid (less_any _ v2 [(0, N)] T w2 (HR1.out.later b2) p2 (by simp) (HTl.out T g2 r2))
  have HA3 := Lib.hid (HA2.out.trans b2)
  have HT2 := Lib.hid (fun V hV => HF.out T V hV r2)
  obtain ⟨A2, cap2, rfl, -⟩ := p2
  clear b2 g2 r2 hb1 HF HTl HI HR1
  generalize T.length = mT at *
  go_wp2_with fail
  refine HL.out.mono ?_
  rintro e w3 ⟨v3, V, rfl, b3, p3, g3, r3⟩
  obtain ⟨hVM, hV5⟩ := HT2.out V g3 r3
  have HB3 := Lib.hid (HA3.out.trans b3)
  have HV := Lib.hid hVM
  have HG := Lib.hid g3
  obtain ⟨A, cap, rfl, h2, h3⟩ := p3
  have HCC : Hid (∀ (j : Nat) (h : j < V.length), ∃ b off, A = some ⟨b, off, none⟩ ∧ b < w3.heap.size ∧ w3.cell? ⟨b, off + j * 2, none⟩ = some (.int .i64 V[j].1) ∧ w3.cell? ⟨b, off + j * 2 + 1, none⟩ = some (.int .i64 V[j].2)) := Lib.hid (fun j hj => by
    obtain ⟨b, off, e, hb, hc⟩ := h3 (by omega)
    exact ⟨b, off, e, hb, hc j hj⟩)
  have HLe : Hid (∀ (j : Nat) (h : j < V.length) (i : Nat), i < (V[j].2 - V[j].1).toNat → (rowsB (V.take j) ++ upZ V[j].1 i).length ≤ 90000) := Lib.hid (fun j h i hi => by
    have h1 := HMl.out
    rw [← hVM] at h1
    have h2 := rowsB_append (V.take (j + 1)) (V.drop (j + 1))
    rw [List.take_append_drop, rowsB_take h] at h2
    rw [h2] at h1
    simp only [List.length_append, upZ_len] at h1 ⊢
    omega)
  obtain ⟨m, hm⟩ : ∃ m, V.length = m := ⟨_, rfl⟩
  have HN := Lib.hid hm
  rw [hm] at h2 hV5 ⊢
  clear hm h3 g3 r3 hVM b3 HT2 HL
  go_wp2_with fail
  go_loopg [5, 20] m (fun kk ov iv wr => ∃ (j : Nat), kk = m - j ∧ j ≤ m ∧ iv = .int .i64 (j : Int) ∧ AnyLater w3 wr ∧ ON .i64 3 wr w3.heap.size ov (rowsB (V.take j)))
  case atStart => exact ⟨0, by omega, by omega, rfl, AnyLater.refl _, ⟨rfl, .inl ⟨rfl, rfl⟩⟩⟩
  case round =>
    obtain ⟨j, hk, hj, rfl, a_wr, ho⟩ := hrel
    have HO := Lib.hid ho
    have HA := Lib.hid a_wr
    obtain ⟨A4, cap4, rfl, -⟩ := ho.form
    by_cases hlt : j < m
    · have lj : j < V.length := by rw [HN.out]; exact hlt
      obtain ⟨b, off, rfl, hb, k0, k1⟩ := HCC.out j lj
      have c0 : wr.cell? ⟨b, off + j * 2, none⟩ = some (.int .i64 V[j].1) := (a_wr.below.cell hb).trans k0
      have c1 : wr.cell? ⟨b, off + j * 2 + 1, none⟩ = some (.int .i64 V[j].2) := (a_wr.below.cell hb).trans k1
      have HT2 := Lib.hid (rowsB_take lj)
      have HLj := Lib.hid (HLe.out j lj)
      have n1 := HG.out.1 V[j] (List.getElem_mem lj)
      clear k0 k1 ho
      generalize V[j] = x at *
      obtain ⟨f, e0⟩ := x
      simp only at c0 c1 n1
      obtain ⟨cnt, hcnt⟩ : ∃ cnt, (e0 - f).toNat = cnt := ⟨_, rfl⟩
      simp only [hcnt] at HT2 HLj
      obtain rfl : e0 = f + (cnt : Int) := by omega
      have hb1 := (AnyLater.refl wr).alloc (.cells #[.int .i64 f, .int .i64 (f + (cnt : Int))] 56)
      have sb : (wr.alloc (.cells #[.int .i64 f, .int .i64 (f + (cnt : Int))] 56)).heap[wr.heap.size]? = some (.cells #[.int .i64 f, .int .i64 (f + (cnt : Int))] 56) := heap_new rfl
      have HWb := Lib.hid (And.intro (HA.out.trans hb1) (And.intro sb (HO.out.later hb1)))
      clear hcnt a_wr hb1 sb
      generalize (rowsB (V.take j)).length = nl at *
      go_wp2_with fail
      go_loopg [5, 9] cnt (fun kk ov lv wi => ∃ (i : Nat), kk = cnt - i ∧ i ≤ cnt ∧ lv = .int .i64 (f + (i : Int)) ∧ AnyLater w3 wi ∧ wi.heap[wr.heap.size]? = some (.cells #[.int .i64 f, .int .i64 (f + (cnt : Int))] 56) ∧ ON .i64 3 wi w3.heap.size ov (rowsB (V.take j) ++ upZ f i))
      case atStart => exact ⟨0, by omega, by omega, by go_num, HWb.out.1, HWb.out.2.1, by rw [show upZ f 0 = [] from rfl, List.append_nil]; exact HWb.out.2.2⟩
      case round =>
        obtain ⟨i, hki, hi, rfl, a_wi, s1_wi, hoi⟩ := hrel
        have HOi := Lib.hid hoi
        have HAi := Lib.hid a_wi
        have r1_wi := own_row s1_wi
        obtain ⟨A5, cap5, rfl, -⟩ := hoi.form
        clear hoi
        by_cases hil : i < cnt
        · have d0 : f + (i : Int) < f + (cnt : Int) := by omega
          obtain ⟨u, w6, q1, q2, q3, q4⟩ := appI_keep (f + (i : Int)) HOi.out HAi.out.below.size (HLj.out i hil) s1_wi (by decide)
          have K1 := Lib.hid q1
          have HU : Hid (rowsB (V.take j) ++ upZ f (i + 1) = rowsB (V.take j) ++ upZ f i ++ [f + (i : Int)]) := Lib.hid (by rw [show upZ f (i + 1) = upZ f i ++ [f + (i : Int)] from rfl, List.append_assoc])
          have K2 := Lib.hid (And.intro (q3 w3 (Nat.le_refl _) HAi.out) (And.intro q4 q2))
          clear q1 q2 q3 q4 s1_wi
          generalize (rowsB (V.take j) ++ upZ f i).length = nl5 at *
          have d1 : -1073741824 ≤ f + (i : Int) ∧ f + (i : Int) + 1 ≤ 9223372036854775807 := by omega
          go_wp2_with (at_builtin; refine Lib.wpList_append_run _ rfl _ _ _ _ rfl _ _ rfl rfl _ _ K1.out ?_)
          go_roundg (cnt - (i + 1))
          case measure => omega
          case rel => exact ⟨i + 1, rfl, by omega, by go_num, K2.out.1, K2.out.2.1, by rw [HU.out]; exact K2.out.2.2⟩
        · obtain rfl : i = cnt := by omega
          have d0 : decide (f + (i : Int) < f + (i : Int)) = false := decide_eq_false (by omega)
          generalize (rowsB (V.take j) ++ upZ f i).length = nl5 at *
          go_wp2_with fail
          go_roundg (m - (j + 1))
          case measure => omega
          case rel => exact ⟨j + 1, rfl, hlt, by go_num, HAi.out, by rw [HT2.out]; exact HOi.out⟩
    · obtain rfl : j = m := by omega
      have HE : Hid (rowsB (V.take j) = M) := Lib.hid (by rw [List.take_of_length_le (Nat.le_of_eq HN.out)]; exact HV.out)
      clear a_wr ho
      generalize (rowsB (V.take j)).length = nl at *
      go_wp2_with fail
      go_ret
      exact ⟨_, rfl, HB3.out.trans HA.out, by rw [← HE.out]; exact HO.out.wide HB3.out.below.size⟩
end Go.Proofs.YtiicaldnegcdiaaGreat
