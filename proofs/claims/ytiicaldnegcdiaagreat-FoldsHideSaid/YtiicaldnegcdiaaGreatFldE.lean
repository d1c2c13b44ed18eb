/- folds, the program: Hidden, hiding, Hides, Heads by contract. -/
import Derived.Test.YtiicaldnegcdiaaGreatFldD
import Derived.Test.YtiicaldnegcdiaaGreatNums
namespace Go.Proofs.YtiicaldnegcdiaaGreat
set_option linter.unusedSimpArgs false
set_option linter.unusedVariables false
set_option linter.unusedSectionVars false
open Go.RowKit

/-! ### Hidden -/
theorem OB.form {w : World} {B : Nat} {v : Value} {l : Bands} (h : OB w B v l) : ∃ A cap, v = .slice A l.length cap := by
  rcases h.2 with ⟨rfl, h0⟩ | ⟨g, c, cur, rfl, _⟩
  · exact ⟨none, 0, by rw [h0]⟩
  · exact ⟨_, c, rfl⟩
theorem OB.none (w : World) (B : Nat) : OB w B (.slice .none 0 0) [] := ⟨rfl, .inl ⟨rfl, rfl⟩⟩
/-- append(v, r) at bands -/
theorem appB1 {w : World} {B : Nat} {v : Value} {l : Bands} (r : Int × Int) (ho : OB w B v l) (hB : B ≤ w.heap.size) (hl : l.length ≤ 190000) :
    ∃ u w2, (Builtin.append_ #[34, 34] 34 #[v, .slice (some ⟨w.heap.size, 0, .none⟩) 1 1]).run Tryz.prog (w.alloc (.cells #[.int .i64 r.1, .int .i64 r.2] 56)) = .ok u w2 ∧ OB w2 B u (l ++ [r]) ∧ ∀ W, W.heap.size ≤ B → AnyLater W w → AnyLater W w2 := by
  have a1 : AnyLater w (w.alloc (.cells #[.int .i64 r.1, .int .i64 r.2] 56)) := (AnyLater.refl w).alloc _
  have hm : RB (w.alloc (.cells #[.int .i64 r.1, .int .i64 r.2] 56)) (.slice (some ⟨w.heap.size, 0, .none⟩) 1 1) [r] := RB.block (l := [r]) (heap_new rfl) rfl (Nat.le_refl 1)
  obtain ⟨u, w2, k1, k2, k3⟩ := run_append_bands (l := l) (l2 := [r]) 34 (Nat.le_trans hB a1.below.size) (ho.later a1) hm (by simp; omega)
  exact ⟨u, w2, k1, k2, fun W h1 h2 => k3 W (h2.trans a1) h1⟩
set_option maxRecDepth 100000 in
set_option maxHeartbeats 1600000 in
theorem fhidden_any (v : Value) (l : Qs) (tg g : Nat) (most : Int) (t : Tr) (w : World) (hv : QR w v l) (hl : l.length ≤ 5000) (h : IsTx w tg g most t) (ok : t.Ok) :
    Calls Tryz.prog 10 #[v, .pointer (some ⟨tg, 0, none⟩)] w (Told w fun k => hidL (fds t) t.len k l) := by
  have hF : (fds t).length ≤ 60000 := by rw [fds_len]; exact ok.nf
  have HI := Lib.hid (fun y => inB_bandS (n := t.len) hF y l)
  have HH := Lib.hid (fun (w' : World) (f e0 : Int) (a : AnyLater w w') => fhides_any f e0 tg g most t _ w' (h.later a) ok rfl)
  obtain ⟨A, cap, rfl, h2, h3⟩ := hv
  have HCC : Hid (∀ (j : Nat) (h : j < l.length), ∃ b off, A = some ⟨b, off, none⟩ ∧ b < w.heap.size ∧ w.cell? ⟨b, off + j * 2, none⟩ = some (.int .i64 l[j].1) ∧ w.cell? ⟨b, off + j * 2 + 1, none⟩ = some (.int .i64 l[j].2)) := Lib.hid (fun j hj => by
    obtain ⟨b, off, e, hb, hc⟩ := h3 (by omega)
    exact ⟨b, off, e, hb, hc j hj⟩)
  clear h3 h ok hF
  obtain ⟨S, hS⟩ : ∃ S : Int × Int → Int × Int, bandS (fds t) t.len = S := ⟨_, rfl⟩
  rw [hS] at HI HH
  generalize (t.len : Int) = n at *
  generalize fds t = F at *
  obtain ⟨m, hm⟩ : ∃ m, l.length = m := ⟨_, rfl⟩
  have HN := Lib.hid hm
  rw [hm] at h2 hl ⊢
  clear hm hS
  go_enter Tryz.func10, Tryz.ntmps10
  go_wp2_with fail
  go_loopg [5, 10] m (fun kk ov iv wr => ∃ (j : Nat), kk = m - j ∧ j ≤ m ∧ iv = .int .i64 (j : Int) ∧ AnyLater w wr ∧ OB wr w.heap.size ov ((l.take j).map S))
  case atStart => exact ⟨0, by omega, by omega, rfl, AnyLater.refl _, OB.none _ _⟩
  case round =>
    obtain ⟨j, hk, hj, rfl, a_wr, ho⟩ := hrel
    have HO := Lib.hid ho
    have HA := Lib.hid a_wr
    obtain ⟨A4, cap4, rfl⟩ := ho.form
    by_cases hlt : j < m
    · have lj : j < l.length := by rw [HN.out]; exact hlt
      obtain ⟨b, off, rfl, hb, k0, k1⟩ := HCC.out j lj
      have c0 : wr.cell? ⟨b, off + j * 2, none⟩ = some (.int .i64 l[j].1) := (a_wr.below.cell hb).trans k0
      have c1 : wr.cell? ⟨b, off + j * 2 + 1, none⟩ = some (.int .i64 l[j].2) := (a_wr.below.cell hb).trans k1
      have HT : Hid ((l.take (j + 1)).map S = (l.take j).map S ++ [S l[j]]) := Lib.hid (by rw [List.take_succ_eq_append_getElem lj, List.map_append]; rfl)
      have HLe : Hid (((l.take j).map S).length ≤ 100000) := Lib.hid (by rw [List.length_map, List.length_take]; omega)
      clear k0 k1 ho
      generalize l[j] = x at *
      obtain ⟨f, e0⟩ := x
      simp only at c0 c1
      have HB := Lib.hid ((AnyLater.refl wr).alloc (.cells #[.int .i64 f, .int .i64 e0] 55))
      have HF := Lib.hid (fun w' a => HH.out w' f e0 a)
      clear a_wr
      generalize S (f, e0) = r at *
      obtain ⟨r1, r2⟩ := r
      generalize hnl : ((l.take j).map S).length = nl at *
      have HM := Lib.hid hnl
      clear hnl
      go_wp2_with (first | (go_at_call 24; refine (HF.out _ (HA.out.trans HB.out)).mono ?_; rintro e w1 ⟨rfl, b1⟩; have hb1 := HB.out.trans b1; obtain ⟨u, w3, q1, q2, q3⟩ := appB1 (r1, r2) (HO.out.later hb1) (HA.out.trans hb1).below.size (by rw [HM.out]; exact Nat.le_trans HLe.out (by decide)); have K1 := Lib.hid q1; have K2 := Lib.hid (And.intro (q3 w (Nat.le_refl _) (HA.out.trans hb1)) q2); clear b1 hb1 q1 q2 q3) | (at_builtin; refine Lib.wpList_append_run _ rfl _ _ _ _ rfl _ _ rfl rfl _ _ K1.out ?_))
      go_roundg (m - (j + 1))
      case measure => omega
      case rel => exact ⟨j + 1, rfl, hlt, by go_num, K2.out.1, by rw [HT.out]; exact K2.out.2⟩
    · obtain rfl : j = m := by omega
      have HE : Hid ((l.take j).map S = l.map S ∧ (l.map S).length ≤ 100000) := Lib.hid ⟨by rw [List.take_of_length_le (Nat.le_of_eq HN.out)], by rw [List.length_map, HN.out]; omega⟩
      have HTd := Lib.hid (tidy_any _ (l.map S) wr (by rw [← HE.out.1]; exact HO.out.reads) HE.out.2)
      clear a_wr ho
      generalize ((l.take j).map S).length = nl at *
      go_wp2_with fail
      refine HTd.out.mono ?_
      rintro e w1 ⟨v1, T, rfl, b1, p1, g1, r1⟩
      have HZ := Lib.hid (And.intro (HA.out.trans b1) (And.intro p1 (And.intro g1 r1)))
      obtain ⟨A5, cap5, rfl, -⟩ := p1
      clear b1 g1 r1
      go_wp2_with fail
      go_ret
      exact ⟨_, T, rfl, HZ.out.1, HZ.out.2.1, HZ.out.2.2.1, fun y => (HZ.out.2.2.2 y).trans (HI.out y)⟩

/-! ### hiding -/
theorem hidclo_any (b1 b2 a e0 : Int) (p q : Nat) (c : Bool) (w : World) (hp : w.heap[p]? = some (.cells #[.int .i64 a] 3)) (hq : w.heap[q]? = some (.cells #[.int .i64 e0] 3)) (hc : hidC a e0 (b1, b2) = c) :
    Calls Tryz.prog 51 #[.agg #[.int .i64 b1, .int .i64 b2], .pointer (some ⟨p, 0, none⟩), .pointer (some ⟨q, 0, none⟩)] w fun e w' => e = .returned (.bool c) ∧ AnyLater w w' := by
  have r8_w := own_row hp
  have l8_w := own_lt hp
  have r9_w := own_row hq
  have l9_w := own_lt hq
  have HO := Lib.hid hc
  unfold hidC at HO
  clear hc hp hq
  have HA := Lib.hid ((AnyLater.refl w).alloc (.cells #[.int .i64 b1, .int .i64 b2] 55))
  by_cases h1 : 0 ≤ b1
  · by_cases h2 : b1 < a
    · by_cases h3 : a ≤ b2
      · by_cases h4 : b2 ≤ e0
        · have HB : Hid (true = c) := Lib.hid (by rw [← HO.out]; exact (decide_eq_true ⟨h1, h2, h3, h4⟩).symm)
          go_enter Tryz.func51, Tryz.ntmps51
          go_wp2_with fail
          go_ret
          exact ⟨ret_bool HB.out, HA.out⟩
        · have HB : Hid (false = c) := Lib.hid (by rw [← HO.out]; exact (decide_eq_false (fun h => h4 h.2.2.2)).symm)
          have d4 : decide (b2 ≤ e0) = false := decide_eq_false h4
          go_enter Tryz.func51, Tryz.ntmps51
          go_wp2_with fail
          go_ret
          exact ⟨ret_bool HB.out, HA.out⟩
      · have HB : Hid (false = c) := Lib.hid (by rw [← HO.out]; exact (decide_eq_false (fun h => h3 h.2.2.1)).symm)
        have d3 : decide (a ≤ b2) = false := decide_eq_false h3
        go_enter Tryz.func51, Tryz.ntmps51
        go_wp2_with fail
        go_ret
        exact ⟨ret_bool HB.out, HA.out⟩
    · have HB : Hid (false = c) := Lib.hid (by rw [← HO.out]; exact (decide_eq_false (fun h => h2 h.2.1)).symm)
      have d2 : decide (b1 < a) = false := decide_eq_false h2
      go_enter Tryz.func51, Tryz.ntmps51
      go_wp2_with fail
      go_ret
      exact ⟨ret_bool HB.out, HA.out⟩
  · have HB : Hid (false = c) := Lib.hid (by rw [← HO.out]; exact (decide_eq_false (fun h => h1 h.1)).symm)
    have d1 : decide (0 ≤ b1) = false := decide_eq_false h1
    go_enter Tryz.func51, Tryz.ntmps51
    go_wp2_with fail
    go_ret
    exact ⟨ret_bool HB.out, HA.out⟩
/-- the closure and what it captures -/
def HidF (a e0 : Int) (W : World) (u : Value) (w : World) : Prop := ∃ p q, u = .func (.func 51) #[] #[.pointer (some ⟨p, 0, none⟩), .pointer (some ⟨q, 0, none⟩)] ∧ w.heap[p]? = some (.cells #[.int .i64 a] 3) ∧ w.heap[q]? = some (.cells #[.int .i64 e0] 3) ∧ W.heap.size ≤ p ∧ W.heap.size ≤ q
theorem HidF.later {a e0 : Int} {W : World} {u : Value} {w w' : World} (h : AnyLater w w') (k : HidF a e0 W u w) : HidF a e0 W u w' := by
  obtain ⟨p, q, e, h1, h2, h3⟩ := k
  exact ⟨p, q, e, any_own h h1, any_own h h2, h3⟩
set_option maxRecDepth 100000 in
theorem fhiding_any (tg g : Nat) (most : Int) (t : Tr) (a : Int) (w : World) (h : IsTx w tg g most t) : Calls Tryz.prog 32 #[.pointer (some ⟨tg, 0, none⟩), .int .i64 a] w fun e w' => ∃ u, e = .returned u ∧ AnyLater w w' ∧ HidF a t.len w u w' := by
  have HL := Lib.hid (fun (w' : World) (b : AnyLater w w') => tlen_any _ t (t.nf + 1) w' (h.later b).tl)
  clear h
  generalize t.len = n at *
  go_enter Tryz.func32, Tryz.ntmps32
  go_wp2_with fail
  first | refine settle_wp (fun wS => AnyLater w wS ∧ wS.heap[w.heap.size]? = some (.cells #[.int .i64 a] 3)) ?_ ?_ | refine settle_calls (fun wS => AnyLater w wS ∧ wS.heap[w.heap.size]? = some (.cells #[.int .i64 a] 3)) ?_ ?_
  · refine ⟨?_, ?_⟩
    · repeat' (first | with_reducible assumption | with_reducible exact AnyLater.refl _ | with_reducible apply AnyLater.setCell | with_reducible apply AnyLater.later | with_reducible apply AnyLater.drewN | with_reducible apply AnyLater.drew | with_reducible apply AnyLater.alloc | ((try simp only [World.size_alloc, World.size_setCell, World.size_drew]); (try dsimp only); omega))
    · ((repeat (first | with_reducible assumption | ((with_reducible apply heap_new); (try simp only [World.size_alloc, World.size_setCell, World.size_drew, World.heap_drewN]); done) | ((with_reducible apply heap_new); (try simp only [World.size_alloc, World.size_setCell, World.size_drew, World.heap_drewN]); omega) | (with_reducible refine heap_old (by (try simp only [World.size_alloc, World.size_setCell, World.size_drew, World.heap_drewN]); omega) ?_) | (with_reducible refine heap_drew ?_) | (with_reducible refine heap_far (by omega) ?_) | (with_reducible apply heap_at))); all_goals rfl)
  rintro w1 ⟨b_w1, s0_w1⟩
  have a_w1 := b_w1
  have r0_w1 := own_row s0_w1
  have f0_w1 := own_free s0_w1
  have l0_w1 := own_lt s0_w1
  have z_w1 := b_w1.below.size
  refine (HL.out _ a_w1).mono ?_
  rintro e w2 ⟨rfl, b_w2⟩
  have z_w2 := b_w2.below.size
  have a_w2 := a_w1.trans b_w2
  have s0_w2 := any_own b_w2 s0_w1
  have r0_w2 := own_row s0_w2
  have f0_w2 := own_free s0_w2
  have l0_w2 := own_lt s0_w2
  (try clear r0_w1); (try clear f0_w1)
  go_wp2_with fail
  go_ret
  exact ⟨_, rfl, a_w2.alloc _, _, _, rfl, heap_old l0_w2 s0_w2, heap_new rfl, Nat.le_refl _, a_w2.below.size⟩
theorem hid_tests (a e0 : Int) (p q : Nat) (P : World → Prop) (hP : ∀ x, P x → x.heap[p]? = some (.cells #[.int .i64 a] 3) ∧ x.heap[q]? = some (.cells #[.int .i64 e0] 3)) : TestsQ P 51 #[.pointer (some ⟨p, 0, none⟩), .pointer (some ⟨q, 0, none⟩)] (hidC a e0) :=
  fun b1 b2 w' h => hidclo_any b1 b2 a e0 p q _ w' (hP w' h).1 (hP w' h).2 rfl
theorem hid_enters : ∀ args w, (callFunc 51 args).run Tryz.prog w = .ok (.enter 51 args) w := enters_of Tryz.func51 (by kernel_rfl) rfl

/-! ### Hides -/
set_option maxRecDepth 100000 in
set_option maxHeartbeats 1600000 in
theorem fhidesline_any (v : Value) (l : Qs) (tg g : Nat) (most : Int) (t : Tr) (y : Int) (c : Bool) (w : World) (hc : hidL (fds t) t.len y l = c) (hv : QR w v l) (hl : l.length ≤ 60000) (h : IsTx w tg g most t) (ok : t.Ok) :
    Calls Tryz.prog 16 #[v, .pointer (some ⟨tg, 0, none⟩), .int .i64 y] w fun e w' => e = .returned (.bool c) ∧ AnyLater w w' := by
  have hfl := fds_len t
  by_cases hy : 0 ≤ y ∧ y < ((t.nf + 1 : Nat) : Int)
  · obtain ⟨k, rfl⟩ := Int.eq_ofNat_of_zero_le hy.1
    have hk : k ≤ t.nf := by omega
    rw [← hidL_C (fds_ok t) (by rw [hfl]; exact hk)] at hc
    have HS := Lib.hid (tstart_yes tg g most t k _ w h ok hk rfl)
    have HH := Lib.hid (fun (w' : World) (a : AnyLater w w') => fhiding_any tg g most t (lnS (fds t) k) w' (h.later a))
    generalize lnS (fds t) k = s at *
    have HC := Lib.hid (fun (w' : World) (u : Value) (W : World) (a : AnyLater w w') (q : HidF s t.len W u w') => (show Calls Tryz.prog 31 #[v, u] w' (fun e w'' => e = .returned (.bool c) ∧ AnyLater w' w'') from by
      obtain ⟨p1, p2, rfl, h1, h2, -⟩ := q
      exact qcontains_any v _ _ (hidC s t.len) l c w' (fun x => x.heap[p1]? = some (.cells #[.int .i64 s] 3) ∧ x.heap[p2]? = some (.cells #[.int .i64 (t.len : Int)] 3)) hc (hv.later a) (by omega) ⟨h1, h2⟩ (fun _ _ k b => ⟨any_own b k.1, any_own b k.2⟩) hid_enters (hid_tests s t.len p1 p2 _ fun _ h => h)))
    obtain ⟨A, cap, rfl, -⟩ := hv.form
    clear h ok hc hv hl hfl hy hk
    generalize l.length = m at *
    generalize (t.len : Int) = n at *
    go_enter Tryz.func16, Tryz.ntmps16
    go_wp2_with fail
    refine HS.out.mono ?_
    rintro e w1 ⟨rfl, b1⟩
    have H1 := Lib.hid b1
    clear b1
    go_wp2_with fail
    refine (HH.out _ H1.out).mono ?_
    rintro e w2 ⟨u, rfl, b2, q2⟩
    have H2 := Lib.hid (And.intro (H1.out.trans b2) q2)
    obtain ⟨p1, p2, rfl, -⟩ := q2
    clear b2
    go_wp2_with fail
    refine (HC.out _ _ _ H2.out.1 H2.out.2).mono ?_
    rintro e w3 ⟨rfl, b3⟩
    have H3 := Lib.hid (H2.out.1.trans b3)
    clear b3
    go_wp2_with fail
    go_ret
    exact ⟨rfl, H3.out⟩
  · rw [hidL_none (by rw [hfl]; omega)] at hc
    have HS := Lib.hid (tstart_no _ t (t.nf + 1) y w h.tl ok hy)
    have HB := Lib.hid hc
    obtain ⟨A, cap, rfl, -⟩ := hv.form
    clear h ok hc hv hl hfl hy
    generalize l.length = m at *
    go_enter Tryz.func16, Tryz.ntmps16
    go_wp2_with fail
    refine HS.out.mono ?_
    rintro e w1 ⟨rfl, b1⟩
    have H1 := Lib.hid b1
    clear b1
    go_wp2_with fail
    go_ret
    exact ⟨ret_bool HB.out, H1.out⟩

/-! ### Heads -/
set_option maxRecDepth 100000 in
set_option maxHeartbeats 1600000 in
theorem fheads_any (v : Value) (l : Qs) (tg g : Nat) (most : Int) (t : Tr) (M : List Int) (w : World) (hM : visZ (fun k => !hidL (fds t) t.len k l && hidL (fds t) t.len (k + 1) l) (t.nf + 1) = M) (hv : QR w v l) (hl : l.length ≤ 1000) (h : IsTx w tg g most t) (ok : t.Ok) :
    Calls Tryz.prog 13 #[v, .pointer (some ⟨tg, 0, none⟩)] w fun e w' => ∃ u, e = .returned u ∧ AnyLater w w' ∧ ON .i64 3 w' w.heap.size u M := by
  have HI := Lib.hid (fhidden_any v l tg g most t w hv (by omega) h ok)
  have HF : Hid (∀ T : Bands, GoodL T → (∀ y, inB T y = hidL (fds t) t.len y l) → T.map (fun b => b.1 - 1) = M ∧ T.length ≤ 5001) := Lib.hid (fun T h1 h2 => by
    have e : T.map (fun b => b.1 - 1) = M := by
      rw [← hM]
      exact heads_eq h1 h2 (fun y hy => by have := hidL_in hy; rw [fds_len] at this; omega)
    exact ⟨e, by
      have := told_len (l := l.map (bandS (fds t) t.len)) h1 (fun y => by rw [h2, inB_bandS (by rw [fds_len]; exact ok.nf)]) (by rw [List.length_map]; omega)
      exact this⟩)
  obtain ⟨A0, cap0, rfl, -⟩ := hv.form
  clear hM hv h ok hl
  generalize l.length = m0 at *
  go_enter Tryz.func13, Tryz.ntmps13
  go_wp2_with fail
  refine HI.out.mono ?_
  rintro e w1 ⟨v1, T, rfl, b1, p1, g1, r1⟩
  obtain ⟨hTM, hT5⟩ := HF.out T g1 r1
  have HT := Lib.hid hTM
  have HG := Lib.hid g1.1
  have HB1 := Lib.hid b1
  obtain ⟨A, cap, rfl, h2, h3⟩ := p1
  have HCC : Hid (∀ (j : Nat) (h : j < T.length), ∃ b off, A = some ⟨b, off, none⟩ ∧ b < w1.heap.size ∧ w1.cell? ⟨b, off + j * 2, none⟩ = some (.int .i64 T[j].1) ∧ w1.cell? ⟨b, off + j * 2 + 1, none⟩ = some (.int .i64 T[j].2)) := Lib.hid (fun j hj => by
    obtain ⟨b, off, e, hb, hc⟩ := h3 (by omega)
    exact ⟨b, off, e, hb, hc j hj⟩)
  obtain ⟨m, hm⟩ : ∃ m, T.length = m := ⟨_, rfl⟩
  have HN := Lib.hid hm
  rw [hm] at h2 hT5 ⊢
  clear hm h3 g1 r1 hTM HF HI b1
  go_wp2_with fail
  go_loopg [5, 12] m (fun kk ov iv wr => ∃ (j : Nat), kk = m - j ∧ j ≤ m ∧ iv = .int .i64 (j : Int) ∧ AnyLater w1 wr ∧ ON .i64 3 wr w1.heap.size ov ((T.take j).map fun b => b.1 - 1))
  case atStart => exact ⟨0, by omega, by omega, rfl, AnyLater.refl _, ⟨rfl, .inl ⟨rfl, rfl⟩⟩⟩
  case round =>
    obtain ⟨j, hk, hj, rfl, a_wr, ho⟩ := hrel
    have HO := Lib.hid ho
    have HA := Lib.hid a_wr
    obtain ⟨A4, cap4, rfl, -⟩ := ho.form
    by_cases hlt : j < m
    · have lj : j < T.length := by rw [HN.out]; exact hlt
      obtain ⟨b, off, rfl, hb, k0, k1⟩ := HCC.out j lj
      have c0 : wr.cell? ⟨b, off + j * 2, none⟩ = some (.int .i64 T[j].1) := (a_wr.below.cell hb).trans k0
      have c1 : wr.cell? ⟨b, off + j * 2 + 1, none⟩ = some (.int .i64 T[j].2) := (a_wr.below.cell hb).trans k1
      have HT2 : Hid ((T.take (j + 1)).map (fun b => b.1 - 1) = (T.take j).map (fun b => b.1 - 1) ++ [T[j].1 - 1]) := Lib.hid (by rw [List.take_succ_eq_append_getElem lj, List.map_append]; rfl)
      have HLe : Hid (((T.take j).map (fun b => b.1 - 1)).length ≤ 90000) := Lib.hid (by rw [List.length_map, List.length_take]; omega)
      obtain ⟨n1, -, -⟩ := HG.out T[j] (List.getElem_mem lj)
      have n2 := (HG.out T[j] (List.getElem_mem lj)).2
      clear k0 k1 ho
      generalize T[j] = x at *
      obtain ⟨f, e0⟩ := x
      simp only at c0 c1 n1 n2 HT2
      have hb1 := (AnyLater.refl wr).alloc (.cells #[.int .i64 f, .int .i64 e0] 56)
      obtain ⟨u, w3, q1, q2, q3⟩ := appI (f - 1) (HO.out.later hb1) (HA.out.trans hb1).below.size HLe.out
      rw [World.size_alloc] at q1
      have K1 := Lib.hid q1
      have K2 := Lib.hid (And.intro (q3 w1 (Nat.le_refl _) (HA.out.trans hb1)) q2)
      clear a_wr hb1 q1 q2 q3
      generalize ((T.take j).map (fun b => b.1 - 1)).length = nl at *
      go_wp2_with (at_builtin; refine Lib.wpList_append_run _ rfl _ _ _ _ rfl _ _ rfl rfl _ _ K1.out ?_)
      go_roundg (m - (j + 1))
      case measure => omega
      case rel => exact ⟨j + 1, rfl, hlt, by go_num, K2.out.1, by rw [HT2.out]; exact K2.out.2⟩
    · obtain rfl : j = m := by omega
      have HE : Hid ((T.take j).map (fun b => b.1 - 1) = M) := Lib.hid (by rw [List.take_of_length_le (Nat.le_of_eq HN.out)]; exact HT.out)
      clear a_wr ho
      generalize ((T.take j).map (fun b => b.1 - 1)).length = nl at *
      go_wp2_with fail
      go_ret
      exact ⟨_, rfl, HB1.out.trans HA.out, by rw [← HE.out]; exact HO.out.wide HB1.out.below.size⟩
end Go.Proofs.YtiicaldnegcdiaaGreat
