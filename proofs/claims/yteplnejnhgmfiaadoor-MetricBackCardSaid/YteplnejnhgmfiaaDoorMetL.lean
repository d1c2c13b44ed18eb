/- metric: rows that are put together one by one; the law's few: by contract. -/
import Derived.Test.YteplnejnhgmfiaaDoorMetA
import Derived.Test.YteplnejnhgmfiaaDoorFree
import Derived.Deep.LoopGhost
import Derived.Deep.OwnRows
import Derived.Deep.QuietTactic
import Derived.Deep.CutBlock
import Derived.BigRegion
import Derived.RegionTactic
namespace Go.Proofs.YteplnejnhgmfiaaDoor
set_option linter.unusedSimpArgs false
set_option linter.unusedVariables false
set_option linter.unusedSectionVars false
open Go.RowKit

/-- what lies is that row, its lists being the call's own -/
def IsOwn (w : World) (B : Nat) (x : LdV) (r : Ld) : Prop :=
  (OF celF 63 w B (.slice x.a1 x.n1 x.c1) r.cs ∧ ON .i64 3 w B (.slice x.a2 x.n2 x.c2) r.xs) ∧ x.up = r.up ∧ x.dn = r.dn ∧ x.fr = r.fr ∧ x.en = r.en ∧ x.la = r.la
theorem IsOwn.isLd {w : World} {B : Nat} {x : LdV} {r : Ld} (h : IsOwn w B x r) : IsLd w x r := ⟨⟨h.1.1.fr, h.1.2.rn⟩, h.2⟩
theorem IsOwn.later {w w' : World} {B : Nat} {x : LdV} {r : Ld} (h : IsOwn w B x r) (a : AnyLater w w') : IsOwn w' B x r := ⟨⟨h.1.1.later a, ON.later a h.1.2⟩, h.2⟩
/-- an append onto a row of rows leaves rows of other types -/
theorem ld_grown {B C : Nat} {e : TypeId} {size : Nat} {w w2 : World} {v vc : Value} {n : Nat} {xs : List Value} {lv : List LdV} {cs : Array Value} (h : w.ownsRow B e size v n xs) (hne : e ≠ 43) (o : OF ldF 43 w C vc lv) (hg : (w.alloc (.cells cs 43)).grownBy w2 vc.ownBlock) : w2.ownsRow B e size v n xs := by
  have a1 : AnyLater w (w.alloc (.cells cs 43)) := (AnyLater.refl w).alloc _
  have o2 := o.later a1
  have h2 := owns_later a1 h
  refine ⟨h2.1, ?_⟩
  rcases h2.2 with k | ⟨g, cap, cur, h1, h2, h3, h4⟩
  · exact .inl k
  · exact .inr ⟨g, cap, cur, h1, h2, grown_block hg h3 (owns_ne o2 h3 hne), h4⟩
/-- a row of rows that the call owns, their lists its own too -/
def Lds (w : World) (B : Nat) (v : Value) (L : List Ld) : Prop := ∃ lv, OF ldF 43 w B v lv ∧ lv.length = L.length ∧ ∀ (j : Nat) (h : j < lv.length) (h' : j < L.length), IsOwn w B lv[j] L[j]
theorem Lds.lr {w : World} {B : Nat} {v : Value} {L : List Ld} (h : Lds w B v L) : LR w v L := by
  obtain ⟨lv, h1, h2, h3⟩ := h
  exact ⟨lv, h1.fr, h2, fun j k k' => (h3 j k k').isLd⟩
theorem Lds.later {w w' : World} {B : Nat} {v : Value} {L : List Ld} (h : Lds w B v L) (a : AnyLater w w') : Lds w' B v L := by
  obtain ⟨lv, h1, h2, h3⟩ := h
  exact ⟨lv, h1.later a, h2, fun j k k' => (h3 j k k').later a⟩
theorem Lds.form {w : World} {B : Nat} {v : Value} {L : List Ld} (h : Lds w B v L) : ∃ A cap, v = .slice A L.length cap ∧ L.length ≤ cap := h.lr.form
theorem Lds.empty {w : World} {g B : Nat} (hB : B ≤ g) (h : w.heap[g]? = some (.cells #[] 43)) : Lds w B (.slice (some ⟨g, 0, none⟩) 0 0) [] := ⟨[], OF.empty hB h, rfl, fun j h => absurd h (by simp)⟩
/-- append(v, r): r lies as its cells cs -/
theorem Lds.app {w : World} {B : Nat} {v : Value} {L : List Ld} (h : Lds w B v L) (x : LdV) (r : Ld) {cs : Array Value} (hr : (ldF.fl x).toArray = cs) (hx : IsOwn w B x r) (hB : B ≤ w.heap.size) (hl : L.length ≤ 190000) :
    ∃ u w2, (Builtin.append_ #[29, 29] 29 #[v, .slice (some ⟨w.heap.size, 0, none⟩) 1 1]).run Tryd.prog (w.alloc (.cells cs 43)) = .ok u w2 ∧ Lds w2 B u (L ++ [r]) ∧ (∀ W, W.heap.size ≤ B → AnyLater W w → AnyLater W w2) := by
  obtain ⟨lv, h1, h2, h3⟩ := h
  obtain ⟨u, w2, k1, k2, k3, k4⟩ := appF1 ldFT x hr h1 hB (by omega)
  have keep : ∀ y q, IsOwn w B y q → IsOwn w2 B y q := fun y q hy => ⟨⟨ld_grown hy.1.1 (by decide) h1 k4, ld_grown hy.1.2 (by decide) h1 k4⟩, hy.2⟩
  refine ⟨u, w2, k1, ⟨lv ++ [x], k2, by rw [List.length_append, List.length_append, h2]; rfl, fun j hj hj' => ?_⟩, k3⟩
  rw [List.length_append] at hj
  by_cases e : j < lv.length
  · rw [List.getElem_append_left e, List.getElem_append_left (by omega)]
    exact keep _ _ (h3 j e (by omega))
  · have e2 : j = lv.length := by simp at hj; omega
    subst e2
    rw [List.getElem_append_right (Nat.le_refl _), List.getElem_append_right (by omega)]
    simp only [Nat.sub_self, h2, List.getElem_cons_zero]
    exact keep _ _ hx

/-! ### few -/
def fewLd (r : Ld) : Ld := { r with cs := r.cs.take 60, xs := r.xs.take 70 }
def fewL (L : List Ld) : List Ld := (L.take 10).map fewLd
theorem fewL_length (L : List Ld) : (fewL L).length = min 10 L.length := by simp [fewL]
theorem fewL_same {L : List Ld} (h1 : L.length ≤ 10) (h2 : ∀ r ∈ L, r.cs.length ≤ 60 ∧ r.xs.length ≤ 70) : fewL L = L := by
  unfold fewL
  rw [List.take_of_length_le h1]
  apply List.ext_getElem
  · simp
  · intro i h3 h4
    rw [List.getElem_map]
    have h5 := h2 L[i] (List.getElem_mem h4)
    unfold fewLd
    rw [List.take_of_length_le h5.1, List.take_of_length_le h5.2]
theorem fewL_snoc {L : List Ld} {j : Nat} (h : j < L.length) : (L.take (j + 1)).map fewLd = (L.take j).map fewLd ++ [fewLd L[j]] := by
  rw [List.take_succ_eq_append_getElem h, List.map_append]; rfl
set_option maxRecDepth 100000 in
set_option maxHeartbeats 1600000 in
theorem mfew_any (v : Value) (L : List Ld) (w : World) (hv : LR w v L) : Calls Tryd.prog 15 #[v] w fun e w' => ∃ u, e = .returned u ∧ AnyLater w w' ∧ Lds w' w.heap.size u (fewL L) := by
  obtain ⟨A, cap, rfl, hc⟩ := hv.form
  have HV := Lib.hid hv
  obtain ⟨n, hn⟩ : ∃ n, L.length = n := ⟨_, rfl⟩
  have HL := Lib.hid hn
  rw [hn] at HV hc ⊢
  obtain ⟨M, hM⟩ : ∃ M, min 10 n = M := ⟨_, rfl⟩
  have HM := Lib.hid hM
  clear hv hn hM
  have HA0 := Lib.hid ((AnyLater.refl w).alloc (.cells #[] 43))
  have HO0 : Hid (Lds (w.alloc (.cells #[] 43)) w.heap.size (.slice (some ⟨w.heap.size, 0, none⟩) 0 0) []) := Lib.hid (Lds.empty (Nat.le_refl _) (heap_new rfl))
  go_enter Tryd.func15, Tryd.ntmps15
  go_wp2_with fail
  go_loopg [3, 4] M (fun kk sv iv wr => AnyLater w wr ∧ ∃ j : Nat, kk = M - j ∧ j ≤ M ∧ iv = .int .i64 j ∧ Lds wr w.heap.size sv ((L.take j).map fewLd))
  case atStart => exact ⟨HA0.out, 0, by omega, by omega, rfl, HO0.out⟩
  case round =>
    obtain ⟨a_wr, j, hk, hj, rfl, ho⟩ := hrel
    have HA := Lib.hid a_wr
    have HO := Lib.hid ho
    obtain ⟨A3, c3, rfl, h3⟩ := ho.form
    have hlen : ((L.take j).map fewLd).length = j := by rw [List.length_map, List.length_take, HL.out]; have := HM.out; omega
    rw [hlen] at HO h3 ⊢
    clear ho
    by_cases hlt : j < M
    · have hj1 : decide (j < n) = true := decide_eq_true (by have := HM.out; omega)
      have hj2 : (j : Int) < 10 := by have := HM.out; omega
      have hj3 : (j : Int) < (n : Int) := by have := HM.out; omega
      have lj : j < L.length := by rw [HL.out]; have := HM.out; omega
      obtain ⟨b, off, a1, k1, a2, k2, rfl, hb, hcx, c0, c1, c2, c3, c4, c5, c6⟩ := ldAt (HV.out.later a_wr) j lj
      have HT := Lib.hid (fewL_snoc lj)
      have HCX := Lib.hid hcx
      obtain ⟨r, hr⟩ : ∃ r, L[j] = r := ⟨_, rfl⟩
      rw [hr] at HT HCX c0 c1 c2 c3 c4 c5 c6
      obtain ⟨n1, hn1⟩ : ∃ n1, r.cs.length = n1 := ⟨_, rfl⟩
      obtain ⟨n2, hn2⟩ : ∃ n2, r.xs.length = n2 := ⟨_, rfl⟩
      have HN1 := Lib.hid hn1
      have HN2 := Lib.hid hn2
      rw [hn1] at HCX c0
      rw [hn2] at HCX c1
      clear hr hn1 hn2 hcx
      have HF := Lib.hid (fun w2 (a : AnyLater wr w2) => cfew_any (.slice a1 n1 k1) r.cs w2 (HCX.out.1.later a))
      have HXS := Lib.hid (show n2 ≤ 70 ∧ r.xs.take 70 = r.xs ∨ 70 < n2 from by
        by_cases q : 70 < n2
        · exact .inr q
        · exact .inl ⟨by omega, List.take_of_length_le (by rw [HN2.out]; omega)⟩)
      go_wp2_with fail
      go_region
      have b1 : AnyLater wr ((wr.alloc (.cells #[.slice a1 n1 k1, .slice a2 n2 k2, .int .i64 r.up, .int .i64 r.dn, .int .i64 r.fr, .int .i64 r.en, .bool r.la] 43)).drew) := ((AnyLater.refl wr).alloc _).drew
      have s1 : ((wr.alloc (.cells #[.slice a1 n1 k1, .slice a2 n2 k2, .int .i64 r.up, .int .i64 r.dn, .int .i64 r.fr, .int .i64 r.en, .bool r.la] 43)).drew).heap[wr.heap.size]? = some (.cells #[.slice a1 n1 k1, .slice a2 n2 k2, .int .i64 r.up, .int .i64 r.dn, .int .i64 r.fr, .int .i64 r.en, .bool r.la] 43) := heap_new (w := wr) rfl
      generalize (wr.alloc (.cells #[.slice a1 n1 k1, .slice a2 n2 k2, .int .i64 r.up, .int .i64 r.dn, .int .i64 r.fr, .int .i64 r.en, .bool r.la] 43)).drew = w1 at *
      obtain ⟨p, hp⟩ : ∃ p, wr.heap.size = p := ⟨_, rfl⟩
      rw [hp] at s1 ⊢
      have hp0 : w.heap.size ≤ p := by have := HA.out.below.size; omega
      have HPP := Lib.hid hp
      have r1 := own_row s1
      have l1 := own_lt s1
      clear c0 c1 c2 c3 c4 c5 c6 hp
      go_wp2_with fail
      refine (HF.out _ b1).mono ?_
      rintro e w2 ⟨u2, rfl, b_w2, o2⟩
      have b2 := b1.trans b_w2
      have s2 := any_own b_w2 s1
      obtain ⟨A2, c2, rfl, -⟩ := o2.form
      obtain ⟨m1, hm1⟩ : ∃ m1, (r.cs.take 60).length = m1 := ⟨_, rfl⟩
      rw [hm1] at o2 ⊢
      have r2 := own_row s2
      have f2 := own_free s2
      have o3 := owns_set s2 (by decide) (.slice A2 m1 c2) 0 (OF.wide (C := w.heap.size) (by have := HA.out.below.size; have := b1.below.size; omega) o2)
      have s3 : (w2.setCell ⟨p, 0, none⟩ (.slice A2 m1 c2)).heap[p]? = some (.cells #[.slice A2 m1 c2, .slice a2 n2 k2, .int .i64 r.up, .int .i64 r.dn, .int .i64 r.fr, .int .i64 r.en, .bool r.la] 43) := heap_at s2 rfl
      have b3 : AnyLater wr (w2.setCell ⟨p, 0, none⟩ (.slice A2 m1 c2)) := b2.setCell (p := ⟨p, 0, none⟩) (by rw [HPP.out]; exact Nat.le_refl _) _
      go_upto_region 7 with fail
      generalize w2.setCell ⟨p, 0, none⟩ (.slice A2 m1 c2) = w3 at *
      have H3 := Lib.hid (And.intro o3 (And.intro s3 b3))
      have HM1 := Lib.hid hm1
      clear r1 l1 r2 f2 o2 o3 b_w2 b1 b2 s1 s2 hm1 b3 a_wr
      have hway : ∃ A5 n5 k5, RI w3 (.slice A5 n5 k5) (r.xs.take 70) ∧ (r.xs.take 70).length = n5 ∧ (70 < n2 ∧ (∀ w', (Instr.sliceAt 33 (.slice a2 n2 k2) none (some (.int .i64 70)) none).run Tryd.prog w' = .ok (.slice A5 n5 k5) w') ∨ decide ((70 : Int) < (n2 : Int)) = false ∧ A5 = a2 ∧ n5 = n2 ∧ k5 = k2) := by
        have hx := HCX.out.2.later H3.out.2.2
        rcases HXS.out with ⟨h1, h2⟩ | h1
        · exact ⟨a2, n2, k2, by rw [h2]; exact hx, by rw [h2, HN2.out], .inr ⟨decide_eq_false (by omega), rfl, rfl, rfl⟩⟩
        · obtain ⟨A5, k5, h3, h4⟩ := RN.uptoI hx 70 (by rw [HN2.out]; omega)
          exact ⟨A5, 70, k5, h3, by rw [List.length_take, HN2.out]; omega, .inl ⟨h1, h4⟩⟩
      obtain ⟨A5, n5, k5, h5, hn5, hway⟩ := hway
      obtain ⟨u4, w4, q1, q2, q3⟩ := copyI h5 (by rw [List.length_take]; omega)
      have s4 := any_own q2 s3
      obtain ⟨A6, c6, rfl, -⟩ := q3.form
      rw [hn5] at q1 q3
      have o4 := owns_set s4 (by decide) (.slice A6 n5 c6) 1 (owns_later q2 H3.out.1)
      have x4 := owns_set s4 (by decide) (.slice A6 n5 c6) 1 (ON.wide (C := w.heap.size) (by have := HA.out.below.size; have := H3.out.2.2.below.size; omega) q3)
      have s5 : (w4.setCell ⟨p, 1, none⟩ (.slice A6 n5 c6)).heap[p]? = some (.cells #[.slice A2 m1 c2, .slice A6 n5 c6, .int .i64 r.up, .int .i64 r.dn, .int .i64 r.fr, .int .i64 r.en, .bool r.la] 43) := heap_at s4 rfl
      have b5 : AnyLater wr (w4.setCell ⟨p, 1, none⟩ (.slice A6 n5 c6)) := (H3.out.2.2.trans q2).setCell (p := ⟨p, 1, none⟩) (by rw [HPP.out]; exact Nat.le_refl _) _
      have r4 := own_row s4
      have f4 := own_free s4
      have r3 := own_row s3
      have K1 := Lib.hid q1
      have HN5 := Lib.hid hn5
      clear q1 q2 q3 h5 hn5 s3
      rcases hway with ⟨hw, hcut⟩ | ⟨hw, rfl, rfl, rfl⟩
      all_goals
        go_upto_region 10 with (at_builtin; refine Lib.wpList_append_run _ rfl _ _ _ _ rfl _ _ rfl rfl _ _ K1.out ?_)
        generalize w4.setCell ⟨p, 1, none⟩ (.slice A6 n5 c6) = w5 at *
        have HB5 := Lib.hid (HA.out.trans b5)
        have hO5 := HO.out.later b5
        obtain ⟨u6, w6, q1, q2, q3⟩ := hO5.app ⟨A2, m1, c2, A6, n5, c6, r.up, r.dn, r.fr, r.en, r.la⟩ (fewLd r) (cs := #[.slice A2 m1 c2, .slice A6 n5 c6, .int .i64 r.up, .int .i64 r.dn, .int .i64 r.fr, .int .i64 r.en, .bool r.la]) rfl ⟨⟨o4, x4⟩, rfl, rfl, rfl, rfl, rfl⟩ HB5.out.below.size (by rw [hlen]; omega)
        have K2 := Lib.hid q1
        have K3 : Hid (Lds w6 w.heap.size u6 ((L.take (j + 1)).map fewLd)) := Lib.hid (by rw [HT.out]; exact q2)
        have K4 := Lib.hid (q3 w (Nat.le_refl _) HB5.out)
        have r5 := own_row s5
        clear q1 q2 q3 hO5 o4 x4 b5 r4 f4 r3 s4 s5 hw hlen
        go_wp2_with (at_builtin; refine Lib.wpList_append_run _ rfl _ _ _ _ rfl _ _ rfl rfl _ _ K2.out ?_)
        go_roundg (M - (j + 1))
        case measure => omega
        case rel => exact ⟨K4.out, j + 1, rfl, by omega, by go_num, K3.out⟩
    · obtain rfl : j = M := by omega
      have HE : Hid (Lds wr w.heap.size (.slice A3 j c3) (fewL L)) := Lib.hid (by
        have e : fewL L = (L.take j).map fewLd := by
          unfold fewL
          rw [← HM.out]
          by_cases q : n ≤ 10
          · rw [List.take_of_length_le (by rw [HL.out]; exact q), List.take_of_length_le (by rw [HL.out]; omega)]
          · rw [Nat.min_eq_left (by omega)]
        rw [e]; exact HO.out)
      have hway : decide (j < n) = false ∨ decide (j < n) = true ∧ decide ((j : Int) < 10) = false := by
        have := HM.out
        by_cases q : j < n
        · exact .inr ⟨decide_eq_true q, decide_eq_false (by omega)⟩
        · exact .inl (decide_eq_false q)
      clear a_wr hlen
      rcases hway with e1 | ⟨e1, e2⟩
      all_goals
        go_wp2_with fail
        go_ret
        exact ⟨_, rfl, HA.out, HE.out⟩
end Go.Proofs.YteplnejnhgmfiaaDoor
