/- what the proof stands on: MetO MetB MetC CelE MetOk -/
import Derived.Test.YtamhnffokoejjaaGreatDoorKnbc
import Derived.Test.YtamhnffokoejjaaGreatDoorKnbd
import Derived.Deep.LoopGhost
import Derived.Deep.OwnRows
import Derived.Deep.QuietTactic
import Derived.Test.YtamhnffokoejjaaGreatDoorKnad
import Derived.Test.YtamhnffokoejjaaGreatDoorKnaz
namespace Go.Proofs.YtamhnffokoejjaaGreatDoor
set_option linter.unusedSimpArgs false
set_option linter.unusedVariables false
set_option linter.unusedSectionVars false
open Go.RowKit
theorem wRows_at {l : Cels} {m : Int} : ∀ g f, f ≤ l.length → ∀ (j : Nat) (r : Rw), (wRows l m g f)[j]? = some r → ∃ a b : Nat, r = ((a : Int), (b : Int), wEnd l a b) ∧ a ≤ b ∧ b ≤ l.length
  | 0, _, _, j, r, h => by simp [wRows] at h
  | g + 1, f, hf, j, r, h => by
    have k := wNext_in (W := m) hf
    rw [wRows_succ] at h
    cases j with
    | zero =>
      rw [List.getElem?_cons_zero, Option.some.injEq] at h
      exact ⟨f, _, h.symm, k.1, k.2.1⟩
    | succ j =>
      rw [List.getElem?_cons_succ] at h
      split at h
      · simp at h
      · exact wRows_at g _ k.2.1 j r h
theorem rowsW_at (l : Cels) (x : Int) (j : Nat) (h : j < (rowsW l x).length) : ∃ a b : Nat, (rowsW l x)[j] = ((a : Int), (b : Int), wEnd l a b) ∧ a ≤ b ∧ b ≤ l.length := wRows_at _ _ (Nat.zero_le _) j _ (List.getElem?_eq_getElem h)
theorem rowsW_pos (l : Cels) (x : Int) : 1 ≤ (rowsW l x).length ∧ (rowsW l x).length ≤ l.length + 1 := by
  refine ⟨?_, wRows_len _ _ _ _⟩
  unfold rowsW
  rw [wRows_succ]
  simp
theorem rowCels_at {C : Cels} {a b : Nat} {e : Int} (hb : b ≤ C.length) : rowCels C ((a : Int), (b : Int), e) = (C.take b).drop a ∧ (rowCels C ((a : Int), (b : Int), e)).length = b - a := by
  unfold rowCels
  simp only [Int.toNat_natCast]
  exact ⟨trivial, by rw [List.length_drop, List.length_take]; omega⟩
theorem celsU_small {l : List Int} (hb : Bytes l) {sty : Nat → Int} (hl : l.length ≤ 1000) (c : Nat) : SmallC (celsU l sty c) := by
  intro x hx
  obtain ⟨j, _, rfl⟩ := List.mem_map.1 hx
  have h1 := it_le hb j
  have h2 := dec_len (hb.drop (it l j))
  simp only
  omega
theorem SmallC.part {C : Cels} (h : SmallC C) (i j : Nat) : SmallC ((C.take j).drop i) := fun c hc => h c (List.mem_of_mem_take (List.mem_of_mem_drop hc))
theorem CelsOk.part {C : Cels} (h : CelsOk C) (i j : Nat) : CelsOk ((C.take j).drop i) := fun c hc => h c (List.mem_of_mem_take (List.mem_of_mem_drop hc))
def zeroLd : LdV := { a1 := none, n1 := 0, c1 := 0, a2 := none, n2 := 0, c2 := 0, up := 0, dn := 0, fr := 0, en := 0, la := false }
theorem mmade (n : Nat) (hn : n ≤ 1000) (w : World) : ∃ w2, (Instr.makeSlice 55 (.int .i64 (n : Int)) (.int .i64 (n : Int))).run Tryz.prog w = .ok (.slice (some ⟨w.heap.size, 0, none⟩) n n) w2 ∧ AnyLater w w2 ∧ OF ldF 110 w2 w.heap.size (.slice (some ⟨w.heap.size, 0, none⟩) n n) (List.replicate n zeroLd) := makeF ldFT zeroLd rfl n (by omega) w
theorem linesL_eq {C : Cels} {x : Int} {RW : Rws} {n : Nat} (h : rowsW C x = RW) (hn : RW.length = n) : linesL C x = (List.range n).map fun j => layL (rowCels C (RW.getD j (0, 0, 0))) (decide (j + 1 = n)) := by
  unfold linesL
  rw [h, hn]
theorem linesL_few (C : Cels) (x : Int) : (linesL C x).length ≤ C.length + 1 ∧ ∀ r ∈ linesL C x, r.cs.length ≤ C.length ∧ r.xs.length ≤ C.length + 1 := by
  refine ⟨by rw [linesL_length]; exact (rowsW_pos C x).2, fun r hr => ?_⟩
  obtain ⟨j, -, rfl⟩ := List.mem_map.1 hr
  have : (rowCels C ((rowsW C x).getD j (0, 0, 0))).length ≤ C.length := by
    unfold rowCels
    rw [List.length_drop, List.length_take]
    omega
  refine ⟨this, ?_⟩
  show (xsC 0 _).length ≤ _
  rw [xsC_length]
  omega
theorem styD_i64 (rl : Runs) (f : Int) (n p : Nat) : I64s ((styD rl f n).getD p 0) := by
  rw [List.getD_eq_getElem?_getD]
  cases h : (styD rl f n)[p]? with
  | none => exact ⟨by decide, by decide⟩
  | some s => exact goodS_i64 (styD_good s (List.mem_of_getElem? h))
set_option maxRecDepth 100000 in
set_option maxHeartbeats 1600000 in
theorem mline_any (v vr : Value) (l : List Int) (rl : Runs) (f x : Int) (c : Nat) (w : World) (hv : RU8 w v l) (hb : Bytes l) (hl : l.length ≤ 900) (hg : GlobU w) (hc : Cnt l c) (hr : RRn w vr rl) (hN : NumsR rl) (hrl : rl.length ≤ 90000) (hf : I64s f) (hx : I64s x) :
    Calls Tryz.prog 116 #[v, vr, .int .i64 f, .int .i64 x] w fun e w' => ∃ u, e = .returned u ∧ AnyLater w w' ∧ Lds w' w.heap.size u (linesL (celsU l (fun p => (styD rl f l.length).getD p 0) c) x) := by
  have HCO := Lib.hid (cof_any v vr l rl f c w hv hb hl hg hc hr hN hrl hf)
  have hcl := hc.le hb
  have hC1 := celsU_ok (sty := fun p => (styD rl f l.length).getD p 0) hb (styD_i64 rl f l.length) (by omega) c
  have hC2 := celsU_small (sty := fun p => (styD rl f l.length).getD p 0) hb (by omega) c
  have hC3 := celsU_length l (fun p => (styD rl f l.length).getD p 0) c
  obtain ⟨C, hC⟩ : ∃ C, celsU l (fun p => (styD rl f l.length).getD p 0) c = C := ⟨_, rfl⟩
  rw [hC] at HCO hC1 hC2 hC3 ⊢
  have HOK := Lib.hid hC1
  have HSM := Lib.hid hC2
  have HCL := Lib.hid hC3
  have hRN := rowsW_pos C x
  have HRA := Lib.hid (rowsW_at C x)
  obtain ⟨RW, hRW⟩ : ∃ RW, rowsW C x = RW := ⟨_, rfl⟩
  have HWR := Lib.hid (fun v w (hv : FR celF w v C) => wrows_any v C x w hv hC1 (by omega) hx)
  rw [hRW] at hRN HRA HWR
  obtain ⟨n, hn⟩ : ∃ n, RW.length = n := ⟨_, rfl⟩
  have HNN := Lib.hid hn
  have HLI := Lib.hid (linesL_eq hRW hn)
  rw [hn] at hRN
  have hn1 := hRN.1
  have hn2 : n ≤ 1000 := by omega
  have hc900 : c ≤ 900 := by omega
  obtain ⟨A, cap, rfl, hcap⟩ := hv.form
  obtain ⟨A2, cap2, rfl, -, -⟩ := hr
  generalize l.length = L at *
  generalize rl.length = R at *
  clear hv hb hl hg hc hN hrl hf hC1 hC2 hC3 hC hRN hRW hn hcl hx
  go_enter Tryz.func116, Tryz.ntmps116
  go_wp2_with fail
  refine HCO.out.mono ?_
  rintro e w1 ⟨u1, rfl, b1, o1⟩
  obtain ⟨A3, c3, rfl, h3⟩ := o1.form
  rw [HCL.out] at o1 h3 ⊢
  have H1 := Lib.hid (And.intro b1 (OF.fr o1))
  clear b1 o1
  go_wp2_with fail
  refine (HWR.out _ _ H1.out.2).mono ?_
  rintro e w2 ⟨u2, rfl, b2, o2⟩
  obtain ⟨A4, c4, rfl, h4⟩ := o2.form
  have H2 := Lib.hid (And.intro (H1.out.1.trans b2) (And.intro (H1.out.2.later b2) (OF.fr o2)))
  rw [HNN.out] at h4 ⊢
  clear b2 o2
  obtain ⟨w3, k1, k2, k3⟩ := mmade n (by omega) w2
  have HM := Lib.hid k1
  have H3 := Lib.hid (And.intro k2 (k3.wide H2.out.1.below.size))
  have hgp : w2.heap.size ≤ w2.heap.size := Nat.le_refl _
  have hwp : w.heap.size ≤ w2.heap.size := H2.out.1.below.size
  have hk := HM.out
  obtain ⟨g, hgg⟩ : ∃ g, w2.heap.size = g := ⟨_, rfl⟩
  rw [hgg] at hk H3
  have hgp2 : w2.heap.size ≤ g := by omega
  clear k1 k2 k3 hgg HM hgp
  go_wp2_with fail
  go_loopg [26] n (fun kk iv wr => AnyLater w2 wr ∧ ∃ (j : Nat) (lv : List LdV), kk = n - j ∧ j ≤ n ∧ iv = .int .i64 j ∧ lv.length = n ∧ OF ldF 110 wr w.heap.size (.slice (some ⟨g, 0, none⟩) n n) lv ∧ ∀ (i : Nat) (h : i < lv.length), i < j → IsOwn wr w.heap.size lv[i] (layL (rowCels C (RW.getD i (0, 0, 0))) false))
  case atStart => exact ⟨H3.out.1, 0, List.replicate n zeroLd, by omega, by omega, rfl, by simp, H3.out.2, fun i h h0 => absurd h0 (by omega)⟩
  case round =>
    obtain ⟨a_wr, j, lv, hk2, hj, rfl, hlv, ho, hown⟩ := hrel
    have HA := Lib.hid a_wr
    have HO := Lib.hid ho
    have HW := Lib.hid hown
    have HLV := Lib.hid hlv
    clear ho hown hlv
    by_cases hlt : j < n
    · have lj : j < RW.length := by rw [HNN.out]; exact hlt
      obtain ⟨a, b, hab, ha, hb⟩ := HRA.out j lj
      have hrg : RW.getD j (0, 0, 0) = ((a : Int), (b : Int), wEnd C a b) := by rw [List.getD_eq_getElem?_getD, List.getElem?_eq_getElem lj, Option.getD_some, hab]
      obtain ⟨e1, e2⟩ := rowCels_at (C := C) (a := a) (b := b) (e := wEnd C a b) hb
      rw [← hrg] at e1 e2
      obtain ⟨bb, off, eA, hbb, c0, c1, c2⟩ := rowAt (H2.out.2.2.later a_wr) j lj
      rw [hab] at c0 c1 c2
      simp only at c0 c1 c2
      subst eA
      obtain ⟨u5, hu5, hcut⟩ := (H2.out.2.1).partF celFT a b ha hb
      obtain ⟨E, hE⟩ : ∃ E, wEnd C a b = E := ⟨_, rfl⟩
      rw [hE] at c2
      obtain ⟨P, hP⟩ : ∃ P, (C.take b).drop a = P := ⟨_, rfl⟩
      have o1 := HOK.out.part a b
      have o2 := HSM.out.part a b
      rw [e1, hP] at e2
      rw [hP] at e1 hu5 o1 o2
      obtain ⟨m, hm⟩ : ∃ m, P.length = m := ⟨_, rfl⟩
      have hm2 : m ≤ 900 := by have := HCL.out; omega
      have HRC := Lib.hid (And.intro e1 hm)
      have HCN := Lib.hid (fun w4 (h : AnyLater w2 w4) => mclone_any u5 P w4 (hu5.later h) (by omega))
      have HLY := Lib.hid (fun A cap w h => mlay_any A cap m P w hm h o1 o2 (by omega))
      obtain ⟨U, hU⟩ : ∃ U, upL P = U := ⟨_, rfl⟩
      obtain ⟨D, hD⟩ : ∃ D, dnL P = D := ⟨_, rfl⟩
      obtain ⟨X, hX⟩ : ∃ X, frL P = X := ⟨_, rfl⟩
      obtain ⟨Y, hY⟩ : ∃ Y, toL P = Y := ⟨_, rfl⟩
      rw [hU, hD, hX, hY] at HLY
      have HLD : Hid (layL (rowCels C (RW.getD j (0, 0, 0))) false = ⟨P, xsC 0 P, U, D, X, Y, false⟩ ∧ (xsC 0 P).length = m + 1) := Lib.hid ⟨by rw [e1]; unfold layL; rw [hU, hD, hX, hY], by rw [xsC_length, hm]⟩
      clear e1 e2 hab hE hrg hP hm o1 o2 hu5 hU hD hX hY
      have i0 : (j : Int) < (n : Int) := by omega
      go_wp2_with fail
      first | refine settle_wp (fun wS => AnyLater wr wS ∧ wS.heap[wr.heap.size]? = some (.cells #[.int .i64 a, .int .i64 b, .int .i64 E] 184)) ?_ ?_ | refine settle_calls (fun wS => AnyLater wr wS ∧ wS.heap[wr.heap.size]? = some (.cells #[.int .i64 a, .int .i64 b, .int .i64 E] 184)) ?_ ?_
      · refine ⟨?_, ?_⟩
        · repeat' (first | with_reducible assumption | with_reducible exact AnyLater.refl _ | with_reducible apply AnyLater.setCell | with_reducible apply AnyLater.later | with_reducible apply AnyLater.drewN | with_reducible apply AnyLater.drew | with_reducible apply AnyLater.alloc | ((try simp only [World.size_alloc, World.size_setCell, World.size_drew]); (try dsimp only); omega))
        · ((repeat (first | with_reducible assumption | ((with_reducible apply heap_new); (try simp only [World.size_alloc, World.size_setCell, World.size_drew, World.heap_drewN]); done) | ((with_reducible apply heap_new); (try simp only [World.size_alloc, World.size_setCell, World.size_drew, World.heap_drewN]); omega) | (with_reducible refine heap_old (by (try simp only [World.size_alloc, World.size_setCell, World.size_drew, World.heap_drewN]); omega) ?_) | (with_reducible refine heap_drew ?_) | (with_reducible refine heap_far (by omega) ?_) | (with_reducible apply heap_at))); all_goals rfl)
      rintro w4 ⟨b_w4, s0_w4⟩
      have a_w4 := a_wr.trans b_w4
      have r0_w4 := own_row s0_w4
      have f0_w4 := own_free s0_w4
      have l0_w4 := own_lt s0_w4
      have z_w4 := b_w4.below.size
      have HB4 := Lib.hid b_w4
      clear c0 c1 c2 hbb b_w4
      go_wp2_with fail
      refine (HCN.out _ (a_wr.trans HB4.out)).mono ?_
      rintro e w5 ⟨u6, rfl, b5, o5⟩
      obtain ⟨A6, c6, rfl, -⟩ := o5.form
      rw [HRC.out.2] at o5 ⊢
      have H5 := Lib.hid (And.intro b5 o5)
      clear b5 o5
      go_wp2_with fail
      refine (HLY.out _ _ _ (OF.fr H5.out.2)).mono ?_
      rintro e w6 ⟨A7, c7, rfl, b6, o6⟩
      have b46 := HB4.out.trans (H5.out.1.trans b6)
      have H6 := Lib.hid (And.intro b46 (And.intro (OF.later b6 H5.out.2) o6))
      have HO6 := Lib.hid (HO.out.later b46)
      obtain ⟨g', cap', cur, e', hB, s_w6, hcur⟩ := HO6.out.where (by rw [HLV.out]; omega)
      obtain rfl : g = g' := by cases e'; rfl
      have lk : j < lv.length := by rw [HLV.out]; omega
      obtain ⟨q, hq⟩ : ∃ q, lv[j] = q := ⟨_, rfl⟩
      have r_w6 := own_row s_w6
      have f_w6 := own_free s_w6
      have q0 : w6.cell? ⟨g, j * 7, none⟩ = some (.slice q.a1 q.n1 q.c1) := by rw [r_w6]; exact (hcur j lk 0 (by decide)).trans (by rw [hq]; rfl)
      have q1 : w6.cell? ⟨g, j * 7 + 1, none⟩ = some (.slice q.a2 q.n2 q.c2) := by rw [r_w6]; exact (hcur j lk 1 (by decide)).trans (by rw [hq]; rfl)
      have q2 : w6.cell? ⟨g, j * 7 + 2, none⟩ = some (.int .i64 q.up) := by rw [r_w6]; exact (hcur j lk 2 (by decide)).trans (by rw [hq]; rfl)
      have q3 : w6.cell? ⟨g, j * 7 + 3, none⟩ = some (.int .i64 q.dn) := by rw [r_w6]; exact (hcur j lk 3 (by decide)).trans (by rw [hq]; rfl)
      have q4 : w6.cell? ⟨g, j * 7 + 4, none⟩ = some (.int .i64 q.fr) := by rw [r_w6]; exact (hcur j lk 4 (by decide)).trans (by rw [hq]; rfl)
      have q5 : w6.cell? ⟨g, j * 7 + 5, none⟩ = some (.int .i64 q.en) := by rw [r_w6]; exact (hcur j lk 5 (by decide)).trans (by rw [hq]; rfl)
      have q6 : w6.cell? ⟨g, j * 7 + 6, none⟩ = some (.bool q.la) := by rw [r_w6]; exact (hcur j lk 6 (by decide)).trans (by rw [hq]; rfl)
      have oE := HO6.out.put (i := j) ⟨A6, m, c6, A7, m + 1, c7, U, D, X, Y, false⟩ lk
      have aE := any_setCells hgp2 (ldF.fl ⟨A6, m, c6, A7, m + 1, c7, U, D, X, Y, false⟩) (j * 7) w6 (a_wr.trans H6.out.1)
      have HE : Hid (AnyLater w2 (w6.setCells g (j * 7) [.slice A6 m c6, .slice A7 (m + 1) c7, .int .i64 U, .int .i64 D, .int .i64 X, .int .i64 Y, .bool false]) ∧ ∃ lv2 : List LdV, lv2.length = n ∧ OF ldF 110 (w6.setCells g (j * 7) [.slice A6 m c6, .slice A7 (m + 1) c7, .int .i64 U, .int .i64 D, .int .i64 X, .int .i64 Y, .bool false]) w.heap.size (.slice (some ⟨g, 0, none⟩) n n) lv2 ∧ ∀ (i : Nat) (h : i < lv2.length), i < j + 1 → IsOwn (w6.setCells g (j * 7) [.slice A6 m c6, .slice A7 (m + 1) c7, .int .i64 U, .int .i64 D, .int .i64 X, .int .i64 Y, .bool false]) w.heap.size lv2[i] (layL (rowCels C (RW.getD i (0, 0, 0))) false)) := Lib.hid (by
        refine ⟨aE, _, by rw [List.length_set]; exact HLV.out, oE, fun i hi hi2 => ?_⟩
        have keep : ∀ y r, IsOwn w6 w.heap.size y r → IsOwn (w6.setCells g (j * 7) [.slice A6 m c6, .slice A7 (m + 1) c7, .int .i64 U, .int .i64 D, .int .i64 X, .int .i64 Y, .bool false]) w.heap.size y r := fun y r hy => ⟨⟨owns_setCells (by decide) _ _ _ _ s_w6 hy.1.1, owns_setCells (by decide) _ _ _ _ s_w6 hy.1.2⟩, hy.2⟩
        by_cases e : i = j
        · subst e
          rw [List.getElem_set_self, HLD.out.1]
          refine keep _ _ ⟨⟨?_, ?_⟩, rfl, rfl, rfl, rfl, rfl⟩
          · exact OF.wide (by have := a_wr.below.size; have := HB4.out.below.size; omega) H6.out.2.1
          · exact ON.wide (by have := a_wr.below.size; have := HB4.out.below.size; have := H5.out.1.below.size; omega) H6.out.2.2
        · rw [List.getElem_set_ne (by omega)]
          rw [List.length_set] at hi
          exact keep _ _ ((HW.out i hi (by omega)).later H6.out.1))
      clear b6 o6 b46 hcur hq e' r_w6 a_wr s_w6 oE aE
      go_wp2_with fail
      go_roundg (n - (j + 1))
      case measure => omega
      case rel =>
        obtain ⟨h1, lv2, h2, h3, h4⟩ := HE.out
        exact ⟨h1, j + 1, lv2, rfl, by omega, by go_num, h2, h3, h4⟩
    · obtain rfl : j = n := by omega
      obtain ⟨g', cap', cur, e', hB, s_wr, hcur⟩ := HO.out.where (by rw [HLV.out]; omega)
      obtain rfl : g = g' := by cases e'; rfl
      have lk : j - 1 < lv.length := by rw [HLV.out]; omega
      obtain ⟨q, hq⟩ : ∃ q, lv[j - 1] = q := ⟨_, rfl⟩
      have r_wr := own_row s_wr
      have f_wr := own_free s_wr
      have cc : wr.cell? ⟨g, (j - 1) * 7 + 6, none⟩ = some (.bool q.la) := by rw [r_wr]; exact (hcur (j - 1) lk 6 (by decide)).trans (by rw [hq]; rfl)
      have oE := HO.out.field (i := j - 1) { q with la := true } 6 (.bool true) lk (by decide) (by rw [hq]; rfl)
      have aE := H2.out.1.trans (a_wr.setCell (p := ⟨g, (j - 1) * 7 + 6, none⟩) hgp2 (.bool true))
      have HE : Hid (Lds (wr.setCell ⟨g, (j - 1) * 7 + 6, none⟩ (.bool true)) w.heap.size (.slice (some ⟨g, 0, none⟩) j j) (linesL C x)) := Lib.hid (by
        rw [HLI.out]
        refine ⟨_, oE, by simp [HLV.out], fun i hi hi' => ?_⟩
        have keep : ∀ y r, IsOwn wr w.heap.size y r → IsOwn (wr.setCell ⟨g, (j - 1) * 7 + 6, none⟩ (.bool true)) w.heap.size y r := fun y r hy => ⟨⟨owns_set s_wr (by decide) (.bool true) _ hy.1.1, owns_set s_wr (by decide) (.bool true) _ hy.1.2⟩, hy.2⟩
        rw [List.length_set, HLV.out] at hi
        rw [List.getElem_map, List.getElem_range]
        have hw := keep _ _ (HW.out i (by rw [HLV.out]; exact hi) hi)
        by_cases e : i = j - 1
        · subst e
          rw [List.getElem_set_self, decide_eq_true (by omega)]
          rw [hq] at hw
          exact ⟨hw.1, hw.2.1, hw.2.2.1, hw.2.2.2.1, hw.2.2.2.2.1, rfl⟩
        · rw [List.getElem_set_ne (by omega), decide_eq_false (by omega)]
          exact hw)
      have HAE := Lib.hid aE
      clear oE aE hcur hq e' r_wr
      go_wp2_with fail
      go_ret
      exact ⟨_, rfl, HAE.out, HE.out⟩
end Go.Proofs.YtamhnffokoejjaaGreatDoor
namespace Go.Proofs.YtamhnffokoejjaaGreatDoor
set_option linter.unusedSimpArgs false
set_option linter.unusedVariables false
set_option linter.unusedSectionVars false
open Go.RowKit
theorem mreaches_any (n : Int) (w : World) (c : Bool) (hc : decide (0 ≤ n ∧ n ≤ 1048576) = c) (hn : I64s n) : Calls Tryz.prog 183 #[.int .i64 n] w fun e w' => e = .returned (.bool c) ∧ w = w' := by
  obtain ⟨h1, h2⟩ := hn
  by_cases q : 0 ≤ n
  · have HC : Hid (decide (n ≤ 1048576) = c) := Lib.hid (by rw [← hc]; simp [q])
    clear hc
    go_enter Tryz.func183, Tryz.ntmps183
    go_wp2_with fail
    go_ret
    exact ⟨ret_bool HC.out, rfl⟩
  · have d0 : decide (0 ≤ n) = false := decide_eq_false q
    have HC : Hid (false = c) := Lib.hid (by rw [← hc]; simp [q])
    clear hc q
    go_enter Tryz.func183, Tryz.ntmps183
    go_wp2_with fail
    go_ret
    exact ⟨ret_bool HC.out, rfl⟩
set_option maxRecDepth 100000 in
set_option maxHeartbeats 1600000 in
theorem mheight_any (a1 a2 : Option Addr) (n1 c1 n2 c2 : Nat) (u d f t : Int) (la : Bool) (w : World) (c : Int) (hc : htZ u d = c) (hu : I64s u) (hd : I64s d) :
    Calls Tryz.prog 135 #[.agg #[.slice a1 n1 c1, .slice a2 n2 c2, .int .i64 u, .int .i64 d, .int .i64 f, .int .i64 t, .bool la]] w fun e w' => e = .returned (.int .i64 c) ∧ AnyLater w w' := by
  by_cases q : 0 ≤ u ∧ u ≤ 1048576
  · have H1 := Lib.hid (fun w => mreaches_any u w true (by simp [q]) hu)
    by_cases q2 : 0 ≤ d ∧ d ≤ 1048576
    · have H2 := Lib.hid (fun w => mreaches_any d w true (by simp [q2]) hd)
      have HC : Hid (u + d = c) := Lib.hid (by rw [← hc]; unfold htZ; rw [if_neg (by omega)])
      obtain ⟨q1, q3⟩ := q
      obtain ⟨q4, q5⟩ := q2
      clear hc hu hd
      go_enter Tryz.func135, Tryz.ntmps135
      go_wp2_with fail
      first | refine settle_wp (fun wS => AnyLater w wS ∧ wS.heap[w.heap.size]? = some (.cells #[.slice a1 n1 c1, .slice a2 n2 c2, .int .i64 u, .int .i64 d, .int .i64 f, .int .i64 t, .bool la] 110)) ?_ ?_ | refine settle_calls (fun wS => AnyLater w wS ∧ wS.heap[w.heap.size]? = some (.cells #[.slice a1 n1 c1, .slice a2 n2 c2, .int .i64 u, .int .i64 d, .int .i64 f, .int .i64 t, .bool la] 110)) ?_ ?_
      · refine ⟨?_, ?_⟩
        · repeat' (first | with_reducible assumption | with_reducible exact AnyLater.refl _ | with_reducible apply AnyLater.setCell | with_reducible apply AnyLater.later | with_reducible apply AnyLater.drewN | with_reducible apply AnyLater.drew | with_reducible apply AnyLater.alloc | ((try simp only [World.size_alloc, World.size_setCell, World.size_drew]); (try dsimp only); omega))
        · ((repeat (first | with_reducible assumption | ((with_reducible apply heap_new); (try simp only [World.size_alloc, World.size_setCell, World.size_drew, World.heap_drewN]); done) | ((with_reducible apply heap_new); (try simp only [World.size_alloc, World.size_setCell, World.size_drew, World.heap_drewN]); omega) | (with_reducible refine heap_old (by (try simp only [World.size_alloc, World.size_setCell, World.size_drew, World.heap_drewN]); omega) ?_) | (with_reducible refine heap_drew ?_) | (with_reducible refine heap_far (by omega) ?_) | (with_reducible apply heap_at))); all_goals rfl)
      rintro w1 ⟨b_w1, s0_w1⟩
      have a_w1 := b_w1
      have r0_w1 := own_row s0_w1
      have f0_w1 := own_free s0_w1
      have l0_w1 := own_lt s0_w1
      have z_w1 := b_w1.below.size
      refine (H1.out _).mono ?_
      rintro e w2 ⟨rfl, rfl⟩
      go_wp2_with fail
      refine (H2.out _).mono ?_
      rintro e w2 ⟨rfl, rfl⟩
      go_wp2_with fail
      go_ret
      exact ⟨ret_i64 HC.out, a_w1⟩
    · have H2 := Lib.hid (fun w => mreaches_any d w false (by simp only [decide_eq_false_iff_not]; exact q2) hd)
      have HC : Hid (0 = c) := Lib.hid (by rw [← hc]; unfold htZ; rw [if_pos (by omega)])
      clear hc hu hd q q2
      go_enter Tryz.func135, Tryz.ntmps135
      go_wp2_with fail
      first | refine settle_wp (fun wS => AnyLater w wS ∧ wS.heap[w.heap.size]? = some (.cells #[.slice a1 n1 c1, .slice a2 n2 c2, .int .i64 u, .int .i64 d, .int .i64 f, .int .i64 t, .bool la] 110)) ?_ ?_ | refine settle_calls (fun wS => AnyLater w wS ∧ wS.heap[w.heap.size]? = some (.cells #[.slice a1 n1 c1, .slice a2 n2 c2, .int .i64 u, .int .i64 d, .int .i64 f, .int .i64 t, .bool la] 110)) ?_ ?_
      · refine ⟨?_, ?_⟩
        · repeat' (first | with_reducible assumption | with_reducible exact AnyLater.refl _ | with_reducible apply AnyLater.setCell | with_reducible apply AnyLater.later | with_reducible apply AnyLater.drewN | with_reducible apply AnyLater.drew | with_reducible apply AnyLater.alloc | ((try simp only [World.size_alloc, World.size_setCell, World.size_drew]); (try dsimp only); omega))
        · ((repeat (first | with_reducible assumption | ((with_reducible apply heap_new); (try simp only [World.size_alloc, World.size_setCell, World.size_drew, World.heap_drewN]); done) | ((with_reducible apply heap_new); (try simp only [World.size_alloc, World.size_setCell, World.size_drew, World.heap_drewN]); omega) | (with_reducible refine heap_old (by (try simp only [World.size_alloc, World.size_setCell, World.size_drew, World.heap_drewN]); omega) ?_) | (with_reducible refine heap_drew ?_) | (with_reducible refine heap_far (by omega) ?_) | (with_reducible apply heap_at))); all_goals rfl)
      rintro w1 ⟨b_w1, s0_w1⟩
      have a_w1 := b_w1
      have r0_w1 := own_row s0_w1
      have f0_w1 := own_free s0_w1
      have l0_w1 := own_lt s0_w1
      have z_w1 := b_w1.below.size
      refine (H1.out _).mono ?_
      rintro e w2 ⟨rfl, rfl⟩
      go_wp2_with fail
      refine (H2.out _).mono ?_
      rintro e w2 ⟨rfl, rfl⟩
      go_wp2_with fail
      go_ret
      exact ⟨ret_i64 HC.out, a_w1⟩
  · have H1 := Lib.hid (fun w => mreaches_any u w false (by simp only [decide_eq_false_iff_not]; exact q) hu)
    have HC : Hid (0 = c) := Lib.hid (by rw [← hc]; unfold htZ; rw [if_pos (by omega)])
    clear hc hu hd q
    go_enter Tryz.func135, Tryz.ntmps135
    go_wp2_with fail
    first | refine settle_wp (fun wS => AnyLater w wS ∧ wS.heap[w.heap.size]? = some (.cells #[.slice a1 n1 c1, .slice a2 n2 c2, .int .i64 u, .int .i64 d, .int .i64 f, .int .i64 t, .bool la] 110)) ?_ ?_ | refine settle_calls (fun wS => AnyLater w wS ∧ wS.heap[w.heap.size]? = some (.cells #[.slice a1 n1 c1, .slice a2 n2 c2, .int .i64 u, .int .i64 d, .int .i64 f, .int .i64 t, .bool la] 110)) ?_ ?_
    · refine ⟨?_, ?_⟩
      · repeat' (first | with_reducible assumption | with_reducible exact AnyLater.refl _ | with_reducible apply AnyLater.setCell | with_reducible apply AnyLater.later | with_reducible apply AnyLater.drewN | with_reducible apply AnyLater.drew | with_reducible apply AnyLater.alloc | ((try simp only [World.size_alloc, World.size_setCell, World.size_drew]); (try dsimp only); omega))
      · ((repeat (first | with_reducible assumption | ((with_reducible apply heap_new); (try simp only [World.size_alloc, World.size_setCell, World.size_drew, World.heap_drewN]); done) | ((with_reducible apply heap_new); (try simp only [World.size_alloc, World.size_setCell, World.size_drew, World.heap_drewN]); omega) | (with_reducible refine heap_old (by (try simp only [World.size_alloc, World.size_setCell, World.size_drew, World.heap_drewN]); omega) ?_) | (with_reducible refine heap_drew ?_) | (with_reducible refine heap_far (by omega) ?_) | (with_reducible apply heap_at))); all_goals rfl)
    rintro w1 ⟨b_w1, s0_w1⟩
    have a_w1 := b_w1
    have r0_w1 := own_row s0_w1
    have f0_w1 := own_free s0_w1
    have l0_w1 := own_lt s0_w1
    have z_w1 := b_w1.below.size
    refine (H1.out _).mono ?_
    rintro e w2 ⟨rfl, rfl⟩
    go_wp2_with fail
    go_ret
    exact ⟨ret_i64 HC.out, a_w1⟩
end Go.Proofs.YtamhnffokoejjaaGreatDoor
namespace Go.Proofs.YtamhnffokoejjaaGreatDoor
set_option linter.unusedSimpArgs false
set_option linter.unusedVariables false
set_option linter.unusedSectionVars false
open Go.RowKit
set_option maxRecDepth 100000 in
set_option maxHeartbeats 1600000 in
theorem msum_any (v : Value) (L : List Ld) (w : World) (s : Int) (hs : sumL L = s) (hv : LR w v L) (hN : LdsOk L) (hl : L.length ≤ 1000) : Calls Tryz.prog 91 #[v] w fun e w' => e = .returned (.int .i64 s) ∧ AnyLater w w' := by
  obtain ⟨A, cap, rfl, hc⟩ := hv.form
  have HV := Lib.hid hv
  have HNN := Lib.hid hN
  have HS := Lib.hid hs
  obtain ⟨n, hn⟩ : ∃ n, L.length = n := ⟨_, rfl⟩
  have HL := Lib.hid hn
  rw [hn] at HV hc hl ⊢
  clear hv hN hn hs
  go_enter Tryz.func91, Tryz.ntmps91
  go_wp2_with fail
  go_loopg [3, 8] n (fun kk sv iv wr => AnyLater w wr ∧ ∃ j : Nat, kk = n - j ∧ j ≤ n ∧ iv = .int .i64 j ∧ sv = .int .i64 (sumL (L.take j)))
  case atStart => exact ⟨AnyLater.refl w, 0, by omega, by omega, rfl, rfl⟩
  case round =>
    obtain ⟨a_wr, j, hk, hj, rfl, rfl⟩ := hrel
    have HA := Lib.hid a_wr
    have hx := sumL_in (L.take j)
    rw [List.length_take, HL.out, Nat.min_eq_left hj] at hx
    by_cases hlt : j < n
    · have lj : j < L.length := by rw [HL.out]; exact hlt
      have i0 : (j : Int) < (n : Int) := by omega
      have HT := Lib.hid (sumL_take lj)
      obtain ⟨x, hxx⟩ : ∃ x, sumL (L.take j) = x := ⟨_, rfl⟩
      rw [hxx] at hx HT ⊢
      obtain ⟨x0, x1⟩ := hx
      obtain ⟨b, off, a1, k1, a2, k2, rfl, hb, -, d0, d1, d2, d3, d4, d5, d6⟩ := ldAt (HV.out.later a_wr) j lj
      have hok := HNN.out L[j] (List.getElem_mem lj)
      obtain ⟨p, hp⟩ : ∃ p, L[j] = p := ⟨_, rfl⟩
      rw [hp] at HT d0 d1 d2 d3 d4 d5 d6 hok
      obtain ⟨y, hy⟩ : ∃ y, htL p = y := ⟨_, rfl⟩
      have hyb := htL_in p
      rw [hy] at hyb HT
      obtain ⟨y0, y1⟩ := hyb
      have HH := Lib.hid (fun w => mheight_any a1 a2 p.cs.length k1 p.xs.length k2 p.up p.dn p.fr p.en p.la w y hy hok.1.1 hok.1.2.1)
      clear hxx hp hok hy
      go_wp2_with fail
      first | refine settle_wp (fun wS => AnyLater wr wS ∧ wS.heap[wr.heap.size]? = some (.cells #[.slice a1 p.cs.length k1, .slice a2 p.xs.length k2, .int .i64 p.up, .int .i64 p.dn, .int .i64 p.fr, .int .i64 p.en, .bool p.la] 110)) ?_ ?_ | refine settle_calls (fun wS => AnyLater wr wS ∧ wS.heap[wr.heap.size]? = some (.cells #[.slice a1 p.cs.length k1, .slice a2 p.xs.length k2, .int .i64 p.up, .int .i64 p.dn, .int .i64 p.fr, .int .i64 p.en, .bool p.la] 110)) ?_ ?_
      · refine ⟨?_, ?_⟩
        · repeat' (first | with_reducible assumption | with_reducible exact AnyLater.refl _ | with_reducible apply AnyLater.setCell | with_reducible apply AnyLater.later | with_reducible apply AnyLater.drewN | with_reducible apply AnyLater.drew | with_reducible apply AnyLater.alloc | ((try simp only [World.size_alloc, World.size_setCell, World.size_drew]); (try dsimp only); omega))
        · ((repeat (first | with_reducible assumption | ((with_reducible apply heap_new); (try simp only [World.size_alloc, World.size_setCell, World.size_drew, World.heap_drewN]); done) | ((with_reducible apply heap_new); (try simp only [World.size_alloc, World.size_setCell, World.size_drew, World.heap_drewN]); omega) | (with_reducible refine heap_old (by (try simp only [World.size_alloc, World.size_setCell, World.size_drew, World.heap_drewN]); omega) ?_) | (with_reducible refine heap_drew ?_) | (with_reducible refine heap_far (by omega) ?_) | (with_reducible apply heap_at))); all_goals rfl)
      rintro w1 ⟨b_w1, s0_w1⟩
      have a_w1 := a_wr.trans b_w1
      have r0_w1 := own_row s0_w1
      have f0_w1 := own_free s0_w1
      have l0_w1 := own_lt s0_w1
      have z_w1 := b_w1.below.size
      refine (HH.out _).mono ?_
      rintro e w2 ⟨rfl, b_w2⟩
      have HB := Lib.hid (HA.out.trans (b_w1.trans b_w2))
      clear b_w2
      go_wp2_with fail
      go_roundg (n - (j + 1))
      case measure => omega
      case rel => exact ⟨HB.out, j + 1, rfl, by omega, by go_num, by rw [HT.out]⟩
    · obtain rfl : j = n := by omega
      have HE : Hid (sumL (L.take j) = s) := Lib.hid (by rw [← HS.out, List.take_of_length_le (by rw [HL.out]; exact Nat.le_refl _)])
      clear a_wr
      go_wp2_with fail
      go_ret
      exact ⟨ret_i64 HE.out, HA.out⟩
end Go.Proofs.YtamhnffokoejjaaGreatDoor
namespace Go.Proofs.YtamhnffokoejjaaGreatDoor
set_option linter.unusedSimpArgs false
set_option linter.unusedVariables false
set_option linter.unusedSectionVars false
open Go.RowKit
def stA (T : List Int) (f : Int) (p : Nat) : Int := if 0 ≤ f ∧ f ≤ 16777216 then T.getD (f.toNat + p) 0 else 0
theorem stA_part {rl : Runs} (h : (stylesR rl).length ≤ 16777216) (f : Int) {n p : Nat} (hp : p < n) : (styD rl f n).getD p 0 = stA (stylesR rl) f p := by
  unfold styD stA
  split
  · rename_i hf
    rw [sR_small h]
    generalize stylesR rl = T
    obtain ⟨F, rfl⟩ := Int.eq_ofNat_of_zero_le hf.1
    unfold partL clampZ
    rw [List.getD_eq_getElem?_getD, List.getD_eq_getElem?_getD, List.getElem?_drop]
    simp only [Int.ofNat_eq_natCast, Int.toNat_natCast]
    rw [show ((F : Int) + (n : Int)).toNat = F + n by omega]
    by_cases q : F ≤ T.length
    · rw [Nat.min_eq_left q]
      by_cases q2 : F + p < T.length
      · rw [List.getElem?_take_of_lt (by omega)]
      · rw [List.getElem?_eq_none (by rw [List.length_take]; omega), List.getElem?_eq_none (by omega)]
    · rw [List.getElem?_eq_none (by rw [List.length_take]; omega), List.getElem?_eq_none (by omega)]
  · rfl
end Go.Proofs.YtamhnffokoejjaaGreatDoor
namespace Go.Proofs.YtamhnffokoejjaaGreatDoor
set_option linter.unusedSimpArgs false
set_option linter.unusedVariables false
set_option linter.unusedSectionVars false
open Go.RowKit
theorem xsC_in : ∀ (P : Cels) (x y : Int), y ∈ xsC x P → x ≤ y ∧ y ≤ x + 48 * P.length
  | [], x, y, h => by
    rw [show xsC x [] = [x] from rfl, List.mem_singleton] at h
    simp; omega
  | c :: P, x, y, h => by
    have h2 := widR_in c.2.2.1 c.2.2.2 x
    rw [show xsC x (c :: P) = x :: xsC (x + widC c x) P from rfl, List.mem_cons] at h
    rw [List.length_cons]
    rcases h with rfl | h
    · omega
    · have := xsC_in P _ y h
      unfold widC at *
      omega
theorem layL_ok {P : Cels} {la : Bool} (h1 : CelsOk P) (h2 : SmallC P) (hl : P.length ≤ 1000) : LdOk (layL P la) := by
  have hu := upL_in P
  have hd := dnL_in P
  refine ⟨⟨?_, ?_, ?_, ?_⟩, h1, fun x hx => ?_⟩
  · show I64s (upL P)
    constructor <;> omega
  · show I64s (dnL P)
    constructor <;> omega
  · show I64s (frL P)
    rcases Nat.eq_zero_or_pos P.length with q | q
    · rw [List.eq_nil_of_length_eq_zero q]; constructor <;> decide
    · rw [frL_at q]
      have := h2 _ (List.getElem_mem q)
      constructor <;> omega
  · show I64s (toL P)
    rcases Nat.eq_zero_or_pos P.length with q | q
    · rw [List.eq_nil_of_length_eq_zero q]; constructor <;> decide
    · obtain ⟨k, hk⟩ : ∃ k, P.length = k + 1 := ⟨P.length - 1, by omega⟩
      rw [toL_at hk]
      have := h2 (P[k]'(by omega)) (List.getElem_mem _)
      constructor <;> omega
  · have := xsC_in P 0 x hx
    constructor <;> omega
theorem linesL_ok {C : Cels} {x : Int} (h1 : CelsOk C) (h2 : SmallC C) (hl : C.length ≤ 1000) : LdsOk (linesL C x) := by
  intro r hr
  obtain ⟨j, -, rfl⟩ := List.mem_map.1 hr
  have : (rowCels C ((rowsW C x).getD j (0, 0, 0))).length ≤ C.length := by
    unfold rowCels
    rw [List.length_drop, List.length_take]
    omega
  exact layL_ok (h1.part _ _) (h2.part _ _) (by omega)
theorem htL_lay {P : Cels} {la : Bool} : 0 ≤ htL (layL P la) ∧ htL (layL P la) ≤ 17 := by
  have hu := upL_in P
  have hd := dnL_in P
  show 0 ≤ htZ (upL P) (dnL P) ∧ htZ (upL P) (dnL P) ≤ 17
  unfold htZ
  split <;> omega
theorem sumL_small : ∀ (L : List Ld), (∀ r ∈ L, 0 ≤ htL r ∧ htL r ≤ 17) → 0 ≤ sumL L ∧ sumL L ≤ 17 * L.length := by
  have : ∀ (L : List Ld) (s : Int), (∀ r ∈ L, 0 ≤ htL r ∧ htL r ≤ 17) → s ≤ L.foldl (fun s r => s + htL r) s ∧ L.foldl (fun s r => s + htL r) s ≤ s + 17 * L.length := by
    intro L
    induction L with
    | nil => intro s _; simp
    | cons r L ih =>
      intro s h
      have h1 := h r (by simp)
      have h2 := ih (s + htL r) (fun q hq => h q (List.mem_cons_of_mem _ hq))
      rw [List.foldl_cons, List.length_cons]
      omega
  intro L h
  have := this L 0 h
  unfold sumL
  omega
theorem linesL_sum (C : Cels) (x : Int) : 0 ≤ sumL (linesL C x) ∧ sumL (linesL C x) ≤ 17 * (linesL C x).length :=
  sumL_small _ (fun r hr => by
    obtain ⟨j, -, rfl⟩ := List.mem_map.1 hr
    exact htL_lay)
end Go.Proofs.YtamhnffokoejjaaGreatDoor
