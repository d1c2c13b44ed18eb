/- seq: any acts, done to both (SeqPlays). -/
import Derived.Test.YthgfmlfgbghfbaaSeqU
import Derived.Test.YthgfmlfgbghfbaaFree
import Derived.Test.YthgfmlfgbghfbaaClc
import Derived.Test.YthgfmlfgbghfbaaStor
import Derived.Lib.AppendZeros
import Derived.LoopN
import Derived.Deep.LoopGhost
import Derived.BigRegion
import Derived.RegionTactic
import Derived.Shelf.Abstract
import Derived.ChangeKeysEq
import Derived.Deep.DeepCutAuto
import Derived.Deep.CutBlock
namespace Go.Proofs.Ythgfmlfgbghfbaa
set_option linter.unusedSimpArgs false
set_option linter.unusedVariables false
set_option linter.unusedSectionVars false
open Go.RowKit
variable {B : Nat}


/-! ### acts -/
/-- an act -/
structure QAM where
  kind : Int
  i : Int
  n : Int
  x : Int
  y : Int
  v : Value
  l : Qs
def qactV (A : QAM) : Value := .agg #[.int .i64 A.kind, .int .i64 A.i, .int .i64 A.n, .int .i64 A.x, .int .i64 A.y, A.v]
/-- a slice of acts -/
def QAct (w : World) (v : Value) (l : List QAM) : Prop := ∃ (A : Option Addr) (cap : Nat), v = .slice A l.length cap ∧ (∀ (j : Nat) (h : j < l.length), QR w l[j].v l[j].l) ∧
  (0 < l.length → ∃ b off, A = some ⟨b, off, none⟩ ∧ b < w.heap.size ∧ ∀ (j : Nat) (h : j < l.length), w.cell? ⟨b, off + j * 6, none⟩ = some (.int .i64 l[j].kind) ∧ w.cell? ⟨b, off + j * 6 + 1, none⟩ = some (.int .i64 l[j].i) ∧ w.cell? ⟨b, off + j * 6 + 2, none⟩ = some (.int .i64 l[j].n) ∧ w.cell? ⟨b, off + j * 6 + 3, none⟩ = some (.int .i64 l[j].x) ∧ w.cell? ⟨b, off + j * 6 + 4, none⟩ = some (.int .i64 l[j].y) ∧ w.cell? ⟨b, off + j * 6 + 5, none⟩ = some l[j].v)
theorem QAt.mono {C : Nat} {w : World} {g : Nat} {t : Ht} (h : QAt B w g t) (hC : C ≤ B) : QAt C w g t := by
  obtain ⟨rv, hg, ht⟩ := h.obj
  exact ⟨⟨rv, hg, ht.mono hC⟩, h.ok, Nat.le_trans hC h.base⟩
theorem QAt.bks_ge {w : World} {g : Nat} {t : Ht} (h : QAt B w g t) : ∀ b ∈ t.bks, B ≤ b := fun b hb => by
  obtain ⟨rv, _, _, F, hF, hF2⟩ := h.obj
  exact hF2 b (hF.rows b hb).1
/-- a Seq that was made of a list's copy, beside the list -/
theorem HBoth.start {w w1 w2 w3 : World} {u : Value} {g : Nat} {t : Ht} {m : Qs} (o1 : OQ 34 w1 w.heap.size u m) (a : AnyLater w w1) (a2 : AnyLater w1 w2) (a3 : AnyLater w2 w3) (hq : QAt w2.heap.size w3 g t) (e : t.hs = m) : HBoth w.heap.size w3 g t u :=
  ⟨hq.mono (a.trans a2).below.size, by rw [e]; exact OQ.later (a2.trans a3) o1, fun k hk hb => by
    have h1 := hq.bks_ge k hb
    have h2 := a2.below.size
    rcases o1.2 with ⟨rfl, _⟩ | ⟨b, cap, cur, rfl, _, h3, _⟩
    · cases hk
    · cases hk
      have := own_lt h3
      dsimp only at h1
      omega⟩
theorem HAct.step {W w w' : World} {g : Nat} {t : Ht} {e : Ending} (h : HAct B w g t e w') (hW : AnyLater W w) (hB : W.heap.size ≤ B) (hg : B ≤ g) : ∃ t' u, e = .returned (.tuple #[u, .bool true]) ∧ AnyLater W w' ∧ HBoth B w' g t' u ∧ t'.hs.length ≤ t.hs.length + 30 := by
  obtain ⟨t', u, h1, h2, h3, h4⟩ := h
  refine ⟨t', u, h1, h3.any hW (fun k hk => ?_), h2, h4⟩
  rcases hk with rfl | ⟨hk, _⟩
  · omega
  · omega
set_option maxRecDepth 100000 in
set_option maxHeartbeats 6400000 in
theorem seqPlays_any (v av : Value) (l : Qs) (acs : List QAM) (w : World) (hv : QR w v l) (ha : QAct w av acs) : Calls Try.prog 3 #[v, av] w fun e w' => e = .returned (.bool true) ∧ AnyLater w w' := by
  obtain ⟨m, hm⟩ : ∃ m, l.take 30 = m := ⟨_, rfl⟩
  have hm30 : m.length ≤ 30 := by rw [← hm, List.length_take]; omega
  have HM30 := Lib.hid hm30
  have HF1 := Lib.hid (tlfew_any v l m w hm hv)
  have HF2 := Lib.hid (fun (w' : World) (u : Value) (h : QR w' u m) => tlfew_any u m m w' (List.take_of_length_le hm30) h)
  have HLi := Lib.hid (fun w' => sqlives_any w')
  have HAll := Lib.hid (fun (w' : World) (u : Value) (h : QR w' u m) => rall_any u m (!m.any tlBad) w' rfl h (by omega))
  obtain ⟨Av, capv, rfl, hav, hac⟩ := ha
  have HAV := Lib.hid (And.intro hav hac)
  clear hav hac hm
  obtain ⟨nl, hnl⟩ : ∃ nl, acs.length = nl := ⟨_, rfl⟩
  have HNL := Lib.hid hnl
  rw [hnl]
  obtain ⟨vA, vcap, rfl, -⟩ := hv.form
  clear hv hnl hm30
  generalize l.length = vl at *
  cases hb : m.any tlBad with
  | true =>
    have HNew := Lib.hid (fun (w' : World) (u : Value) (h : QR w' u m) => sqnew_bad u m w' h (by have := HM30.out; omega) hb)
    have HAl : Hid (∀ (w' : World) (u : Value), QR w' u m → Calls Try.prog 10 #[u] w' fun e w'' => e = .returned (.bool false) ∧ AnyLater w' w'') := Lib.hid (fun w' u h => by
      have := HAll.out w' u h
      rwa [hb] at this)
    clear HAll hb
    generalize m.length = ml at *
    go_enter Try.func3, Try.ntmps3
    go_wp2_with fail
    refine HF1.out.mono ?_
    rintro e w1 ⟨u1, rfl, b1, o1⟩
    have Q1 := Lib.hid (OQ.rq o1)
    have B1 := Lib.hid b1
    obtain ⟨A1, cap1, rfl, -⟩ := o1.form
    clear o1 b1
    go_wp2_with fail
    refine (HF2.out _ _ Q1.out).mono ?_
    rintro e w2 ⟨u2, rfl, b2, o2⟩
    have Q2 := Lib.hid (OQ.rq o2)
    have B2 := Lib.hid b2
    obtain ⟨A2, cap2, rfl, -⟩ := o2.form
    clear o2 b2
    go_wp2_with fail
    refine (HNew.out _ _ Q2.out).mono ?_
    rintro e w3 ⟨rfl, b3⟩
    have B3 := Lib.hid b3
    clear b3
    go_wp2_with fail
    refine (HAl.out _ _ (Q1.out.later (B2.out.trans B3.out))).mono ?_
    rintro e w4 ⟨rfl, b4⟩
    have B4 := Lib.hid b4
    clear b4
    go_wp2_with fail
    refine (HLi.out _).mono ?_
    rintro e w5 ⟨rfl, b5⟩
    have B5 := Lib.hid b5
    clear b5
    go_wp2_with fail
    go_ret
    exact ⟨rfl, ((B1.out.trans B2.out).trans (B3.out.trans B4.out)).trans B5.out⟩
  | false =>
    have HNew := Lib.hid (fun (w' : World) (u : Value) (h : QR w' u m) => sqnew_any u m w' h (by have := HM30.out; omega) hb)
    have HAl : Hid (∀ (w' : World) (u : Value), QR w' u m → Calls Try.prog 10 #[u] w' fun e w'' => e = .returned (.bool true) ∧ AnyLater w' w'') := Lib.hid (fun w' u h => by
      have := HAll.out w' u h
      rwa [hb] at this)
    clear HAll hb
    go_enter Try.func3, Try.ntmps3
    go_wp2_with fail
    refine HF1.out.mono ?_
    rintro e w1 ⟨u1, rfl, b1, o1⟩
    have O1 := Lib.hid o1
    have B1 := Lib.hid b1
    obtain ⟨A1, cap1, rfl, -⟩ := o1.form
    clear o1 b1
    go_wp2_with fail
    refine (HF2.out _ _ (OQ.rq O1.out)).mono ?_
    rintro e w2 ⟨u2, rfl, b2, o2⟩
    have Q2 := Lib.hid (OQ.rq o2)
    have B2 := Lib.hid b2
    obtain ⟨A2, cap2, rfl, -⟩ := o2.form
    clear o2 b2
    go_wp2_with fail
    refine (HNew.out _ _ Q2.out).mono ?_
    rintro e w3 ⟨g, t0, rfl, b3, hq, ht0⟩
    have HG := Lib.hid (Nat.le_trans (B1.out.trans B2.out).below.size hq.base)
    have H3 := Lib.hid (HBoth.start O1.out B1.out B2.out b3 hq ht0)
    have HT0 := Lib.hid ht0
    have B3 := Lib.hid b3
    clear b3 hq ht0
    go_wp2_with fail
    refine (HAl.out _ _ ((OQ.rq O1.out).later (B2.out.trans B3.out))).mono ?_
    rintro e w4 ⟨rfl, b4⟩
    have H4 := Lib.hid (H3.out.later b4)
    have A4 := Lib.hid ((B1.out.trans B2.out).trans (B3.out.trans b4))
    clear b4 H3 B1 B2 B3 HF1 HF2 HNew HAl O1 Q2
    have HL0 : Hid (t0.hs.length ≤ 30) := Lib.hid (by rw [HT0.out]; exact HM30.out)
    clear HT0 HM30
    generalize m.length = ml at *
    obtain ⟨W0, hW0⟩ : ∃ W0, w.heap.size = W0 := ⟨_, rfl⟩
    have HW0 := Lib.hid hW0
    rw [hW0] at H4 HG
    clear hW0
    go_upto_block 0 with fail
    go_cut [0] (fun uv wx => ∃ t, Hid (AnyLater w wx ∧ HBoth W0 wx g t uv ∧ t.hs.length ≤ 2000))
    case first =>
      go_wp2_with fail
      go_loopg [0, 7] nl (fun kk uv iv wr => ∃ (i : Nat) (t : Ht), kk = nl - i ∧ i ≤ nl ∧ i ≤ 50 ∧ iv = .int .i64 (i : Int) ∧ Hid (AnyLater w wr ∧ HBoth W0 wr g t uv ∧ t.hs.length ≤ 30 + 30 * i))
      case atStart => exact ⟨0, t0, by omega, by omega, by omega, rfl, Lib.hid ⟨A4.out, H4.out, by have := HL0.out; omega⟩⟩
      case round =>
        obtain ⟨i, t, hk, hi, hi50, rfl, HI⟩ := hrel
        obtain ⟨Au, capu, rfl, -⟩ := (OQ.rq HI.out.2.1.row).form
        by_cases hlt : i < nl ∧ i < 50
        · obtain ⟨h1, h2⟩ := hlt
          have hil : i < acs.length := by rw [HNL.out]; exact h1
          obtain ⟨b0, off, rfl, hb0, hcs⟩ := HAV.out.2 (by omega)
          obtain ⟨c0, c1, c2, c3, c4, c5⟩ := hcs i hil
          have aw := HI.out.1
          have c0 := cell_on aw c0
          have c1 := cell_on aw c1
          have c2 := cell_on aw c2
          have c3 := cell_on aw c3
          have c4 := cell_on aw c4
          have c5 := cell_on aw c5
          have d0 : (i : Int) < (nl : Int) := by omega
          have d1 : (i : Int) < 50 := by omega
          have HRow := Lib.hid ((HAV.out.1 i hil).later aw)
          have HDo := Lib.hid (fun k i' n x y v (l : Qs) (h : QR wr v l) => does_both g t _ k i' n x y v l wr HI.out.2.1 (by have := HI.out.2.2; omega) h)
          have HSt := Lib.hid (fun (e : Ending) (w' : World) (h : HAct W0 wr g t e w') => h.step HI.out.1 (Nat.le_of_eq HW0.out) HG.out)
          have HTl := Lib.hid HI.out.2.2
          generalize acs[i] = Ai at *
          obtain ⟨k4, i4, n4, x4, y4, v4, l4⟩ := Ai
          simp only at c0 c1 c2 c3 c4 c5 HRow
          obtain ⟨A5, cap5, rfl, -⟩ := HRow.out.form
          have HD := Lib.hid (HDo.out k4 i4 n4 x4 y4 _ l4 HRow.out)
          clear hcs hil aw HI HDo HRow
          generalize l4.length = ll at *
          go_wp2_with fail
          refine HD.out.mono ?_
          intro e w5 hact
          obtain ⟨t', u, rfl, a5, hb5, hl5⟩ := HSt.out e w5 hact
          have HH : Hid (∀ w', AnyLater w5 w' → AnyLater w w' ∧ HBoth W0 w' g t' u) := Lib.hid (fun w' a => ⟨a5.trans a, hb5.later a⟩)
          have HT' : Hid (t'.hs.length ≤ 30 + 30 * (i + 1)) := Lib.hid (by have := HTl.out; omega)
          have hf := hb5.seq.fit
          have HLen := Lib.hid (sqlen_any (.pointer (some ⟨g, 0, none⟩)) t' w5 hb5.seq.q.nil_or hf)
          have HChk : Hid (∀ w', AnyLater w5 w' → Calls Try.prog 14 #[.pointer (some ⟨g, 0, none⟩)] w' fun e w'' => e = .returned (.bool true) ∧ AnyLater w' w'') := Lib.hid (fun w' a => sqcheck_any g t' w' (hb5.seq.later a).q hf hb5.seq.ok.fine.1)
          have HGet := Lib.hid (fun (w' : World) (a : AnyLater w5 w') (j : Nat) (hj : j < t'.hs.length) => sqget_some g t' j w' (hb5.seq.later a).q hf hj)
          have hrow := OQ.rq hb5.row
          obtain ⟨Au', capu', rfl, hle, hcell⟩ := hrow
          have HCell := Lib.hid hcell
          clear hact a5 hb5 hl5 hf hle hcell HSt HD HTl
          obtain ⟨n', hn'⟩ : ∃ n', t'.hs.length = n' := ⟨_, rfl⟩
          have HN' := Lib.hid hn'
          rw [hn'] at HLen HT' ⊢
          clear hn'
          go_wp2_with fail
          refine HLen.out.mono ?_
          rintro e w6 ⟨rfl, b6⟩
          have B6 := Lib.hid b6
          clear b6
          go_wp2_with fail
          refine (HChk.out _ B6.out).mono ?_
          rintro e w7 ⟨rfl, b7⟩
          have B7 := Lib.hid (B6.out.trans b7)
          clear b7 HLen HChk B6
          go_wp2_with fail
          go_loopg [9] n' (fun kk jv wx => ∃ (j : Nat), kk = n' - j ∧ j ≤ n' ∧ jv = .int .i64 (j : Int) ∧ Hid (AnyLater w5 wx))
          case atStart => exact ⟨0, by omega, by omega, rfl, B7⟩
          case round =>
            obtain ⟨j, hkj, hj, rfl, HJ⟩ := hrel
            by_cases hjl : j < n'
            · have hj5 : j ≤ 5000 := by have := HT'.out; omega
              have hjt : j < t'.hs.length := by rw [HN'.out]; exact hjl
              obtain ⟨b2, off2, rfl, hb2, hc2⟩ := HCell.out (by omega)
              obtain ⟨q0, q1⟩ := hc2 j hjt
              have HGj := Lib.hid (HGet.out wr HJ.out j hjt)
              have q0 := cell_on HJ.out q0
              have q1 := cell_on HJ.out q1
              generalize t'.hs[j] = X at *
              obtain ⟨p0, p1⟩ := X
              simp only at q0 q1 HGj
              clear hc2 hjt c0 c1 c2 c3 c4 c5
              have nz := neqTall
              have gz := guard_tall
              go_wp2_with fail
              refine HGj.out.mono ?_
              rintro e w8 ⟨rfl, b8⟩
              have q0 := cell_on b8 q0
              have q1 := cell_on b8 q1
              have a_w8 := HJ.out.trans b8
              go_wp2_with fail
              first | refine settle_wp (fun wS => AnyLater w8 wS ∧ wS.heap[w8.heap.size]? = some (.cells #[.int .i64 p0, .int .i64 p1] 34)) ?_ ?_ | refine settle_calls (fun wS => AnyLater w8 wS ∧ wS.heap[w8.heap.size]? = some (.cells #[.int .i64 p0, .int .i64 p1] 34)) ?_ ?_
              · refine ⟨?_, ?_⟩
                · repeat' (first | with_reducible assumption | with_reducible exact AnyLater.refl _ | with_reducible apply AnyLater.setCell | with_reducible apply AnyLater.later | with_reducible apply AnyLater.drewN | with_reducible apply AnyLater.drew | with_reducible apply AnyLater.alloc | ((try simp only [World.size_alloc, World.size_setCell, World.size_drew]); (try dsimp only); omega))
                · ((repeat (first | with_reducible assumption | ((with_reducible apply heap_new); (try simp only [World.size_alloc, World.size_setCell, World.size_drew, World.heap_drewN]); done) | ((with_reducible apply heap_new); (try simp only [World.size_alloc, World.size_setCell, World.size_drew, World.heap_drewN]); omega) | (with_reducible refine heap_old (by (try simp only [World.size_alloc, World.size_setCell, World.size_drew, World.heap_drewN]); omega) ?_) | (with_reducible refine heap_drew ?_) | (with_reducible refine heap_far (by omega) ?_) | (with_reducible apply heap_at))); all_goals rfl)
              rintro w9 ⟨b_w9, s0_w9⟩
              have a_w9 := a_w8.trans b_w9
              have r0_w9 := own_row s0_w9
              have f0_w9 := own_free s0_w9
              have l0_w9 := own_lt s0_w9
              have z_w9 := b_w9.below.size
              have q0 := cell_on b_w9 q0
              have q1 := cell_on b_w9 q1
              go_quiet (fail)
              have a_w10 : AnyLater w5 (w9.drewN nq) := a_w9.drewN nq
              generalize w9.drewN nq = w10 at *
              have B10 := Lib.hid a_w10
              clear a_w10 a_w9 b_w9
              go_wp2_with fail
              go_roundg (n' - (j + 1))
              case measure => omega
              case rel => exact ⟨j + 1, rfl, by omega, by go_num, B10⟩
            · obtain rfl : j = n' := by omega
              go_wp2_with fail
              go_roundg (nl - (i + 1))
              case measure => omega
              case rel => exact ⟨i + 1, t', rfl, by omega, by omega, by go_num, Lib.hid ⟨(HH.out _ HJ.out).1, by have := (HH.out _ HJ.out).2; rwa [HN'.out] at this, by rw [HN'.out]; exact HT'.out⟩⟩
        · have h12 : nl ≤ i ∨ 50 ≤ i := by omega
          by_cases h1 : i < nl
          · have d0 : (i : Int) < (nl : Int) := by omega
            have d1 : decide ((i : Int) < 50) = false := decide_eq_false (by omega)
            have d2 : decide (i < 50) = false := decide_eq_false (by omega)
            clear hlt hk h12
            generalize hgl : t.hs.length = tl at *
            go_wp2_with fail
            go_meet
            case rel => exact ⟨t, Lib.hid ⟨HI.out.1, HI.out.2.1, by have := HI.out.2.2; omega⟩⟩
          · have d0 : decide ((i : Int) < (nl : Int)) = false := decide_eq_false (by omega)
            have d1 : decide (i < nl) = false := decide_eq_false (by omega)
            clear hlt hk h12
            go_wp2_with fail
            go_meet
            case rel => exact ⟨t, Lib.hid ⟨HI.out.1, HI.out.2.1, by have := HI.out.2.2; omega⟩⟩
    case rest =>
      generalize wc = wr at *
      obtain ⟨t, HI⟩ := hcut
      obtain ⟨Au, capu, rfl, -⟩ := (OQ.rq HI.out.2.1.row).form
      have HG1 := Lib.hid (sqget_none (.pointer (some ⟨g, 0, none⟩)) t (t.hs.length : Int) wr HI.out.2.1.seq.q.nil_or HI.out.2.1.seq.fit (by omega))
      have HG2 := Lib.hid (fun (w' : World) (a : AnyLater wr w') => sqget_none (.pointer (some ⟨g, 0, none⟩)) t (-1) w' (HI.out.2.1.seq.later a).q.nil_or HI.out.2.1.seq.fit (by omega))
      have a_wr := HI.out.1
      generalize t.hs.length = tl at *
      go_wp2_with fail
      refine HG1.out.mono ?_
      rintro e w5 ⟨rfl, b5⟩
      have a_w5 := a_wr.trans b5
      have B5 := Lib.hid b5
      clear b5
      go_wp2_with fail
      first | refine settle_wp (fun wS => AnyLater w5 wS ∧ wS.heap[w5.heap.size]? = some (.cells #[.int .i64 0, .int .i64 0] 34)) ?_ ?_ | refine settle_calls (fun wS => AnyLater w5 wS ∧ wS.heap[w5.heap.size]? = some (.cells #[.int .i64 0, .int .i64 0] 34)) ?_ ?_
      · refine ⟨?_, ?_⟩
        · repeat' (first | with_reducible assumption | with_reducible exact AnyLater.refl _ | with_reducible apply AnyLater.setCell | with_reducible apply AnyLater.later | with_reducible apply AnyLater.drewN | with_reducible apply AnyLater.drew | with_reducible apply AnyLater.alloc | ((try simp only [World.size_alloc, World.size_setCell, World.size_drew]); (try dsimp only); omega))
        · ((repeat (first | with_reducible assumption | ((with_reducible apply heap_new); (try simp only [World.size_alloc, World.size_setCell, World.size_drew, World.heap_drewN]); done) | ((with_reducible apply heap_new); (try simp only [World.size_alloc, World.size_setCell, World.size_drew, World.heap_drewN]); omega) | (with_reducible refine heap_old (by (try simp only [World.size_alloc, World.size_setCell, World.size_drew, World.heap_drewN]); omega) ?_) | (with_reducible refine heap_drew ?_) | (with_reducible refine heap_far (by omega) ?_) | (with_reducible apply heap_at))); all_goals rfl)
      rintro w6 ⟨b_w6, s0_w6⟩
      have a_w6 := a_w5.trans b_w6
      have r0_w6 := own_row s0_w6
      have f0_w6 := own_free s0_w6
      have l0_w6 := own_lt s0_w6
      have z_w6 := b_w6.below.size
      refine (HG2.out _ (B5.out.trans b_w6)).mono ?_
      rintro e w7 ⟨rfl, b7⟩
      have a_w7 := a_w6.trans b7
      clear b7
      go_wp2_with fail
      first | refine settle_wp (fun wS => AnyLater w7 wS ∧ wS.heap[w7.heap.size]? = some (.cells #[.int .i64 0, .int .i64 0] 34)) ?_ ?_ | refine settle_calls (fun wS => AnyLater w7 wS ∧ wS.heap[w7.heap.size]? = some (.cells #[.int .i64 0, .int .i64 0] 34)) ?_ ?_
      · refine ⟨?_, ?_⟩
        · repeat' (first | with_reducible assumption | with_reducible exact AnyLater.refl _ | with_reducible apply AnyLater.setCell | with_reducible apply AnyLater.later | with_reducible apply AnyLater.drewN | with_reducible apply AnyLater.drew | with_reducible apply AnyLater.alloc | ((try simp only [World.size_alloc, World.size_setCell, World.size_drew]); (try dsimp only); omega))
        · ((repeat (first | with_reducible assumption | ((with_reducible apply heap_new); (try simp only [World.size_alloc, World.size_setCell, World.size_drew, World.heap_drewN]); done) | ((with_reducible apply heap_new); (try simp only [World.size_alloc, World.size_setCell, World.size_drew, World.heap_drewN]); omega) | (with_reducible refine heap_old (by (try simp only [World.size_alloc, World.size_setCell, World.size_drew, World.heap_drewN]); omega) ?_) | (with_reducible refine heap_drew ?_) | (with_reducible refine heap_far (by omega) ?_) | (with_reducible apply heap_at))); all_goals rfl)
      rintro w8 ⟨b_w8, s0_w8⟩
      have a_w8 := a_w7.trans b_w8
      have r0_w8 := own_row s0_w8
      have f0_w8 := own_free s0_w8
      have l0_w8 := own_lt s0_w8
      have z_w8 := b_w8.below.size
      refine (HLi.out _).mono ?_
      rintro e w9 ⟨rfl, b9⟩
      have a_w9 := a_w8.trans b9
      clear b9
      go_wp2_with fail
      go_ret
      exact ⟨rfl, a_w9⟩
end Go.Proofs.Ythgfmlfgbghfbaa
