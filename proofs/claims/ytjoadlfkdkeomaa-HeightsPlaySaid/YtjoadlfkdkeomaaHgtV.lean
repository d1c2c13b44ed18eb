/- heights: lines that are hidden and shown again. -/
import Derived.Test.YtjoadlfkdkeomaaHgtU
import Derived.LoopN
import Derived.Deep.LoopGhost
import Derived.BigRegion
import Derived.RegionTactic
import Derived.Shelf.Abstract
import Derived.ChangeKeysEq
import Derived.Deep.DeepCutAuto
import Derived.Deep.CutBlock
namespace Go.Proofs.Ytjoadlfkdkeomaa
set_option linter.unusedSimpArgs false
set_option linter.unusedVariables false
set_option linter.unusedSectionVars false
open Go.RowKit
variable {B : Nat}

/-- hidden, or shown, one behind the other -/
def hdF (H : List Bool) (ws : List Int) (on : Bool) : List Bool := ws.foldl (fun H i => hdO H i on) H
theorem hdO_len (H : List Bool) (i : Int) (on : Bool) : (hdO H i on).length = H.length := by
  unfold hdO
  split
  · rw [List.length_set]
  · rfl
theorem hdF_len (on : Bool) : ∀ (ws : List Int) (H : List Bool), (hdF H ws on).length = H.length
  | [], _ => rfl
  | i :: ws, H => by
    show (hdF (hdO H i on) ws on).length = _
    rw [hdF_len on ws, hdO_len]
theorem hdO_get (H : List Bool) (i : Int) (on : Bool) (p : Nat) : (hdO H i on)[p]? = if i = (p : Int) ∧ p < H.length then some on else H[p]? := by
  unfold hdO
  by_cases h : 0 ≤ i ∧ i < H.length
  · rw [if_pos h, List.getElem?_set]
    by_cases e : i = (p : Int)
    · have e2 : i.toNat = p := by omega
      rw [if_pos e2, if_pos (show i.toNat < H.length by omega), if_pos ⟨e, by omega⟩]
    · rw [if_neg (by omega), if_neg (fun c => e c.1)]
  · rw [if_neg h, if_neg (fun c => h (by omega))]
theorem hdF_get (on : Bool) (p : Nat) : ∀ (ws : List Int) (H : List Bool), (hdF H ws on)[p]? = if (p : Int) ∈ ws ∧ p < H.length then some on else H[p]?
  | [], H => by rw [if_neg (fun c => absurd c.1 List.not_mem_nil)]; rfl
  | i :: ws, H => by
    show (hdF (hdO H i on) ws on)[p]? = _
    rw [hdF_get on p ws, hdO_len, hdO_get]
    by_cases h1 : (p : Int) ∈ ws ∧ p < H.length
    · rw [if_pos h1, if_pos ⟨List.mem_cons_of_mem _ h1.1, h1.2⟩]
    · rw [if_neg h1]
      by_cases h2 : i = (p : Int) ∧ p < H.length
      · rw [if_pos h2, if_pos ⟨by rw [h2.1]; exact List.mem_cons_self .., h2.2⟩]
      · rw [if_neg h2, if_neg (fun c => by
          rcases List.mem_cons.1 c.1 with q | q
          · exact h2 ⟨q.symm, c.2⟩
          · exact h1 ⟨q, c.2⟩)]
theorem hdF_back (n : Nat) (ws : List Int) : hdF (hdF (List.replicate n false) ws true) ws false = List.replicate n false := by
  apply List.ext_getElem?
  intro p
  rw [hdF_get, hdF_get, hdF_len, List.length_replicate]
  by_cases h : (p : Int) ∈ ws ∧ p < n
  · rw [if_pos h, List.getElem?_replicate, if_pos h.2]
  · rw [if_neg h, if_neg h]
theorem hdF_snoc (H : List Bool) (ws : List Int) (j : Nat) (hj : j < ws.length) (on : Bool) : hdF H (ws.take (j + 1)) on = hdO (hdF H (ws.take j) on) ws[j] on := by
  unfold hdF
  rw [List.take_succ_eq_append_getElem hj, List.foldl_append]
  rfl
theorem shw_rep (m : Qs) : shwL m (List.replicate m.length false) = m := by
  unfold shwL
  apply List.ext_getElem?
  intro j
  rw [List.getElem?_zipWith]
  by_cases hj : j < m.length
  · simp [hj]
  · simp [hj]
/-- how it stands when on rounds are over -/
def hsB (n : Nat) (ws : List Int) : Nat → List Bool
  | 0 => List.replicate n false
  | 1 => hdF (List.replicate n false) ws true
  | _ => hdF (hdF (List.replicate n false) ws true) ws false
theorem ri_at {w : World} {A : Option Addr} {n cap : Nat} {l : List Int} (h : RI w (.slice A n cap) l) (j : Nat) (hj : j < l.length) : ∃ b off, A = some ⟨b, off, none⟩ ∧ b < w.heap.size ∧ w.cell? ⟨b, off + j, none⟩ = some (.int .i64 l[j]) := by
  obtain ⟨A', cap', e, h2, h3⟩ := h
  cases e
  obtain ⟨b, off, e, hb, hc⟩ := h3 (by omega)
  exact ⟨b, off, e, hb, hc j hj⟩
set_option maxRecDepth 100000 in
set_option maxHeartbeats 1600000 in
theorem heightsBack_bad (v av : Value) (l m : Qs) (ws : List Int) (y : Int) (w : World) (hm : l.take 30 = m) (hv : QR w v l) (ha : RI w av ws) (hb : m.any tlBad = true) : Calls Try.prog 5 #[v, av, .int .i64 y] w fun e w' => e = .returned (.bool true) ∧ AnyLater w w' := by
  have hm30 : m.length ≤ 30 := by rw [← hm, List.length_take]; omega
  have HBe := Lib.hid (hbegin_bad v l m w hm hv hb)
  have HF := Lib.hid (fun (W : World) (a : AnyLater w W) => htfew_any v l m W hm (hv.later a))
  have HA := Lib.hid (fun (W : World) (u : Value) (h : QR W u m) => rall_any u m false W (by rw [hb]; rfl) h (by omega))
  have HLv := Lib.hid (fun w' => hlives_any w')
  obtain ⟨A, cap, rfl, -⟩ := hv.form
  obtain ⟨A2, cap2, rfl, -⟩ := ha.form
  clear hv ha hm hb hm30
  generalize l.length = n at *
  generalize ws.length = n2 at *
  go_enter Try.func5, Try.ntmps5
  go_wp2_with fail
  refine HBe.out.mono ?_
  rintro e w1 ⟨xg, rfl, b1⟩
  have B1 := Lib.hid b1
  clear b1
  go_wp2_with fail
  refine (HF.out w1 B1.out).mono ?_
  rintro e w2 ⟨u2, rfl, b2, o2⟩
  have B2 := Lib.hid (And.intro (B1.out.trans b2) (OQ.rq o2))
  obtain ⟨A3, cap3, rfl, -⟩ := (OQ.rq o2).form
  clear b2 o2
  go_wp2_with fail
  refine (HA.out w2 _ B2.out.2).mono ?_
  rintro e w3 ⟨rfl, b3⟩
  have B3 := Lib.hid (B2.out.1.trans b3)
  clear b3
  go_wp2_with fail
  refine (HLv.out w3).mono ?_
  rintro e w4 ⟨rfl, b4⟩
  have B4 := Lib.hid (B3.out.trans b4)
  clear b4
  go_wp2_with fail
  go_ret
  exact ⟨rfl, B4.out⟩
set_option maxRecDepth 100000 in
set_option maxHeartbeats 3200000 in
theorem heightsBack_yes (v av : Value) (l m : Qs) (ws : List Int) (y : Int) (w : World) (hm : l.take 30 = m) (hv : QR w v l) (ha : RI w av ws) (hy : y ≤ 9223372036854775807) (hb : m.any tlBad = false) : Calls Try.prog 5 #[v, av, .int .i64 y] w fun e w' => e = .returned (.bool true) ∧ AnyLater w w' := by
  have hm30 : m.length ≤ 30 := by rw [← hm, List.length_take]; omega
  have hT : Tls m := Tls.of_any hb
  have HBe := Lib.hid (hbegin_yes v l m w hm hv hb)
  have HLv := Lib.hid (fun w' => hlives_any w')
  have HHide := Lib.hid (fun (W : World) (hg xg : Nat) (K : List Nat) (rL rH : Option Nat) (H : List Bool) (i : Int) (on : Bool) (q : HX w.heap.size W hg xg K rL rH m H m (List.replicate m.length false)) => (hghide_any hg K m H i on W q.h).mono fun e W' ⟨k1, k2⟩ => (⟨k1, q.hdone k2⟩ : _ ∧ (∃ K', HX w.heap.size W' hg xg K' rL rH m (hdO H i on) m (List.replicate m.length false)) ∧ OffB w.heap.size W W'))
  have HLine := Lib.hid (fun (W : World) (hg xg : Nat) (K : List Nat) (rL rH : Option Nat) (q : HX w.heap.size W hg xg K rL rH m (List.replicate m.length false) m (List.replicate m.length false)) => hgline_any (.pointer (some ⟨hg, 0, none⟩)) m (List.replicate m.length false) y W hy _ _ (by rw [shw_rep] : fdL 2 y (shwL m (List.replicate m.length false)) 0 (-1) 0 0 = ((fdL 2 y m 0 (-1) 0 0).1, (fdL 2 y m 0 (-1) 0 0).2)) q.h.v)
  have HTot := Lib.hid (fun (W : World) (hg xg : Nat) (K : List Nat) (rL rH : Option Nat) (q : HX w.heap.size W hg xg K rL rH m (List.replicate m.length false) m (List.replicate m.length false)) => hgtotal_any (.pointer (some ⟨hg, 0, none⟩)) m (List.replicate m.length false) W (tlR m) (tlH m) (by rw [shw_rep]) (by rw [shw_rep]) q.h.v)
  have HFd := Lib.hid (fun (W : World) (u : Value) (h : QR W u m) => rfind_any2 u m y W (fdL 2 y m 0 (-1) 0 0) rfl h (by omega) hT)
  have HSu := Lib.hid (fun (W : World) (u : Value) (h : QR W u m) => rsum_any u m (m.length : Int) W (tlR m) (tlH m) (by rw [sumN_all, List.take_length]) (by rw [sumN_all, List.take_length]) h (by omega) hT)
  have HS : Hid (∀ (on j : Nat), on < 2 → j < ws.length → hdF (hsB m.length (ws.take 40) on) ((ws.take 40).take (j + 1)) (on == 0) = hdO (hdF (hsB m.length (ws.take 40) on) ((ws.take 40).take j) (on == 0)) (ws.getD j 0) (on == 0) ∨ 40 ≤ j) := Lib.hid (fun on j _ hj => by
    by_cases h : j < 40
    · left
      rw [hdF_snoc _ _ _ (by rw [List.length_take]; omega), List.getElem_take]
      rw [List.getD_eq_getElem?_getD, List.getElem?_eq_getElem hj]
      rfl
    · exact .inr (by omega))
  have HEnd : Hid (∀ (on j : Nat), on < 2 → j ≤ ws.length → (j = ws.length ∨ 40 ≤ j) → hdF (hsB m.length (ws.take 40) on) ((ws.take 40).take j) (on == 0) = hsB m.length (ws.take 40) (on + 1)) := Lib.hid (fun on j ho hj hq => by
    have e : (ws.take 40).take j = ws.take 40 := List.take_of_length_le (by rw [List.length_take]; omega)
    rw [e]
    match on, ho with
    | 0, _ => rfl
    | 1, _ => rfl)
  have HFin : Hid (hsB m.length (ws.take 40) 2 = List.replicate m.length false) := Lib.hid (hdF_back _ _)
  obtain ⟨A, cap, rfl, -⟩ := hv.form
  obtain ⟨A2, cap2, rfl, -⟩ := ha.form
  have HRI := Lib.hid ha
  have ez := eqlTall
  have gz := guard_tall
  clear hv ha hm hb hy hT
  generalize l.length = n at *
  generalize hn2 : ws.length = n2 at *
  have HN2 := Lib.hid hn2
  obtain ⟨M, hM⟩ : ∃ M, m.length = M := ⟨_, rfl⟩
  rw [hM] at HBe HHide HLine HTot HSu HS HEnd HFin hm30
  have HM := Lib.hid hM
  clear hn2 hM
  generalize (fdL 2 y m 0 (-1) 0 0).1 = r1 at *
  generalize (fdL 2 y m 0 (-1) 0 0).2 = r2 at *
  generalize tlR m = tR at *
  generalize tlH m = tH at *
  go_enter Try.func5, Try.ntmps5
  go_wp2_with fail
  refine HBe.out.mono ?_
  rintro e w1 ⟨hg, xg, K, rL, rH, rfl, b1, q1⟩
  have H1 := Lib.hid (And.intro b1 q1)
  clear b1 q1 HBe
  go_wp2_with fail
  go_loopg [10, 11, 12] 2 (fun kk ov iv ev wr => ∃ (on : Nat) (K : List Nat), kk = 2 - on ∧ on ≤ 2 ∧ ov = .int .i64 on ∧ Hid (AnyLater w wr ∧ HX w.heap.size wr hg xg K rL rH m (hsB M (ws.take 40) on) m (List.replicate M false)))
  case atStart => exact ⟨0, K, by omega, by omega, rfl, Lib.hid ⟨H1.out.1, H1.out.2⟩⟩
  case round =>
    obtain ⟨on, K1, hkk, hon, rfl, HR⟩ := hrel
    by_cases hlt : on < 2
    · obtain ⟨b, hbe⟩ : ∃ b : Bool, ((on : Nat) == 0) = b := ⟨_, rfl⟩
      have hbi : ((on : Int) == 0) = b := by
        rw [← hbe]
        cases on with
        | zero => rfl
        | succ k => simp; omega
      have HBE := Lib.hid hbe
      have don : decide ((on : Int) < 2) = true := decide_eq_true (by omega)
      clear hbe
      generalize wr = wo at *
      go_wp2_with fail
      go_loopg [11, 12] n2 (fun kk iv ev wr => ∃ (j : Nat) (K : List Nat), kk = n2 - j ∧ j ≤ n2 ∧ j ≤ 40 ∧ iv = .int .i64 j ∧ Hid (AnyLater w wr ∧ HX w.heap.size wr hg xg K rL rH m (hdF (hsB M (ws.take 40) on) ((ws.take 40).take j) b) m (List.replicate M false)))
      case atStart => exact ⟨0, K1, by omega, by omega, by omega, rfl, Lib.hid ⟨HR.out.1, by simpa [hdF] using HR.out.2⟩⟩
      case round =>
        obtain ⟨j, K2, hkj, hj, hj40, rfl, HI⟩ := hrel
        by_cases hjn : j < n2 ∧ j < 40
        · obtain ⟨h1, h2⟩ := hjn
          have hjw : j < ws.length := by rw [HN2.out]; exact h1
          obtain ⟨bb, off, e9, hbl, cw0⟩ := ri_at HRI.out j hjw
          subst e9
          have hst := (HS.out on j hlt h1).resolve_right (by omega)
          rw [List.getD_eq_getElem?_getD, List.getElem?_eq_getElem hjw, HBE.out] at hst
          have hst : hdF (hsB M (ws.take 40) on) ((ws.take 40).take (j + 1)) b = hdO (hdF (hsB M (ws.take 40) on) ((ws.take 40).take j) b) ws[j] b := hst
          have HST := Lib.hid hst
          clear hst
          generalize ws[j] = z at *
          have cw := cell_on HI.out.1 cw0
          have HC := Lib.hid (HHide.out wr hg xg K2 rL rH _ z b HI.out.2)
          have HCW := Lib.hid cw0
          have d0 : (j : Int) < (n2 : Int) := by omega
          have d1 : (j : Int) < 40 := by omega
          clear cw0
          by_cases hz0 : 0 ≤ z
          · by_cases hz1 : z < (M : Int)
            · have ec : hdC M z = 0 := by unfold hdC; rw [if_pos ⟨hz0, hz1⟩]
              rw [ec] at HC
              clear ec
              go_wp2_with fail
              refine HC.out.mono ?_
              rintro e w2 ⟨rfl, ⟨K3, q3⟩, o3⟩
              have a2 : AnyLater w w2 := o3.1 w (Nat.le_refl _) HI.out.1
              rw [← HST.out] at q3
              have HQ3 := Lib.hid (And.intro a2 q3)
              obtain ⟨A5, c5, A6, c6, s0_w2, -⟩ := q3.x.form
              rw [HM.out] at s0_w2
              have r0_w2 := own_row s0_w2
              have l0_w2 := own_lt s0_w2
              have cw2 := cell_on a2 HCW.out
              clear q3 o3 a2 cw
              go_wp2_with fail
              go_quiet (fail)
              have aq : AnyLater w2 (w2.drewN nq) := by repeat' (first | with_reducible assumption | with_reducible exact AnyLater.refl _ | with_reducible apply AnyLater.setCell | with_reducible apply AnyLater.later | with_reducible apply AnyLater.drewN | with_reducible apply AnyLater.drew | with_reducible apply AnyLater.alloc | ((try simp only [World.size_alloc, World.size_setCell, World.size_drew]); (try dsimp only); omega))
              have HQ4 := Lib.hid (And.intro (HQ3.out.1.trans aq) (HQ3.out.2.later aq))
              generalize w2.drewN nq = w4 at *
              clear aq
              go_wp2_with fail
              go_roundg (n2 - (j + 1))
              case measure => omega
              case rel => exact ⟨j + 1, K3, rfl, by omega, by omega, by go_num, Lib.hid HQ4.out⟩
            · have ec : hdC M z = 1 := by unfold hdC; rw [if_neg (fun q => hz1 q.2)]
              rw [ec] at HC
              clear ec
              go_wp2_with fail
              refine HC.out.mono ?_
              rintro e w2 ⟨rfl, ⟨K3, q3⟩, o3⟩
              have a2 : AnyLater w w2 := o3.1 w (Nat.le_refl _) HI.out.1
              rw [← HST.out] at q3
              have HQ3 := Lib.hid (And.intro a2 q3)
              obtain ⟨A5, c5, A6, c6, s0_w2, -⟩ := q3.x.form
              rw [HM.out] at s0_w2
              have r0_w2 := own_row s0_w2
              have l0_w2 := own_lt s0_w2
              have cw2 := cell_on a2 HCW.out
              clear q3 o3 a2 cw
              go_wp2_with fail
              go_quiet (fail)
              have aq : AnyLater w2 (w2.drewN nq) := by repeat' (first | with_reducible assumption | with_reducible exact AnyLater.refl _ | with_reducible apply AnyLater.setCell | with_reducible apply AnyLater.later | with_reducible apply AnyLater.drewN | with_reducible apply AnyLater.drew | with_reducible apply AnyLater.alloc | ((try simp only [World.size_alloc, World.size_setCell, World.size_drew]); (try dsimp only); omega))
              have HQ4 := Lib.hid (And.intro (HQ3.out.1.trans aq) (HQ3.out.2.later aq))
              generalize w2.drewN nq = w4 at *
              clear aq
              go_wp2_with fail
              go_roundg (n2 - (j + 1))
              case measure => omega
              case rel => exact ⟨j + 1, K3, rfl, by omega, by omega, by go_num, Lib.hid HQ4.out⟩
          · have dz : decide (0 ≤ z) = false := decide_eq_false hz0
            have ec : hdC M z = 1 := by unfold hdC; rw [if_neg (fun q => hz0 q.1)]
            rw [ec] at HC
            clear ec
            go_wp2_with fail
            refine HC.out.mono ?_
            rintro e w2 ⟨rfl, ⟨K3, q3⟩, o3⟩
            have a2 : AnyLater w w2 := o3.1 w (Nat.le_refl _) HI.out.1
            rw [← HST.out] at q3
            have HQ3 := Lib.hid (And.intro a2 q3)
            obtain ⟨A5, c5, A6, c6, s0_w2, -⟩ := q3.x.form
            rw [HM.out] at s0_w2
            have r0_w2 := own_row s0_w2
            have l0_w2 := own_lt s0_w2
            have cw2 := cell_on a2 HCW.out
            clear q3 o3 a2 cw
            go_wp2_with fail
            go_quiet (fail)
            have aq : AnyLater w2 (w2.drewN nq) := by repeat' (first | with_reducible assumption | with_reducible exact AnyLater.refl _ | with_reducible apply AnyLater.setCell | with_reducible apply AnyLater.later | with_reducible apply AnyLater.drewN | with_reducible apply AnyLater.drew | with_reducible apply AnyLater.alloc | ((try simp only [World.size_alloc, World.size_setCell, World.size_drew]); (try dsimp only); omega))
            have HQ4 := Lib.hid (And.intro (HQ3.out.1.trans aq) (HQ3.out.2.later aq))
            generalize w2.drewN nq = w4 at *
            clear aq
            go_wp2_with fail
            go_roundg (n2 - (j + 1))
            case measure => omega
            case rel => exact ⟨j + 1, K3, rfl, by omega, by omega, by go_num, Lib.hid HQ4.out⟩
        · have HE := Lib.hid (HEnd.out on j hlt hj (by omega))
          rw [HBE.out] at HE
          have HI2 := Lib.hid (And.intro HI.out.1 (by rw [← HE.out]; exact HI.out.2 : HX w.heap.size wr hg xg K2 rL rH m (hsB M (ws.take 40) (on + 1)) m (List.replicate M false)))
          by_cases h1 : j < n2
          · have h2 : j = 40 := by omega
            have d0 : (j : Int) < (n2 : Int) := by omega
            have d1 : decide ((j : Int) < 40) = false := decide_eq_false (by omega)
            clear hjn
            go_wp2_with fail
            go_roundg (2 - (on + 1))
            case measure => omega
            case rel => exact ⟨on + 1, K2, rfl, by omega, by go_num, Lib.hid HI2.out⟩
          · have d0 : decide (j < n2) = false := decide_eq_false h1
            clear hjn
            go_wp2_with fail
            go_roundg (2 - (on + 1))
            case measure => omega
            case rel => exact ⟨on + 1, K2, rfl, by omega, by go_num, Lib.hid HI2.out⟩
    · obtain rfl : on = 2 := by omega
      rw [HFin.out] at HR
      obtain ⟨A5, c5, A6, c6, s0_w2, qL, -⟩ := HR.out.2.x.form
      rw [HM.out] at s0_w2 qL
      have HQL := Lib.hid (OQ.rq qL)
      have HA := Lib.hid HR.out.1
      have HQ := Lib.hid HR.out.2
      have a_wr := AnyLater.refl wr
      have s0_wr := s0_w2
      have r0_wr := own_row s0_wr
      have f0_wr := own_free s0_wr
      have l0_wr := own_lt s0_wr
      clear s0_w2 qL hlt hkk hon
      go_wp2_with fail
      refine (HLine.out wr hg xg K1 rL rH HQ.out).mono ?_
      rintro e w3 ⟨rfl, b_w3⟩
      have z_w3 := b_w3.below.size
      have a_w3 := a_wr.trans b_w3
      have s0_w3 := any_own b_w3 s0_wr
      have r0_w3 := own_row s0_w3
      have f0_w3 := own_free s0_w3
      have l0_w3 := own_lt s0_w3
      (try clear r0_wr); (try clear f0_wr)
      go_wp2_with fail
      refine (HFd.out w3 _ (HQL.out.later a_w3)).mono ?_
      rintro e w4 ⟨rfl, b_w4⟩
      have z_w4 := b_w4.below.size
      have a_w4 := a_w3.trans b_w4
      have s0_w4 := any_own b_w4 s0_w3
      have r0_w4 := own_row s0_w4
      have f0_w4 := own_free s0_w4
      have l0_w4 := own_lt s0_w4
      (try clear r0_w3); (try clear f0_w3)
      go_wp2_with fail
      apply wp_region_free (27) [⟨10, 107, .agg #[.int .i64 tR, .int .i64 tH], false, fun v _ => v = .agg #[.int .i64 tR, .int .i64 tH]⟩, ⟨20, 117, .agg #[.int .i64 tR, .int .i64 tH], false, fun v _ => v = .agg #[.int .i64 tR, .int .i64 tH]⟩, ⟨24, 121, .bool true, false, fun v _ => v = .bool true⟩] [] rfl (by kernel_rfl) (by kernel_rfl) (by kernel_rfl) (by simp) (by kernel_rfl)
      case hstab =>
        intro c hc
        simp only [List.mem_cons, List.not_mem_nil, or_false] at hc
        rcases hc with rfl | rfl | rfl
        · intro v x y hxy hv; exact hv
        · intro v x y hxy hv; exact hv
        · intro v x y hxy hv; exact hv
      case hfix =>
        intro c hc
        simp only [List.mem_cons, List.not_mem_nil, or_false] at hc
        rcases hc with rfl | rfl | rfl
        · exact .inr fun u x h => h
        · exact .inr fun u x h => h
        · exact .inr fun u x h => h
      case hlex =>
        intro U hU
        have q0 := own_row (any_own hU s0_w4)
        simp only [List.map_cons, List.map_nil, CA.act, actFrom, actOp, List.lookup, Nat.reduceBEq, Nat.reduceLeDiff, Nat.reduceAdd, if_false, if_true]
        repeat (go_big_quiet_step (fail))
        exact wpQuiet_nil rfl
      case hstep =>
        intro j hj o ho
        have hj2 : j = 0 ∨ j = 1 ∨ j = 2 := by simp at hj; omega
        rcases hj2 with rfl | rfl | rfl
        · cases ho
          refine ⟨rfl, fun g x hx hp => ?_⟩
          clear hp
          simp only [fillAll, Act.put, List.setIfInBounds_toArray, List.set_cons_zero, List.set_cons_succ]
          refine chain_go ?_ (free_fix (HTot.out x hg xg K1 rL rH (HQ.out.later (a_w4.trans hx))))
          first | (simp [go_sem, execOp]; done) | simp [go_sem, execOp, hcf]
        · cases ho
          refine ⟨rfl, fun g x hx hp => ?_⟩
          clear hp
          simp only [fillAll, Act.put, List.setIfInBounds_toArray, List.set_cons_zero, List.set_cons_succ]
          refine chain_go ?_ (free_fix (HSu.out x _ (HQL.out.later (a_w4.trans hx))))
          first | (simp [go_sem, execOp]; done) | simp [go_sem, execOp, hcf]
        · cases ho
          refine ⟨rfl, fun g x hx hp => ?_⟩
          clear hp
          simp only [fillAll, Act.put, List.setIfInBounds_toArray, List.set_cons_zero, List.set_cons_succ]
          refine chain_go ?_ (free_fix (HLv.out x))
          first | (simp [go_sem, execOp]; done) | simp [go_sem, execOp, hcf]
      case htail =>
        intro g u hst hne
        have b_w5 : AnyLater w4 (later u) := ⟨u, rfl⟩
        generalize later u = w5 at *
        clear u
        clear hst hne
        simp only [fillAll, Act.put, List.setIfInBounds_toArray, List.set_cons_zero, List.set_cons_succ, List.drop_succ_cons, List.drop_zero, List.drop_nil]
        have z_w5 := b_w5.below.size
        have a_w5 := a_w4.trans b_w5
        have s0_w5 := any_own b_w5 s0_w4
        have r0_w5 := own_row s0_w5
        have f0_w5 := own_free s0_w5
        have l0_w5 := own_lt s0_w5
        (try clear r0_w4); (try clear f0_w4)
        go_wp2_with fail
        go_ret
        exact ⟨rfl, HA.out.trans a_w5⟩
theorem heightsBack_any (v av : Value) (l : Qs) (ws : List Int) (y : Int) (w : World) (hv : QR w v l) (ha : RI w av ws) (hy : y ≤ 9223372036854775807) : Calls Try.prog 5 #[v, av, .int .i64 y] w fun e w' => e = .returned (.bool true) ∧ AnyLater w w' := by
  cases hb : (l.take 30).any tlBad with
  | true => exact heightsBack_bad v av l _ ws y w rfl hv ha hb
  | false => exact heightsBack_yes v av l _ ws y w rfl hv ha hy hb
end Go.Proofs.Ytjoadlfkdkeomaa
