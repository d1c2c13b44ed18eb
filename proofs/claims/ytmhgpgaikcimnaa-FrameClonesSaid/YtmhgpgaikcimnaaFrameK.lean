/- frame: the two frames behind any acts; FrameAt: any pixel and any row. -/
import Derived.Test.YtmhgpgaikcimnaaFrameJ
namespace Go.Proofs.Ytmhgpgaikcimnaa
set_option linter.unusedSimpArgs false
set_option linter.unusedVariables false
set_option linter.unusedSectionVars false
open Go.RowKit

/-- a slice that reads as these acts -/
structure RA (w : World) (v : Value) (l : List AM) : Prop where
  cells : ∃ (Ad : Option Addr) (cap : Nat), v = .slice Ad l.length cap ∧ (0 < l.length → ∃ b off, Ad = some ⟨b, off, none⟩ ∧ b < w.heap.size ∧ ∀ (j : Nat) (h : j < l.length), w.cell? ⟨b, off + j * 8, none⟩ = some (.int .i64 l[j].kind) ∧ w.cell? ⟨b, off + j * 8 + 1, none⟩ = some (.int .i64 l[j].n) ∧ w.cell? ⟨b, off + j * 8 + 2, none⟩ = some (.int .i64 l[j].r.x) ∧ w.cell? ⟨b, off + j * 8 + 3, none⟩ = some (.int .i64 l[j].r.y) ∧ w.cell? ⟨b, off + j * 8 + 4, none⟩ = some (.int .i64 l[j].r.a) ∧ w.cell? ⟨b, off + j * 8 + 5, none⟩ = some (.int .i64 l[j].r.b) ∧ w.cell? ⟨b, off + j * 8 + 6, none⟩ = some (.int .u32 l[j].c) ∧ w.cell? ⟨b, off + j * 8 + 7, none⟩ = some l[j].v)
  ok : ∀ (j : Nat) (h : j < l.length), AM.Ok w l[j]
section
variable {Fr : World → Nat → FM → (Nat → Prop) → Prop}
/-- both frames behind some acts: made since w, b pixels at most written -/
structure Mid (Fr : World → Nat → FM → (Nat → Prop) → Prop) (w : World) (a p W H : Nat) (b : Int) (wr : World) (m : FM) (S T : Nat → Prop) : Prop where
  later : AnyLater w wr
  both : Both Fr wr a p m S T
  n : m.n ≤ b
  s0 : ∀ k, S k → w.heap.size ≤ k
  t0 : ∀ k, T k → w.heap.size ≤ k
  mw : m.w = W
  mh : m.rows.length = H
theorem Mid.any (F : FSays Fr) {w : World} {a p W H : Nat} {b : Int} {wr w' : World} {m : FM} {S T : Nat → Prop} (h : Mid Fr w a p W H b wr m S T) (ha : AnyLater wr w') : Mid Fr w a p W H b w' m S T :=
  ⟨h.later.trans ha, ⟨F.later h.both.f ha, h.both.x.any ha, h.both.ap, h.both.ok, h.both.wide, h.both.high, h.both.n0, h.both.n1⟩, h.n, h.s0, h.t0, h.mw, h.mh⟩
theorem Mid.of {w w1 w2 : World} {a p W H : Nat} {S T : Nat → Prop} (F : FSays Fr) (hW : W ≤ 40) (hH : H ≤ 40) (b1 : AnyLater w w1) (f1 : Fr w1 a (newM W H) S) (hS : ∀ k, S k → w.heap.size ≤ k) (b2 : AnyLater w1 w2) (x2 : RX w2 p (newM W H) T) (hT : ∀ k, T k → w1.heap.size ≤ k) :
    Mid Fr w a p W H 0 w2 (newM W H) S T where
  later := b1.trans b2
  both := ⟨F.later f1 b2, x2, fun k hs ht => by have := F.below f1 k hs; have := hT k ht; omega, newM_ok W H, hW, by simpa [newM] using hH, Int.le_refl _, by show (0 : Int) ≤ _; omega⟩
  n := Int.le_refl _
  s0 := hS
  t0 := fun k hk => Nat.le_trans b1.below.size (hT k hk)
  mw := rfl
  mh := by simp [newM]
/-- one act more -/
theorem Mid.does (F : FSays Fr) {w : World} {a p W H : Nat} {b : Int} {wr : World} {m : FM} {S T : Nat → Prop} (h : Mid Fr w a p W H b wr m S T) (A : AM) (hA : A.Ok w) (hb : b ≤ 9000000000) :
    Calls Try.prog 11 #[ptr a, ptr p, actV A] wr fun e w' => e = .returned (.bool true) ∧ ∃ m' S' T', Mid Fr w a p W H (b + 60000000) w' m' S' T' := by
  refine (does_any F w wr h.later a p m S T h.s0 h.t0 A h.both hA).mono ?_
  rintro e w' ⟨rfl, m', S', T', f, x, k, gs, gt, ok, ew, eh, n0, n1, ap⟩
  have s0 : ∀ k, S' k → w.heap.size ≤ k := fun k hk => (gs k hk).elim (h.s0 k) (Nat.le_trans h.later.below.size)
  have t0 : ∀ k, T' k → w.heap.size ≤ k := fun k hk => (gt k hk).elim (h.t0 k) (Nat.le_trans h.later.below.size)
  exact ⟨rfl, m', S', T', k.any h.later (fun k hk => hk.elim (h.s0 k) (h.t0 k)), ⟨f, x, ap, ok, by rw [ew]; exact h.both.wide, by rw [eh]; exact h.both.high, by have := h.both.n0; omega, by have := h.n; omega⟩, by have := h.n; omega, s0, t0, by rw [ew]; exact h.mw, by rw [eh]; exact h.mh⟩

/-! ### FrameAt -/
set_option maxRecDepth 100000 in
set_option maxHeartbeats 12800000 in
theorem frameAt_any (F : FSays Fr) (w : World) (v : Value) (l : List AM) (px py : Int) (hv : RA w v l) (bx : I64 px) (by_ : I64 py) :
    Calls Try.prog 4 #[v, .int .i64 px, .int .i64 py] w fun e w' => e = .returned (.bool true) ∧ AnyLater w w' := by
  obtain ⟨Ad, cap, rfl, hcl⟩ := hv.cells
  have HF := Lib.hid F
  have HA := Lib.hid hv
  have HCl := Lib.hid hcl
  have CN := Lib.hid (F.new 9 7 w (by decide) (by decide))
  have HI := Lib.hid (And.intro bx by_)
  clear F hv hcl bx by_
  go_enter Try.func4, Try.ntmps4
  go_wp2_with fail
  refine CN.out.mono ?_
  rintro e w1 ⟨a, S, rfl, b_w1, f1, hS⟩
  have CX := Lib.hid (xnew_any 9 7 w1 (by decide) (by decide))
  have HS := Lib.hid (And.intro f1 hS)
  clear f1 hS
  unfold ptr
  go_wp2_with fail
  refine CX.out.mono ?_
  rintro e w2 ⟨p, T, rfl, b_w2, x2, hT⟩
  have HM := Lib.hid (Mid.of HF.out (by decide) (by decide) b_w1 HS.out.1 HS.out.2 b_w2 x2 hT)
  clear x2 hT
  go_wp2_with fail
  go_loopg [10] 20 (fun kk iv wr => ∃ i : Nat, kk = 20 - i ∧ i ≤ 20 ∧ i ≤ l.length ∧ iv = .int .i64 i ∧ ∃ m S T, Mid Fr w a p 9 7 (i * 60000000) wr m S T)
  case atStart => exact ⟨0, rfl, by decide, Nat.zero_le _, rfl, _, _, _, HM.out⟩
  case round =>
    obtain ⟨i, hk, h20, hl, rfl, m, S2, T2, hm⟩ := hrel
    have HM2 := Lib.hid hm
    clear hm
    by_cases hgo : i < l.length ∧ i < 20
    · obtain ⟨h1, h2⟩ := hgo
      obtain ⟨b, off, rfl, hb, hc⟩ := HCl.out (by omega)
      obtain ⟨c0, c1, c2, c3, c4, c5, c6, c7⟩ := hc i h1
      rw [← HM2.out.later.below.cell hb] at c0 c1 c2 c3 c4 c5 c6 c7
      have CD := Lib.hid (HM2.out.does HF.out l[i] (HA.out.ok i h1) (by omega))
      unfold actV ptr at CD
      clear hc
      generalize l[i] = A at *
      go_wp2_with fail
      refine CD.out.mono ?_
      rintro e w3 ⟨rfl, m3, S3, T3, hm3⟩
      have HM3 := Lib.hid hm3
      clear hm3
      go_wp2_with fail
      go_roundg (20 - (i + 1))
      case measure => omega
      case rel => exact ⟨i + 1, rfl, by omega, by omega, by go_num, m3, S3, T3, by have := HM3.out; rwa [show ((i + 1 : Nat) : Int) * 60000000 = i * 60000000 + 60000000 by omega]⟩
    · have hx : l.length ≤ i ∨ (i < l.length ∧ 20 ≤ i) := by omega
      clear hgo
      have hp : py < 0 ∨ 7 ≤ py ∨ (0 ≤ py ∧ py < 7) := by omega
      have HX2 := Lib.hid (HM2.out.both.x)
      have hw9 := HM2.out.mw
      have hh7 := HM2.out.mh
      obtain ⟨c, hc⟩ : ∃ c, atM px py m = c := ⟨_, rfl⟩
      have CA := Lib.hid (fun w' (h : AnyLater wr w') => HF.out.at_ px py c hc (HF.out.later HM2.out.both.f h) HM2.out.both.small HI.out.1 HI.out.2)
      have CB := Lib.hid (fun w' (h : AnyLater wr w') => xat_any w' p m T2 px py c (HM2.out.both.x.any h) (by omega) (by omega) hc)
      have CL := Lib.hid (fun w' (h : AnyLater wr w') => HF.out.line py (HF.out.later HM2.out.both.f h) HM2.out.both.small HI.out.2)
      have CV := Lib.hid (fun w' => lives_any HF.out w')
      have AW := Lib.hid HM2.out.later
      unfold ptr at CA CL
      have HLN : Hid ((py < 0 ∨ 7 ≤ py) → lineM py m = []) := Lib.hid (fun h => by unfold lineM; rw [if_neg (by omega)])
      rcases hx with h1 | ⟨h1, h2⟩
      all_goals
        rcases hp with h3 | h3 | ⟨h3, h4⟩
        · have HL0 := Lib.hid (HLN.out (.inl h3))
          clear hc hw9 hh7
          go_wp2_with fail
          refine (CA.out _ (by repeat' (first | with_reducible assumption | with_reducible exact AnyLater.refl _ | with_reducible apply AnyLater.later | with_reducible apply AnyLater.drewN | with_reducible apply AnyLater.drew | with_reducible apply AnyLater.alloc))).mono ?_
          rintro e w4 ⟨rfl, b_w4⟩
          have a_w4 : AnyLater wr w4 := AnyLater.trans (by repeat' (first | with_reducible assumption | with_reducible exact AnyLater.refl _ | with_reducible apply AnyLater.later | with_reducible apply AnyLater.drewN | with_reducible apply AnyLater.drew | with_reducible apply AnyLater.alloc)) b_w4
          clear b_w4
          go_wp2_with fail
          refine (CB.out _ a_w4).mono ?_
          rintro e _ ⟨rfl, rfl⟩
          go_wp2_with fail
          refine (CL.out _ a_w4).mono ?_
          rintro e w6 ⟨v6, rfl, b_w6, hr6⟩
          have a_w6 := a_w4.trans b_w6
          have HR := Lib.hid hr6
          clear b_w6 hr6
          go_wp2_with fail
          refine (same_any _ _ _ [] _ true (by rw [HL0.out]; rfl) HR.out ⟨_, _, rfl, Nat.zero_le _, fun h => absurd h (by decide)⟩ (by rw [HL0.out]; decide)).mono ?_
          rintro e w7 ⟨rfl, b_w7⟩
          have a_w7 := a_w6.trans b_w7
          clear b_w7
          go_wp2_with fail
          refine (CV.out _).mono ?_
          rintro e w8 ⟨rfl, b_w8⟩
          go_wp2_with fail
          go_ret
          exact ⟨rfl, AW.out.trans (a_w7.trans b_w8)⟩
        · have HL0 := Lib.hid (HLN.out (.inr h3))
          clear hc hw9 hh7
          go_wp2_with fail
          refine (CA.out _ (by repeat' (first | with_reducible assumption | with_reducible exact AnyLater.refl _ | with_reducible apply AnyLater.later | with_reducible apply AnyLater.drewN | with_reducible apply AnyLater.drew | with_reducible apply AnyLater.alloc))).mono ?_
          rintro e w4 ⟨rfl, b_w4⟩
          have a_w4 : AnyLater wr w4 := AnyLater.trans (by repeat' (first | with_reducible assumption | with_reducible exact AnyLater.refl _ | with_reducible apply AnyLater.later | with_reducible apply AnyLater.drewN | with_reducible apply AnyLater.drew | with_reducible apply AnyLater.alloc)) b_w4
          clear b_w4
          go_wp2_with fail
          refine (CB.out _ a_w4).mono ?_
          rintro e _ ⟨rfl, rfl⟩
          go_wp2_with fail
          refine (CL.out _ a_w4).mono ?_
          rintro e w6 ⟨v6, rfl, b_w6, hr6⟩
          have a_w6 := a_w4.trans b_w6
          have HR := Lib.hid hr6
          clear b_w6 hr6
          go_wp2_with fail
          refine (same_any _ _ _ [] _ true (by rw [HL0.out]; rfl) HR.out ⟨_, _, rfl, Nat.zero_le _, fun h => absurd h (by decide)⟩ (by rw [HL0.out]; decide)).mono ?_
          rintro e w7 ⟨rfl, b_w7⟩
          have a_w7 := a_w6.trans b_w7
          clear b_w7
          go_wp2_with fail
          refine (CV.out _).mono ?_
          rintro e w8 ⟨rfl, b_w8⟩
          go_wp2_with fail
          go_ret
          exact ⟨rfl, AW.out.trans (a_w7.trans b_w8)⟩
        · obtain ⟨j, rfl⟩ : ∃ j : Nat, (j : Int) = py := ⟨py.toNat, by omega⟩
          obtain ⟨vx, rs, hx⟩ := HX2.out
          obtain ⟨q, cap2, cur, rfl, sq, hq, hcur⟩ := hx.outer (by omega)
          have lj : j < rs.length := by rw [hx.rows.len]; omega
          have lj' : j < m.rows.length := by omega
          obtain ⟨sg, hwc, hwl, cells, hg, hcells⟩ := hx.rows.each j lj lj'
          have hcy := hcur j lj
          have hln : lineM (j : Int) m = m.rows[j] := by
            unfold lineM
            rw [if_pos (by omega)]
            simp [lj']
          have hRU : RU wr (.slice (some ⟨rs[j].1, 0, none⟩) m.w rs[j].2) m.rows[j] := ⟨some ⟨rs[j].1, 0, none⟩, rs[j].2, by rw [hwl], by rw [hwl]; exact hwc, fun _ => ⟨rs[j].1, 0, rfl, own_lt hg, fun x hx => by rw [own_row hg, Nat.zero_add]; exact hcells x hx⟩⟩
          have HEq : Hid (m.rows[j].length ≤ 100000) := Lib.hid (by rw [hwl]; omega)
          have HRU := Lib.hid (fun w' (hw : AnyLater wr w') => hRU.later hw)
          rw [← hln] at HRU HEq
          have s0_wr := hx.top
          have k1 : wr.cell? ⟨p, 1, none⟩ = some (.slice (some ⟨q, 0, none⟩) m.rows.length cap2) := by rw [own_row s0_wr]; rfl
          have k2 : wr.cell? ⟨q, j, none⟩ = some (rowV m.w rs[j]) := by rw [own_row hq]; exact hcy
          have lp := own_lt s0_wr
          have lq := own_lt hq
          rw [hh7] at k1
          unfold rowV at k2
          generalize rs[j] = e at *
          obtain ⟨g0, c0⟩ := e
          simp only at HRU k2
          clear hx hcur hq hg hcells hwl hwc hRU sq sg s0_wr hln hcy lj lj' hc hw9 hh7
          go_wp2_with fail
          refine (CA.out _ (by repeat' (first | with_reducible assumption | with_reducible exact AnyLater.refl _ | with_reducible apply AnyLater.later | with_reducible apply AnyLater.drewN | with_reducible apply AnyLater.drew | with_reducible apply AnyLater.alloc))).mono ?_
          rintro e w4 ⟨rfl, b_w4⟩
          have a_w4 : AnyLater wr w4 := AnyLater.trans (by repeat' (first | with_reducible assumption | with_reducible exact AnyLater.refl _ | with_reducible apply AnyLater.later | with_reducible apply AnyLater.drewN | with_reducible apply AnyLater.drew | with_reducible apply AnyLater.alloc)) b_w4
          clear b_w4
          go_wp2_with fail
          refine (CB.out _ a_w4).mono ?_
          rintro e _ ⟨rfl, rfl⟩
          go_wp2_with fail
          refine (CL.out _ a_w4).mono ?_
          rintro e w6 ⟨v6, rfl, b_w6, hr6⟩
          have a_w6 := a_w4.trans b_w6
          have HR := Lib.hid hr6
          clear b_w6 hr6
          go_wp2_with fail
          refine (same_any _ _ _ _ _ true (decide_eq_true rfl) HR.out (HRU.out _ a_w6) HEq.out).mono ?_
          rintro e w7 ⟨rfl, b_w7⟩
          have a_w7 := a_w6.trans b_w7
          clear b_w7
          go_wp2_with fail
          refine (CV.out _).mono ?_
          rintro e w8 ⟨rfl, b_w8⟩
          go_wp2_with fail
          go_ret
          exact ⟨rfl, AW.out.trans (a_w7.trans b_w8)⟩
end
end Go.Proofs.Ytmhgpgaikcimnaa
