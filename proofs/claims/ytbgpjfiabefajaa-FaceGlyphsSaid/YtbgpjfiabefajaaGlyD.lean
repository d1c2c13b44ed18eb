/- glyph: GlyphBits: which glyphs are good, which bits they have, and how many. -/
import Derived.Test.YtbgpjfiabefajaaGlyC
import Derived.Deep.CutBlock
import Derived.Deep.DeepCutAuto
namespace Go.Proofs.Ytbgpjfiabefajaa
set_option linter.unusedSimpArgs false
set_option linter.unusedVariables false
set_option linter.unusedSectionVars false
open Go.RowKit

def cYg (gd : Bool) (k : GM) (j : Nat) : Int := if gd = true then cY k j else 0
theorem RU.keeps {S : Nat → Prop} {w w' : World} {v : Value} {l : List Int} (h : RU w v l) (hk : Keeps S w w') (hS : ∀ b, S b → ∀ j z, w.cell? ⟨b, j, none⟩ ≠ some (.int .u32 z)) : RU w' v l := by
  obtain ⟨A, cap, h1, h2, h3⟩ := h
  refine ⟨A, cap, h1, h2, fun h0 => ?_⟩
  obtain ⟨b, off, e, hb, hc⟩ := h3 h0
  have hbS : ¬ S b := fun hs => hS b hs _ _ (hc 0 h0)
  have hblk := hk.block b hb hbS
  exact ⟨b, off, e, Nat.lt_of_lt_of_le hb hk.size, fun j hj => by rw [← hc j hj]; simp [World.cell?, hblk]⟩
theorem IsG.keeps {S : Nat → Prop} {w w' : World} {g : GM} {v : Value} (h : IsG g v w) (hk : Keeps S w w') (hS : ∀ b, S b → ∀ j z, w.cell? ⟨b, j, none⟩ ≠ some (.int .u32 z)) : IsG g v w' := by
  obtain ⟨s, h1, h2⟩ := h
  exact ⟨s, h1, h2.keeps hk hS⟩
theorem box_no32 {w : World} {b : Nat} {x y : Int} {A : Option Addr} {n c : Nat} {t : TypeId} (h : w.heap[b]? = some (.cells #[.int .i64 x, .int .i64 y, .slice A n c] t)) (j : Nat) (z : Int) : w.cell? ⟨b, j, none⟩ ≠ some (.int .u32 z) := by
  rw [own_row h]
  match j with
  | 0 => simp
  | 1 => simp
  | 2 => simp
  | j + 3 => simp
set_option maxRecDepth 100000 in
set_option maxHeartbeats 6400000 in
theorem glyphBits_any (G : GSays) (g : GM) (v : Value) (w : World) (hv : IsG g v w) (hok : g.Ok) (px py : Int) (hx : I64 px) (hy : I64 py) :
    Calls Try.prog 6 #[v, .int .i64 px, .int .i64 py] w fun e w' => e = .returned (.bool true) ∧ AnyLater w w' := by
  have HG := Lib.hid G
  have HV := Lib.hid hv
  obtain ⟨A0, n0, cap0, rfl, -⟩ := hv.form
  have hkk := few_few g
  have hkl := few_len g
  have hko := few_ok hok
  have HF := Lib.hid (fun w' (ha : AnyLater w w') => few_any g _ w' (HV.out.later ha))
  clear G hv hok
  generalize g.w = W0 at *
  generalize g.h = H0 at *
  go_enter Try.func6, Try.ntmps6
  go_wp2_with fail
  first | refine settle_wp (fun wS => AnyLater w wS ∧ wS.heap[w.heap.size]? = some (.cells #[.int .i64 W0, .int .i64 H0, .slice A0 n0 cap0] 51)) ?_ ?_ | refine settle_calls (fun wS => AnyLater w wS ∧ wS.heap[w.heap.size]? = some (.cells #[.int .i64 W0, .int .i64 H0, .slice A0 n0 cap0] 51)) ?_ ?_
  · refine ⟨?_, ?_⟩
    · repeat' (first | with_reducible assumption | with_reducible exact AnyLater.refl _ | with_reducible apply AnyLater.setCell | with_reducible apply AnyLater.later | with_reducible apply AnyLater.drewN | with_reducible apply AnyLater.drew | with_reducible apply AnyLater.alloc | ((try simp only [World.size_alloc, World.size_setCell, World.size_drew]); (try dsimp only); omega))
    · ((repeat (first | with_reducible assumption | ((with_reducible apply heap_new); (try simp only [World.size_alloc, World.size_setCell, World.size_drew, World.heap_drewN]); done) | ((with_reducible apply heap_new); (try simp only [World.size_alloc, World.size_setCell, World.size_drew, World.heap_drewN]); omega) | (with_reducible refine heap_old (by (try simp only [World.size_alloc, World.size_setCell, World.size_drew, World.heap_drewN]); omega) ?_) | (with_reducible refine heap_drew ?_) | (with_reducible refine heap_far (by omega) ?_) | (with_reducible apply heap_at))); all_goals rfl)
  rintro w1 ⟨b_w1, s0_w1⟩
  have a_w1 := b_w1
  have r0_w1 := own_row s0_w1
  have f0_w1 := own_free s0_w1
  have l0_w1 := own_lt s0_w1
  have z_w1 := b_w1.below.size
  refine (HF.out w1 a_w1).mono ?_
  rintro e w2 ⟨u, rfl, b2, hf⟩
  have s2_w2 := any_own b2 s0_w1
  have r2_w2 := own_row s2_w2
  have f2_w2 := own_free s2_w2
  have l2_w2 := own_lt s2_w2
  have a_w2 := a_w1.trans b2
  clear s0_w1 r0_w1 f0_w1 l0_w1 b2 b_w1 z_w1 a_w1 HF HV
  generalize few g = k at *
  have HK := Lib.hid hf
  obtain ⟨A, n, cap, rfl, hn⟩ := hf.form
  clear hf
  have HN := Lib.hid hn
  have HKO := Lib.hid hko
  have HKL := Lib.hid hkl
  have HX := Lib.hid hx
  have HY := Lib.hid hy
  have HLv := Lib.hid (fun w' => glives_any HG.out w')
  obtain ⟨gd, hgd⟩ : ∃ c, goodG k = c := ⟨_, rfl⟩
  obtain ⟨bb, hbb⟩ : ∃ c, (goodG k && hasB k px py) = c := ⟨_, rfl⟩
  obtain ⟨cn, hcn⟩ : ∃ c, countG k = c := ⟨_, rfl⟩
  have HGD := Lib.hid hgd
  have HBB := Lib.hid hbb
  have HCN := Lib.hid hcn
  obtain ⟨⟨w1', w2'⟩, ⟨h1', h2'⟩, _⟩ := hko
  have HKK := Lib.hid hkk
  go_upto_block 0 with fail
  refine settle_wp (fun wS => AnyLater w wS ∧ Keeps (fun b => b = w.heap.size) w2 wS ∧ wS.heap[w.heap.size]? = some (.cells #[.int .i64 k.w, .int .i64 k.h, .slice A n cap] 51)) ⟨?_, ?_, ?_⟩ ?_
  · repeat' (first | with_reducible assumption | with_reducible exact AnyLater.refl _ | with_reducible apply AnyLater.setCell | with_reducible apply AnyLater.later | with_reducible apply AnyLater.drewN | with_reducible apply AnyLater.drew | with_reducible apply AnyLater.alloc | ((try simp only [World.size_alloc, World.size_setCell, World.size_drew]); (try dsimp only); omega))
  · refine Keeps.setCell (Keeps.setCell (Keeps.setCell (Keeps.refl _ _) ?_ _) ?_ _) ?_ _ <;> rfl
  · exact heap_at (heap_at (heap_at s2_w2 rfl) rfl) rfl
  rintro w3 ⟨a_w3, k3, s0_w3⟩
  have HK3 := Lib.hid (HK.out.keeps k3 (fun b hb => by subst hb; exact box_no32 s2_w2))
  have HF2 : Hid (∀ w', AnyLater w3 w' → Shows 24 #[.agg #[.int .i64 k.w, .int .i64 k.h, .slice A n cap]] w' (IsG k)) := Lib.hid (fun w' ha => by
    have := few_any k _ w' (HK3.out.later ha)
    rw [HKK.out] at this
    exact this)
  have HR : Hid (∀ w', AnyLater w3 w' → Calls Try.prog 25 #[.agg #[.int .i64 k.w, .int .i64 k.h, .slice A n cap]] w' fun e w'' => e = .returned (.bool gd) ∧ AnyLater w' w'') := Lib.hid (fun w' ha => refGoodG_any k _ w' gd HGD.out (HK3.out.later ha) HKO.out (by have := HKL.out; omega))
  have r0_w3 := own_row s0_w3
  have f0_w3 := own_free s0_w3
  have l0_w3 := own_lt s0_w3
  clear s2_w2 r2_w2 f2_w2 l2_w2 k3 hgd hbb hcn hkk hn hkl hx hy a_w2
  have hn40 : n ≤ 40 := by have := HKL.out; have := HN.out; omega
  go_cut [7] (fun nv wx => nv = .int .i64 cn ∧ AnyLater w3 wx)
  case first =>
    go_wp2_with fail
    go_loopg [7, 8] n (fun kk nv jv wr => ∃ j : Nat, kk = n - j ∧ j ≤ n ∧ jv = .int .i64 j ∧ nv = .int .i64 (cYg gd k j) ∧ AnyLater w3 wr)
    case atStart => exact ⟨0, by omega, by omega, rfl, by simp [cYg, cY], AnyLater.refl _⟩
    case round =>
      obtain ⟨j, hk, hj, rfl, rfl, hA⟩ := hrel
      have HA := Lib.hid hA
      have s_b := any_own hA s0_w3
      have r_b := own_row s_b
      by_cases hlt : j < n
      · have HRw := Lib.hid (HR.out wr hA)
        cases gd with
        | false =>
          have HZ : Hid (cn = 0) := Lib.hid (by rw [← HCN.out]; unfold countG; rw [HGD.out]; rfl)
          clear hA
          have e0 : cYg false k j = 0 := rfl
          rw [e0]
          go_wp2_with fail
          refine HRw.out.mono ?_
          rintro e w4 ⟨rfl, b4⟩
          go_wp2_with fail
          go_meet
          case rel => exact ⟨by rw [HZ.out], HA.out.trans b4⟩
        | true =>
          obtain ⟨gi1, gi2, gi3, gi4, gi5, gi6⟩ := goodG_in HGD.out
          obtain ⟨Wn, hWn⟩ : ∃ Wn : Nat, (Wn : Int) = k.w := ⟨k.w.toNat, by omega⟩
          have hWt : k.w.toNat = Wn := by omega
          have HW := Lib.hid hWt
          have cyb := cY_in k (by omega) j
          have cxb := Lib.hid (fun i => cX_in k j i)
          have HB : Hid (∀ (i : Nat) w', AnyLater w3 w' → (i : Int) ≤ 32 → Calls Try.prog 26 #[.agg #[.int .i64 k.w, .int .i64 k.h, .slice A n cap], .int .i64 i, .int .i64 j] w' fun e w'' => e = .returned (.bool (hasB k i j)) ∧ AnyLater w' w'') := Lib.hid (fun i w' ha hi => refBit_any k _ i j w' _ rfl (HK3.out.later ha) HKO.out gi2 (by have := HKL.out; omega) (by unfold I64; omega) (by have := HKL.out; have := HN.out; unfold I64; omega))
          clear hA gi3 gi4 gi5 gi6 hWt
          have e0 : cYg true k j = cY k j := rfl
          rw [e0]
          rw [← hWn] at HB s0_w3 s_b r_b HRw gi1 gi2
          obtain ⟨cy, hcy⟩ : ∃ c, cY k j = c := ⟨_, rfl⟩
          rw [hcy] at cyb ⊢
          have HCy := Lib.hid hcy
          clear e0 hcy hWn r0_w3 w1' w2' h1' h2'
          go_wp2_with fail
          refine HRw.out.mono ?_
          rintro e w4 ⟨rfl, b4⟩
          have s4 := any_own b4 s_b
          have r4 := own_row s4
          have HA4 := Lib.hid (HA.out.trans b4)
          clear r_b b4
          go_wp2_with fail
          go_loopg [7, 9] Wn (fun kk nv iv wr => ∃ i : Nat, kk = Wn - i ∧ i ≤ Wn ∧ iv = .int .i64 i ∧ nv = .int .i64 (cy + cX k j i) ∧ AnyLater w3 wr)
          case atStart => exact ⟨0, by omega, by omega, rfl, by rw [cX, Int.add_zero], HA4.out⟩
          case round =>
            obtain ⟨i, hk2, hi, rfl, rfl, hA2⟩ := hrel
            have HA2 := Lib.hid hA2
            have s_b2 := any_own hA2 s0_w3
            have r_b2 := own_row s_b2
            have cxi := cxb.out i
            obtain ⟨cx, hcx⟩ : ∃ c, cX k j i = c := ⟨_, rfl⟩
            rw [hcx] at cxi ⊢
            have HCx := Lib.hid hcx
            by_cases hli : i < Wn
            · have HBi := Lib.hid (HB.out i wr hA2 (by omega))
              rcases hb : hasB k i j
              · rw [hb] at HBi
                have HZ : Hid (cX k j (i + 1) = cx) := Lib.hid (by rw [cX, hb, HCx.out]; simp)
                clear hA2 hb r4 hcx
                go_wp2_with fail
                refine HBi.out.mono ?_
                rintro e w5 ⟨rfl, b5⟩
                have HB5 := Lib.hid (HA2.out.trans b5)
                clear b5 r_b2
                go_wp2_with fail
                go_roundg (Wn - (i + 1))
                case measure => omega
                case rel => exact ⟨i + 1, rfl, by omega, by go_num, by rw [HZ.out], HB5.out⟩
              · rw [hb] at HBi
                have HZ : Hid (cX k j (i + 1) = cx + 1) := Lib.hid (by rw [cX, hb, HCx.out]; simp)
                clear hA2 hb r4 hcx
                go_wp2_with fail
                refine HBi.out.mono ?_
                rintro e w5 ⟨rfl, b5⟩
                have HB5 := Lib.hid (HA2.out.trans b5)
                clear b5 r_b2
                go_wp2_with fail
                go_roundg (Wn - (i + 1))
                case measure => omega
                case rel => exact ⟨i + 1, rfl, by omega, by go_num, by rw [HZ.out, Int.add_assoc], HB5.out⟩
            · obtain rfl : i = Wn := by omega
              clear hA2 r4 hcx
              go_wp2_with fail
              go_roundg (n - (j + 1))
              case measure => omega
              case rel => exact ⟨j + 1, rfl, by omega, by go_num, by unfold cYg; rw [if_pos rfl, cY, HW.out, HCy.out, HCx.out], HA2.out⟩
      · obtain rfl : j = n := by omega
        have HZ : Hid (cYg gd k j = cn) := Lib.hid (by rw [← HCN.out, ← HN.out]; unfold countG cYg; rw [HGD.out])
        clear hA
        go_wp2_with fail
        go_meet
        case rel => exact ⟨by rw [HZ.out], HA.out⟩
  case rest =>
    obtain ⟨rfl, b4⟩ := hcut
    have s0_wc := any_own b4 s0_w3
    have r0_wc := own_row s0_wc
    have f0_wc := own_free s0_wc
    have l0_wc := own_lt s0_wc
    have z_wc := Nat.le_refl wc.heap.size
    have a_wc := a_w3.trans b4
    have HKc := Lib.hid (HK3.out.later b4)
    have HFc : Hid (∀ w', AnyLater wc w' → Shows 24 #[.agg #[.int .i64 k.w, .int .i64 k.h, .slice A n cap]] w' (IsG k)) := Lib.hid (fun w' ha => HF2.out w' (b4.trans ha))
    have HRc : Hid (∀ w', AnyLater wc w' → Calls Try.prog 25 #[.agg #[.int .i64 k.w, .int .i64 k.h, .slice A n cap]] w' fun e w'' => e = .returned (.bool gd) ∧ AnyLater w' w'') := Lib.hid (fun w' ha => HR.out w' (b4.trans ha))
    clear s0_w3 r0_w3 f0_w3 l0_w3 b4 HF2 HR HK3 a_w3
    cases gd with
    | true =>
      obtain ⟨gi1, gi2, gi3, gi4, gi5, gi6⟩ := goodG_in HGD.out
      have HBt : Hid (∀ w', AnyLater wc w' → Calls Try.prog 26 #[.agg #[.int .i64 k.w, .int .i64 k.h, .slice A n cap], .int .i64 px, .int .i64 py] w' fun e w'' => e = .returned (.bool bb) ∧ AnyLater w' w'') := Lib.hid (fun w' ha => refBit_any k _ px py w' bb (by rw [← HBB.out, HGD.out, Bool.true_and]) (HKc.out.later ha) HKO.out gi2 (by have := HKL.out; omega) HX.out HY.out)
      clear gi1 gi2 gi3 gi4 gi5 gi6
      go_wp2_with fail
      apply wp_region_free (32) [⟨1, 36, undef, true, IsG k⟩, ⟨2, 37, .bool true, false, fun v _ => v = .bool true⟩, ⟨4, 39, .bool true, false, fun v _ => v = .bool true⟩, ⟨8, 43, undef, true, IsG k⟩, ⟨11, 46, .bool bb, false, fun v _ => v = .bool bb⟩, ⟨13, 48, .bool true, false, fun v _ => v = .bool true⟩, ⟨18, 53, .bool bb, false, fun v _ => v = .bool bb⟩, ⟨24, 59, undef, true, IsG k⟩, ⟨25, 60, .int .i64 cn, false, fun v _ => v = .int .i64 cn⟩, ⟨30, 65, .bool true, false, fun v _ => v = .bool true⟩] [⟨1, 36, IsG k⟩, ⟨8, 43, IsG k⟩, ⟨24, 59, IsG k⟩] rfl (by kernel_rfl) (by kernel_rfl) (by kernel_rfl) (by simp) (by kernel_rfl)
      case hstab =>
        intro c hc
        simp only [List.mem_cons, List.not_mem_nil, or_false] at hc
        rcases hc with rfl | rfl | rfl | rfl | rfl | rfl | rfl | rfl | rfl | rfl
        · intro v x y hxy hv; exact IsG.later hxy hv
        · intro v x y hxy hv; exact hv
        · intro v x y hxy hv; exact hv
        · intro v x y hxy hv; exact IsG.later hxy hv
        · intro v x y hxy hv; exact hv
        · intro v x y hxy hv; exact hv
        · intro v x y hxy hv; exact hv
        · intro v x y hxy hv; exact IsG.later hxy hv
        · intro v x y hxy hv; exact hv
        · intro v x y hxy hv; exact hv
      case hfix =>
        intro c hc
        simp only [List.mem_cons, List.not_mem_nil, or_false] at hc
        rcases hc with rfl | rfl | rfl | rfl | rfl | rfl | rfl | rfl | rfl | rfl
        · exact .inl rfl
        · exact .inr fun u x h => h
        · exact .inr fun u x h => h
        · exact .inl rfl
        · exact .inr fun u x h => h
        · exact .inr fun u x h => h
        · exact .inr fun u x h => h
        · exact .inl rfl
        · exact .inr fun u x h => h
        · exact .inr fun u x h => h
      case hlex =>
        intro U hU
        have q0 := own_row (any_own hU s0_wc)
        simp only [List.map_cons, List.map_nil, CA.act, actFrom, actOp, List.lookup, Nat.reduceBEq, Nat.reduceLeDiff, Nat.reduceAdd, if_false, if_true]
        repeat (go_big_quiet_step (first | fail))
        exact wpQuiet_nil rfl
      case hstep =>
        intro j hj o ho
        have hj2 : j = 0 ∨ j = 1 ∨ j = 2 ∨ j = 3 ∨ j = 4 ∨ j = 5 ∨ j = 6 ∨ j = 7 ∨ j = 8 ∨ j = 9 := by simp at hj; omega
        rcases hj2 with rfl | rfl | rfl | rfl | rfl | rfl | rfl | rfl | rfl | rfl
        · cases ho
          refine ⟨rfl, fun g x hx hp => ?_⟩
          clear hp
          simp only [fillAll, Act.put, List.setIfInBounds_toArray, List.set_cons_zero, List.set_cons_succ]
          refine chain_go ?_ (free_tells IsG.nob (HFc.out x hx))
          simp [go_sem, execOp]
        · cases ho
          refine ⟨rfl, fun g x hx hp => ?_⟩
          have p36 : (IsG k) (g 1) x := hp _ (List.mem_of_getElem? (i := 0) rfl) (List.contains_iff_mem.1 (by kernel_rfl))
          clear hp
          simp only [fillAll, Act.put, List.setIfInBounds_toArray, List.set_cons_zero, List.set_cons_succ]
          refine chain_go ?_ (free_fix (HG.out.good true HGD.out p36 HKO.out HKL.out))
          simp [go_sem, execOp]
        · cases ho
          refine ⟨rfl, fun g x hx hp => ?_⟩
          clear hp
          simp only [fillAll, Act.put, List.setIfInBounds_toArray, List.set_cons_zero, List.set_cons_succ]
          refine chain_go ?_ (free_fix (HRc.out x hx))
          simp [go_sem, execOp]
        · cases ho
          refine ⟨rfl, fun g x hx hp => ?_⟩
          clear hp
          simp only [fillAll, Act.put, List.setIfInBounds_toArray, List.set_cons_zero, List.set_cons_succ]
          refine chain_go ?_ (free_tells IsG.nob (HFc.out x hx))
          simp [go_sem, execOp]
        · cases ho
          refine ⟨rfl, fun g x hx hp => ?_⟩
          have p43 : (IsG k) (g 8) x := hp _ (List.mem_of_getElem? (i := 1) rfl) (List.contains_iff_mem.1 (by kernel_rfl))
          clear hp
          simp only [fillAll, Act.put, List.setIfInBounds_toArray, List.set_cons_zero, List.set_cons_succ]
          refine chain_go ?_ (free_fix (HG.out.bit px py bb HBB.out p43 HKO.out HKL.out HX.out HY.out))
          simp [go_sem, execOp]
        · cases ho
          refine ⟨rfl, fun g x hx hp => ?_⟩
          clear hp
          simp only [fillAll, Act.put, List.setIfInBounds_toArray, List.set_cons_zero, List.set_cons_succ]
          refine chain_go ?_ (free_fix (HRc.out x hx))
          simp [go_sem, execOp]
        · cases ho
          refine ⟨rfl, fun g x hx hp => ?_⟩
          clear hp
          simp only [fillAll, Act.put, List.setIfInBounds_toArray, List.set_cons_zero, List.set_cons_succ]
          refine chain_go ?_ (free_fix (HBt.out x hx))
          simp [go_sem, execOp]
        · cases ho
          refine ⟨rfl, fun g x hx hp => ?_⟩
          clear hp
          simp only [fillAll, Act.put, List.setIfInBounds_toArray, List.set_cons_zero, List.set_cons_succ]
          refine chain_go ?_ (free_tells IsG.nob (HFc.out x hx))
          simp [go_sem, execOp]
        · cases ho
          refine ⟨rfl, fun g x hx hp => ?_⟩
          have p59 : (IsG k) (g 24) x := hp _ (List.mem_of_getElem? (i := 2) rfl) (List.contains_iff_mem.1 (by kernel_rfl))
          clear hp
          simp only [fillAll, Act.put, List.setIfInBounds_toArray, List.set_cons_zero, List.set_cons_succ]
          refine chain_go ?_ (free_fix (HG.out.count cn HCN.out p59 HKO.out HKL.out))
          simp [go_sem, execOp]
        · cases ho
          refine ⟨rfl, fun g x hx hp => ?_⟩
          clear hp
          simp only [fillAll, Act.put, List.setIfInBounds_toArray, List.set_cons_zero, List.set_cons_succ]
          refine chain_go ?_ (free_fix (HLv.out x))
          simp [go_sem, execOp]
      case htail =>
        intro g u hst hne
        have b_w5 : AnyLater wc (later u) := ⟨u, rfl⟩
        generalize later u = w5 at *
        clear u
        obtain ⟨p36_w5, o36_w5⟩ := hst _ (List.mem_of_getElem? (i := 0) rfl)
        dsimp only at p36_w5 o36_w5
        obtain ⟨p43_w5, o43_w5⟩ := hst _ (List.mem_of_getElem? (i := 1) rfl)
        dsimp only at p43_w5 o43_w5
        obtain ⟨p59_w5, o59_w5⟩ := hst _ (List.mem_of_getElem? (i := 2) rfl)
        dsimp only at p59_w5 o59_w5
        clear hst hne
        simp only [fillAll, Act.put, List.setIfInBounds_toArray, List.set_cons_zero, List.set_cons_succ, List.drop_succ_cons, List.drop_zero, List.drop_nil]
        generalize g 1 = v36 at *
        generalize g 8 = v43 at *
        generalize g 24 = v59 at *
        have z_w5 := b_w5.below.size
        have a_w5 := a_wc.trans b_w5
        have s0_w5 := any_own b_w5 s0_wc
        have r0_w5 := own_row s0_w5
        have f0_w5 := own_free s0_w5
        have l0_w5 := own_lt s0_w5
        (try clear r0_wc); (try clear f0_wc)
        go_wp2_with fail
        go_ret
        exact ⟨rfl, a_w5⟩
    | false =>
      obtain rfl : bb = false := by rw [← HBB.out, HGD.out]; rfl
      go_wp2_with fail
      apply wp_region_free (32) [⟨1, 36, undef, true, IsG k⟩, ⟨2, 37, .bool false, false, fun v _ => v = .bool false⟩, ⟨4, 39, .bool false, false, fun v _ => v = .bool false⟩, ⟨8, 43, undef, true, IsG k⟩, ⟨11, 46, .bool false, false, fun v _ => v = .bool false⟩, ⟨13, 48, .bool false, false, fun v _ => v = .bool false⟩, ⟨24, 59, undef, true, IsG k⟩, ⟨25, 60, .int .i64 cn, false, fun v _ => v = .int .i64 cn⟩, ⟨30, 65, .bool true, false, fun v _ => v = .bool true⟩] [⟨1, 36, IsG k⟩, ⟨8, 43, IsG k⟩, ⟨24, 59, IsG k⟩] rfl (by kernel_rfl) (by kernel_rfl) (by kernel_rfl) (by simp) (by kernel_rfl)
      case hstab =>
        intro c hc
        simp only [List.mem_cons, List.not_mem_nil, or_false] at hc
        rcases hc with rfl | rfl | rfl | rfl | rfl | rfl | rfl | rfl | rfl
        · intro v x y hxy hv; exact IsG.later hxy hv
        · intro v x y hxy hv; exact hv
        · intro v x y hxy hv; exact hv
        · intro v x y hxy hv; exact IsG.later hxy hv
        · intro v x y hxy hv; exact hv
        · intro v x y hxy hv; exact hv
        · intro v x y hxy hv; exact IsG.later hxy hv
        · intro v x y hxy hv; exact hv
        · intro v x y hxy hv; exact hv
      case hfix =>
        intro c hc
        simp only [List.mem_cons, List.not_mem_nil, or_false] at hc
        rcases hc with rfl | rfl | rfl | rfl | rfl | rfl | rfl | rfl | rfl
        · exact .inl rfl
        · exact .inr fun u x h => h
        · exact .inr fun u x h => h
        · exact .inl rfl
        · exact .inr fun u x h => h
        · exact .inr fun u x h => h
        · exact .inl rfl
        · exact .inr fun u x h => h
        · exact .inr fun u x h => h
      case hlex =>
        intro U hU
        have q0 := own_row (any_own hU s0_wc)
        simp only [List.map_cons, List.map_nil, CA.act, actFrom, actOp, List.lookup, Nat.reduceBEq, Nat.reduceLeDiff, Nat.reduceAdd, if_false, if_true]
        repeat (go_big_quiet_step (first | fail))
        exact wpQuiet_nil rfl
      case hstep =>
        intro j hj o ho
        have hj2 : j = 0 ∨ j = 1 ∨ j = 2 ∨ j = 3 ∨ j = 4 ∨ j = 5 ∨ j = 6 ∨ j = 7 ∨ j = 8 := by simp at hj; omega
        rcases hj2 with rfl | rfl | rfl | rfl | rfl | rfl | rfl | rfl | rfl
        · cases ho
          refine ⟨rfl, fun g x hx hp => ?_⟩
          clear hp
          simp only [fillAll, Act.put, List.setIfInBounds_toArray, List.set_cons_zero, List.set_cons_succ]
          refine chain_go ?_ (free_tells IsG.nob (HFc.out x hx))
          simp [go_sem, execOp]
        · cases ho
          refine ⟨rfl, fun g x hx hp => ?_⟩
          have p36 : (IsG k) (g 1) x := hp _ (List.mem_of_getElem? (i := 0) rfl) (List.contains_iff_mem.1 (by kernel_rfl))
          clear hp
          simp only [fillAll, Act.put, List.setIfInBounds_toArray, List.set_cons_zero, List.set_cons_succ]
          refine chain_go ?_ (free_fix (HG.out.good false HGD.out p36 HKO.out HKL.out))
          simp [go_sem, execOp]
        · cases ho
          refine ⟨rfl, fun g x hx hp => ?_⟩
          clear hp
          simp only [fillAll, Act.put, List.setIfInBounds_toArray, List.set_cons_zero, List.set_cons_succ]
          refine chain_go ?_ (free_fix (HRc.out x hx))
          simp [go_sem, execOp]
        · cases ho
          refine ⟨rfl, fun g x hx hp => ?_⟩
          clear hp
          simp only [fillAll, Act.put, List.setIfInBounds_toArray, List.set_cons_zero, List.set_cons_succ]
          refine chain_go ?_ (free_tells IsG.nob (HFc.out x hx))
          simp [go_sem, execOp]
        · cases ho
          refine ⟨rfl, fun g x hx hp => ?_⟩
          have p43 : (IsG k) (g 8) x := hp _ (List.mem_of_getElem? (i := 1) rfl) (List.contains_iff_mem.1 (by kernel_rfl))
          clear hp
          simp only [fillAll, Act.put, List.setIfInBounds_toArray, List.set_cons_zero, List.set_cons_succ]
          refine chain_go ?_ (free_fix (HG.out.bit px py false HBB.out p43 HKO.out HKL.out HX.out HY.out))
          simp [go_sem, execOp]
        · cases ho
          refine ⟨rfl, fun g x hx hp => ?_⟩
          clear hp
          simp only [fillAll, Act.put, List.setIfInBounds_toArray, List.set_cons_zero, List.set_cons_succ]
          refine chain_go ?_ (free_fix (HRc.out x hx))
          simp [go_sem, execOp]
        · cases ho
          refine ⟨rfl, fun g x hx hp => ?_⟩
          clear hp
          simp only [fillAll, Act.put, List.setIfInBounds_toArray, List.set_cons_zero, List.set_cons_succ]
          refine chain_go ?_ (free_tells IsG.nob (HFc.out x hx))
          simp [go_sem, execOp]
        · cases ho
          refine ⟨rfl, fun g x hx hp => ?_⟩
          have p59 : (IsG k) (g 24) x := hp _ (List.mem_of_getElem? (i := 2) rfl) (List.contains_iff_mem.1 (by kernel_rfl))
          clear hp
          simp only [fillAll, Act.put, List.setIfInBounds_toArray, List.set_cons_zero, List.set_cons_succ]
          refine chain_go ?_ (free_fix (HG.out.count cn HCN.out p59 HKO.out HKL.out))
          simp [go_sem, execOp]
        · cases ho
          refine ⟨rfl, fun g x hx hp => ?_⟩
          clear hp
          simp only [fillAll, Act.put, List.setIfInBounds_toArray, List.set_cons_zero, List.set_cons_succ]
          refine chain_go ?_ (free_fix (HLv.out x))
          simp [go_sem, execOp]
      case htail =>
        intro g u hst hne
        have b_w5 : AnyLater wc (later u) := ⟨u, rfl⟩
        generalize later u = w5 at *
        clear u
        obtain ⟨p36_w5, o36_w5⟩ := hst _ (List.mem_of_getElem? (i := 0) rfl)
        dsimp only at p36_w5 o36_w5
        obtain ⟨p43_w5, o43_w5⟩ := hst _ (List.mem_of_getElem? (i := 1) rfl)
        dsimp only at p43_w5 o43_w5
        obtain ⟨p59_w5, o59_w5⟩ := hst _ (List.mem_of_getElem? (i := 2) rfl)
        dsimp only at p59_w5 o59_w5
        clear hst hne
        simp only [fillAll, Act.put, List.setIfInBounds_toArray, List.set_cons_zero, List.set_cons_succ, List.drop_succ_cons, List.drop_zero, List.drop_nil]
        generalize g 1 = v36 at *
        generalize g 8 = v43 at *
        generalize g 24 = v59 at *
        have z_w5 := b_w5.below.size
        have a_w5 := a_wc.trans b_w5
        have s0_w5 := any_own b_w5 s0_wc
        have r0_w5 := own_row s0_w5
        have f0_w5 := own_free s0_w5
        have l0_w5 := own_lt s0_w5
        (try clear r0_wc); (try clear f0_wc)
        go_wp2_with fail
        go_ret
        exact ⟨rfl, a_w5⟩
end Go.Proofs.Ytbgpjfiabefajaa
