/- undo: UndoPlays. -/
import Derived.Test.YtnbchaigbkblfaaUndL
import Derived.Test.YtnbchaigbkblfaaUndV
import Derived.Test.YtnbchaigbkblfaaPairs
import Derived.Test.YtnbchaigbkblfaaFree
import Derived.Deep.LoopGhost
import Derived.Deep.DeepCutAuto
import Derived.Deep.CutBlock
namespace Go.Proofs.Ytnbchaigbkblfaa
set_option linter.unusedSimpArgs false
set_option linter.unusedVariables false
set_option linter.unusedSectionVars false
open Go.RowKit

/-- both stacks, apart -/
def At2 (W w : World) (s x most : Nat) (m n : UM) : Prop :=
  ∃ v u, IsS w s v most m ∧ UIsX w x u most n ∧ AnyLater W w ∧ (∀ k, Fp s v k → W.heap.size ≤ k) ∧ (∀ k, Fp x u k → W.heap.size ≤ k) ∧ ∀ k, Fp s v k → ¬ Fp x u k
section
variable {W w w' : World} {s x most : Nat} {m m' n n' : UM}
theorem fp_new {s : Nat} {v v' : Value} {w : World} (h : ∀ k, v'.ownBlock = some k → v.ownBlock = some k ∨ w.heap.size ≤ k) {k : Nat} (hk : Fp s v' k) : Fp s v k ∨ w.heap.size ≤ k := by
  rcases hk with e | e
  · exact .inl (.inl e)
  · exact (h k e).imp .inr id
theorem At2.prog {P : Program} {f : FuncId} {args : Array Value} {r : Ending} (h : At2 W w s x most m n) (hc : ∀ v, IsS w s v most m → Calls P f args w fun e w' => e = r ∧ TurnsS w s v most m' w') :
    Calls P f args w fun e w' => e = r ∧ At2 W w' s x most m' n := by
  obtain ⟨v, u, h1, h2, h3, h4, h5, h6⟩ := h
  refine (hc v h1).mono ?_
  rintro e w' ⟨rfl, v', i1, i2, i3⟩
  refine ⟨rfl, v', u, i1, h2.stays i2 (fun k hk hs => h6 k hs hk), i2.any h3 h4, fun k hk => ?_, h5, fun k hk hx => ?_⟩
  · rcases fp_new i3 hk with q | q
    · exact h4 k q
    · exact Nat.le_trans h3.below.size q
  · rcases fp_new i3 hk with q | q
    · exact h6 k q hx
    · have := h2.lt k hx
      omega
theorem At2.doc {P : Program} {f : FuncId} {args : Array Value} {r : Ending} (h : At2 W w s x most m n) (hc : ∀ u, UIsX w x u most n → Calls P f args w fun e w' => e = r ∧ TurnsX w x u most n' w') :
    Calls P f args w fun e w' => e = r ∧ At2 W w' s x most m n' := by
  obtain ⟨v, u, h1, h2, h3, h4, h5, h6⟩ := h
  refine (hc u h2).mono ?_
  rintro e w' ⟨rfl, u', i1, i2, i3⟩
  refine ⟨rfl, v, u', h1.stays i2 (fun k hk hs => h6 k hk hs), i1, i2.any h3 h5, h4, fun k hk => ?_, fun k hk hx => ?_⟩
  · rcases fp_new i3 hk with q | q
    · exact h5 k q
    · exact Nat.le_trans h3.below.size q
  · rcases fp_new i3 hx with q | q
    · exact h6 k hk q
    · have := h1.lt k hk
      omega
theorem At2.later (h : At2 W w s x most m n) (ha : AnyLater w w') : At2 W w' s x most m n := by
  obtain ⟨v, u, h1, h2, h3, h4, h5, h6⟩ := h
  exact ⟨v, u, h1.later ha, h2.later ha, h3.trans ha, h4, h5, h6⟩
theorem At2.any (h : At2 W w s x most m n) : AnyLater W w := by
  obtain ⟨v, u, h1, h2, h3, h4, h5, h6⟩ := h
  exact h3
theorem At2.isS (h : At2 W w s x most m n) : ∃ v, IsS w s v most m := by
  obtain ⟨v, u, h1, h2, h3, h4, h5, h6⟩ := h
  exact ⟨v, h1⟩
theorem At2.isX (h : At2 W w s x most m n) : ∃ u, UIsX w x u most n := by
  obtain ⟨v, u, h1, h2, h3, h4, h5, h6⟩ := h
  exact ⟨u, h2⟩
/-- the document's stack is made -/
theorem At2.make (hm : 1 ≤ most ∧ most ≤ 1024) (h : At1 W w [] s most m) : At2 W (w.alloc (.cells #[.slice none 0 0, .int .i64 0, .int .i64 (most : Int)] 31)) s w.heap.size most m UM.none := by
  obtain ⟨v, h1, h2, h3, -⟩ := h
  have a := (AnyLater.refl w).alloc (.cells #[.slice none 0 0, .int .i64 0, .int .i64 (most : Int)] 31)
  refine ⟨v, .slice none 0 0, h1.later a, ⟨heap_new rfl, .inl ⟨rfl, rfl⟩, UOk.none _, hm⟩, h2.trans a, h3, fun k hk => ?_, fun k hk hx => ?_⟩
  · rcases hk with rfl | e
    · exact h2.below.size
    · cases e
  · rcases hx with rfl | e
    · have := h1.lt _ hk
      omega
    · cases e
/-- it is emptied -/
theorem At2.clear (h : At2 W w s x most m n) : At2 W (((w.setCell ⟨x, 0, none⟩ (.slice (some ⟨w.heap.size, 0, none⟩) 0 0)).setCell ⟨x, 1, none⟩ (.int .i64 0)).alloc (.cells #[] 3)) s x most m UM.none := by
  obtain ⟨v, u, h1, h2, h3, h4, h5, h6⟩ := h
  have hx := h2.lt x (.inl rfl)
  have hsz : w.heap.size = ((w.setCell ⟨x, 0, none⟩ (.slice (some ⟨w.heap.size, 0, none⟩) 0 0)).setCell ⟨x, 1, none⟩ (.int .i64 0)).heap.size := by rw [World.size_setCell, World.size_setCell]
  have a := (AnyLater.refl ((w.setCell ⟨x, 0, none⟩ (.slice (some ⟨w.heap.size, 0, none⟩) 0 0)).setCell ⟨x, 1, none⟩ (.int .i64 0))).alloc (.cells #[] 3)
  have st : Stays (fun q => q = x) w (((w.setCell ⟨x, 0, none⟩ (.slice (some ⟨w.heap.size, 0, none⟩) 0 0)).setCell ⟨x, 1, none⟩ (.int .i64 0)).alloc (.cells #[] 3)) :=
    (Stays.setCell (S := fun q => q = x) (Stays.setCell (S := fun q => q = x) (Stays.refl _ w) rfl _) rfl _).later a
  refine ⟨v, _, h1.stays st (fun k hk e => h6 k hk (.inl e)), ⟨any_own a (heap_at (heap_at h2.blk rfl) rfl), .inr ⟨w.heap.size, 0, 0, #[], rfl, hx, heap_new hsz, Nat.le_refl _, fun j hj => by simp [UM.none] at hj⟩, UOk.none _, h2.most⟩, st.any h3 (fun k e => h5 k (.inl e)), h4, fun k hk => ?_, fun k hk hx => ?_⟩
  · rcases hk with e | e
    · exact h5 k (.inl e)
    · obtain rfl : w.heap.size = k := by simpa [Value.ownBlock] using e
      exact h3.below.size
  · rcases hx with e | e
    · exact h6 k hk (.inl e)
    · obtain rfl : w.heap.size = k := by simpa [Value.ownBlock] using e
      have := h1.lt _ hk
      omega
end
set_option maxRecDepth 100000 in
set_option maxHeartbeats 6400000 in
theorem undoPlays_any (W : World) (a : Int) (v : Value) (l : Qs) (hv : QR W v l) : Calls Try.prog 3 #[.int .i64 a, v] W fun e w' => e = .returned (.bool true) ∧ AnyLater W w' := by
  have HL := Lib.hid undlives_any
  obtain ⟨A, cap, rfl, -⟩ := hv.form
  by_cases hr : a < 1 ∨ 1024 < a
  · have HN := Lib.hid (unew_bad a W hr)
    generalize l.length = n at *
    clear hv
    by_cases h1 : a < 1
    · clear hr
      go_enter Try.func3, Try.ntmps3
      go_wp2_with fail
      refine HN.out.mono ?_
      rintro e w1 ⟨rfl, rfl⟩
      go_wp2_with fail
      refine (HL.out _).mono ?_
      rintro e w2 ⟨rfl, b⟩
      have HB := Lib.hid b
      clear b
      go_wp2_with fail
      go_ret
      exact ⟨rfl, HB.out⟩
    · have h2 : 1024 < a := by omega
      have d1 : decide (a < 1) = false := decide_eq_false h1
      clear hr h1
      go_enter Try.func3, Try.ntmps3
      go_wp2_with fail
      refine HN.out.mono ?_
      rintro e w1 ⟨rfl, rfl⟩
      go_wp2_with fail
      refine (HL.out _).mono ?_
      rintro e w2 ⟨rfl, b⟩
      have HB := Lib.hid b
      clear b
      go_wp2_with fail
      go_ret
      exact ⟨rfl, HB.out⟩
  · obtain ⟨most, rfl⟩ : ∃ most : Nat, a = (most : Int) := ⟨a.toNat, by omega⟩
    have hm : 1 ≤ most ∧ most ≤ 1024 := by omega
    have d1 : decide ((most : Int) < 1) = false := decide_eq_false (by omega)
    have d2 : decide (1024 < (most : Int)) = false := decide_eq_false (by omega)
    have HM := Lib.hid hm
    have H0 : Hid (Calls Try.prog 7 #[.int .i64 (most : Int)] W fun e w' => e = .returned (.tuple #[sptr W.heap.size, .int .i64 0]) ∧ At1 W w' [] W.heap.size most UM.none) := Lib.hid (at_new W W most (.refl W) hm.1 hm.2)
    have HV : Hid (∀ w', AnyLater W w' → QR w' (.slice A l.length cap) l) := Lib.hid (fun w' a => hv.later a)
    obtain ⟨s, hs⟩ : ∃ s, W.heap.size = s := ⟨_, rfl⟩
    rw [hs] at H0
    obtain ⟨n, hn⟩ : ∃ n, l.length = n := ⟨_, rfl⟩
    have HLn := Lib.hid hn
    rw [hn] at HV ⊢
    clear hs hr hm hv hn
    unfold sptr at *
    go_enter Try.func3, Try.ntmps3
    go_wp2_with fail
    refine H0.out.mono ?_
    rintro e w1 ⟨rfl, h1⟩
    have HA1 := Lib.hid (At2.make HM.out h1)
    clear h1 H0
    go_wp2_with fail
    go_loopg [8] n (fun kk iv wr => ∃ (i : Nat) (m : UM), kk = n - i ∧ i ≤ n ∧ i ≤ 80 ∧ iv = .int .i64 (i : Int) ∧ At2 W wr s w1.heap.size most m m)
    case atStart => exact ⟨0, _, rfl, Nat.zero_le _, Nat.zero_le _, rfl, HA1.out⟩
    case round =>
      obtain ⟨i, m, hk, hi, hi80, rfl, h⟩ := hrel
      have HI := Lib.hid h
      clear h
      generalize w1.heap.size = x at *
      by_cases hlt : i < n
      · have d0 : (i : Int) < (n : Int) := by omega
        by_cases h80 : i < 80
        · have d3 : (i : Int) < 80 := by omega
          obtain ⟨b, off, rfl, hb, c0, c1⟩ := (HV.out wr HI.out.any).at i (by rw [HLn.out]; exact hlt)
          generalize l[i]'_ = p at *
          obtain ⟨c, z⟩ := p
          simp only at c0 c1
          go_upto_block 2 with fail
          have HPb := Lib.hid (fun w' m' (h : At2 W w' s x most m' m) => h.doc fun u h => xback_any x u most m z w' h)
          have HPa := Lib.hid (fun w' m' (h : At2 W w' s x most m' m) => h.doc fun u h => xagain_any x u most m z w' h)
          have HPp := Lib.hid (fun w' m' (h : At2 W w' s x most m' m) => h.doc fun u h => xpush_any x u most m z w' h)
          have HSb := Lib.hid (HI.out.prog fun u h => uback_any s u most m z wr h)
          have HSa := Lib.hid (HI.out.prog fun u h => uagain_any s u most m z wr h)
          have HSp := Lib.hid (HI.out.prog fun u h => upush_any s u most m z wr h)
          have HSc := Lib.hid (HI.out.prog fun u h => uclear_any s u most m wr h)
          clear HI HL HA1 HV c0 c1
          unfold sptr at *
          go_cut [] (fun wx => ∃ m2, At2 W wx s x most m2 m2)
          case first =>
            by_cases e1 : c = 1
            · subst e1
              clear HPa HPp HSa HSp HSc
              generalize backV m z = r at *
              generalize backB m = t at *
              generalize backU m z = m2 at *
              go_wp2_with fail
              refine HSb.out.mono ?_
              rintro e w2 ⟨rfl, h2⟩
              have HC := Lib.hid (HPb.out _ _ h2)
              clear h2 HSb HPb
              go_wp2_with fail
              refine HC.out.mono ?_
              rintro e w3 ⟨rfl, h3⟩
              have HZ := Lib.hid h3
              clear h3 HC
              go_wp2_with fail
              go_meet
              case rel => exact ⟨_, HZ.out⟩
            · have i1 : (c == 1) = false := by simp [e1]
              by_cases e2 : c = 2
              · subst e2
                clear HPb HPp HSb HSp HSc
                generalize againV m z = r at *
                generalize againB m = t at *
                generalize againU m z = m2 at *
                go_wp2_with fail
                refine HSa.out.mono ?_
                rintro e w2 ⟨rfl, h2⟩
                have HC := Lib.hid (HPa.out _ _ h2)
                clear h2 HSa HPa
                go_wp2_with fail
                refine HC.out.mono ?_
                rintro e w3 ⟨rfl, h3⟩
                have HZ := Lib.hid h3
                clear h3 HC
                go_wp2_with fail
                go_meet
                case rel => exact ⟨_, HZ.out⟩
              · have i2 : (c == 2) = false := by simp [e2]
                by_cases e3 : c = 3
                · subst e3
                  clear HPb HPp HSb HSp HSa HPa
                  go_wp2_with fail
                  refine HSc.out.mono ?_
                  rintro e w2 ⟨rfl, h2⟩
                  have HZ := Lib.hid h2.clear
                  obtain ⟨u, hx⟩ := h2.isX
                  have r2 := own_row hx.blk
                  have f2 := own_free hx.blk
                  have lt2 := own_lt hx.blk
                  clear h2 HSc hx
                  go_wp2_with fail
                  go_meet
                  case rel => exact ⟨_, HZ.out⟩
                · have i3 : (c == 3) = false := by simp [e3]
                  clear HPb HSb HSa HPa HSc
                  go_wp2_with fail
                  refine HSp.out.mono ?_
                  rintro e w2 ⟨rfl, h2⟩
                  have HC := Lib.hid (HPp.out _ _ h2)
                  clear h2 HSp HPp
                  go_wp2_with fail
                  refine HC.out.mono ?_
                  rintro e w3 ⟨rfl, h3⟩
                  have HZ := Lib.hid h3
                  clear h3 HC
                  go_wp2_with fail
                  go_meet
                  case rel => exact ⟨_, HZ.out⟩
          case rest =>
            obtain ⟨m2, h⟩ := hcut
            have HZ := Lib.hid h
            have a_wc := h.any
            obtain ⟨u, hx⟩ := h.isX
            obtain ⟨v2, hv2⟩ := h.isS
            have HQ := Lib.hid (fun w' (a : AnyLater wc w') => same_later (past_any s v2 most m2 w' (hv2.later a)))
            have HF := Lib.hid (fun w' (a : AnyLater wc w') => future_any s v2 most m2 w' (hv2.later a))
            have c0 : wc.cell? ⟨x, 0, none⟩ = some u := own_row hx.blk 0
            have c1 : wc.cell? ⟨x, 1, none⟩ = some (.int .i64 (m2.now : Int)) := own_row hx.blk 1
            obtain ⟨A2, cap2, rfl, -⟩ := hx.row.rn.form
            have hle := hx.ok.le
            have hln := hx.ok.len
            have hmm := HM.out.2
            have E : Hid ((m2.l.length : Int) - (m2.now : Int) = ((m2.l.length - m2.now : Nat) : Int)) := Lib.hid (by omega)
            clear h hx hv2 HSa HSb HSc HSp HPa HPb HPp
            generalize m2.l.length = d at *
            generalize m2.now = q at *
            obtain ⟨f, hf⟩ : ∃ f, d - q = f := ⟨_, rfl⟩
            rw [hf] at HF E
            have e4 := E.out
            unfold sptr at *
            go_wp2_with fail
            apply wp_region_free (22) [⟨1, 129, .int .i64 (q : Int), false, fun v _ => v = .int .i64 (q : Int)⟩, ⟨9, 137, .int .i64 (f : Int), false, fun v _ => v = .int .i64 (f : Int)⟩] [] rfl (by kernel_rfl) (by kernel_rfl) (by kernel_rfl) (by simp) (by kernel_rfl)
            case hstab =>
              intro c hc
              simp only [List.mem_cons, List.not_mem_nil, or_false] at hc
              rcases hc with rfl | rfl
              · intro v x y hxy hv; exact hv
              · intro v x y hxy hv; exact hv
            case hfix =>
              intro c hc
              simp only [List.mem_cons, List.not_mem_nil, or_false] at hc
              rcases hc with rfl | rfl
              · exact .inr fun u x h => h
              · exact .inr fun u x h => h
            case hlex =>
              intro U hU
              have q_c0 := cell_on hU c0
              have q_c1 := cell_on hU c1
              simp only [List.map_cons, List.map_nil, CA.act, actFrom, actOp, List.lookup, Nat.reduceBEq, Nat.reduceLeDiff, Nat.reduceAdd, if_false, if_true]
              repeat (go_big_quiet_step (first | fail))
              exact wpQuiet_nil rfl
            case hstep =>
              intro j hj o ho
              have hj2 : j = 0 ∨ j = 1 := by simp at hj; omega
              rcases hj2 with rfl | rfl
              · cases ho
                refine ⟨rfl, fun g x hx hp => ?_⟩
                clear hp
                simp only [fillAll, Act.put, List.setIfInBounds_toArray, List.set_cons_zero, List.set_cons_succ]
                refine chain_go ?_ (free_fix (HQ.out x hx))
                first | (simp [go_sem, execOp]; done) | simp [go_sem, execOp, hcf]
              · cases ho
                refine ⟨rfl, fun g x hx hp => ?_⟩
                clear hp
                simp only [fillAll, Act.put, List.setIfInBounds_toArray, List.set_cons_zero, List.set_cons_succ]
                refine chain_go ?_ (free_fix (HF.out x hx))
                first | (simp [go_sem, execOp]; done) | simp [go_sem, execOp, hcf]
            case htail =>
              intro g u hst hne
              have b_w2 : AnyLater wc (later u) := ⟨u, rfl⟩
              generalize later u = w2 at *
              clear u
              clear hst hne
              simp only [fillAll, Act.put, List.setIfInBounds_toArray, List.set_cons_zero, List.set_cons_succ, List.drop_succ_cons, List.drop_zero, List.drop_nil]
              have z_w2 := b_w2.below.size
              have a_w2 := a_wc.trans b_w2
              have c0_w2 := cell_on b_w2 c0
              have c1_w2 := cell_on b_w2 c1
              have HB := Lib.hid b_w2
              go_wp2_with fail
              go_roundg (n - (i + 1))
              case measure => omega
              case rel => exact ⟨i + 1, m2, rfl, hlt, h80, by go_num, HZ.out.later HB.out⟩
        · have d3 : decide ((i : Int) < 80) = false := decide_eq_false (by omega)
          have HAn := Lib.hid HI.out.any
          clear HI
          go_wp2_with fail
          refine (HL.out _).mono ?_
          rintro e w4 ⟨rfl, b4⟩
          have HB4 := Lib.hid b4
          clear b4
          go_wp2_with fail
          go_ret
          exact ⟨rfl, HAn.out.trans HB4.out⟩
      · have d0 : decide ((i : Int) < (n : Int)) = false := decide_eq_false (by omega)
        have HAn := Lib.hid HI.out.any
        clear HI
        go_wp2_with fail
        refine (HL.out _).mono ?_
        rintro e w4 ⟨rfl, b4⟩
        have HB4 := Lib.hid b4
        clear b4
        go_wp2_with fail
        go_ret
        exact ⟨rfl, HAn.out.trans HB4.out⟩
end Go.Proofs.Ytnbchaigbkblfaa
