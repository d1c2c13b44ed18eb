/- glyph: GlyphWide: glyphs of another size, and of any columns. -/
import Derived.Test.YtfliniknaonieaaGlyD
import Derived.Deep.CutBlock
import Derived.Deep.DeepCutAuto
namespace Go.Proofs.Ytfliniknaonieaa
set_option linter.unusedSimpArgs false
set_option linter.unusedVariables false
set_option linter.unusedSectionVars false
open Go.RowKit

/-! ### bytes copied -/
theorem info_byte : (Try.prog.info? 5).map (fun i => (i.zero, i.size, i.bytes)) = some (some (.int .u8 0), 1, 1) := by kernel_rfl
/-- append([]byte{}, l...) -/
theorem run_copyY {w : World} {v2 : Value} {l : List Int} (hr : RY w v2 l) (hn : l.length ≤ 200000) :
    ∃ g c cells w2, (Builtin.append_ #[60, 60] 60 #[.slice (some ⟨w.heap.size, 0, none⟩) 0 0, v2]).run Try.prog (w.alloc (.cells #[] 5)) = .ok (.slice (some ⟨g, 0, none⟩) l.length c) w2 ∧ AnyLater w w2 ∧ w.heap.size ≤ g ∧ w2.heap[g]? = some (.cells cells 5) ∧ l.length ≤ c ∧ ∀ (x : Nat) (hx : x < l.length), cells[x]? = some (.int .u8 l[x]) := by
  obtain ⟨i0, hi0, hz0, hz1, hz2⟩ := info_parts info_byte
  obtain ⟨A, cap, rfl, h2, h3⟩ := hr
  have ho : (w.alloc (.cells #[] 5)).ownsRow w.heap.size 5 1 (.slice (some ⟨w.heap.size, 0, none⟩) 0 0) 0 [] := ⟨rfl, .inr ⟨w.heap.size, 0, #[], rfl, Nat.le_refl _, heap_new rfl, Nat.le_refl _, Nat.zero_le _, rfl, rfl⟩⟩
  have a1 : AnyLater w (w.alloc (.cells #[] 5)) := (AnyLater.refl w).alloc _
  cases A with
  | none =>
    have h0 : l.length = 0 := by
      rcases Nat.eq_zero_or_pos l.length with h | h
      · exact h
      · obtain ⟨b, off, e, _⟩ := h3 h; cases e
    obtain rfl := List.eq_nil_of_length_eq_zero h0
    have hs := Src.ofNil (P := Try.prog) (w.alloc (.cells #[] 5)) (size := i0.size) Try.underlying60 cap
    exact ⟨w.heap.size, 0, #[], _, run_append_nothing (P := Try.prog) _ 60 60 60 5 i0 Try.underlying60 hi0 _ 0 0 (Nat.le_refl _) _ hs, a1, Nat.le_refl _, heap_new rfl, Nat.le_refl _, fun x hx => by simp at hx⟩
  | some ad =>
    have hnews : ∀ j u, (l.map (Value.int .u8))[j]? = some u → (w.alloc (.cells #[] 5)).cell? (ad.add j) = some u := by
      intro j u hu
      have hj : j < l.length := by
        rcases Nat.lt_or_ge j l.length with h | h
        · exact h
        · rw [List.getElem?_eq_none (by simpa using h)] at hu; cases hu
      obtain ⟨b, off, e, hb, hc⟩ := h3 (by omega)
      cases e
      have hadd : (⟨b, off, none⟩ : Addr).add j = ⟨b, off + j, none⟩ := by unfold Addr.add; split <;> simp_all
      rw [hadd, a1.below.cell hb, hc j hj, ← hu]
      simp [hj]
    obtain ⟨v', w', k1, k2, k3, k4⟩ := run_append_own (P := Try.prog) (w.alloc (.cells #[] 5)) w.heap.size 60 60 5 i0 (.int .u8 0) 1 1 Try.underlying60 hi0 hz0 hz1 hz2 rfl (by decide) _ 0 [] ho ad l.length cap (l.map (Value.int .u8)) (by simp) hnews (by intro u hu; obtain ⟨z, _, rfl⟩ := List.mem_map.1 hu; rfl) (by unfold maxLen; omega) (by omega) (by simp)
    have aw : AnyLater w w' := grown_later a1 k3 (fun k hk => by simp only [Value.ownBlock, Option.some.injEq] at hk; omega)
    rcases k2.2 with ⟨e, _⟩ | ⟨g, c, cur, rfl, q1, q2, q3, q4, q5, q6⟩
    · have := (k4.1 e).1; cases this
    · rw [Nat.zero_add] at k1 q3 q6
      refine ⟨g, c, cur, w', k1, aw, q1, q2, q3, fun x hx => ?_⟩
      have : (cur.toList.take (l.length * 1))[x]? = (l.map (Value.int .u8))[x]? := by rw [q6]; rfl
      rw [List.getElem?_take_of_lt (by omega), Array.getElem?_toList] at this
      rw [this]
      simp [hx]
theorem RY.keeps {S : Nat → Prop} {w w' : World} {v : Value} {l : List Int} (h : RY w v l) (hk : Keeps S w w') (hS : ∀ b, S b → ∀ j z, w.cell? ⟨b, j, none⟩ ≠ some (.int .u8 z)) : RY w' v l := by
  obtain ⟨A, cap, h1, h2, h3⟩ := h
  refine ⟨A, cap, h1, h2, fun h0 => ?_⟩
  obtain ⟨b, off, e, hb, hc⟩ := h3 h0
  have hbS : ¬ S b := fun hs => hS b hs _ _ (hc 0 h0)
  have hblk := hk.block b hb hbS
  exact ⟨b, off, e, Nat.lt_of_lt_of_le hb hk.size, fun j hj => by rw [← hc j hj]; simp [World.cell?, hblk]⟩
theorem box_no8 {w : World} {b : Nat} {x y : Int} {A : Option Addr} {n c : Nat} {t : TypeId} (h : w.heap[b]? = some (.cells #[.int .i64 x, .int .i64 y, .slice A n c] t)) (j : Nat) (z : Int) : w.cell? ⟨b, j, none⟩ ≠ some (.int .u8 z) := by
  rw [own_row h]
  match j with
  | 0 => simp
  | 1 => simp
  | 2 => simp
  | j + 3 => simp
theorem RY.take {w : World} {A : Option Addr} {n cap : Nat} {l : List Int} (h : RY w (.slice A n cap) l) (hn : l.length = n) (hlt : 40 < n) : RY w (.slice A 40 cap) (l.take 40) := by
  obtain ⟨A', cap', e, h2, h3⟩ := h
  cases e
  have hl : (l.take 40).length = 40 := by rw [List.length_take]; omega
  refine ⟨A, cap, by rw [hl], by rw [hl]; omega, fun _ => ?_⟩
  obtain ⟨b, off, e, hb, hc⟩ := h3 (by omega)
  exact ⟨b, off, e, hb, fun j hj => by rw [hc j (by rw [hl] at hj; omega), List.getElem_take]⟩
theorem RY.form {w : World} {v : Value} {l : List Int} (h : RY w v l) : ∃ A n cap, v = .slice A n cap ∧ l.length = n ∧ n ≤ cap := by
  obtain ⟨A, cap, rfl, h2, _⟩ := h
  exact ⟨A, _, cap, rfl, rfl, h2⟩
/-- the byte that stands at a place -/
theorem RY.byte {w : World} {A : Option Addr} {n cap : Nat} {l : List Int} (h : RY w (.slice A n cap) l) (x : Nat) (hx : x < l.length) : ∃ b off, A = some ⟨b, off, none⟩ ∧ b < w.heap.size ∧ w.cell? ⟨b, off + x, none⟩ = some (.int .u8 (l.getD x 0)) ∧ l.getD x 0 ∈ l := by
  obtain ⟨A', cap', e, h2, h3⟩ := h
  obtain ⟨b, off, e1, hb, hc⟩ := h3 (by omega)
  have eA : A = A' := by injection e
  have e2 : l.getD x 0 = l[x] := by simp [List.getD, hx]
  refine ⟨b, off, eA.trans e1, hb, ?_, ?_⟩
  · rw [hc x hx, e2]
  · rw [e2]; exact List.getElem_mem hx
set_option maxRecDepth 100000 in
set_option maxHeartbeats 51200000 in
theorem glyphWide_any (G : GSays) (g : GM) (v vc : Value) (cols : List Int) (w : World) (hv : IsG g v w) (hok : g.Ok) (m q : Int) (hm : I64 m) (hq : I64 q) (hcl : RY w vc cols) (hcb : ∀ c ∈ cols, 0 ≤ c ∧ c ≤ 255) :
    Calls Try.prog 9 #[v, .agg #[.int .i64 m, .int .i64 q], vc] w fun e w' => e = .returned (.bool true) ∧ AnyLater w w' := by
  have HG := Lib.hid G
  have HV := Lib.hid hv
  obtain ⟨A0, n0, cap0, rfl, -⟩ := hv.form
  obtain ⟨Ac, nc, capc, rfl, hnc, hncap⟩ := hcl.form
  have hkk := few_few g
  have hkl := few_len g
  have hko := few_ok hok
  have HF := Lib.hid (fun w' (ha : AnyLater w w') => few_any g _ w' (HV.out.later ha))
  have HC0 := Lib.hid hcl
  have HCb := Lib.hid hcb
  have HNc := Lib.hid hnc
  clear G hv hok hcl hcb hnc
  generalize g.w = W0 at *
  generalize g.h = H0 at *
  go_enter Try.func9, Try.ntmps9
  go_wp2_with fail
  first | refine settle_wp (fun wS => AnyLater w wS ∧ wS.heap[w.heap.size]? = some (.cells #[.int .i64 W0, .int .i64 H0, .slice A0 n0 cap0] 51) ∧ wS.heap[w.heap.size + 1]? = some (.cells #[.int .i64 m, .int .i64 q] 56)) ?_ ?_ | refine settle_calls (fun wS => AnyLater w wS ∧ wS.heap[w.heap.size]? = some (.cells #[.int .i64 W0, .int .i64 H0, .slice A0 n0 cap0] 51) ∧ wS.heap[w.heap.size + 1]? = some (.cells #[.int .i64 m, .int .i64 q] 56)) ?_ ?_
  · refine ⟨?_, ?_, ?_⟩
    · repeat' (first | with_reducible assumption | with_reducible exact AnyLater.refl _ | with_reducible apply AnyLater.setCell | with_reducible apply AnyLater.later | with_reducible apply AnyLater.drewN | with_reducible apply AnyLater.drew | with_reducible apply AnyLater.alloc | ((try simp only [World.size_alloc, World.size_setCell, World.size_drew]); (try dsimp only); omega))
    · ((repeat (first | with_reducible assumption | ((with_reducible apply heap_new); (try simp only [World.size_alloc, World.size_setCell, World.size_drew, World.heap_drewN]); done) | ((with_reducible apply heap_new); (try simp only [World.size_alloc, World.size_setCell, World.size_drew, World.heap_drewN]); omega) | (with_reducible refine heap_old (by (try simp only [World.size_alloc, World.size_setCell, World.size_drew, World.heap_drewN]); omega) ?_) | (with_reducible refine heap_drew ?_) | (with_reducible refine heap_far (by omega) ?_) | (with_reducible apply heap_at))); all_goals rfl)
    · ((repeat (first | with_reducible assumption | ((with_reducible apply heap_new); (try simp only [World.size_alloc, World.size_setCell, World.size_drew, World.heap_drewN]); done) | ((with_reducible apply heap_new); (try simp only [World.size_alloc, World.size_setCell, World.size_drew, World.heap_drewN]); omega) | (with_reducible refine heap_old (by (try simp only [World.size_alloc, World.size_setCell, World.size_drew, World.heap_drewN]); omega) ?_) | (with_reducible refine heap_drew ?_) | (with_reducible refine heap_far (by omega) ?_) | (with_reducible apply heap_at))); all_goals rfl)
  rintro w1 ⟨b_w1, s0_w1, s1_w1⟩
  have a_w1 := b_w1
  have r0_w1 := own_row s0_w1
  have f0_w1 := own_free s0_w1
  have l0_w1 := own_lt s0_w1
  have r1_w1 := own_row s1_w1
  have f1_w1 := own_free s1_w1
  have l1_w1 := own_lt s1_w1
  have z_w1 := b_w1.below.size
  refine (HF.out w1 a_w1).mono ?_
  rintro e w2 ⟨u, rfl, b2, hf⟩
  have s2_w2 := any_own b2 s0_w1
  have t2_w2 := any_own b2 s1_w1
  have r2_w2 := own_row s2_w2
  have f2_w2 := own_free s2_w2
  have l2_w2 := own_lt s2_w2
  have a_w2 := a_w1.trans b2
  clear s0_w1 r0_w1 f0_w1 l0_w1 s1_w1 r1_w1 f1_w1 l1_w1 b2 b_w1 z_w1 a_w1 HF HV
  generalize few g = k at *
  have HK := Lib.hid hf
  obtain ⟨A, n, cap, rfl, hn⟩ := hf.form
  clear hf
  have HN := Lib.hid hn
  have HKO := Lib.hid hko
  have HKL := Lib.hid hkl
  have HM := Lib.hid hm
  have HQ := Lib.hid hq
  have HLv := Lib.hid (fun w' => glives_any HG.out w')
  obtain ⟨gd, hgd⟩ : ∃ c, goodG k = c := ⟨_, rfl⟩
  have HGD := Lib.hid hgd
  have HKK := Lib.hid hkk
  have HC2 := Lib.hid (HC0.out.later a_w2)
  clear hgd hkk hkl hn hko
  go_upto_if 19 with fail
  refine settle_wp (fun wS => AnyLater w wS ∧ Keeps (fun b => b = w.heap.size) w2 wS ∧ wS.heap[w.heap.size]? = some (.cells #[.int .i64 k.w, .int .i64 k.h, .slice A n cap] 51)) ⟨?_, ?_, ?_⟩ ?_
  · repeat' (first | with_reducible assumption | with_reducible exact AnyLater.refl _ | with_reducible apply AnyLater.setCell | with_reducible apply AnyLater.later | with_reducible apply AnyLater.drewN | with_reducible apply AnyLater.drew | with_reducible apply AnyLater.alloc | ((try simp only [World.size_alloc, World.size_setCell, World.size_drew]); (try dsimp only); omega))
  · refine Keeps.setCell (Keeps.setCell (Keeps.setCell (Keeps.refl _ _) ?_ _) ?_ _) ?_ _ <;> rfl
  · exact heap_at (heap_at (heap_at s2_w2 rfl) rfl) rfl
  rintro w3 ⟨a_w3, k3, s0_w3⟩
  have s1_w3 : w3.heap[w.heap.size + 1]? = some (.cells #[.int .i64 m, .int .i64 q] 56) := (k3.block _ (own_lt t2_w2) (by omega)).trans t2_w2
  have HK3 := Lib.hid (HK.out.keeps k3 (fun b hb => by subst hb; exact box_no32 s2_w2))
  have HC3 := Lib.hid (HC2.out.keeps k3 (fun b hb => by subst hb; exact box_no8 s2_w2))
  clear s2_w2 t2_w2 r2_w2 f2_w2 l2_w2 k3 a_w2 HK HC0 HC2
  obtain ⟨cl, hcl⟩ : ∃ l, cols.take 40 = l := ⟨_, rfl⟩
  obtain ⟨nl, hnl⟩ : ∃ x, cl.length = x := ⟨_, rfl⟩
  have hnl40 : nl ≤ 40 := by rw [← hnl, ← hcl, List.length_take]; omega
  have HNl := Lib.hid hnl
  have HCl := Lib.hid hcl
  have HClb : Hid (∀ c ∈ cl, 0 ≤ c ∧ c ≤ 255) := Lib.hid (fun c hc => HCb.out c (by rw [← hcl] at hc; exact List.mem_of_mem_take hc))
  clear hcl hnl
  go_cut [2] (fun x wx => ∃ A5 c5, x = .slice A5 nl c5 ∧ nl ≤ c5 ∧ RY w3 (.slice A5 nl c5) cl ∧ wx = w3)
  case first =>
    by_cases hlt : 40 < nc
    · have h1 : RY w3 (.slice Ac 40 capc) cl := by rw [← HCl.out]; exact HC3.out.take HNc.out hlt
      have h2 : nl = 40 := by rw [← HNl.out, ← HCl.out, List.length_take, HNc.out]; omega
      have H1 := Lib.hid (And.intro h1 h2)
      clear h1 h2
      go_wp2_with fail
      go_meet
      case rel => exact ⟨Ac, capc, by rw [H1.out.2], by rw [H1.out.2]; omega, by rw [H1.out.2]; exact H1.out.1, rfl⟩
    · have h0 : cl = cols := by rw [← HCl.out]; exact List.take_of_length_le (by rw [HNc.out]; omega)
      have h2 : nl = nc := by rw [← HNl.out, h0, HNc.out]
      have H1 := Lib.hid (And.intro h0 h2)
      clear h0 h2
      go_wp2_with fail
      go_meet
      case rel => exact ⟨Ac, capc, by rw [H1.out.2], by rw [H1.out.2]; omega, by rw [H1.out.1, H1.out.2]; exact HC3.out, rfl⟩
  case rest =>
    obtain ⟨A5, c5, rfl, hc5, hry, hw⟩ := hcut
    subst hw
    generalize wc = w3 at *
    have HRy := Lib.hid hry
    have r0_w3 := own_row s0_w3
    have r1_w3 := own_row s1_w3
    have f0_w3 := own_free s0_w3
    have f1_w3 := own_free s1_w3
    have l0_w3 := own_lt s0_w3
    have l1_w3 := own_lt s1_w3
    have z_w3 := Nat.le_refl w3.heap.size
    have HFc : Hid (∀ w', AnyLater w3 w' → Shows 21 #[.agg #[.int .i64 k.w, .int .i64 k.h, .slice A n cap]] w' (IsG k)) := Lib.hid (fun w' ha => by
      have := few_any k _ w' (HK3.out.later ha)
      rw [HKK.out] at this
      exact this)
    clear hry
    go_wp2_with fail
    apply wp_region_free (8) [⟨1, 23, undef, true, IsG k⟩, ⟨6, 28, undef, true, IsP (WideP k m q)⟩, ⟨7, 7, undef, true, isVar (.cells #[.int .i64 0, .int .i64 0, .slice none 0 0] 51)⟩] [⟨1, 23, IsG k⟩, ⟨6, 28, IsP (WideP k m q)⟩, ⟨7, 7, isVar (.cells #[.int .i64 0, .int .i64 0, .slice none 0 0] 51)⟩] rfl (by kernel_rfl) (by kernel_rfl) (by kernel_rfl) (by simp) (by kernel_rfl)
    case hstab =>
      intro c hc
      simp only [List.mem_cons, List.not_mem_nil, or_false] at hc
      rcases hc with rfl | rfl | rfl
      · intro v x y hxy hv; exact IsG.later hxy hv
      · intro v x y hxy hv; exact IsP.later hxy hv
      · intro v x y hxy hv; exact isVar_stays hxy hv
    case hfix =>
      intro c hc
      simp only [List.mem_cons, List.not_mem_nil, or_false] at hc
      rcases hc with rfl | rfl | rfl
      · exact .inl rfl
      · exact .inl rfl
      · exact .inl rfl
    case hlex =>
      intro U hU
      have q0 := own_row (any_own hU s0_w3)
      have q1 := own_row (any_own hU s1_w3)
      simp only [List.map_cons, List.map_nil, CA.act, actFrom, actOp, List.lookup, Nat.reduceBEq, Nat.reduceLeDiff, Nat.reduceAdd, if_false, if_true]
      repeat (go_big_quiet_step (first | fail))
      exact wpQuiet_nil rfl
    case hstep =>
      intro j hj o ho
      have hj2 : j = 0 ∨ j = 1 ∨ j = 2 := by simp at hj; omega
      rcases hj2 with rfl | rfl | rfl
      · cases ho
        refine ⟨rfl, fun g x hx hp => ?_⟩
        clear hp
        simp only [fillAll, Act.put, List.setIfInBounds_toArray, List.set_cons_zero, List.set_cons_succ]
        refine chain_go ?_ (free_tells IsG.nob (HFc.out x hx))
        simp [go_sem, execOp]
      · cases ho
        refine ⟨rfl, fun g x hx hp => ?_⟩
        have p23 : (IsG k) (g 1) x := hp _ (List.mem_of_getElem? (i := 0) rfl) (List.contains_iff_mem.1 (by kernel_rfl))
        clear hp
        simp only [fillAll, Act.put, List.setIfInBounds_toArray, List.set_cons_zero, List.set_cons_succ]
        refine chain_go ?_ (free_tells IsP.nob (HG.out.wide m q p23 HKO.out HKL.out HM.out HQ.out))
        simp [go_sem, execOp]
      · cases ho
        refine ⟨rfl, fun g x hx hp => ?_⟩
        exact free_var (fun r x => by simp [go_sem, execOp])
    case htail =>
      intro g u hst hne
      have b_w4 : AnyLater w3 (later u) := ⟨u, rfl⟩
      generalize later u = w4 at *
      clear u
      obtain ⟨p23_w4, o23_w4⟩ := hst _ (List.mem_of_getElem? (i := 0) rfl)
      dsimp only at p23_w4 o23_w4
      obtain ⟨p28_w4, o28_w4⟩ := hst _ (List.mem_of_getElem? (i := 1) rfl)
      dsimp only at p28_w4 o28_w4
      obtain ⟨⟨b7, e7, s2_w4⟩, o7_w4⟩ := hst _ (List.mem_of_getElem? (i := 2) rfl)
      dsimp only at e7 o7_w4
      have o7_w4 := o7_w4 b7 (by rw [e7]; rfl)
      clear hst hne
      simp only [fillAll, Act.put, List.setIfInBounds_toArray, List.set_cons_zero, List.set_cons_succ, List.drop_succ_cons, List.drop_zero, List.drop_nil]
      generalize g 1 = v23 at *
      generalize g 6 = v28 at *
      rw [e7]
      clear e7
      have z_w4 := b_w4.below.size
      have a_w4 := a_w3.trans b_w4
      have s0_w4 := any_own b_w4 s0_w3
      have s1_w4 := any_own b_w4 s1_w3
      have r0_w4 := own_row s0_w4
      have f0_w4 := own_free s0_w4
      have l0_w4 := own_lt s0_w4
      have r1_w4 := own_row s1_w4
      have f1_w4 := own_free s1_w4
      have l1_w4 := own_lt s1_w4
      (try clear r0_w3); (try clear f0_w3)
      (try clear r1_w3); (try clear f1_w3)
      have r2_w4 := own_row s2_w4
      have f2_w4 := own_free s2_w4
      have l2_w4 := own_lt s2_w4
      obtain ⟨b, hb, pb⟩ := p28_w4
      have HB4 := Lib.hid hb
      have HK4 := Lib.hid (HK3.out.later b_w4)
      have HR4 := Lib.hid (HRy.out.later b_w4)
      obtain ⟨A1, n1, cap1, rfl, hn1⟩ := hb.form
      have PB := Lib.hid pb
      clear hb pb hn1 p23_w4 o23_w4 o28_w4 s0_w3 s1_w3
      go_upto_region 5 with fail
      refine settle_wp (fun wS => AnyLater w wS ∧ Keeps (fun q => q = b7) w4 wS ∧ wS.heap[w.heap.size]? = some (.cells #[.int .i64 k.w, .int .i64 k.h, .slice A n cap] 51) ∧ wS.heap[w.heap.size + 1]? = some (.cells #[.int .i64 m, .int .i64 q] 56) ∧ wS.heap[b7]? = some (.cells #[.int .i64 b.w, .int .i64 b.h, .slice A1 n1 cap1] 51)) ⟨?_, ?_, ?_, ?_, ?_⟩ ?_
      · repeat' (first | with_reducible assumption | with_reducible exact AnyLater.refl _ | with_reducible apply AnyLater.setCell | with_reducible apply AnyLater.later | with_reducible apply AnyLater.drewN | with_reducible apply AnyLater.drew | with_reducible apply AnyLater.alloc | ((try simp only [World.size_alloc, World.size_setCell, World.size_drew]); (try dsimp only); omega))
      · refine Keeps.setCell (Keeps.setCell (Keeps.setCell (Keeps.refl _ _) ?_ _) ?_ _) ?_ _ <;> rfl
      · exact heap_far (by omega) (heap_far (by omega) (heap_far (by omega) s0_w4))
      · exact heap_far (by omega) (heap_far (by omega) (heap_far (by omega) s1_w4))
      · exact heap_at (heap_at (heap_at s2_w4 rfl) rfl) rfl
      rintro w5 ⟨a_w5, k5, sK, sZ, sB⟩
      have HKc := Lib.hid (HK4.out.keeps k5 (fun b hb => by subst hb; exact box_no32 s2_w4))
      have HBc := Lib.hid (HB4.out.keeps k5 (fun b hb => by subst hb; exact box_no32 s2_w4))
      have HRc := Lib.hid (HR4.out.keeps k5 (fun b hb => by subst hb; exact box_no8 s2_w4))
      have HS := Lib.hid (And.intro sK (And.intro sZ sB))
      clear s0_w4 s1_w4 s2_w4 r0_w4 r1_w4 r2_w4 f0_w4 f1_w4 f2_w4 k5 sK sZ sB HK4 HB4 HR4 a_w4 b_w4
      have CG : Hid (∀ w', AnyLater w5 w' → Calls Try.prog 22 #[.agg #[.int .i64 k.w, .int .i64 k.h, .slice A n cap]] w' fun e w'' => e = .returned (.bool gd) ∧ AnyLater w' w'') := Lib.hid (fun w' ha => refGoodG_any k _ w' gd HGD.out (HKc.out.later ha) HKO.out (by have := HKL.out; omega))
      obtain ⟨may, hmay⟩ : ∃ c, (goodG k && decide (0 ≤ m ∧ m ≤ 32 ∧ 0 ≤ q ∧ q ≤ 32)) = c := ⟨_, rfl⟩
      have HMay := Lib.hid hmay
      clear hmay
      go_cut [8] (fun x wx => x = .bool may ∧ AnyLater w5 wx)
      case first =>
        obtain ⟨m1, m2⟩ := hm
        obtain ⟨q1, q2⟩ := hq
        have r5 := own_row HS.out.1
        have z5 := own_row HS.out.2.1
        have HY : Hid (gd = true → may = decide (0 ≤ m ∧ m ≤ 32 ∧ 0 ≤ q ∧ q ≤ 32)) := Lib.hid (fun h => by rw [← HMay.out, HGD.out, h, Bool.true_and])
        cases gd with
        | false =>
          have HZ : Hid (false = may) := Lib.hid (by rw [← HMay.out, HGD.out, Bool.false_and])
          go_wp2_with fail
          refine (CG.out w5 (AnyLater.refl _)).mono ?_
          rintro e w6 ⟨rfl, b6⟩
          have z6 := own_row (any_own b6 HS.out.2.1)
          go_wp2_with fail
          go_meet
          case rel => exact ⟨by rw [← HZ.out], b6⟩
        | true =>
          have HZ := Lib.hid (HY.out rfl)
          by_cases x1 : 0 ≤ m
          · by_cases x2 : m ≤ 32
            · by_cases x3 : 0 ≤ q
              · by_cases x4 : q ≤ 32
                · have HW : Hid (true = may) := Lib.hid (by rw [HZ.out, decide_eq_true ⟨x1, x2, x3, x4⟩])
                  go_wp2_with fail
                  refine (CG.out w5 (AnyLater.refl _)).mono ?_
                  rintro e w6 ⟨rfl, b6⟩
                  have z6 := own_row (any_own b6 HS.out.2.1)
                  go_wp2_with fail
                  go_meet
                  case rel => exact ⟨by rw [← HW.out], b6⟩
                · have HW : Hid (false = may) := Lib.hid (by rw [HZ.out, decide_eq_false (fun h => x4 h.2.2.2)])
                  go_wp2_with fail
                  refine (CG.out w5 (AnyLater.refl _)).mono ?_
                  rintro e w6 ⟨rfl, b6⟩
                  have z6 := own_row (any_own b6 HS.out.2.1)
                  go_wp2_with fail
                  go_meet
                  case rel => exact ⟨by rw [← HW.out, decide_eq_false (by omega)], b6⟩
              · have HW : Hid (false = may) := Lib.hid (by rw [HZ.out, decide_eq_false (fun h => x3 h.2.2.1)])
                go_wp2_with fail
                refine (CG.out w5 (AnyLater.refl _)).mono ?_
                rintro e w6 ⟨rfl, b6⟩
                have z6 := own_row (any_own b6 HS.out.2.1)
                go_wp2_with fail
                go_meet
                case rel => exact ⟨by rw [← HW.out], b6⟩
            · have HW : Hid (false = may) := Lib.hid (by rw [HZ.out, decide_eq_false (fun h => x2 h.2.1)])
              go_wp2_with fail
              refine (CG.out w5 (AnyLater.refl _)).mono ?_
              rintro e w6 ⟨rfl, b6⟩
              have z6 := own_row (any_own b6 HS.out.2.1)
              go_wp2_with fail
              go_meet
              case rel => exact ⟨by rw [← HW.out], b6⟩
          · have HW : Hid (false = may) := Lib.hid (by rw [HZ.out, decide_eq_false (fun h => x1 h.1)])
            go_wp2_with fail
            refine (CG.out w5 (AnyLater.refl _)).mono ?_
            rintro e w6 ⟨rfl, b6⟩
            have z6 := own_row (any_own b6 HS.out.2.1)
            go_wp2_with fail
            go_meet
            case rel => exact ⟨by rw [← HW.out], b6⟩
      case rest =>
        obtain ⟨rfl, b6⟩ := hcut
        generalize wc = w6 at *
        go_upto_region 6 with fail
        go_cut [69] (fun x wx => x = .bool false ∧ AnyLater w5 wx)
        case first =>
          have z6 := own_row (any_own b6 HS.out.2.1)
          have rb6 := own_row (any_own b6 HS.out.2.2)
          have B6 := Lib.hid b6
          clear b6
          cases may with
          | false =>
            have hno := PB.out.no (fun h => by have := HMay.out; rw [h.1, decide_eq_true h.2] at this; cases this)
            have CN : Hid (∀ w', AnyLater w5 w' → Calls Try.prog 32 #[.agg #[.int .i64 b.w, .int .i64 b.h, .slice A1 n1 cap1]] w' fun e w'' => e = .returned (.bool true) ∧ AnyLater w' w'') := Lib.hid (fun w' ha => none_any b _ w' true (decide_eq_true ⟨hno.1, hno.2.1, by rw [hno.2.2]; rfl⟩) (HBc.out.later ha))
            clear hno
            go_wp2_with fail
            refine (CN.out w6 B6.out).mono ?_
            rintro e w7 ⟨rfl, b7'⟩
            go_wp2_with fail
            go_meet
            case rel => exact ⟨rfl, B6.out.trans b7'⟩
          | true =>
            have hand := HMay.out
            rw [Bool.and_eq_true] at hand
            obtain ⟨h1, h2⟩ := hand
            obtain ⟨x1, x2, x3, x4⟩ := of_decide_eq_true h2
            obtain ⟨e1, e2, e3, e4⟩ := PB.out.yes h1 x1 x2 x3 x4
            obtain ⟨gi1, gi2, gi3, gi4, gi5, gi6⟩ := goodG_in e3
            have CI : Hid (∀ w', AnyLater w5 w' → Calls Try.prog 33 #[.agg #[.int .i64 b.w, .int .i64 b.h, .slice A1 n1 cap1], .int .i64 m, .int .i64 q] w' fun e w'' => e = .returned (.bool true) ∧ AnyLater w' w'') := Lib.hid (fun w' ha => is_any b _ w' m q true (by rw [e3, decide_eq_true ⟨e1, e2⟩]; rfl) (HBc.out.later ha) PB.out.ok (by omega))
            clear h1 h2 x1 x2 x3 x4 e1 e2 e3 e4 gi1 gi2 gi3 gi4 gi5 gi6
            go_wp2_with fail
            refine (CI.out w6 B6.out).mono ?_
            rintro e w7 ⟨rfl, b7'⟩
            go_wp2_with fail
            go_meet
            case rel => exact ⟨rfl, B6.out.trans b7'⟩
        case rest =>
          obtain ⟨rfl, b6'⟩ := hcut
          clear b6
          generalize wc = w7 at *
          go_upto_block 0 with fail
          go_cut [] (fun wx => AnyLater w5 wx)
          case first =>
            cases may with
            | false =>
              go_wp2_with fail
              go_loopg [9] 33 (fun kk yv wr => ∃ y : Nat, kk = 33 - y ∧ y ≤ 33 ∧ yv = .int .i64 y ∧ AnyLater w5 wr)
              case atStart => exact ⟨0, by omega, by omega, rfl, b6'⟩
              case round =>
                obtain ⟨y, hk, hy, rfl, hA⟩ := hrel
                have HA := Lib.hid hA
                by_cases hlt : y < 33
                · have hI : (y : Int) < 33 := by omega
                  clear hA b6'
                  go_wp2_with fail
                  go_loopg [10] 33 (fun kk xv wr => ∃ x : Nat, kk = 33 - x ∧ x ≤ 33 ∧ xv = .int .i64 x ∧ AnyLater w5 wr)
                  case atStart => exact ⟨0, by omega, by omega, rfl, HA.out⟩
                  case round =>
                    obtain ⟨x, hk2, hx, rfl, hA2⟩ := hrel
                    have HA2 := Lib.hid hA2
                    by_cases hlx : x < 33
                    · have hXI : (x : Int) < 33 := by omega
                      clear hA2
                      go_wp2_with fail
                      go_quiet (fail)
                      go_wp2_with fail
                      go_roundg (33 - (x + 1))
                      case measure => omega
                      case rel => exact ⟨x + 1, rfl, by omega, by go_num, HA2.out.drewN _⟩
                    · obtain rfl : x = 33 := by omega
                      clear hA2
                      go_wp2_with fail
                      go_roundg (33 - (y + 1))
                      case measure => omega
                      case rel => exact ⟨y + 1, rfl, by omega, by go_num, HA2.out⟩
                · obtain rfl : y = 33 := by omega
                  clear hA b6'
                  go_wp2_with fail
                  go_meet
                  case rel => exact HA.out
            | true =>
              have hand := HMay.out
              rw [Bool.and_eq_true] at hand
              obtain ⟨h1, h2⟩ := hand
              obtain ⟨x1, x2, x3, x4⟩ := of_decide_eq_true h2
              obtain ⟨e1, e2, e3, e4⟩ := PB.out.yes h1 x1 x2 x3 x4
              obtain ⟨gi1, gi2, gi3, gi4, gi5, gi6⟩ := goodG_in e3
              obtain ⟨ki1, ki2, ki3, ki4, ki5, ki6⟩ := goodG_in h1
              have HRel := Lib.hid e4
              have HBb : Hid (∀ (x y : Nat) w', AnyLater w5 w' → x ≤ 33 → y ≤ 33 → Calls Try.prog 23 #[.agg #[.int .i64 b.w, .int .i64 b.h, .slice A1 n1 cap1], .int .i64 x, .int .i64 y] w' fun e w'' => e = .returned (.bool (hasB b x y)) ∧ AnyLater w' w'') := Lib.hid (fun x y w' ha hx hy => refBit_any b _ x y w' _ rfl (HBc.out.later ha) PB.out.ok gi2 (by omega) (by unfold I64; omega) (by unfold I64; omega))
              have HKb : Hid (∀ (x y : Nat) w', AnyLater w5 w' → x ≤ 33 → y ≤ 33 → Calls Try.prog 23 #[.agg #[.int .i64 k.w, .int .i64 k.h, .slice A n cap], .int .i64 x, .int .i64 y] w' fun e w'' => e = .returned (.bool (hasB k x y)) ∧ AnyLater w' w'') := Lib.hid (fun x y w' ha hx hy => refBit_any k _ x y w' _ rfl (HKc.out.later ha) HKO.out ki2 (by have := HKL.out; omega) (by unfold I64; omega) (by unfold I64; omega))
              clear h1 h2 e1 e2 e3 e4 gi1 gi2 gi3 gi4 gi5 gi6 ki1 ki2 ki3 ki4 ki5 ki6
              go_wp2_with fail
              go_loopg [9] 33 (fun kk yv wr => ∃ y : Nat, kk = 33 - y ∧ y ≤ 33 ∧ yv = .int .i64 y ∧ AnyLater w5 wr)
              case atStart => exact ⟨0, by omega, by omega, rfl, b6'⟩
              case round =>
                obtain ⟨y, hk, hy, rfl, hA⟩ := hrel
                have HA := Lib.hid hA
                by_cases hlt : y < 33
                · have hI : (y : Int) < 33 := by omega
                  clear hA b6'
                  go_wp2_with fail
                  go_loopg [10] 33 (fun kk xv wr => ∃ x : Nat, kk = 33 - x ∧ x ≤ 33 ∧ xv = .int .i64 x ∧ AnyLater w5 wr)
                  case atStart => exact ⟨0, by omega, by omega, rfl, HA.out⟩
                  case round =>
                    obtain ⟨x, hk2, hx, rfl, hA2⟩ := hrel
                    have HA2 := Lib.hid hA2
                    by_cases hlx : x < 33
                    · have hXI : (x : Int) < 33 := by omega
                      have a_wr := hA2
                      have s0_wr := any_own hA2 HS.out.1
                      have s1_wr := any_own hA2 HS.out.2.1
                      have s2_wr := any_own hA2 HS.out.2.2
                      have r0_wr := own_row s0_wr
                      have r1_wr := own_row s1_wr
                      have r2_wr := own_row s2_wr
                      have f0_wr := own_free s0_wr
                      have f1_wr := own_free s1_wr
                      have f2_wr := own_free s2_wr
                      have l0_wr := own_lt s0_wr
                      have l1_wr := own_lt s1_wr
                      have l2_wr := own_lt s2_wr
                      have z_wr := Nat.le_refl wr.heap.size
                      obtain ⟨bb, hbb⟩ : ∃ c, hasB b x y = c := ⟨_, rfl⟩
                      obtain ⟨kb, hkb⟩ : ∃ c, hasB k x y = c := ⟨_, rfl⟩
                      have hre := HRel.out x y
                      rw [hbb, hkb] at hre
                      have CB : Hid (∀ w', AnyLater wr w' → Calls Try.prog 23 #[.agg #[.int .i64 b.w, .int .i64 b.h, .slice A1 n1 cap1], .int .i64 x, .int .i64 y] w' fun e w'' => e = .returned (.bool bb) ∧ AnyLater w' w'') := Lib.hid (fun w' ha => by rw [← hbb]; exact HBb.out x y w' (HA2.out.trans ha) (by omega) (by omega))
                      have CK : Hid (∀ w', AnyLater wr w' → Calls Try.prog 23 #[.agg #[.int .i64 k.w, .int .i64 k.h, .slice A n cap], .int .i64 x, .int .i64 y] w' fun e w'' => e = .returned (.bool kb) ∧ AnyLater w' w'') := Lib.hid (fun w' ha => by rw [← hkb]; exact HKb.out x y w' (HA2.out.trans ha) (by omega) (by omega))
                      clear hA2 hbb hkb
                      by_cases p1 : (x : Int) < m
                      · by_cases p2 : (y : Int) < q
                        · obtain rfl : bb = kb := by rw [hre, decide_eq_true ⟨p1, p2⟩, Bool.true_and]
                          clear hre
                          have d1 : decide ((x : Int) < m) = true := decide_eq_true p1
                          have d2 : decide ((y : Int) < q) = true := decide_eq_true p2
                          go_wp2_with fail
                          apply wp_region_free (24) [⟨5, 83, .bool bb, false, fun v _ => v = .bool bb⟩, ⟨20, 98, .bool bb, false, fun v _ => v = .bool bb⟩] [] rfl (by kernel_rfl) (by kernel_rfl) (by kernel_rfl) (by simp) (by kernel_rfl)
                          case hstab =>
                            intro c hc
                            simp only [List.mem_cons, List.not_mem_nil, or_false] at hc
                            rcases hc with rfl | rfl
                            · intro v x y hxy hv; exact hv
                            · intro v x y hxy hv; exact hv
                          case hfix =>
                            intro c hc
                            simp only [List.mem_cons, List.not_mem_nil, or_false] at hc
                            rcases hc with rfl | rfl
                            · exact .inr fun u x h => h
                            · exact .inr fun u x h => h
                          case hlex =>
                            intro U hU
                            have q0 := own_row (any_own hU s0_wr)
                            have q1 := own_row (any_own hU s1_wr)
                            have q2 := own_row (any_own hU s2_wr)
                            simp only [List.map_cons, List.map_nil, CA.act, actFrom, actOp, List.lookup, Nat.reduceBEq, Nat.reduceLeDiff, Nat.reduceAdd, if_false, if_true]
                            repeat (go_big_quiet_step (first | fail))
                            exact wpQuiet_nil rfl
                          case hstep =>
                            intro j hj o ho
                            have hj2 : j = 0 ∨ j = 1 := by simp at hj; omega
                            rcases hj2 with rfl | rfl
                            · cases ho
                              refine ⟨rfl, fun g x hx hp => ?_⟩
                              clear hp
                              simp only [fillAll, Act.put, List.setIfInBounds_toArray, List.set_cons_zero, List.set_cons_succ]
                              refine chain_go ?_ (free_fix (CB.out x hx))
                              simp [go_sem, execOp]
                            · cases ho
                              refine ⟨rfl, fun g x hx hp => ?_⟩
                              clear hp
                              simp only [fillAll, Act.put, List.setIfInBounds_toArray, List.set_cons_zero, List.set_cons_succ]
                              refine chain_go ?_ (free_fix (CK.out x hx))
                              simp [go_sem, execOp]
                          case htail =>
                            intro g u hst hne
                            have b_w8 : AnyLater wr (later u) := ⟨u, rfl⟩
                            generalize later u = w8 at *
                            clear u
                            clear hst hne
                            simp only [fillAll, Act.put, List.setIfInBounds_toArray, List.set_cons_zero, List.set_cons_succ, List.drop_succ_cons, List.drop_zero, List.drop_nil]
                            have z_w8 := b_w8.below.size
                            have a_w8 := a_wr.trans b_w8
                            have s0_w8 := any_own b_w8 s0_wr
                            have s1_w8 := any_own b_w8 s1_wr
                            have s2_w8 := any_own b_w8 s2_wr
                            have r0_w8 := own_row s0_w8
                            have f0_w8 := own_free s0_w8
                            have l0_w8 := own_lt s0_w8
                            have r1_w8 := own_row s1_w8
                            have f1_w8 := own_free s1_w8
                            have l1_w8 := own_lt s1_w8
                            have r2_w8 := own_row s2_w8
                            have f2_w8 := own_free s2_w8
                            have l2_w8 := own_lt s2_w8
                            (try clear r0_wr); (try clear f0_wr)
                            (try clear r1_wr); (try clear f1_wr)
                            (try clear r2_wr); (try clear f2_wr)
                            go_wp2_with fail
                            go_roundg (33 - (x + 1))
                            case measure => omega
                            case rel => exact ⟨x + 1, rfl, by omega, by go_num, a_w8⟩
                        · obtain rfl : bb = false := by rw [hre, decide_eq_false (fun h => p2 h.2), Bool.false_and]
                          clear hre
                          have d1 : decide ((x : Int) < m) = true := decide_eq_true p1
                          have d2 : decide ((y : Int) < q) = false := decide_eq_false p2
                          go_wp2_with fail
                          apply wp_region_free (24) [⟨5, 83, .bool false, false, fun v _ => v = .bool false⟩] [] rfl (by kernel_rfl) (by kernel_rfl) (by kernel_rfl) (by simp) (by kernel_rfl)
                          case hstab =>
                            intro c hc
                            simp only [List.mem_cons, List.not_mem_nil, or_false] at hc
                            rcases hc with rfl
                            · intro v x y hxy hv; exact hv
                          case hfix =>
                            intro c hc
                            simp only [List.mem_cons, List.not_mem_nil, or_false] at hc
                            rcases hc with rfl
                            · exact .inr fun u x h => h
                          case hlex =>
                            intro U hU
                            have q0 := own_row (any_own hU s0_wr)
                            have q1 := own_row (any_own hU s1_wr)
                            have q2 := own_row (any_own hU s2_wr)
                            simp only [List.map_cons, List.map_nil, CA.act, actFrom, actOp, List.lookup, Nat.reduceBEq, Nat.reduceLeDiff, Nat.reduceAdd, if_false, if_true]
                            repeat (go_big_quiet_step (first | fail))
                            exact wpQuiet_nil rfl
                          case hstep =>
                            intro j hj o ho
                            have hj2 : j = 0 := by simp at hj; omega
                            rcases hj2 with rfl
                            · cases ho
                              refine ⟨rfl, fun g x hx hp => ?_⟩
                              clear hp
                              simp only [fillAll, Act.put, List.setIfInBounds_toArray, List.set_cons_zero, List.set_cons_succ]
                              refine chain_go ?_ (free_fix (CB.out x hx))
                              simp [go_sem, execOp]
                          case htail =>
                            intro g u hst hne
                            have b_w8 : AnyLater wr (later u) := ⟨u, rfl⟩
                            generalize later u = w8 at *
                            clear u
                            clear hst hne
                            simp only [fillAll, Act.put, List.setIfInBounds_toArray, List.set_cons_zero, List.set_cons_succ, List.drop_succ_cons, List.drop_zero, List.drop_nil]
                            have z_w8 := b_w8.below.size
                            have a_w8 := a_wr.trans b_w8
                            have s0_w8 := any_own b_w8 s0_wr
                            have s1_w8 := any_own b_w8 s1_wr
                            have s2_w8 := any_own b_w8 s2_wr
                            have r0_w8 := own_row s0_w8
                            have f0_w8 := own_free s0_w8
                            have l0_w8 := own_lt s0_w8
                            have r1_w8 := own_row s1_w8
                            have f1_w8 := own_free s1_w8
                            have l1_w8 := own_lt s1_w8
                            have r2_w8 := own_row s2_w8
                            have f2_w8 := own_free s2_w8
                            have l2_w8 := own_lt s2_w8
                            (try clear r0_wr); (try clear f0_wr)
                            (try clear r1_wr); (try clear f1_wr)
                            (try clear r2_wr); (try clear f2_wr)
                            go_wp2_with fail
                            go_roundg (33 - (x + 1))
                            case measure => omega
                            case rel => exact ⟨x + 1, rfl, by omega, by go_num, a_w8⟩
                      · obtain rfl : bb = false := by rw [hre, decide_eq_false (fun h => p1 h.1), Bool.false_and]
                        clear hre
                        have d1 : decide ((x : Int) < m) = false := decide_eq_false p1
                        go_wp2_with fail
                        apply wp_region_free (24) [⟨5, 83, .bool false, false, fun v _ => v = .bool false⟩] [] rfl (by kernel_rfl) (by kernel_rfl) (by kernel_rfl) (by simp) (by kernel_rfl)
                        case hstab =>
                          intro c hc
                          simp only [List.mem_cons, List.not_mem_nil, or_false] at hc
                          rcases hc with rfl
                          · intro v x y hxy hv; exact hv
                        case hfix =>
                          intro c hc
                          simp only [List.mem_cons, List.not_mem_nil, or_false] at hc
                          rcases hc with rfl
                          · exact .inr fun u x h => h
                        case hlex =>
                          intro U hU
                          have q0 := own_row (any_own hU s0_wr)
                          have q1 := own_row (any_own hU s1_wr)
                          have q2 := own_row (any_own hU s2_wr)
                          simp only [List.map_cons, List.map_nil, CA.act, actFrom, actOp, List.lookup, Nat.reduceBEq, Nat.reduceLeDiff, Nat.reduceAdd, if_false, if_true]
                          repeat (go_big_quiet_step (first | fail))
                          exact wpQuiet_nil rfl
                        case hstep =>
                          intro j hj o ho
                          have hj2 : j = 0 := by simp at hj; omega
                          rcases hj2 with rfl
                          · cases ho
                            refine ⟨rfl, fun g x hx hp => ?_⟩
                            clear hp
                            simp only [fillAll, Act.put, List.setIfInBounds_toArray, List.set_cons_zero, List.set_cons_succ]
                            refine chain_go ?_ (free_fix (CB.out x hx))
                            simp [go_sem, execOp]
                        case htail =>
                          intro g u hst hne
                          have b_w8 : AnyLater wr (later u) := ⟨u, rfl⟩
                          generalize later u = w8 at *
                          clear u
                          clear hst hne
                          simp only [fillAll, Act.put, List.setIfInBounds_toArray, List.set_cons_zero, List.set_cons_succ, List.drop_succ_cons, List.drop_zero, List.drop_nil]
                          have z_w8 := b_w8.below.size
                          have a_w8 := a_wr.trans b_w8
                          have s0_w8 := any_own b_w8 s0_wr
                          have s1_w8 := any_own b_w8 s1_wr
                          have s2_w8 := any_own b_w8 s2_wr
                          have r0_w8 := own_row s0_w8
                          have f0_w8 := own_free s0_w8
                          have l0_w8 := own_lt s0_w8
                          have r1_w8 := own_row s1_w8
                          have f1_w8 := own_free s1_w8
                          have l1_w8 := own_lt s1_w8
                          have r2_w8 := own_row s2_w8
                          have f2_w8 := own_free s2_w8
                          have l2_w8 := own_lt s2_w8
                          (try clear r0_wr); (try clear f0_wr)
                          (try clear r1_wr); (try clear f1_wr)
                          (try clear r2_wr); (try clear f2_wr)
                          go_wp2_with fail
                          go_roundg (33 - (x + 1))
                          case measure => omega
                          case rel => exact ⟨x + 1, rfl, by omega, by go_num, a_w8⟩
                    · obtain rfl : x = 33 := by omega
                      clear hA2
                      go_wp2_with fail
                      go_roundg (33 - (y + 1))
                      case measure => omega
                      case rel => exact ⟨y + 1, rfl, by omega, by go_num, HA2.out⟩
                · obtain rfl : y = 33 := by omega
                  clear hA b6'
                  go_wp2_with fail
                  go_meet
                  case rel => exact HA.out
          case rest =>
            have a6 := hcut
            generalize wc = wA at *
            obtain ⟨nm, hnm⟩ : ∃ x, min nl 32 = x := ⟨_, rfl⟩
            have HNm := Lib.hid hnm
            have hnm32 : nm ≤ 32 := by omega
            have hnml : nm ≤ nl := by omega
            have HA6 := Lib.hid a6
            clear hnm hcut a6 b6'
            go_upto_if 105 with fail
            go_cut [11] (fun x wx => x = .int .i64 (nm : Int) ∧ wx = wA)
            case first =>
              by_cases hlt : 32 < nl
              · have H1 : Hid (nm = 32) := Lib.hid (by have := HNm.out; omega)
                go_wp2_with fail
                go_meet
                case rel => exact ⟨by rw [H1.out]; rfl, rfl⟩
              · have H1 : Hid (nm = nl) := Lib.hid (by have := HNm.out; omega)
                go_wp2_with fail
                go_meet
                case rel => exact ⟨by rw [H1.out], rfl⟩
            case rest =>
              obtain ⟨rfl, hw⟩ := hcut
              subst hw
              generalize wc = wA at *
              obtain ⟨q0, c0, cells, w8, k1, k2, k3, k4, k5, k6⟩ := run_copyY (HRc.out.later HA6.out) (by have := HNl.out; omega)
              rw [HNl.out] at k1 k5
              have K1 := Lib.hid k1
              have hrq : RY w8 (.slice (some ⟨q0, 0, none⟩) nl c0) cl := ⟨some ⟨q0, 0, none⟩, c0, by rw [HNl.out], by rw [HNl.out]; exact k5, fun h0 => ⟨q0, 0, rfl, own_lt k4, fun j hj => (own_row k4 _).trans (by rw [Nat.zero_add]; exact k6 j hj)⟩⟩
              have OF := Lib.hid (HG.out.of hrq HClb.out (by have := HNl.out; omega))
              have B8 := Lib.hid (HA6.out.trans k2)
              clear k1 k2 k3 k4 k5 k6 hrq
              go_wp2_with (at_builtin; refine Lib.wpList_append_run _ rfl _ _ _ _ rfl _ _ rfl rfl _ _ K1.out ?_)
              refine (OF.out).mono ?_
              rintro e w9 ⟨u, rfl, b9, ob, hob, po⟩
              have HO9 := Lib.hid hob
              have PO := Lib.hid po
              have a_w9 := B8.out.trans b9
              obtain ⟨Ao, no, capo, rfl, hno⟩ := hob.form
              clear hob po hno b9
              go_upto_region 20 with fail
              first | refine settle_wp (fun wS => AnyLater w9 wS ∧ wS.heap[w9.heap.size]? = some (.cells #[.int .i64 ob.w, .int .i64 ob.h, .slice Ao no capo] 51)) ?_ ?_ | refine settle_calls (fun wS => AnyLater w9 wS ∧ wS.heap[w9.heap.size]? = some (.cells #[.int .i64 ob.w, .int .i64 ob.h, .slice Ao no capo] 51)) ?_ ?_
              · refine ⟨?_, ?_⟩
                · repeat' (first | with_reducible assumption | with_reducible exact AnyLater.refl _ | with_reducible apply AnyLater.setCell | with_reducible apply AnyLater.later | with_reducible apply AnyLater.drewN | with_reducible apply AnyLater.drew | with_reducible apply AnyLater.alloc | ((try simp only [World.size_alloc, World.size_setCell, World.size_drew]); (try dsimp only); omega))
                · ((repeat (first | with_reducible assumption | ((with_reducible apply heap_new); (try simp only [World.size_alloc, World.size_setCell, World.size_drew, World.heap_drewN]); done) | ((with_reducible apply heap_new); (try simp only [World.size_alloc, World.size_setCell, World.size_drew, World.heap_drewN]); omega) | (with_reducible refine heap_old (by (try simp only [World.size_alloc, World.size_setCell, World.size_drew, World.heap_drewN]); omega) ?_) | (with_reducible refine heap_drew ?_) | (with_reducible refine heap_far (by omega) ?_) | (with_reducible apply heap_at))); all_goals rfl)
              rintro wO ⟨b_wO, s0_wO⟩
              have a_wO := a_w9.trans b_wO
              have r0_wO := own_row s0_wO
              have f0_wO := own_free s0_wO
              have l0_wO := own_lt s0_wO
              have z_wO := b_wO.below.size
              have HO := Lib.hid (HO9.out.later b_wO)
              obtain ⟨gi1, gi2, gi3, gi4, gi5, gi6⟩ := goodG_in PO.out.good
              have CI : Hid (∀ w', AnyLater wO w' → Calls Try.prog 33 #[.agg #[.int .i64 ob.w, .int .i64 ob.h, .slice Ao no capo], .int .i64 nm, .int .i64 8] w' fun e w'' => e = .returned (.bool true) ∧ AnyLater w' w'') := Lib.hid (fun w' ha => is_any ob _ w' nm 8 true (by rw [PO.out.good, decide_eq_true ⟨by rw [PO.out.w, HNl.out, HNm.out], PO.out.h⟩]; rfl) (HO.out.later ha) PO.out.ok (by omega))
              have CBt : Hid (∀ (x y : Nat) (c : Bool) w', AnyLater wO w' → x < nm → y < 8 → bitZ (cl.getD x 0) y = c → Calls Try.prog 23 #[.agg #[.int .i64 ob.w, .int .i64 ob.h, .slice Ao no capo], .int .i64 x, .int .i64 y] w' fun e w'' => e = .returned (.bool c) ∧ AnyLater w' w'') := Lib.hid (fun x y c w' ha hx hy hc => refBit_any ob _ x y w' c (by rw [PO.out.bit x y (by rw [HNl.out, HNm.out]; exact hx) hy]; exact hc) (HO.out.later ha) PO.out.ok gi2 (by omega) (by unfold I64; omega) (by unfold I64; omega))
              clear gi1 gi2 gi3 gi4 gi5 gi6
              have HAO := Lib.hid a_wO
              clear a_w9 a_wO b_wO
              go_wp2_with fail
              refine (CI.out wO (AnyLater.refl _)).mono ?_
              rintro e w10 ⟨rfl, b10⟩
              have HB10 := Lib.hid b10
              have HS0 := Lib.hid s0_wO
              clear s0_wO r0_wO f0_wO l0_wO b10
              go_wp2_with fail
              go_loopg [13] nm (fun kk xv wr => ∃ x : Nat, kk = nm - x ∧ x ≤ nm ∧ xv = .int .i64 x ∧ AnyLater wO wr)
              case atStart => exact ⟨0, by omega, by omega, rfl, HB10.out⟩
              case round =>
                obtain ⟨x, hk, hx, rfl, hA⟩ := hrel
                have HA := Lib.hid hA
                by_cases hlt : x < nm
                · have hI : (x : Int) < (nm : Int) := by omega
                  have hIl : (x : Int) < (nl : Int) := by omega
                  obtain ⟨b, off, rfl, hbl, hcell, hmem⟩ := (HRc.out.later (HAO.out.trans hA)).byte x (by have := HNl.out; omega)
                  have hc8 := HClb.out _ hmem
                  obtain ⟨cx, hcx⟩ : ∃ c, cl.getD x 0 = c := ⟨_, rfl⟩
                  rw [hcx] at hcell hc8
                  have HCx := Lib.hid hcx
                  have HCell := Lib.hid (And.intro hbl hcell)
                  obtain ⟨hc1, hc2⟩ := hc8
                  clear hA hcx hcell hmem hbl
                  generalize wr = wX at *
                  go_wp2_with fail
                  go_loopg [14] 8 (fun kk yv wr => ∃ y : Nat, kk = 8 - y ∧ y ≤ 8 ∧ yv = .int .i64 y ∧ AnyLater wX wr)
                  case atStart => exact ⟨0, by omega, by omega, rfl, AnyLater.refl _⟩
                  case round =>
                    obtain ⟨y, hk2, hy, rfl, hA2⟩ := hrel
                    have HA2 := Lib.hid hA2
                    by_cases hly : y < 8
                    · have hYI : (y : Int) < 8 := by omega
                      have a_wr := hA2
                      have s0_wr := any_own hA2 (any_own HA.out HS0.out)
                      have r0_wr := own_row s0_wr
                      have f0_wr := own_free s0_wr
                      have l0_wr := own_lt s0_wr
                      have z_wr := Nat.le_refl wr.heap.size
                      have cw : wr.cell? ⟨b, off + x, none⟩ = some (.int .u8 cx) := (hA2.below.cell HCell.out.1).trans HCell.out.2
                      clear hA2
                      by_cases t1 : (cx / 2 ^ y).tmod 2 = 1
                      · have CB : Hid (∀ w', AnyLater wr w' → Calls Try.prog 23 #[.agg #[.int .i64 ob.w, .int .i64 ob.h, .slice Ao no capo], .int .i64 x, .int .i64 y] w' fun e w'' => e = .returned (.bool true) ∧ AnyLater w' w'') := Lib.hid (fun w' ha => CBt.out x y true w' ((HA.out.trans HA2.out).trans ha) hlt hly (by rw [HCx.out]; unfold bitZ; exact beq_iff_eq.2 t1))
                        go_wp2_with fail
                        apply wp_region_free (14) [⟨3, 126, .bool true, false, fun v _ => v = .bool true⟩] [] rfl (by kernel_rfl) (by kernel_rfl) (by kernel_rfl) (by simp) (by kernel_rfl)
                        case hstab =>
                          intro c hc
                          simp only [List.mem_cons, List.not_mem_nil, or_false] at hc
                          rcases hc with rfl
                          · intro v x y hxy hv; exact hv
                        case hfix =>
                          intro c hc
                          simp only [List.mem_cons, List.not_mem_nil, or_false] at hc
                          rcases hc with rfl
                          · exact .inr fun u x h => h
                        case hlex =>
                          intro U hU
                          have q0 := own_row (any_own hU s0_wr)
                          have q_cw := cell_on hU cw
                          simp only [List.map_cons, List.map_nil, CA.act, actFrom, actOp, List.lookup, Nat.reduceBEq, Nat.reduceLeDiff, Nat.reduceAdd, if_false, if_true]
                          repeat (go_big_quiet_step (first | fail))
                          exact wpQuiet_nil rfl
                        case hstep =>
                          intro j hj o ho
                          have hj2 : j = 0 := by simp at hj; omega
                          rcases hj2 with rfl
                          · cases ho
                            refine ⟨rfl, fun g x hx hp => ?_⟩
                            clear hp
                            simp only [fillAll, Act.put, List.setIfInBounds_toArray, List.set_cons_zero, List.set_cons_succ]
                            refine chain_go ?_ (free_fix (CB.out x hx))
                            simp [go_sem, execOp]
                        case htail =>
                          intro g u hst hne
                          have b_w11 : AnyLater wr (later u) := ⟨u, rfl⟩
                          generalize later u = w11 at *
                          clear u
                          clear hst hne
                          simp only [fillAll, Act.put, List.setIfInBounds_toArray, List.set_cons_zero, List.set_cons_succ, List.drop_succ_cons, List.drop_zero, List.drop_nil]
                          have z_w11 := b_w11.below.size
                          have a_w11 := a_wr.trans b_w11
                          have s0_w11 := any_own b_w11 s0_wr
                          have r0_w11 := own_row s0_w11
                          have f0_w11 := own_free s0_w11
                          have l0_w11 := own_lt s0_w11
                          (try clear r0_wr); (try clear f0_wr)
                          have cw_w11 := cell_on b_w11 cw
                          go_wp2_with fail
                          go_roundg (8 - (y + 1))
                          case measure => omega
                          case rel => exact ⟨y + 1, rfl, by omega, by go_num, a_w11⟩
                      · have CB : Hid (∀ w', AnyLater wr w' → Calls Try.prog 23 #[.agg #[.int .i64 ob.w, .int .i64 ob.h, .slice Ao no capo], .int .i64 x, .int .i64 y] w' fun e w'' => e = .returned (.bool false) ∧ AnyLater w' w'') := Lib.hid (fun w' ha => CBt.out x y false w' ((HA.out.trans HA2.out).trans ha) hlt hly (by rw [HCx.out]; unfold bitZ; exact beq_eq_false_iff_ne.2 t1))
                        go_wp2_with fail
                        apply wp_region_free (14) [⟨3, 126, .bool false, false, fun v _ => v = .bool false⟩] [] rfl (by kernel_rfl) (by kernel_rfl) (by kernel_rfl) (by simp) (by kernel_rfl)
                        case hstab =>
                          intro c hc
                          simp only [List.mem_cons, List.not_mem_nil, or_false] at hc
                          rcases hc with rfl
                          · intro v x y hxy hv; exact hv
                        case hfix =>
                          intro c hc
                          simp only [List.mem_cons, List.not_mem_nil, or_false] at hc
                          rcases hc with rfl
                          · exact .inr fun u x h => h
                        case hlex =>
                          intro U hU
                          have q0 := own_row (any_own hU s0_wr)
                          have q_cw := cell_on hU cw
                          simp only [List.map_cons, List.map_nil, CA.act, actFrom, actOp, List.lookup, Nat.reduceBEq, Nat.reduceLeDiff, Nat.reduceAdd, if_false, if_true]
                          repeat (go_big_quiet_step (first | fail))
                          exact wpQuiet_nil rfl
                        case hstep =>
                          intro j hj o ho
                          have hj2 : j = 0 := by simp at hj; omega
                          rcases hj2 with rfl
                          · cases ho
                            refine ⟨rfl, fun g x hx hp => ?_⟩
                            clear hp
                            simp only [fillAll, Act.put, List.setIfInBounds_toArray, List.set_cons_zero, List.set_cons_succ]
                            refine chain_go ?_ (free_fix (CB.out x hx))
                            simp [go_sem, execOp]
                        case htail =>
                          intro g u hst hne
                          have b_w11 : AnyLater wr (later u) := ⟨u, rfl⟩
                          generalize later u = w11 at *
                          clear u
                          clear hst hne
                          simp only [fillAll, Act.put, List.setIfInBounds_toArray, List.set_cons_zero, List.set_cons_succ, List.drop_succ_cons, List.drop_zero, List.drop_nil]
                          have z_w11 := b_w11.below.size
                          have a_w11 := a_wr.trans b_w11
                          have s0_w11 := any_own b_w11 s0_wr
                          have r0_w11 := own_row s0_w11
                          have f0_w11 := own_free s0_w11
                          have l0_w11 := own_lt s0_w11
                          (try clear r0_wr); (try clear f0_wr)
                          have cw_w11 := cell_on b_w11 cw
                          go_wp2_with fail
                          go_roundg (8 - (y + 1))
                          case measure => omega
                          case rel => exact ⟨y + 1, rfl, by omega, by go_num, a_w11⟩
                    · obtain rfl : y = 8 := by omega
                      clear hA2
                      go_wp2_with fail
                      go_roundg (nm - (x + 1))
                      case measure => omega
                      case rel => exact ⟨x + 1, rfl, by omega, by go_num, HA.out.trans HA2.out⟩
                · obtain rfl : x = nm := by omega
                  clear hA
                  go_wp2_with fail
                  refine (HLv.out wr).mono ?_
                  rintro e w12 ⟨rfl, b12⟩
                  go_wp2_with fail
                  go_ret
                  exact ⟨rfl, a_w5.trans (HAO.out.trans (HA.out.trans b12))⟩
end Go.Proofs.Ytfliniknaonieaa
