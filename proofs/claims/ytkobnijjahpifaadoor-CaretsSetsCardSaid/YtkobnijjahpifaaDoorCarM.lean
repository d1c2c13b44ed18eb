/- carets: the document's Tidy by contract. -/
import Derived.Test.YtkobnijjahpifaaDoorCarL
import Derived.Test.YtkobnijjahpifaaDoorWhole
import Derived.Test.YtkobnijjahpifaaDoorMake
import Derived.Deep.CutBlock
namespace Go.Proofs.YtkobnijjahpifaaDoor
set_option linter.unusedSimpArgs false
set_option linter.unusedVariables false
set_option linter.unusedSectionVars false
open Go.RowKit

/-! ### three appends in one statement -/
def isE0 (B : Nat) (u : Value) (x : World) : Prop := ∃ b, u = .slice (some ⟨b, 0, none⟩) 0 0 ∧ B ≤ b ∧ x.heap[b]? = some (.cells #[] 45)
theorem isE0.later {B : Nat} {u : Value} {x y : World} (h : AnyLater x y) (q : isE0 B u x) : isE0 B u y := by
  obtain ⟨b, h1, h2, h3⟩ := q
  exact ⟨b, h1, h2, any_own h h3⟩
/-- append(u, v...), u empty and not nil: a row of the call's own -/
theorem copyO {w : World} {B : Nat} {u v : Value} {l : Qs} (hu : isE0 B u w) (hr : QR w v l) (hB : B ≤ w.heap.size) (hl : l.length ≤ 190000) :
    ∃ v' w', (Builtin.append_ #[23, 23] 23 #[u, v]).run Tryd.prog w = .ok v' w' ∧ AnyLater w w' ∧ OQ 45 w' B v' l := by
  obtain ⟨i0, hi0, hz0, hz1, hz2⟩ := info_parts pairCaret.info
  obtain ⟨b0, rfl, hb0, hh⟩ := hu
  obtain ⟨A, cap, rfl, h2, h3⟩ := hr
  have hE : OQ 45 w B (.slice (some ⟨b0, 0, none⟩) 0 0) [] := OQ.empty hb0 hh
  by_cases h0 : 0 < l.length
  · obtain ⟨b, off, rfl, hb, hc⟩ := h3 h0
    obtain ⟨v', w', k1, k2, k3⟩ := run_append_arg_grows (P := Tryd.prog) w 23 23 45 i0 (.agg #[.int .i64 0, .int .i64 0]) 2 16 pairCaret.und hi0 hz0 hz1 hz2 rfl (by decide) ⟨b0, 0, none⟩ 0 0 [] rfl (fun j u hj => by simp at hj) ⟨b, off, none⟩ l.length cap (flatQ l) (by rw [flatQ_length]) (QR.cells hc) (by omega) (by unfold maxLen; omega) (by omega)
    refine ⟨v', w', k1, .grown k3, OQ.wide hB (l := l) (t := 45) ?_⟩
    simpa using k2
  · obtain rfl := List.eq_nil_of_length_eq_zero (Nat.eq_zero_of_not_pos h0)
    cases A with
    | none =>
      have hsrc := Src.ofNil (P := Tryd.prog) w (size := i0.size) pairCaret.und cap
      exact ⟨_, _, run_append_nothing (P := Tryd.prog) w 23 23 23 45 i0 pairCaret.und hi0 (some ⟨b0, 0, none⟩) 0 0 (Nat.le_refl _) _ hsrc, .refl _, hE⟩
    | some a2 =>
      refine ⟨.slice (some ⟨b0, 0, none⟩) 0 0, w, ?_, .refl _, hE⟩
      exact run_append_nothing (P := Tryd.prog) w 23 23 23 45 i0 pairCaret.und hi0 (some ⟨b0, 0, none⟩) 0 0 (Nat.le_refl _) _ (Src.ofSlice (P := Tryd.prog) w (size := i0.size) pairCaret.und a2 0 cap [] (by simp) (fun j x hx => by simp at hx) (fun u hu => by cases hu))
theorem Whole.chain_app {P : Program} {F : Act} {o : Oper} {v : Value} {w w' : World} {R : Value → World → Prop} (s x : Operand) (t tn : TypeId) (ho : o.op = .call { callee := .builtin .append, args := #[s, x], argTypes := #[t, tn] }) (vs vx : Value) (hs : F.eval s = vs) (hx : F.eval x = vx)
    (hr : (Builtin.append_ #[t, tn] o.type #[vs, vx]).run P w = .ok v w') (h : R v w') : ChainStep P F o w R := by
  refine chain_value (w' := w') ?_ h
  unfold execOp
  simp only [ho, resolve, invoke, builtin, Sem.run_bind, Sem.run_pure, Result.andThen_ok, List.map_toArray, List.map_cons, List.map_nil, hs, hx, hr]
/-- what is known while some of them have been done -/
structure InvT (w0 : World) (X1 X2 X3 : Qs) (c : Ca) (L : Nat → Bool) (g : Nat → Value) (x : World) : Prop where
  any : AnyLater w0 x
  e0 : L 0 = true → L 4 = false → isE0 w0.heap.size (g 0) x
  e4 : L 4 = true → L 10 = false → OQ 45 x w0.heap.size (g 4) X1
  e9 : L 9 = true → L 10 = false → QR x (g 9) [c]
  e10 : L 10 = true → L 14 = false → OQ 45 x w0.heap.size (g 10) X2
  e14 : L 14 = true → OQ 45 x w0.heap.size (g 14) X3
  o10 : L 10 = true → L 4 = true
  o14 : L 14 = true → L 10 = true
theorem InvT.later {w0 : World} {X1 X2 X3 : Qs} {c : Ca} {L : Nat → Bool} {g : Nat → Value} {x y : World} (h : InvT w0 X1 X2 X3 c L g x) (ha : AnyLater x y) : InvT w0 X1 X2 X3 c L g y :=
  ⟨h.any.trans ha, fun a b => (h.e0 a b).later ha, fun a b => OQ.later ha (h.e4 a b), fun a b => (h.e9 a b).later ha, fun a b => OQ.later ha (h.e10 a b), fun a => OQ.later ha (h.e14 a), h.o10, h.o14⟩
theorem InvT.init {w0 : World} {X1 X2 X3 : Qs} {c : Ca} : InvT w0 X1 X2 X3 c (fun _ => false) (fun _ => undef) w0.drew :=
  ⟨(AnyLater.refl w0).drew, (fun h => by cases h), (fun h => by cases h), (fun h => by cases h), (fun h => by cases h), (fun h => by cases h), (fun h => by cases h), (fun h => by cases h)⟩
section
variable {w0 : World} {X1 X2 X3 : Qs} {c : Ca} {L : Nat → Bool} {g : Nat → Value} {x : World}
theorem InvT.s0 (h : InvT w0 X1 X2 X3 c L g x) : InvT w0 X1 X2 X3 c (fun i => if i = 0 then true else L i) (fun i => if i = 0 then .slice (some ⟨x.heap.size, 0, none⟩) 0 0 else g i) (x.alloc (.cells #[] 45)) := by
  have k := h.later ((AnyLater.refl x).alloc (.cells #[] 45))
  exact ⟨k.any, fun _ _ => ⟨x.heap.size, rfl, h.any.below.size, heap_new rfl⟩, fun a b => k.e4 a b, fun a b => k.e9 a b, fun a b => k.e10 a b, fun a => k.e14 a, k.o10, k.o14⟩
theorem InvT.s4 {u : Value} {y : World} (h : InvT w0 X1 X2 X3 c L g x) (ha : AnyLater x y) (ho : OQ 45 y w0.heap.size u X1) : InvT w0 X1 X2 X3 c (fun i => if i = 4 then true else L i) (fun i => if i = 4 then u else g i) y := by
  have k := h.later ha
  exact ⟨k.any, (fun _ b => by cases b), fun _ _ => ho, fun a b => k.e9 a b, fun a b => k.e10 a b, fun a => k.e14 a, fun _ => rfl, k.o14⟩
theorem InvT.s9 (h : InvT w0 X1 X2 X3 c L g x) : InvT w0 X1 X2 X3 c (fun i => if i = 9 then true else L i) (fun i => if i = 9 then .slice (some ⟨x.heap.size, 0, none⟩) 1 1 else g i) (x.alloc (.cells #[.int .i64 c.1, .int .i64 c.2] 45)) := by
  have k := h.later ((AnyLater.refl x).alloc (.cells #[.int .i64 c.1, .int .i64 c.2] 45))
  exact ⟨k.any, fun a b => k.e0 a b, fun a b => k.e4 a b, fun _ _ => OQ.rq (OQ.one (B := 0) (r := c) (Nat.zero_le _) (heap_new rfl)), fun a b => k.e10 a b, fun a => k.e14 a, k.o10, k.o14⟩
theorem InvT.s10 {u : Value} {y : World} (h : InvT w0 X1 X2 X3 c L g x) (h4 : L 4 = true) (h10 : L 10 = false) (ha : AnyLater w0 y) (ho : OQ 45 y w0.heap.size u X2) : InvT w0 X1 X2 X3 c (fun i => if i = 10 then true else L i) (fun i => if i = 10 then u else g i) y := by
  have e14 : L 14 = false := by
    cases e : L 14 with
    | false => rfl
    | true => have := h.o14 e; rw [h10] at this; cases this
  refine ⟨ha, fun _ b => ?_, (fun _ b => by cases b), (fun _ b => by cases b), fun _ _ => ho, fun a => ?_, fun _ => h4, fun _ => rfl⟩
  · have b' : L 4 = false := b
    rw [h4] at b'; cases b'
  · have a' : L 14 = true := a
    rw [e14] at a'; cases a'
theorem InvT.s14 {u : Value} {y : World} (h : InvT w0 X1 X2 X3 c L g x) (h10 : L 10 = true) (h14 : L 14 = false) (ha : AnyLater w0 y) (ho : OQ 45 y w0.heap.size u X3) : InvT w0 X1 X2 X3 c (fun i => if i = 14 then true else L i) (fun i => if i = 14 then u else g i) y := by
  have h4 := h.o10 h10
  refine ⟨ha, fun _ b => ?_, fun _ b => ?_, fun _ b => ?_, (fun _ b => by cases b), fun _ => ho, fun _ => h4, fun _ => h10⟩
  · have b' : L 4 = false := b
    rw [h4] at b'; cases b'
  · have b' : L 10 = false := b
    rw [h10] at b'; cases b'
  · have b' : L 10 = false := b
    rw [h10] at b'; cases b'
theorem InvT.cong {L' : Nat → Bool} (h : InvT w0 X1 X2 X3 c L g x) (h0 : L 0 = L' 0) (h4 : L 4 = L' 4) (h9 : L 9 = L' 9) (h10 : L 10 = L' 10) (h14 : L 14 = L' 14) : InvT w0 X1 X2 X3 c L' g x := by
  obtain ⟨a, b, d, e, f, k, o, m⟩ := h
  rw [h0, h4] at b
  rw [h4, h10] at d
  rw [h9, h10] at e
  rw [h10, h14] at f
  rw [h14] at k
  rw [h10, h4] at o
  rw [h10, h14] at m
  exact ⟨a, b, d, e, f, k, o, m⟩
end
set_option maxRecDepth 100000 in
set_option maxHeartbeats 6400000 in
theorem xtidy_any (v : Value) (l M : Qs) (w : World) (hM : tidyC l = M) (hv : QR w v l) (hl : l.length ≤ 39) : Calls Tryd.prog 20 #[v] w (RowT w M) := by
  obtain ⟨A, cap, rfl, h2, h3⟩ := hv
  have HCC : Hid (∀ (j : Nat) (h : j < l.length), ∃ b off, A = some ⟨b, off, none⟩ ∧ b < w.heap.size ∧ w.cell? ⟨b, off + j * 2, none⟩ = some (.int .i64 l[j].1) ∧ w.cell? ⟨b, off + j * 2 + 1, none⟩ = some (.int .i64 l[j].2)) := Lib.hid (fun j hj => by
    obtain ⟨b, off, e, hb, hc⟩ := h3 (by omega)
    exact ⟨b, off, e, hb, hc j hj⟩)
  have HM := Lib.hid hM
  obtain ⟨n, hn⟩ : ∃ n, l.length = n := ⟨_, rfl⟩
  have HN := Lib.hid hn
  rw [hn] at h2 hl ⊢
  clear h3 hM hn
  have HE0 : Hid (OQ 45 (w.alloc (.cells #[] 45)) w.heap.size (.slice (some ⟨w.heap.size, 0, none⟩) 0 0) [] ∧ AnyLater w (w.alloc (.cells #[] 45))) := Lib.hid ⟨OQ.empty (Nat.le_refl _) (heap_new rfl), (AnyLater.refl _).alloc _⟩
  go_enter Tryd.func20, Tryd.ntmps20
  go_wp2_with fail
  go_loopg [3, 4] n (fun kk sv iv wr => ∃ j : Nat, kk = n - j ∧ j ≤ n ∧ iv = .int .i64 (j : Int) ∧ AnyLater w wr ∧ OQ 45 wr w.heap.size sv (sortC (l.take j)))
  case atStart => exact ⟨0, by omega, by omega, rfl, HE0.out.2, HE0.out.1⟩
  case round =>
    rename World => wo
    obtain ⟨j, hk, hj, rfl, a_wo, ho⟩ := hrel
    have HO := Lib.hid (And.intro a_wo ho)
    by_cases hlt : j < n
    · have lj : j < l.length := by rw [HN.out]; exact hlt
      have i0 : (j : Int) < (n : Int) := by omega
      obtain ⟨b, off, rfl, hb, k0, k1⟩ := HCC.out j lj
      have hTs := sortC_sorted (l.take j)
      have hTl : (sortC (l.take j)).length = j := by rw [sortC_len, List.length_take]; omega
      have hTn := sortC_take lj
      generalize sortC (l.take j) = T at *
      obtain ⟨c, hc⟩ : ∃ c, l[j] = c := ⟨_, rfl⟩
      rw [hc] at k0 k1 hTn
      clear hc
      obtain ⟨a, h⟩ := c
      simp only at k0 k1
      obtain ⟨A4, cap4, rfl, h4⟩ := ho.form
      have HT := Lib.hid (And.intro hTs (And.intro hTl hTn))
      rw [hTl] at HO h4 ⊢
      clear ho hTs hTl hTn
      have hTR : QR wo (.slice A4 j cap4) T := by have := OQ.rq HO.out.2; exact this
      have HTR := Lib.hid hTR
      go_upto_block 2 with fail
      go_cut [5] (fun av wx => ∃ q : Nat, av = .int .i64 (q : Int) ∧ q ≤ j ∧ AnyLater wo wx ∧ (∀ (h0 : 0 < q) (k : q - 1 < T.length), leC T[q - 1] (a, h) = true) ∧ (∀ k : q < T.length, leC T[q] (a, h) = false))
      case first =>
        go_wp2_with fail
        go_loopg [5] (j + 1) (fun kk av wx => ∃ q : Nat, kk = j + 1 - q ∧ av = .int .i64 (q : Int) ∧ q ≤ j ∧ AnyLater wo wx ∧ (∀ (h0 : 0 < q) (k : q - 1 < T.length), leC T[q - 1] (a, h) = true))
        case atStart => exact ⟨0, rfl, rfl, Nat.zero_le _, AnyLater.refl _, fun h0 => by omega⟩
        case round =>
          obtain ⟨q, hkk, rfl, hqj, b_wr, h1⟩ := hrel
          have HQ := Lib.hid (And.intro b_wr h1)
          clear h1
          have c0 : wr.cell? ⟨b, off + j * 2, none⟩ = some (.int .i64 a) := ((a_wo.trans b_wr).below.cell hb).trans k0
          have c1 : wr.cell? ⟨b, off + j * 2 + 1, none⟩ = some (.int .i64 h) := ((a_wo.trans b_wr).below.cell hb).trans k1
          by_cases hq : q < j
          · have lq : q < T.length := by rw [HT.out.2.1]; exact hq
            obtain ⟨b2, off2, rfl, hb2, e0, e1⟩ := hTR.at q lq
            have d0 : wr.cell? ⟨b2, off2 + q * 2, none⟩ = some (.int .i64 T[q].1) := (b_wr.below.cell hb2).trans e0
            have d1 : wr.cell? ⟨b2, off2 + q * 2 + 1, none⟩ = some (.int .i64 T[q].2) := (b_wr.below.cell hb2).trans e1
            obtain ⟨t, ht⟩ : ∃ t, T[q] = t := ⟨_, rfl⟩
            have HTq := Lib.hid ht
            rw [ht] at d0 d1
            obtain ⟨t1, t2⟩ := t
            simp only at d0 d1
            have a_wr := b_wr
            have HL1 := Lib.hid (fun w => low_any t1 t2 w _ rfl)
            have HH1 := Lib.hid (fun w => high_any t1 t2 w _ rfl)
            have HL2 := Lib.hid (fun w => low_any a h w _ rfl)
            have HH2 := Lib.hid (fun w => high_any a h w _ rfl)
            have HLe : Hid (leC (t1, t2) (a, h) = (decide (loC (t1, t2) < loC (a, h)) || (decide (loC (t1, t2) = loC (a, h)) && decide (hiC (t1, t2) ≤ hiC (a, h))))) := Lib.hid rfl
            have i5 : (q : Int) < (j : Int) := by omega
            have HYes : Hid (leC (t1, t2) (a, h) = true → ∀ (_ : 0 < q + 1) (k : q + 1 - 1 < T.length), leC T[q + 1 - 1] (a, h) = true) := Lib.hid (fun e _ k => by simp only [Nat.add_sub_cancel]; rw [HTq.out]; exact e)
            have HNo : Hid (leC (t1, t2) (a, h) = false → ∀ k : q < T.length, leC T[q] (a, h) = false) := Lib.hid (fun e k => by rw [HTq.out]; exact e)
            generalize hle : leC (t1, t2) (a, h) = le at *
            clear hle e0 e1 ht b_wr
            generalize loC (t1, t2) = l1 at *
            generalize hiC (t1, t2) = h1 at *
            generalize loC (a, h) = l2 at *
            generalize hiC (a, h) = h2 at *
            by_cases g1 : l1 < l2
            · have g1' : decide (l1 < l2) = true := decide_eq_true g1
              have E : Hid (le = true) := Lib.hid (by rw [HLe.out, g1']; rfl)
              go_wp2_with fail
              apply wp_region_free (43) [⟨9, 27, .int .i64 l1, false, fun v _ => v = .int .i64 l1⟩, ⟨14, 32, .int .i64 l2, false, fun v _ => v = .int .i64 l2⟩] [] rfl (by kernel_rfl) (by kernel_rfl) (by kernel_rfl) (by simp) (by kernel_rfl)
              case hstab =>
                intro c hc
                simp only [List.mem_cons, List.not_mem_nil, or_false] at hc
                rcases hc with rfl | rfl
                · intro v x y hxy hv; exact hv
                · intro v x y hxy hv; exact hv
              case hfix =>
                intro c hc
                simp only [List.mem_cons, List.not_mem_nil, or_false] at hc
                rcases hc with rfl | rfl
                · exact .inr fun u x h => h
                · exact .inr fun u x h => h
              case hlex =>
                intro U hU
                have q_c0 := cell_on hU c0
                have q_c1 := cell_on hU c1
                have q_d0 := cell_on hU d0
                have q_d1 := cell_on hU d1
                simp only [List.map_cons, List.map_nil, CA.act, actFrom, actOp, List.lookup, Nat.reduceBEq, Nat.reduceLeDiff, Nat.reduceAdd, if_false, if_true]
                repeat (go_big_quiet_step (first | fail))
                exact wpQuiet_nil rfl
              case hstep =>
                intro j hj o ho
                have hj2 : j = 0 ∨ j = 1 := by simp at hj; omega
                rcases hj2 with rfl | rfl
                · cases ho
                  refine ⟨rfl, fun g x hx hp => ?_⟩
                  clear hp
                  simp only [fillAll, Act.put, List.setIfInBounds_toArray, List.set_cons_zero, List.set_cons_succ]
                  refine chain_go ?_ (free_fix (HL1.out x))
                  first | (simp [go_sem, execOp]; done) | simp [go_sem, execOp, hcf]
                · cases ho
                  refine ⟨rfl, fun g x hx hp => ?_⟩
                  clear hp
                  simp only [fillAll, Act.put, List.setIfInBounds_toArray, List.set_cons_zero, List.set_cons_succ]
                  refine chain_go ?_ (free_fix (HL2.out x))
                  first | (simp [go_sem, execOp]; done) | simp [go_sem, execOp, hcf]
              case htail =>
                intro g u hst hne
                have b_w2 : AnyLater wr (later u) := ⟨u, rfl⟩
                generalize later u = w2 at *
                clear u
                clear hst hne
                simp only [fillAll, Act.put, List.setIfInBounds_toArray, List.set_cons_zero, List.set_cons_succ, List.drop_succ_cons, List.drop_zero, List.drop_nil]
                have z_w2 := b_w2.below.size
                have a_w2 := a_wr.trans b_w2
                have c0_w2 := cell_on b_w2 c0
                have c1_w2 := cell_on b_w2 c1
                have d0_w2 := cell_on b_w2 d0
                have d1_w2 := cell_on b_w2 d1
                have hb9 := a_w2
                go_wp2_with fail
                go_roundg (j + 1 - (q + 1))
                case measure => omega
                case rel => exact ⟨q + 1, rfl, by go_num, hq, hb9, HYes.out E.out⟩
            · have g1' : decide (l1 < l2) = false := decide_eq_false g1
              by_cases g2 : l1 = l2
              · have g2' : (l1 == l2) = true := by simp [g2]
                by_cases g3 : h1 ≤ h2
                · have E : Hid (le = true) := Lib.hid (by rw [HLe.out, g1', decide_eq_true g2, decide_eq_true g3]; rfl)
                  have g3' : decide (h1 ≤ h2) = true := decide_eq_true g3
                  clear g2 g1
                  go_wp2_with fail
                  apply wp_region_free (43) [⟨9, 27, .int .i64 l1, false, fun v _ => v = .int .i64 l1⟩, ⟨14, 32, .int .i64 l2, false, fun v _ => v = .int .i64 l2⟩, ⟨21, 39, .int .i64 l1, false, fun v _ => v = .int .i64 l1⟩, ⟨26, 44, .int .i64 l2, false, fun v _ => v = .int .i64 l2⟩, ⟨33, 51, .int .i64 h1, false, fun v _ => v = .int .i64 h1⟩, ⟨38, 56, .int .i64 h2, false, fun v _ => v = .int .i64 h2⟩] [] rfl (by kernel_rfl) (by kernel_rfl) (by kernel_rfl) (by simp) (by kernel_rfl)
                  case hstab =>
                    intro c hc
                    simp only [List.mem_cons, List.not_mem_nil, or_false] at hc
                    rcases hc with rfl | rfl | rfl | rfl | rfl | rfl
                    · intro v x y hxy hv; exact hv
                    · intro v x y hxy hv; exact hv
                    · intro v x y hxy hv; exact hv
                    · intro v x y hxy hv; exact hv
                    · intro v x y hxy hv; exact hv
                    · intro v x y hxy hv; exact hv
                  case hfix =>
                    intro c hc
                    simp only [List.mem_cons, List.not_mem_nil, or_false] at hc
                    rcases hc with rfl | rfl | rfl | rfl | rfl | rfl
                    · exact .inr fun u x h => h
                    · exact .inr fun u x h => h
                    · exact .inr fun u x h => h
                    · exact .inr fun u x h => h
                    · exact .inr fun u x h => h
                    · exact .inr fun u x h => h
                  case hlex =>
                    intro U hU
                    have q_c0 := cell_on hU c0
                    have q_c1 := cell_on hU c1
                    have q_d0 := cell_on hU d0
                    have q_d1 := cell_on hU d1
                    simp only [List.map_cons, List.map_nil, CA.act, actFrom, actOp, List.lookup, Nat.reduceBEq, Nat.reduceLeDiff, Nat.reduceAdd, if_false, if_true]
                    repeat (go_big_quiet_step (first | fail))
                    exact wpQuiet_nil rfl
                  case hstep =>
                    intro j hj o ho
                    have hj2 : j = 0 ∨ j = 1 ∨ j = 2 ∨ j = 3 ∨ j = 4 ∨ j = 5 := by simp at hj; omega
                    rcases hj2 with rfl | rfl | rfl | rfl | rfl | rfl
                    · cases ho
                      refine ⟨rfl, fun g x hx hp => ?_⟩
                      clear hp
                      simp only [fillAll, Act.put, List.setIfInBounds_toArray, List.set_cons_zero, List.set_cons_succ]
                      refine chain_go ?_ (free_fix (HL1.out x))
                      first | (simp [go_sem, execOp]; done) | simp [go_sem, execOp, hcf]
                    · cases ho
                      refine ⟨rfl, fun g x hx hp => ?_⟩
                      clear hp
                      simp only [fillAll, Act.put, List.setIfInBounds_toArray, List.set_cons_zero, List.set_cons_succ]
                      refine chain_go ?_ (free_fix (HL2.out x))
                      first | (simp [go_sem, execOp]; done) | simp [go_sem, execOp, hcf]
                    · cases ho
                      refine ⟨rfl, fun g x hx hp => ?_⟩
                      clear hp
                      simp only [fillAll, Act.put, List.setIfInBounds_toArray, List.set_cons_zero, List.set_cons_succ]
                      refine chain_go ?_ (free_fix (HL1.out x))
                      first | (simp [go_sem, execOp]; done) | simp [go_sem, execOp, hcf]
                    · cases ho
                      refine ⟨rfl, fun g x hx hp => ?_⟩
                      clear hp
                      simp only [fillAll, Act.put, List.setIfInBounds_toArray, List.set_cons_zero, List.set_cons_succ]
                      refine chain_go ?_ (free_fix (HL2.out x))
                      first | (simp [go_sem, execOp]; done) | simp [go_sem, execOp, hcf]
                    · cases ho
                      refine ⟨rfl, fun g x hx hp => ?_⟩
                      clear hp
                      simp only [fillAll, Act.put, List.setIfInBounds_toArray, List.set_cons_zero, List.set_cons_succ]
                      refine chain_go ?_ (free_fix (HH1.out x))
                      first | (simp [go_sem, execOp]; done) | simp [go_sem, execOp, hcf]
                    · cases ho
                      refine ⟨rfl, fun g x hx hp => ?_⟩
                      clear hp
                      simp only [fillAll, Act.put, List.setIfInBounds_toArray, List.set_cons_zero, List.set_cons_succ]
                      refine chain_go ?_ (free_fix (HH2.out x))
                      first | (simp [go_sem, execOp]; done) | simp [go_sem, execOp, hcf]
                  case htail =>
                    intro g u hst hne
                    have b_w2 : AnyLater wr (later u) := ⟨u, rfl⟩
                    generalize later u = w2 at *
                    clear u
                    clear hst hne
                    simp only [fillAll, Act.put, List.setIfInBounds_toArray, List.set_cons_zero, List.set_cons_succ, List.drop_succ_cons, List.drop_zero, List.drop_nil]
                    have z_w2 := b_w2.below.size
                    have a_w2 := a_wr.trans b_w2
                    have c0_w2 := cell_on b_w2 c0
                    have c1_w2 := cell_on b_w2 c1
                    have d0_w2 := cell_on b_w2 d0
                    have d1_w2 := cell_on b_w2 d1
                    have hb9 := a_w2
                    go_wp2_with fail
                    go_roundg (j + 1 - (q + 1))
                    case measure => omega
                    case rel => exact ⟨q + 1, rfl, by go_num, hq, hb9, HYes.out E.out⟩
                · have E : Hid (le = false) := Lib.hid (by rw [HLe.out, g1', decide_eq_true g2, decide_eq_false g3]; rfl)
                  have g3' : decide (h1 ≤ h2) = false := decide_eq_false g3
                  clear g2 g1
                  go_wp2_with fail
                  apply wp_region_free (43) [⟨9, 27, .int .i64 l1, false, fun v _ => v = .int .i64 l1⟩, ⟨14, 32, .int .i64 l2, false, fun v _ => v = .int .i64 l2⟩, ⟨21, 39, .int .i64 l1, false, fun v _ => v = .int .i64 l1⟩, ⟨26, 44, .int .i64 l2, false, fun v _ => v = .int .i64 l2⟩, ⟨33, 51, .int .i64 h1, false, fun v _ => v = .int .i64 h1⟩, ⟨38, 56, .int .i64 h2, false, fun v _ => v = .int .i64 h2⟩] [] rfl (by kernel_rfl) (by kernel_rfl) (by kernel_rfl) (by simp) (by kernel_rfl)
                  case hstab =>
                    intro c hc
                    simp only [List.mem_cons, List.not_mem_nil, or_false] at hc
                    rcases hc with rfl | rfl | rfl | rfl | rfl | rfl
                    · intro v x y hxy hv; exact hv
                    · intro v x y hxy hv; exact hv
                    · intro v x y hxy hv; exact hv
                    · intro v x y hxy hv; exact hv
                    · intro v x y hxy hv; exact hv
                    · intro v x y hxy hv; exact hv
                  case hfix =>
                    intro c hc
                    simp only [List.mem_cons, List.not_mem_nil, or_false] at hc
                    rcases hc with rfl | rfl | rfl | rfl | rfl | rfl
                    · exact .inr fun u x h => h
                    · exact .inr fun u x h => h
                    · exact .inr fun u x h => h
                    · exact .inr fun u x h => h
                    · exact .inr fun u x h => h
                    · exact .inr fun u x h => h
                  case hlex =>
                    intro U hU
                    have q_c0 := cell_on hU c0
                    have q_c1 := cell_on hU c1
                    have q_d0 := cell_on hU d0
                    have q_d1 := cell_on hU d1
                    simp only [List.map_cons, List.map_nil, CA.act, actFrom, actOp, List.lookup, Nat.reduceBEq, Nat.reduceLeDiff, Nat.reduceAdd, if_false, if_true]
                    repeat (go_big_quiet_step (first | fail))
                    exact wpQuiet_nil rfl
                  case hstep =>
                    intro j hj o ho
                    have hj2 : j = 0 ∨ j = 1 ∨ j = 2 ∨ j = 3 ∨ j = 4 ∨ j = 5 := by simp at hj; omega
                    rcases hj2 with rfl | rfl | rfl | rfl | rfl | rfl
                    · cases ho
                      refine ⟨rfl, fun g x hx hp => ?_⟩
                      clear hp
                      simp only [fillAll, Act.put, List.setIfInBounds_toArray, List.set_cons_zero, List.set_cons_succ]
                      refine chain_go ?_ (free_fix (HL1.out x))
                      first | (simp [go_sem, execOp]; done) | simp [go_sem, execOp, hcf]
                    · cases ho
                      refine ⟨rfl, fun g x hx hp => ?_⟩
                      clear hp
                      simp only [fillAll, Act.put, List.setIfInBounds_toArray, List.set_cons_zero, List.set_cons_succ]
                      refine chain_go ?_ (free_fix (HL2.out x))
                      first | (simp [go_sem, execOp]; done) | simp [go_sem, execOp, hcf]
                    · cases ho
                      refine ⟨rfl, fun g x hx hp => ?_⟩
                      clear hp
                      simp only [fillAll, Act.put, List.setIfInBounds_toArray, List.set_cons_zero, List.set_cons_succ]
                      refine chain_go ?_ (free_fix (HL1.out x))
                      first | (simp [go_sem, execOp]; done) | simp [go_sem, execOp, hcf]
                    · cases ho
                      refine ⟨rfl, fun g x hx hp => ?_⟩
                      clear hp
                      simp only [fillAll, Act.put, List.setIfInBounds_toArray, List.set_cons_zero, List.set_cons_succ]
                      refine chain_go ?_ (free_fix (HL2.out x))
                      first | (simp [go_sem, execOp]; done) | simp [go_sem, execOp, hcf]
                    · cases ho
                      refine ⟨rfl, fun g x hx hp => ?_⟩
                      clear hp
                      simp only [fillAll, Act.put, List.setIfInBounds_toArray, List.set_cons_zero, List.set_cons_succ]
                      refine chain_go ?_ (free_fix (HH1.out x))
                      first | (simp [go_sem, execOp]; done) | simp [go_sem, execOp, hcf]
                    · cases ho
                      refine ⟨rfl, fun g x hx hp => ?_⟩
                      clear hp
                      simp only [fillAll, Act.put, List.setIfInBounds_toArray, List.set_cons_zero, List.set_cons_succ]
                      refine chain_go ?_ (free_fix (HH2.out x))
                      first | (simp [go_sem, execOp]; done) | simp [go_sem, execOp, hcf]
                  case htail =>
                    intro g u hst hne
                    have b_w2 : AnyLater wr (later u) := ⟨u, rfl⟩
                    generalize later u = w2 at *
                    clear u
                    clear hst hne
                    simp only [fillAll, Act.put, List.setIfInBounds_toArray, List.set_cons_zero, List.set_cons_succ, List.drop_succ_cons, List.drop_zero, List.drop_nil]
                    have z_w2 := b_w2.below.size
                    have a_w2 := a_wr.trans b_w2
                    have c0_w2 := cell_on b_w2 c0
                    have c1_w2 := cell_on b_w2 c1
                    have d0_w2 := cell_on b_w2 d0
                    have d1_w2 := cell_on b_w2 d1
                    have hb9 := a_w2
                    go_wp2_with fail
                    go_meet
                    case rel => exact ⟨q, rfl, hqj, hb9, HQ.out.2, HNo.out E.out⟩
              · have g2' : (l1 == l2) = false := by simp [g2]
                have E : Hid (le = false) := Lib.hid (by rw [HLe.out, g1', decide_eq_false g2]; rfl)
                go_wp2_with fail
                apply wp_region_free (43) [⟨9, 27, .int .i64 l1, false, fun v _ => v = .int .i64 l1⟩, ⟨14, 32, .int .i64 l2, false, fun v _ => v = .int .i64 l2⟩, ⟨21, 39, .int .i64 l1, false, fun v _ => v = .int .i64 l1⟩, ⟨26, 44, .int .i64 l2, false, fun v _ => v = .int .i64 l2⟩] [] rfl (by kernel_rfl) (by kernel_rfl) (by kernel_rfl) (by simp) (by kernel_rfl)
                case hstab =>
                  intro c hc
                  simp only [List.mem_cons, List.not_mem_nil, or_false] at hc
                  rcases hc with rfl | rfl | rfl | rfl
                  · intro v x y hxy hv; exact hv
                  · intro v x y hxy hv; exact hv
                  · intro v x y hxy hv; exact hv
                  · intro v x y hxy hv; exact hv
                case hfix =>
                  intro c hc
                  simp only [List.mem_cons, List.not_mem_nil, or_false] at hc
                  rcases hc with rfl | rfl | rfl | rfl
                  · exact .inr fun u x h => h
                  · exact .inr fun u x h => h
                  · exact .inr fun u x h => h
                  · exact .inr fun u x h => h
                case hlex =>
                  intro U hU
                  have q_c0 := cell_on hU c0
                  have q_c1 := cell_on hU c1
                  have q_d0 := cell_on hU d0
                  have q_d1 := cell_on hU d1
                  simp only [List.map_cons, List.map_nil, CA.act, actFrom, actOp, List.lookup, Nat.reduceBEq, Nat.reduceLeDiff, Nat.reduceAdd, if_false, if_true]
                  repeat (go_big_quiet_step (first | fail))
                  exact wpQuiet_nil rfl
                case hstep =>
                  intro j hj o ho
                  have hj2 : j = 0 ∨ j = 1 ∨ j = 2 ∨ j = 3 := by simp at hj; omega
                  rcases hj2 with rfl | rfl | rfl | rfl
                  · cases ho
                    refine ⟨rfl, fun g x hx hp => ?_⟩
                    clear hp
                    simp only [fillAll, Act.put, List.setIfInBounds_toArray, List.set_cons_zero, List.set_cons_succ]
                    refine chain_go ?_ (free_fix (HL1.out x))
                    first | (simp [go_sem, execOp]; done) | simp [go_sem, execOp, hcf]
                  · cases ho
                    refine ⟨rfl, fun g x hx hp => ?_⟩
                    clear hp
                    simp only [fillAll, Act.put, List.setIfInBounds_toArray, List.set_cons_zero, List.set_cons_succ]
                    refine chain_go ?_ (free_fix (HL2.out x))
                    first | (simp [go_sem, execOp]; done) | simp [go_sem, execOp, hcf]
                  · cases ho
                    refine ⟨rfl, fun g x hx hp => ?_⟩
                    clear hp
                    simp only [fillAll, Act.put, List.setIfInBounds_toArray, List.set_cons_zero, List.set_cons_succ]
                    refine chain_go ?_ (free_fix (HL1.out x))
                    first | (simp [go_sem, execOp]; done) | simp [go_sem, execOp, hcf]
                  · cases ho
                    refine ⟨rfl, fun g x hx hp => ?_⟩
                    clear hp
                    simp only [fillAll, Act.put, List.setIfInBounds_toArray, List.set_cons_zero, List.set_cons_succ]
                    refine chain_go ?_ (free_fix (HL2.out x))
                    first | (simp [go_sem, execOp]; done) | simp [go_sem, execOp, hcf]
                case htail =>
                  intro g u hst hne
                  have b_w2 : AnyLater wr (later u) := ⟨u, rfl⟩
                  generalize later u = w2 at *
                  clear u
                  clear hst hne
                  simp only [fillAll, Act.put, List.setIfInBounds_toArray, List.set_cons_zero, List.set_cons_succ, List.drop_succ_cons, List.drop_zero, List.drop_nil]
                  have z_w2 := b_w2.below.size
                  have a_w2 := a_wr.trans b_w2
                  have c0_w2 := cell_on b_w2 c0
                  have c1_w2 := cell_on b_w2 c1
                  have d0_w2 := cell_on b_w2 d0
                  have d1_w2 := cell_on b_w2 d1
                  have hb9 := a_w2
                  go_wp2_with fail
                  go_meet
                  case rel => exact ⟨q, rfl, hqj, hb9, HQ.out.2, HNo.out E.out⟩
          · obtain rfl : q = j := by omega
            have HNo : Hid (∀ k : q < T.length, leC T[q] (a, h) = false) := Lib.hid (fun k => by have := HT.out.2.1; omega)
            have d0 : decide ((q : Int) < (q : Int)) = false := by simp
            go_wp2_with fail
            go_quiet (fail)
            go_wp2_with fail
            go_meet
            case rel => exact ⟨q, rfl, hqj, HQ.out.1.drewN _, HQ.out.2, HNo.out⟩
      case rest =>
        obtain ⟨q, rfl, hqj, b_wc, h1, h2⟩ := hcut
        have hqT : q ≤ T.length := by rw [HT.out.2.1]; exact hqj
        have HX : Hid (sortC (l.take (j + 1)) = T.take q ++ [(a, h)] ++ T.drop q ∧ (T.take q).length = q ∧ (T.drop q).length = j - q) := Lib.hid ⟨by
          rw [HT.out.2.2, ins_at T (a, h) q hqT HT.out.1 (fun h0 => h1 h0 (by omega)) h2]; simp, by rw [List.length_take]; omega, by rw [List.length_drop, HT.out.2.1]⟩
        obtain ⟨A6, cap6, r6, hup⟩ := QR.uptoQ pairCaret (by have := hTR; rw [← HT.out.2.1] at this; exact this) q hqT
        obtain ⟨u7, r7, hcut7⟩ := QR.cutQ pairCaret (by have := hTR; rw [← HT.out.2.1] at this; exact this) q hqT
        rw [HT.out.2.1] at hup hcut7
        obtain ⟨A7, n7, cap7, rfl⟩ : ∃ A7 n7 cap7, u7 = .slice A7 n7 cap7 := by obtain ⟨A7, cap7, e7, _⟩ := r7.form; exact ⟨_, _, _, e7⟩
        have HR6 := Lib.hid (And.intro (r6.later b_wc) (r7.later b_wc))
        have c0 : wc.cell? ⟨b, off + j * 2, none⟩ = some (.int .i64 a) := ((a_wo.trans b_wc).below.cell hb).trans k0
        have c1 : wc.cell? ⟨b, off + j * 2 + 1, none⟩ = some (.int .i64 h) := ((a_wo.trans b_wc).below.cell hb).trans k1
        have HA := Lib.hid (a_wo.trans b_wc)
        clear h1 h2 hqT r6 r7 b_wc a_wo k0 k1 hTR HTR
        go_wp2_with fail
        apply Whole.wp_region_inv 15 [(0, undef), (4, undef), (9, undef), (10, undef), (14, undef)] [⟨0, 63, fun _ _ => True⟩, ⟨4, 67, fun _ _ => True⟩, ⟨9, 72, fun _ _ => True⟩, ⟨10, 73, fun _ _ => True⟩, ⟨14, 77, fun _ _ => True⟩] (InvT wc (T.take q) (T.take q ++ [(a, h)]) (T.take q ++ [(a, h)] ++ T.drop q) (a, h)) (by kernel_rfl) (by kernel_rfl) (by kernel_rfl) (by simp) (by kernel_rfl) (fun L g x h => h.any)
        case hcong => exact fun L L' g x hc hI => hI.cong (hc _ (List.mem_of_getElem? (i := 0) rfl)) (hc _ (List.mem_of_getElem? (i := 1) rfl)) (hc _ (List.mem_of_getElem? (i := 2) rfl)) (hc _ (List.mem_of_getElem? (i := 3) rfl)) (hc _ (List.mem_of_getElem? (i := 4) rfl))
        case h0 => exact InvT.init
        case hlex =>
          intro U hU
          have q0 := cell_on hU c0
          have q1 := cell_on hU c1
          simp only [actFrom, actOp, List.lookup, Nat.reduceBEq, Nat.reduceLeDiff, Nat.reduceAdd, if_false, if_true]
          repeat (go_big_quiet_step (fail))
          exact wpQuiet_nil rfl
        case hact =>
          intro jj hjj o ho
          have hj6 : jj = 0 ∨ jj = 1 ∨ jj = 2 ∨ jj = 3 ∨ jj = 4 := by simp at hjj; omega
          rcases hj6 with rfl | rfl | rfl | rfl | rfl
          · cases ho
            refine ⟨rfl, ⟨_, List.mem_of_getElem? (i := 0) rfl, rfl⟩, fun L g x hI hL hS => ?_⟩
            exact chain_value (w' := x.alloc (.cells #[] 45)) (by simp [go_sem, execOp]) hI.s0
          · cases ho
            refine ⟨rfl, ⟨_, List.mem_of_getElem? (i := 1) rfl, rfl⟩, fun L g x hI hL hS => ?_⟩
            have h0 := hS _ (List.mem_of_getElem? (i := 0) rfl) (List.contains_iff_mem.1 (by kernel_rfl))
            obtain ⟨v', w', p1, p2, p3⟩ := copyO (hI.e0 h0 hL) (HR6.out.1.later hI.any) hI.any.below.size (by have := HX.out.2.1; omega)
            clear hS
            simp only [fillAll, Act.put, List.setIfInBounds_toArray, List.set_cons_zero, List.set_cons_succ]
            exact Whole.chain_app _ _ _ _ rfl _ _ rfl rfl p1 (hI.s4 p2 p3)
          · cases ho
            refine ⟨rfl, ⟨_, List.mem_of_getElem? (i := 2) rfl, rfl⟩, fun L g x hI hL hS => ?_⟩
            clear hS
            simp only [fillAll, Act.put, List.setIfInBounds_toArray, List.set_cons_zero, List.set_cons_succ]
            exact chain_value (w' := x.alloc (.cells #[.int .i64 a, .int .i64 h] 45)) (by simp [go_sem, execOp]) hI.s9
          · cases ho
            refine ⟨rfl, ⟨_, List.mem_of_getElem? (i := 3) rfl, rfl⟩, fun L g x hI hL hS => ?_⟩
            have h4 := hS _ (List.mem_of_getElem? (i := 1) rfl) (List.contains_iff_mem.1 (by kernel_rfl))
            have h9 := hS _ (List.mem_of_getElem? (i := 2) rfl) (List.contains_iff_mem.1 (by kernel_rfl))
            have p4 := hI.e4 h4 hL
            obtain ⟨v', w', p1, p2, p3⟩ := appQ pairCaret p4 (hI.e9 h9 hL) hI.any.below.size (by have := HX.out.2.1; simp; omega)
            clear hS
            simp only [fillAll, Act.put, List.setIfInBounds_toArray, List.set_cons_zero, List.set_cons_succ]
            exact Whole.chain_app _ _ _ _ rfl _ _ rfl rfl p1 (hI.s10 h4 hL (OQ.grown p4 (Nat.le_refl _) hI.any p3) p2)
          · cases ho
            refine ⟨rfl, ⟨_, List.mem_of_getElem? (i := 4) rfl, rfl⟩, fun L g x hI hL hS => ?_⟩
            have h10 := hS _ (List.mem_of_getElem? (i := 3) rfl) (List.contains_iff_mem.1 (by kernel_rfl))
            have p10 := hI.e10 h10 hL
            obtain ⟨v', w', p1, p2, p3⟩ := appQ pairCaret p10 (HR6.out.2.later hI.any) hI.any.below.size (by have := HX.out.2; simp only [List.length_append, List.length_singleton]; omega)
            clear hS
            simp only [fillAll, Act.put, List.setIfInBounds_toArray, List.set_cons_zero, List.set_cons_succ]
            exact Whole.chain_app _ _ _ _ rfl _ _ rfl rfl p1 (hI.s14 h10 hL (OQ.grown p10 (Nat.le_refl _) hI.any p3) p2)
        case htail =>
          intro L g x hI hall
          have ho := hI.e14 (hall _ (List.mem_of_getElem? (i := 4) rfl))
          have HZ : Hid (AnyLater w x ∧ OQ 45 x w.heap.size (g 14) (sortC (l.take (j + 1)))) := Lib.hid ⟨HA.out.trans hI.any, by rw [HX.out.1]; exact OQ.wide HA.out.below.size ho⟩
          clear hI hall ho
          simp only [fillAll, Act.put, List.setIfInBounds_toArray, List.set_cons_zero, List.set_cons_succ, List.drop_succ_cons, List.drop_zero, List.drop_nil]
          clear hup hcut7
          generalize g 14 = u14 at *
          go_wp2_with fail
          go_roundg (n - (j + 1))
          case measure => omega
          case rel => exact ⟨j + 1, rfl, hlt, by go_num, HZ.out.1, HZ.out.2⟩
    · obtain rfl : j = n := by omega
      have hs : sortC (l.take j) = sortC l := by rw [List.take_of_length_le (Nat.le_of_eq HN.out)]
      rw [hs] at HO ho
      obtain ⟨A4, cap4, rfl, h4⟩ := ho.form
      have HS : Hid (SortedC (sortC l) ∧ foldC (sortC l) = M ∧ (sortC l).length = j) := Lib.hid ⟨sortC_sorted l, HM.out, by rw [sortC_len]; exact HN.out⟩
      have hq := OQ.rq ho
      generalize sortC l = s at *
      rw [HS.out.2.2] at h4 ⊢
      obtain ⟨A5, cap5, e5, q2, q3⟩ := hq
      cases e5
      have HCS : Hid (∀ (i : Nat) (h : i < s.length), ∃ b off, A4 = some ⟨b, off, none⟩ ∧ b < wo.heap.size ∧ wo.cell? ⟨b, off + i * 2, none⟩ = some (.int .i64 s[i].1) ∧ wo.cell? ⟨b, off + i * 2 + 1, none⟩ = some (.int .i64 s[i].2)) := Lib.hid (fun i hi => by
        obtain ⟨b, off, e, hb, hc⟩ := q3 (by omega)
        exact ⟨b, off, e, hb, hc i hi⟩)
      have HE1 : Hid (OQ 45 (wo.alloc (.cells #[] 45)) wo.heap.size (.slice (some ⟨wo.heap.size, 0, none⟩) 0 0) [] ∧ AnyLater wo (wo.alloc (.cells #[] 45))) := Lib.hid ⟨OQ.empty (Nat.le_refl _) (heap_new rfl), (AnyLater.refl _).alloc _⟩
      have HWo := Lib.hid a_wo
      clear q2 q3 ho hs a_wo HO hk hj hlt
      go_wp2_with fail
      go_loopg [6, 7] j (fun kk ov iv wr => ∃ i : Nat, kk = j - i ∧ i ≤ j ∧ iv = .int .i64 (i : Int) ∧ AnyLater wo wr ∧ OQ 45 wr wo.heap.size ov (foldC (s.take i)))
      case atStart => exact ⟨0, by omega, by omega, rfl, HE1.out.2, HE1.out.1⟩
      case round =>
        obtain ⟨i, hk, hi, rfl, a_wr, ho⟩ := hrel
        have HR := Lib.hid (And.intro a_wr ho)
        by_cases hlt : i < j
        · have li : i < s.length := by rw [HS.out.2.2]; exact hlt
          have i0 : (i : Int) < (j : Int) := by omega
          obtain ⟨b, off, rfl, hb, k0, k1⟩ := HCS.out i li
          have c0 : wr.cell? ⟨b, off + i * 2, none⟩ = some (.int .i64 s[i].1) := (a_wr.below.cell hb).trans k0
          have c1 : wr.cell? ⟨b, off + i * 2 + 1, none⟩ = some (.int .i64 s[i].2) := (a_wr.below.cell hb).trans k1
          have hT := foldC_take li
          have HLen : Hid ((foldC (s.take i)).length ≤ 39) := Lib.hid (by have := (tidy_inv s HS.out.1 i (by omega)).len; rw [List.length_take] at this; omega)
          clear k0 k1
          generalize foldC (s.take i) = K at *
          obtain ⟨c, hc⟩ : ∃ c, s[i] = c := ⟨_, rfl⟩
          rw [hc] at c0 c1 hT
          clear hc
          obtain ⟨a, h⟩ := c
          simp only at c0 c1
          have HT := Lib.hid hT
          have lw := a_wr.below.size
          rcases last_two K with rfl | ⟨O, k, rfl⟩
          · obtain ⟨A6, cap6, rfl, -⟩ := ho.form
            have HE : Hid (foldC (s.take (i + 1)) = [(a, h)]) := Lib.hid HT.out
            clear hT ho
            simp only [List.length_nil]
            go_wp2_with fail
            go_quiet (fail)
            have hb3 := (AnyLater.refl wr).drewN nq
            have c0' := cell_on hb3 c0
            have c1' := cell_on hb3 c1
            obtain ⟨u, w3, q1, q2, q3⟩ := appQ1 pairCaret (a, h) (OQ.later hb3 HR.out.2) (Nat.le_trans lw hb3.below.size) (by simp)
            have K1 := Lib.hid q1
            have K2 := Lib.hid (And.intro (q3 wo (Nat.le_refl _) (a_wr.trans hb3)) q2)
            clear hb3 q1 q2 q3
            go_wp2_with (at_builtin; refine Lib.wpList_append_run _ rfl _ _ _ _ rfl _ _ rfl rfl _ _ K1.out ?_)
            go_roundg (j - (i + 1))
            case measure => omega
            case rel => exact ⟨i + 1, rfl, hlt, by go_num, K2.out.1, by rw [HE.out]; exact K2.out.2⟩
          · obtain ⟨k1, k2⟩ := k
            rcases RowC.of_own ho with ⟨h0, -⟩ | ⟨gb, cap, rfl, hBg, hm, hrow⟩
            · simp at h0
            obtain ⟨t, ht⟩ : ∃ t, O.length = t := ⟨_, rfl⟩
            have hKl : (O ++ [(k1, k2)]).length = t + 1 := by rw [List.length_append, ht]; rfl
            have hgK : (O ++ [(k1, k2)])[t]? = some (k1, k2) := by rw [← ht, List.getElem?_append_right (Nat.le_refl _), Nat.sub_self]; rfl
            have htc : t + 1 ≤ cap := by obtain ⟨_, _, h9, _⟩ := hrow; rwa [hKl] at h9
            have ht9 : t ≤ 39 := by have := HLen.out; omega
            obtain ⟨m, hmm⟩ : ∃ m, meetC (k1, k2) (a, h) = m := ⟨_, rfl⟩
            have HM1 := Lib.hid (fun w => kmeet_any k1 k2 a h w m hmm)
            have HE : Hid (foldC (s.take (i + 1)) = if m = true then O ++ [joinC (k1, k2) (a, h)] else O ++ [(k1, k2)] ++ [(a, h)]) := Lib.hid (by rw [HT.out, stepC_last, hmm])
            have HRw := Lib.hid (And.intro hBg (And.intro hm (And.intro hrow (And.intro hKl ht))))
            rw [hKl] at HR ⊢
            have i9 : (t : Int) < (t : Int) + 1 := by omega
            have i8 : decide ((t : Int) < 0) = false := decide_eq_false (by omega)
            have hwt : IntKind.i64.wrap (t : Int) = (t : Int) := by rw [IntKind.wrap_i64]; omega
            have et : ((t : Int) + 1).toNat = t + 1 := by omega
            obtain ⟨d0, d1⟩ := hrow.cells hgK
            simp only at d0 d1
            have hgK0 := Lib.hid hgK
            have HAo := Lib.hid a_wr
            clear hT ho hmm hrow hKl ht HLen HT hm hgK
            go_wp2_with fail
            apply wp_region_free (14) [⟨11, 99, .bool m, false, fun v _ => v = .bool m⟩] [] rfl (by kernel_rfl) (by kernel_rfl) (by kernel_rfl) (by simp) (by kernel_rfl)
            case hstab =>
              intro c hc
              simp only [List.mem_cons, List.not_mem_nil, or_false] at hc
              rcases hc with rfl
              · intro v x y hxy hv; exact hv
            case hfix =>
              intro c hc
              simp only [List.mem_cons, List.not_mem_nil, or_false] at hc
              rcases hc with rfl
              · exact .inr fun u x h => h
            case hlex =>
              intro U hU
              have q_c0 := cell_on hU c0
              have q_c1 := cell_on hU c1
              have q_d0 := cell_on hU d0
              have q_d1 := cell_on hU d1
              simp only [List.map_cons, List.map_nil, CA.act, actFrom, actOp, List.lookup, Nat.reduceBEq, Nat.reduceLeDiff, Nat.reduceAdd, if_false, if_true]
              repeat (go_big_quiet_step (first | fail))
              exact wpQuiet_nil rfl
            case hstep =>
              intro j hj o ho
              have hj2 : j = 0 := by simp at hj; omega
              rcases hj2 with rfl
              · cases ho
                refine ⟨rfl, fun g x hx hp => ?_⟩
                clear hp
                simp only [fillAll, Act.put, List.setIfInBounds_toArray, List.set_cons_zero, List.set_cons_succ]
                refine chain_go ?_ (free_fix (HM1.out x))
                first | (simp [go_sem, execOp]; done) | simp [go_sem, execOp, hcf]
            case htail =>
              intro g u hst hne
              have b_w2 : AnyLater wr (later u) := ⟨u, rfl⟩
              generalize later u = w2 at *
              clear u
              clear hst hne
              simp only [fillAll, Act.put, List.setIfInBounds_toArray, List.set_cons_zero, List.set_cons_succ, List.drop_succ_cons, List.drop_zero, List.drop_nil]
              have z_w2 := b_w2.below.size
              have a_w2 := a_wr.trans b_w2
              have c0_w2 := cell_on b_w2 c0
              have c1_w2 := cell_on b_w2 c1
              have d0_w2 := cell_on b_w2 d0
              have d1_w2 := cell_on b_w2 d1
              have HB2 := Lib.hid b_w2
              have HA2 := Lib.hid a_w2
              cases m with
              | true =>
                have HL1 := Lib.hid (fun w => low_any k1 k2 w _ rfl)
                have HH1 := Lib.hid (fun w => high_any k1 k2 w _ rfl)
                have HH2 := Lib.hid (fun w => high_any a h w _ rfl)
                have HJ : Hid (joinC (k1, k2) (a, h) = if k2 < k1 then (if hiC (k1, k2) < hiC (a, h) then hiC (a, h) else hiC (k1, k2), loC (k1, k2)) else (loC (k1, k2), if hiC (k1, k2) < hiC (a, h) then hiC (a, h) else hiC (k1, k2))) := Lib.hid rfl
                generalize joinC (k1, k2) (a, h) = jn at *
                generalize loC (k1, k2) = l1 at *
                generalize hiC (k1, k2) = h1 at *
                generalize hiC (a, h) = h2 at *
                have hrel9 : Hid (∀ (w9 : World) (x y : Int), jn = (x, y) → AnyLater wo w9 → RowC w9 gb cap (O ++ [(k1, k2)]) → AnyLater wo ((w9.setCell ⟨gb, t * 2, none⟩ (.int .i64 x)).setCell ⟨gb, t * 2 + 1, none⟩ (.int .i64 y)) ∧ OQ 45 ((w9.setCell ⟨gb, t * 2, none⟩ (.int .i64 x)).setCell ⟨gb, t * 2 + 1, none⟩ (.int .i64 y)) wo.heap.size (.slice (some ⟨gb, 0, none⟩) (t + 1) cap) (foldC (s.take (i + 1)))) := Lib.hid (fun w9 x y hj9 ha9 hr9 => by
                  refine ⟨ha9.put HRw.out.1 _ _ _ _, ?_⟩
                  rw [HE.out]
                  (first | rw [if_pos rfl] | rw [if_pos trivial])
                  rw [hj9]
                  have hput := (hr9.put (i := t) (x, y) (by rw [HRw.out.2.2.2.1]; omega)).own HRw.out.1 HRw.out.2.1
                  have e5 : (O ++ [(k1, k2)]).set t (x, y) = O ++ [(x, y)] := by
                    rw [List.set_append_right _ _ (Nat.le_of_eq HRw.out.2.2.2.2), HRw.out.2.2.2.2, Nat.sub_self]; rfl
                  rw [e5, List.length_append, HRw.out.2.2.2.2] at hput
                  exact hput)
                go_wp2_with fail
                apply wp_region_free (12) [⟨4, 113, .int .i64 l1, false, fun v _ => v = .int .i64 l1⟩, ⟨9, 118, .int .i64 h1, false, fun v _ => v = .int .i64 h1⟩] [] rfl (by kernel_rfl) (by kernel_rfl) (by kernel_rfl) (by simp) (by kernel_rfl)
                case hstab =>
                  intro c hc
                  simp only [List.mem_cons, List.not_mem_nil, or_false] at hc
                  rcases hc with rfl | rfl
                  · intro v x y hxy hv; exact hv
                  · intro v x y hxy hv; exact hv
                case hfix =>
                  intro c hc
                  simp only [List.mem_cons, List.not_mem_nil, or_false] at hc
                  rcases hc with rfl | rfl
                  · exact .inr fun u x h => h
                  · exact .inr fun u x h => h
                case hlex =>
                  intro U hU
                  have q_c0_w2 := cell_on hU c0_w2
                  have q_c1_w2 := cell_on hU c1_w2
                  have q_d0_w2 := cell_on hU d0_w2
                  have q_d1_w2 := cell_on hU d1_w2
                  simp only [List.map_cons, List.map_nil, CA.act, actFrom, actOp, List.lookup, Nat.reduceBEq, Nat.reduceLeDiff, Nat.reduceAdd, if_false, if_true]
                  repeat (go_big_quiet_step (first | fail))
                  exact wpQuiet_nil rfl
                case hstep =>
                  intro j hj o ho
                  have hj2 : j = 0 ∨ j = 1 := by simp at hj; omega
                  rcases hj2 with rfl | rfl
                  · cases ho
                    refine ⟨rfl, fun g x hx hp => ?_⟩
                    clear hp
                    simp only [fillAll, Act.put, List.setIfInBounds_toArray, List.set_cons_zero, List.set_cons_succ]
                    refine chain_go ?_ (free_fix (HL1.out x))
                    first | (simp [go_sem, execOp]; done) | simp [go_sem, execOp, hcf]
                  · cases ho
                    refine ⟨rfl, fun g x hx hp => ?_⟩
                    clear hp
                    simp only [fillAll, Act.put, List.setIfInBounds_toArray, List.set_cons_zero, List.set_cons_succ]
                    refine chain_go ?_ (free_fix (HH1.out x))
                    first | (simp [go_sem, execOp]; done) | simp [go_sem, execOp, hcf]
                case htail =>
                  intro g u hst hne
                  have b_w3 : AnyLater w2 (later u) := ⟨u, rfl⟩
                  generalize later u = w3 at *
                  clear u
                  clear hst hne
                  simp only [fillAll, Act.put, List.setIfInBounds_toArray, List.set_cons_zero, List.set_cons_succ, List.drop_succ_cons, List.drop_zero, List.drop_nil]
                  have z_w3 := b_w3.below.size
                  have a_w3 := a_w2.trans b_w3
                  have c0_w2_w3 := cell_on b_w3 c0_w2
                  have c1_w2_w3 := cell_on b_w3 c1_w2
                  have d0_w2_w3 := cell_on b_w3 d0_w2
                  have d1_w2_w3 := cell_on b_w3 d1_w2
                  have HB3 := Lib.hid (HB2.out.trans b_w3)
                  by_cases g1 : h1 < h2
                  · by_cases g2 : k2 < k1
                    · have g1' : decide (h1 < h2) = true := decide_eq_true g1
                      have g2' : decide (k2 < k1) = true := decide_eq_true g2
                      have EJ : Hid (jn = (h2, l1)) := Lib.hid (by rw [HJ.out, if_pos g2, if_pos g1])
                      go_wp2_with fail
                      refine (HH2.out _).mono ?_
                      rintro e w4 ⟨rfl, b4⟩
                      have HB4 := Lib.hid (HB3.out.trans b4)
                      have c0_w4 := cell_on b4 c0_w2_w3
                      have c1_w4 := cell_on b4 c1_w2_w3
                      clear b4
                      go_wp2_with fail
                      refine (HH2.out _).mono ?_
                      rintro e w5 ⟨rfl, b5⟩
                      have HB5 := Lib.hid (HB4.out.trans b5)
                      clear b5
                      have hr9 := Lib.hid (HRw.out.2.2.1.later HB5.out)
                      obtain ⟨f0, f1⟩ := hr9.out.cells hgK0.out
                      simp only at f0 f1
                      go_wp2_with fail
                      go_quiet (fail)
                      have hr8 := Lib.hid (hr9.out.later ((AnyLater.refl w5).drewN nq))
                      have HZ := Lib.hid (hrel9.out (w5.drewN nq) _ _ EJ.out (HAo.out.trans (HB5.out.drewN nq)) hr8.out)
                      obtain ⟨e0, e1⟩ := hr8.out.cells hgK0.out
                      simp only at e0 e1
                      have fz := hr8.out.free
                      have lz := hr8.out.lt
                      clear f0 f1
                      go_wp2_with fail
                      go_roundg (j - (i + 1))
                      case measure => omega
                      case rel => exact ⟨i + 1, rfl, hlt, by go_num, HZ.out.1, HZ.out.2⟩
                    · have g1' : decide (h1 < h2) = true := decide_eq_true g1
                      have g2' : decide (k2 < k1) = false := decide_eq_false g2
                      have EJ : Hid (jn = (l1, h2)) := Lib.hid (by rw [HJ.out, if_neg g2, if_pos g1])
                      go_wp2_with fail
                      refine (HH2.out _).mono ?_
                      rintro e w4 ⟨rfl, b4⟩
                      have HB4 := Lib.hid (HB3.out.trans b4)
                      have c0_w4 := cell_on b4 c0_w2_w3
                      have c1_w4 := cell_on b4 c1_w2_w3
                      clear b4
                      go_wp2_with fail
                      refine (HH2.out _).mono ?_
                      rintro e w5 ⟨rfl, b5⟩
                      have HB5 := Lib.hid (HB4.out.trans b5)
                      clear b5
                      have hr9 := Lib.hid (HRw.out.2.2.1.later HB5.out)
                      obtain ⟨f0, f1⟩ := hr9.out.cells hgK0.out
                      simp only at f0 f1
                      go_wp2_with fail
                      go_quiet (fail)
                      have hr8 := Lib.hid (hr9.out.later ((AnyLater.refl w5).drewN nq))
                      have HZ := Lib.hid (hrel9.out (w5.drewN nq) _ _ EJ.out (HAo.out.trans (HB5.out.drewN nq)) hr8.out)
                      obtain ⟨e0, e1⟩ := hr8.out.cells hgK0.out
                      simp only at e0 e1
                      have fz := hr8.out.free
                      have lz := hr8.out.lt
                      clear f0 f1
                      go_wp2_with fail
                      go_roundg (j - (i + 1))
                      case measure => omega
                      case rel => exact ⟨i + 1, rfl, hlt, by go_num, HZ.out.1, HZ.out.2⟩
                  · by_cases g2 : k2 < k1
                    · have g1' : decide (h1 < h2) = false := decide_eq_false g1
                      have g2' : decide (k2 < k1) = true := decide_eq_true g2
                      have EJ : Hid (jn = (h1, l1)) := Lib.hid (by rw [HJ.out, if_pos g2, if_neg g1])
                      go_wp2_with fail
                      refine (HH2.out _).mono ?_
                      rintro e w4 ⟨rfl, b4⟩
                      have HB4 := Lib.hid (HB3.out.trans b4)
                      clear b4
                      have hr9 := Lib.hid (HRw.out.2.2.1.later HB4.out)
                      obtain ⟨f0, f1⟩ := hr9.out.cells hgK0.out
                      simp only at f0 f1
                      go_wp2_with fail
                      go_quiet (fail)
                      have hr8 := Lib.hid (hr9.out.later ((AnyLater.refl w4).drewN nq))
                      have HZ := Lib.hid (hrel9.out (w4.drewN nq) _ _ EJ.out (HAo.out.trans (HB4.out.drewN nq)) hr8.out)
                      obtain ⟨e0, e1⟩ := hr8.out.cells hgK0.out
                      simp only at e0 e1
                      have fz := hr8.out.free
                      have lz := hr8.out.lt
                      clear f0 f1
                      go_wp2_with fail
                      go_roundg (j - (i + 1))
                      case measure => omega
                      case rel => exact ⟨i + 1, rfl, hlt, by go_num, HZ.out.1, HZ.out.2⟩
                    · have g1' : decide (h1 < h2) = false := decide_eq_false g1
                      have g2' : decide (k2 < k1) = false := decide_eq_false g2
                      have EJ : Hid (jn = (l1, h1)) := Lib.hid (by rw [HJ.out, if_neg g2, if_neg g1])
                      go_wp2_with fail
                      refine (HH2.out _).mono ?_
                      rintro e w4 ⟨rfl, b4⟩
                      have HB4 := Lib.hid (HB3.out.trans b4)
                      clear b4
                      have hr9 := Lib.hid (HRw.out.2.2.1.later HB4.out)
                      obtain ⟨f0, f1⟩ := hr9.out.cells hgK0.out
                      simp only at f0 f1
                      go_wp2_with fail
                      go_quiet (fail)
                      have hr8 := Lib.hid (hr9.out.later ((AnyLater.refl w4).drewN nq))
                      have HZ := Lib.hid (hrel9.out (w4.drewN nq) _ _ EJ.out (HAo.out.trans (HB4.out.drewN nq)) hr8.out)
                      obtain ⟨e0, e1⟩ := hr8.out.cells hgK0.out
                      simp only at e0 e1
                      have fz := hr8.out.free
                      have lz := hr8.out.lt
                      clear f0 f1
                      go_wp2_with fail
                      go_roundg (j - (i + 1))
                      case measure => omega
                      case rel => exact ⟨i + 1, rfl, hlt, by go_num, HZ.out.1, HZ.out.2⟩
              | false =>
                have ho2 : OQ 45 w2 wo.heap.size (.slice (some ⟨gb, 0, none⟩) (t + 1) cap) (O ++ [(k1, k2)]) := OQ.later HB2.out HR.out.2
                obtain ⟨u, w3, q1, q2, q3⟩ := appQ1 pairCaret (a, h) ho2 (Nat.le_trans lw HB2.out.below.size) (by rw [HRw.out.2.2.2.1]; omega)
                have K1 := Lib.hid q1
                have K2 := Lib.hid (And.intro (q3 wo (Nat.le_refl _) HA2.out) q2)
                clear q1 q2 q3 ho2
                go_wp2_with (at_builtin; refine Lib.wpList_append_run _ rfl _ _ _ _ rfl _ _ rfl rfl _ _ K1.out ?_)
                go_roundg (j - (i + 1))
                case measure => omega
                case rel => exact ⟨i + 1, rfl, hlt, by go_num, K2.out.1, by rw [HE.out, if_neg (by decide)]; exact K2.out.2⟩
        · obtain rfl : i = j := by omega
          have HE : Hid (foldC (s.take i) = M) := Lib.hid (by rw [List.take_of_length_le (Nat.le_of_eq HS.out.2.2)]; exact HS.out.2.1)
          obtain ⟨A6, cap6, rfl, -⟩ := ho.form
          have d9 : decide ((i : Int) < (i : Int)) = false := by simp
          clear ho
          go_wp2_with fail
          go_ret
          exact ⟨_, rfl, HWo.out.trans HR.out.1, OQ.wide HWo.out.below.size (by rw [← HE.out]; exact HR.out.2)⟩
end Go.Proofs.YtkobnijjahpifaaDoor
