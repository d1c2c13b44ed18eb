/- what the proof stands on: HgtD HgtE HgtF HgtG -/
import Derived.Lib.SliceRun
import Derived.LoopN
import Derived.Deep.LoopGhost
import Derived.BigRegion
import Derived.RegionTactic
import Derived.Shelf.Abstract
import Derived.ChangeKeysEq
import Derived.Deep.DeepCutAuto
import Derived.Deep.CutBlock
import Derived.Test.YtamhnffokoejjaaGreatDoorKnba
import Derived.Deep.AppendLies
import Derived.Laws.BitsAll
import Derived.Laws.CopyRow
import Derived.Laws.MakeOwn
import Derived.Test.YtamhnffokoejjaaGreatDoorKnac
namespace Go.Proofs.YtamhnffokoejjaaGreatDoor
set_option linter.unusedSimpArgs false
set_option linter.unusedVariables false
set_option linter.unusedSectionVars false
open Go.RowKit
variable {B : Nat}
theorem IsCh.row_own {w : World} {v : Value} {c : Cw} {l : Qs} (h : IsCh B w v c l) {g : Nat} {t : Ht} (hs : c.sq = some (g, t)) : w.ownsRow B 166 1 v 1 [ptrV g] := by
  rcases h.2 with ⟨h1, _⟩ | ⟨g', t', h1, _, _, h4⟩
  · rw [hs] at h1; cases h1
  · rw [hs] at h1; cases h1; exact h4
theorem cut1_any (g : Nat) (t : Ht) (e : Bool) (w : World) (h : QAt B w g t) (he : decide (t.hs.length = 0) = e) : Calls Tryz.prog 225 #[.pointer (some ⟨g, 0, none⟩)] w fun u w' => u = .returned (.bool e) ∧ AnyLater w w' := by
  have HL := Lib.hid (fun (w' : World) (a : AnyLater w w') => sqlen_any (.pointer (some ⟨g, 0, none⟩)) t w' (h.q.nil_or.later a) h.fit)
  have HE : Hid (((t.hs.length : Int) == 0) = e) := Lib.hid (by rw [← he]; cases hd : decide (t.hs.length = 0) <;> simp_all)
  clear h he
  generalize t.hs.length = n at *
  go_enter Tryz.func225, Tryz.ntmps225
  go_wp2_with fail
  refine (HL.out _ (AnyLater.refl w)).mono ?_
  rintro u w1 ⟨rfl, b1⟩
  have HB := Lib.hid b1
  have hE := HE.out
  clear b1
  go_wp2_with fail
  go_ret
  exact ⟨rfl, HB.out⟩
theorem cut1_enters : ∀ args w, (callFunc 225 args).run Tryz.prog w = .ok (.enter 225 args) w := enters_of Tryz.func225 (by kernel_rfl) rfl
set_option maxRecDepth 100000 in
theorem hgix_none (A : Option Addr) (cap : Nat) (w : World) : Calls Tryz.prog 257 #[.slice A 0 cap, .func (.func 225) #[] #[]] w fun u w' => u = .returned (.int .i64 (-1)) ∧ AnyLater w w' := by
  go_enter Tryz.func257, Tryz.ntmps257
  go_wp2_with fail
  refine wp_loop_rounds 1 ?_
  rw [rounds_succ]
  go_wp2_with fail
  go_ret
  exact ⟨rfl, AnyLater.refl w⟩
set_option maxRecDepth 100000 in
theorem hgix_one (b cap g : Nat) (t : Ht) (w : World) (h : ChOne B w b g t) : Calls Tryz.prog 257 #[.slice (some ⟨b, 0, none⟩) 1 cap, .func (.func 225) #[] #[]] w fun u w' => u = .returned (.int .i64 (if t.hs.length = 0 then 0 else -1)) ∧ AnyLater w w' := by
  have hen := cut1_enters
  have c1 := h.cell
  by_cases h0 : t.hs.length = 0
  · have H1 := Lib.hid (fun (w' : World) (a : AnyLater w w') => cut1_any g t true w' (h.q.later a) (decide_eq_true h0))
    rw [if_pos h0]
    clear h h0
    go_enter Tryz.func257, Tryz.ntmps257
    go_wp2_with fail
    refine wp_loop_rounds 2 ?_
    rw [rounds_succ]
    go_wp2_with fail
    refine (H1.out _ (AnyLater.refl w)).mono ?_
    rintro u w1 ⟨rfl, b1⟩
    have HB := Lib.hid b1
    clear b1
    go_wp2_with fail
    go_ret
    exact ⟨rfl, HB.out⟩
  · have H1 := Lib.hid (fun (w' : World) (a : AnyLater w w') => cut1_any g t false w' (h.q.later a) (decide_eq_false h0))
    rw [if_neg h0]
    clear h h0
    go_enter Tryz.func257, Tryz.ntmps257
    go_wp2_with fail
    refine wp_loop_rounds 2 ?_
    rw [rounds_succ]
    go_wp2_with fail
    refine (H1.out _ (AnyLater.refl w)).mono ?_
    rintro u w1 ⟨rfl, b1⟩
    have HB := Lib.hid b1
    clear b1
    go_wp2_with fail
    rw [rounds_succ]
    go_wp2_with fail
    go_ret
    exact ⟨rfl, HB.out⟩
set_option maxRecDepth 100000 in
theorem size_sp (w : World) : (Go.sizeOf (Tryz.prog.elem 112)).run Tryz.prog w = .ok 1 w := by simp [go_sem]
set_option maxRecDepth 100000 in
theorem sp_upto (A : Option Addr) (n cap i : Nat) (h2 : i ≤ cap) (w : World) : (Instr.sliceAt 112 (.slice A n cap) none (some (.int .i64 (i : Int))) none).run Tryz.prog w = .ok (.slice A i cap) w := by
  have eA : (if cap = 0 then A else A.map (fun x => x.add 0)) = A := by
    split
    · rfl
    · cases A with
      | none => rfl
      | some a => simp [Addr.add]
  rw [run_sliceAt_slice w _ _ _ _ _ Tryz.underlying112, run_slice_h w _ A n cap Tryz.underlying112 .i64 (i : Int) (by omega) (by omega)]
  rw [size_sp]
  simp only [Result.andThen, sliced, Int.toNat_natCast, Nat.sub_zero, Nat.zero_mul]
  rw [eA]
set_option maxRecDepth 100000 in
theorem sp_from (g o n cap i : Nat) (h1 : i ≤ n) (h2 : n ≤ cap) (w : World) : (Instr.sliceAt 112 (.slice (some ⟨g, o, none⟩) n cap) (some (.int .i64 (i : Int))) none none).run Tryz.prog w = .ok (.slice (some ⟨g, if cap = i then o else o + i, none⟩) (n - i) (cap - i)) w := by
  rw [run_sliceAt_slice w _ _ _ _ _ Tryz.underlying112, run_slice_l w _ (some ⟨g, o, none⟩) n cap Tryz.underlying112 .i64 (i : Int) (by omega) (by omega)]
  rw [size_sp]
  simp only [Result.andThen, sliced, Int.toNat_natCast, Nat.mul_one]
  split
  · rfl
  · rw [Option.map_some, addr_add]
set_option maxRecDepth 100000 in
theorem hgdel_none (A : Option Addr) (cap : Nat) (w : World) : Calls Tryz.prog 224 #[.slice A 0 cap, .func (.func 225) #[] #[]] w fun u w' => u = .returned (.slice A 0 cap) ∧ AnyLater w w' := by
  have HX := Lib.hid (fun (w' : World) => hgix_none A cap w')
  go_enter Tryz.func224, Tryz.ntmps224
  go_wp2_with fail
  refine (HX.out _).mono ?_
  rintro e w1 ⟨rfl, b_w1⟩
  have z_w1 := b_w1.below.size
  have a_w1 := b_w1
  go_wp2_with fail
  go_ret
  exact ⟨rfl, a_w1⟩
set_option maxRecDepth 100000 in
theorem hgdel_keep (b cap g : Nat) (t : Ht) (w : World) (h : ChOne B w b g t) (h0 : t.hs.length ≠ 0) : Calls Tryz.prog 224 #[.slice (some ⟨b, 0, none⟩) 1 cap, .func (.func 225) #[] #[]] w fun u w' => u = .returned (.slice (some ⟨b, 0, none⟩) 1 cap) ∧ AnyLater w w' := by
  have HX := Lib.hid (fun (w' : World) (a : AnyLater w w') => hgix_one b cap g t w' (h.later a))
  rw [if_neg h0] at HX
  clear h h0
  go_enter Tryz.func224, Tryz.ntmps224
  go_wp2_with fail
  refine (HX.out _ (AnyLater.refl w)).mono ?_
  rintro e w1 ⟨rfl, b_w1⟩
  have z_w1 := b_w1.below.size
  have a_w1 := b_w1
  go_wp2_with fail
  go_ret
  exact ⟨rfl, a_w1⟩
theorem zero_sp : ∀ w, (zeroValue 166).run Tryz.prog w = .ok (.pointer none) w := fun w => by simp [go_sem]
set_option maxRecDepth 100000 in
theorem hgdel_drop (b cap g : Nat) (t : Ht) (cur : Array Value) (w : World) (h : ChOne B w b g t) (h0 : t.hs.length = 0) (hb : w.heap[b]? = some (.cells cur 166)) (hc : 1 ≤ cap) (hs : cur.size = cap) : Calls Tryz.prog 224 #[.slice (some ⟨b, 0, none⟩) 1 cap, .func (.func 225) #[] #[]] w fun u w' => u = .returned (.slice (some ⟨b, 0, none⟩) 0 cap) ∧ ∃ w1, AnyLater w w1 ∧ w' = w1.setCell ⟨b, 0, none⟩ (.pointer none) := by
  have HX := Lib.hid (fun (w' : World) (a : AnyLater w w') => hgix_one b cap g t w' (h.later a))
  rw [if_pos h0] at HX
  have s1 := sp_from b 0 1 cap 0 (by omega) hc
  have s2 := sp_upto (some ⟨b, 0, none⟩) 1 cap 0 (by omega)
  rw [if_neg (by omega)] at s1
  have HCL := Lib.hid (fun (w1 : World) (a : AnyLater w w1) (ty : TypeId) => Lib.run_clear_slice (P := Tryz.prog) w1 112 166 ty (.pointer none) Tryz.underlying112 zero_sp rfl rfl b 0 1 cap (by omega) (fun k hk => by
    obtain rfl : k = 0 := by omega
    rw [Nat.zero_add, (h.later a).cell]; rfl) (fun k hk => by rw [Nat.zero_add]; exact own_free (any_own a hb) _))
  clear h h0 hb hs
  go_enter Tryz.func224, Tryz.ntmps224
  go_wp2_with fail
  refine (HX.out _ (AnyLater.refl w)).mono ?_
  rintro e w1 ⟨rfl, b_w1⟩
  have z_w1 := b_w1.below.size
  have a_w1 := b_w1
  have hcl := HCL.out w1 a_w1
  go_wp2_with fail
  refine wp_loop_rounds 1 ?_
  rw [rounds_succ]
  go_wp2_with fail
  go_ret
  exact ⟨rfl, w1, a_w1, rfl⟩
end Go.Proofs.YtamhnffokoejjaaGreatDoor
namespace Go.Proofs.YtamhnffokoejjaaGreatDoor
set_option linter.unusedSimpArgs false
set_option linter.unusedVariables false
set_option linter.unusedSectionVars false
open Go.RowKit
variable {B : Nat}
def PDone (B : Nat) (w : World) (hg k : Nat) (cs : Array Value) (c : Cw) (l : Qs) (w' : World) : Prop := ∃ v' c', w'.heap[hg]? = some (.cells (cs.setIfInBounds k v') 116) ∧ IsCh B w' v' c' l ∧ (∀ b ∈ c'.bl, b ∈ c.bl ∨ w.heap.size ≤ b) ∧ (∀ b, InR c' b → InR c b ∨ w.heap.size ≤ b) ∧ Stays (fun b => b = hg ∨ InR c b) w w'
theorem heights_blk {w : World} {v : Value} {c : Cw} {l : Qs} {hg : Nat} {cs : Array Value} (h : IsCh B w v c l) (hh : w.heap[hg]? = some (.cells cs 116)) : ¬ InC w c hg := by
  intro k
  rcases k with k | ⟨g, t, k1, k2⟩
  · obtain ⟨_, cs', e⟩ := h.rowAt k
    rw [hh] at e; cases e
  · rcases k2.kinds (h.seqAt k1).1 with ⟨_, rv, e2⟩ | ⟨_, cs, e2⟩ | ⟨_, cs, e2⟩
    · rw [hh] at e2; cases e2
    · rw [hh] at e2; cases e2
    · rw [hh] at e2; cases e2
theorem set_same {cs : Array Value} {k : Nat} {v : Value} (h : cs[k]? = some v) : cs.setIfInBounds k v = cs := by
  apply Array.ext_getElem?
  intro i
  rw [Array.getElem?_setIfInBounds]
  split
  · rename_i e
    subst e
    obtain ⟨hk, e2⟩ := Array.getElem?_eq_some_iff.1 h
    rw [if_pos hk, h]
  · rfl
theorem IsCh.own {w w1 w2 w' : World} {g : Nat} {v : Value} {c : Cw} {l l2 : Qs} {t : Ht} (h : IsCh B w v c l) (hs : c.sq = some (g, t)) (a : AnyLater w w1) (q : QOwn B w1 g t l2 w2) (a2 : AnyLater w2 w') : ∃ t', t'.hs = l2 ∧ IsCh B w' v ⟨c.row, some (g, t')⟩ l2 ∧ (∀ b ∈ (⟨c.row, some (g, t')⟩ : Cw).bl, b ∈ c.bl ∨ w.heap.size ≤ b) ∧ (∀ b, InR ⟨c.row, some (g, t')⟩ b → InR c b ∨ w.heap.size ≤ b) ∧ Stays (fun b => b = g) w w' := by
  obtain ⟨⟨t', k1, k2, k3⟩, st⟩ := q
  have hst : Stays (fun b => b = g) w w' := ((Stays.of a).trans st).trans (.of a2)
  refine ⟨t', k2, ⟨h.1, .inr ⟨g, t', rfl, k2, k1.later a2, own_row_stays (h.row_own hs) hst (fun b hb hc => ?_)⟩⟩, fun b hb => ?_, fun b hb => .inl ?_, hst⟩
  · rw [h.1] at hb
    obtain ⟨_, cs', e⟩ := h.rowAt hb
    obtain ⟨rv, e2, _⟩ := (h.seqAt hs).1.obj
    subst hc
    rw [e] at e2; cases e2
  · unfold Cw.bl at hb ⊢
    rw [hs]
    simp only [List.mem_append, List.mem_cons] at hb ⊢
    rcases hb with hb | hb | hb
    · exact .inl (.inl hb)
    · exact .inl (.inr (.inl hb))
    · rcases k3 b hb with q | q
      · exact .inl (.inr (.inr q))
      · exact .inr (Nat.le_trans a.below.size q)
  · rcases hb with hb | ⟨g', t'', e, e2⟩
    · exact .inl hb
    · exact .inr ⟨g, t, hs, e2.trans (Prod.mk.inj (Option.some.inj e)).1.symm⟩
theorem PDone.own {w w1 w2 w' : World} {hg k g : Nat} {cs : Array Value} {v : Value} {c : Cw} {l l2 : Qs} {t : Ht} (h : IsCh B w v c l) (hs : c.sq = some (g, t)) (hh : w.heap[hg]? = some (.cells cs 116)) (hk : cs[k]? = some v) (a : AnyLater w w1) (q : QOwn B w1 g t l2 w2) (a2 : AnyLater w2 w') : PDone B w hg k cs c l2 w' := by
  obtain ⟨t', _, k2, k3, k4, hst⟩ := h.own hs a q a2
  have hng : hg ≠ g := fun e => by
    obtain ⟨rv, e2, _⟩ := (h.seqAt hs).1.obj
    subst e
    rw [hh] at e2; cases e2
  exact ⟨v, ⟨c.row, some (g, t')⟩, by rw [set_same hk]; exact hst.own hh hng, k2, k3, k4, hst.wide (fun b _ hb => .inr (.inr ⟨g, t, hs, hb⟩))⟩
def Outs (b cap : Nat) (l : Qs) (w : World) (u : Ending) (w' : World) : Prop := ∃ n, u = .returned (.slice (some ⟨b, 0, none⟩) n cap) ∧ ((n = 1 ∧ AnyLater w w') ∨ (n = 0 ∧ l = [] ∧ ∃ w1, AnyLater w w1 ∧ w' = w1.setCell ⟨b, 0, none⟩ (.pointer none)))
theorem hgdel_any (b cap g : Nat) (t : Ht) (cur : Array Value) (w : World) (h : ChOne B w b g t) (hb : w.heap[b]? = some (.cells cur 166)) (hc : 1 ≤ cap) (hs : cur.size = cap) : Calls Tryz.prog 224 #[.slice (some ⟨b, 0, none⟩) 1 cap, .func (.func 225) #[] #[]] w (Outs b cap t.hs w) := by
  by_cases h0 : t.hs.length = 0
  · refine (hgdel_drop b cap g t cur w h h0 hb hc hs).mono ?_
    rintro u w' ⟨rfl, w1, a, e⟩
    exact ⟨0, rfl, .inr ⟨rfl, List.eq_nil_of_length_eq_zero h0, w1, a, e⟩⟩
  · refine (hgdel_keep b cap g t w h h0).mono ?_
    rintro u w' ⟨rfl, a⟩
    exact ⟨1, rfl, .inl ⟨rfl, a⟩⟩
theorem PDone.outs {w w1 w2 w3 : World} {hg k g b cap n : Nat} {cs : Array Value} {c : Cw} {l l2 : Qs} {t : Ht} (h : IsCh B w (.slice (some ⟨b, 0, none⟩) 1 cap) c l) (hs : c.sq = some (g, t)) (hh : w.heap[hg]? = some (.cells cs 116)) (a : AnyLater w w1) (q : QOwn B w1 g t l2 w2) (ho : (n = 1 ∧ AnyLater w2 w3) ∨ (n = 0 ∧ l2 = [] ∧ ∃ w1, AnyLater w2 w1 ∧ w3 = w1.setCell ⟨b, 0, none⟩ (.pointer none))) : PDone B w hg k cs c l2 (w3.setCell ⟨hg, k, none⟩ (.slice (some ⟨b, 0, none⟩) n cap)) := by
  have hrow : c.row = some b := h.1.symm
  have hng : hg ≠ g := fun e => by
    obtain ⟨rv, e2, _⟩ := (h.seqAt hs).1.obj
    subst e
    rw [hh] at e2; cases e2
  have hnb : hg ≠ b := fun e => by
    obtain ⟨_, cs', e2⟩ := h.rowAt hrow
    rw [e, e2] at hh; cases hh
  rcases ho with ⟨rfl, a3⟩ | ⟨rfl, rfl, w4, a4, rfl⟩
  · obtain ⟨t', _, k2, k3, k4, hst⟩ := h.own hs a q a3
    have h3 : w3.heap[hg]? = some (.cells cs 116) := hst.own hh hng
    have hst2 : Stays (fun x => x = hg) w3 (w3.setCell ⟨hg, k, none⟩ (.slice (some ⟨b, 0, none⟩) 1 cap)) := (Stays.refl _ _).setCell (S := fun x => x = hg) rfl _
    refine ⟨_, ⟨c.row, some (g, t')⟩, heap_at h3 rfl, k2.stays hst2 (fun b hb e => heights_blk k2 h3 (e ▸ hb)), k3, k4, (hst.wide (S' := fun x => x = hg ∨ InR c x) (fun b _ hb => .inr (.inr ⟨g, t, hs, hb⟩))).more hst2 (fun x hx => .inl (.inl hx))⟩
  · obtain ⟨t', _, k2, k3, k4, hst⟩ := h.own hs a q a4
    have h3 : w4.heap[hg]? = some (.cells cs 116) := hst.own hh hng
    have h4 : (w4.setCell ⟨b, 0, none⟩ (.pointer none)).heap[hg]? = some (.cells cs 116) := heap_far hnb h3
    obtain ⟨b', cap', cur, e, e2, e3, e4, _, e5, e6, e7⟩ := k2.one_form rfl
    cases e
    have h5 : ((w4.setCell ⟨b, 0, none⟩ (.pointer none)).setCell ⟨hg, k, none⟩ (.slice (some ⟨b, 0, none⟩) 0 cap)).heap[b]? = some (.cells (cur.setIfInBounds 0 (.pointer none)) 166) := heap_far (fun e => hnb e.symm) (heap_at e4 rfl)
    refine ⟨_, ⟨c.row, none⟩, heap_at h4 rfl, ⟨h.1, .inl ⟨rfl, rfl, rfl, .inr ⟨b, cap, _, rfl, e3, h5, Nat.zero_le _, e6, by simp [e7], by simp⟩⟩⟩, fun x hx => .inl ?_, fun x hx => .inl ?_, ?_⟩
    · unfold Cw.bl at hx ⊢
      simp only [List.append_nil] at hx
      exact List.mem_append_left _ hx
    · rcases hx with hx | ⟨g', t'', e, _⟩
      · exact .inl hx
      · cases e
    · exact ((hst.wide (S' := fun x => x = hg ∨ InR c x) (fun b _ hb => .inr (.inr ⟨g, t, hs, hb⟩))).setCell (.inr (.inl hrow)) _).setCell (.inl rfl) _
set_option maxRecDepth 100000 in
theorem hgcut_none (hg k : Nat) (cs : Array Value) (A : Option Addr) (cap : Nat) (c : Cw) (i : Int) (n : Int) (w : World) (hh : w.heap[hg]? = some (.cells cs 116)) (hk : cs[k]? = some (.slice A 0 cap)) (h : IsCh B w (.slice A 0 cap) c []) :
    Calls Tryz.prog 179 #[.pointer (some ⟨hg, k, none⟩), .int .i64 i, .int .i64 n] w fun e w' => e = .returned (.tuple #[]) ∧ PDone B w hg k cs c [] w' := by
  have HD := Lib.hid (fun (w' : World) => hgdel_none A cap w')
  have HE : Hid (∀ w1, AnyLater w w1 → PDone B w hg k cs c [] (w1.setCell ⟨hg, k, none⟩ (.slice A 0 cap))) := Lib.hid (fun w1 a => by
    have hst : Stays (fun b => b = hg) w (w1.setCell ⟨hg, k, none⟩ (.slice A 0 cap)) := (Stays.of a).setCell (S := fun b => b = hg) rfl _
    refine ⟨_, c, heap_at (any_own a hh) rfl, h.stays hst (fun b hb e => heights_blk h hh (e ▸ hb)), fun b hb => .inl hb, fun b hb => .inl hb, hst.wide (fun b _ e => .inl e)⟩)
  have r0 := own_row hh
  have f0 := own_free hh
  have l0 := own_lt hh
  have s0_w := hh
  clear h hh
  go_enter Tryz.func179, Tryz.ntmps179
  go_wp2_with fail
  refine wp_loop_rounds 1 ?_
  rw [rounds_succ]
  go_wp2_with fail
  refine (HD.out _).mono ?_
  rintro e w1 ⟨rfl, b_w1⟩
  have r1 := own_row (any_own b_w1 s0_w)
  have f1 := own_free (any_own b_w1 s0_w)
  have l1 := own_lt (any_own b_w1 s0_w)
  have HZ := Lib.hid (HE.out w1 b_w1)
  clear r0 f0 l0 s0_w
  go_wp2_with fail
  go_end0
  exact ⟨rfl, HZ.out⟩
set_option maxRecDepth 100000 in
set_option maxHeartbeats 800000 in
theorem hgcut_in (hg k : Nat) (cs : Array Value) (b cap g : Nat) (t : Ht) (c : Cw) (i n : Nat) (w : World) (hh : w.heap[hg]? = some (.cells cs 116)) (hk : cs[k]? = some (.slice (some ⟨b, 0, none⟩) 1 cap)) (h : IsCh B w (.slice (some ⟨b, 0, none⟩) 1 cap) c t.hs) (hs : c.sq = some (g, t)) (hi : i < t.hs.length) (hn : i + n ≤ t.hs.length) :
    Calls Tryz.prog 179 #[.pointer (some ⟨hg, k, none⟩), .int .i64 (i : Int), .int .i64 (n : Int)] w fun e w' => e = .returned (.tuple #[]) ∧ PDone B w hg k cs c (t.hs.take i ++ t.hs.drop (i + n)) w' := by
  obtain ⟨b', cap', cur, e, e2, e3, e4, e5, e6, e7, e8⟩ := h.one_form hs
  cases e
  obtain ⟨hq, -⟩ := h.seqAt hs
  have hm := hq.ok.most
  have hone : ChOne B w b g t := ⟨by rw [own_row e4]; exact e5, own_lt e4, hq⟩
  have hng : hg ≠ g := fun e => by
    obtain ⟨rv, e2, _⟩ := hq.obj
    subst e
    rw [hh] at e2; cases e2
  have hbg : b ≠ g := fun e => by
    obtain ⟨rv, e2, _⟩ := hq.obj
    subst e
    rw [e4] at e2; cases e2
  have HL := Lib.hid (fun (w' : World) (a : AnyLater w w') => sqlen_any (.pointer (some ⟨g, 0, none⟩)) t w' (hq.q.nil_or.later a) hq.fit)
  have HQ := Lib.hid (fun (w' : World) (a : AnyLater w w') => qdel_yes g t i n w' (hq.later a) hn)
  have HM : Hid (∀ (w1 w2 : World), AnyLater w w1 → QOwn B w1 g t (t.hs.take i ++ t.hs.drop (i + n)) w2 → w2.heap[hg]? = some (.cells cs 116) ∧ Calls Tryz.prog 224 #[.slice (some ⟨b, 0, none⟩) 1 cap, .func (.func 225) #[] #[]] w2 (Outs b cap (t.hs.take i ++ t.hs.drop (i + n)) w2)) := Lib.hid (fun w1 w2 a q => by
    obtain ⟨⟨t', k1, k2, k3⟩, st⟩ := id q
    have e9 : w2.heap[b]? = some (.cells cur 166) := st.own (any_own a e4) hbg
    refine ⟨st.own (any_own a hh) hng, ?_⟩
    rw [← k2]
    exact hgdel_any b cap g t' cur w2 ⟨by rw [own_row e9]; exact e5, own_lt e9, k1⟩ e9 e6 e8)
  have HZ : Hid (∀ (w1 w2 w3 : World) (m : Nat), AnyLater w w1 → QOwn B w1 g t (t.hs.take i ++ t.hs.drop (i + n)) w2 → ((m = 1 ∧ AnyLater w2 w3) ∨ (m = 0 ∧ t.hs.take i ++ t.hs.drop (i + n) = [] ∧ ∃ w1, AnyLater w2 w1 ∧ w3 = w1.setCell ⟨b, 0, none⟩ (.pointer none))) → PDone B w hg k cs c (t.hs.take i ++ t.hs.drop (i + n)) (w3.setCell ⟨hg, k, none⟩ (.slice (some ⟨b, 0, none⟩) m cap)) ∧ w3.heap[hg]? = some (.cells cs 116)) := Lib.hid (fun w1 w2 w3 m a q ho => by
    refine ⟨PDone.outs h hs hh a q ho, ?_⟩
    have h2 : w2.heap[hg]? = some (.cells cs 116) := q.2.own (any_own a hh) hng
    rcases ho with ⟨-, a3⟩ | ⟨-, -, w4, a4, rfl⟩
    · exact any_own a3 h2
    · exact heap_far (fun e => by rw [e, e4] at hh; cases hh) (any_own a4 h2))
  have c1 := hone.cell
  have s0_w := hh
  have r0_w := own_row hh
  have f0_w := own_free hh
  have l0_w := own_lt hh
  have HC := Lib.hid hone
  clear h hs hh hq hone e2 e3 e4 e5 e6 e7 e8 hng hbg
  generalize t.hs.take i ++ t.hs.drop (i + n) = l2 at *
  generalize t.hs.length = m at *
  have hmn : ∀ (w : World) (ts : Array TypeId) (ty : TypeId), (Builtin.min_ ts ty #[.int .i64 (n : Int), .int .i64 ((m : Int) - (i : Int))]).run Tryz.prog w = .ok (.int .i64 (n : Int)) w := fun w ts ty => by rw [hrun_min, Int.min_eq_left (by omega)]
  have hmn2 : ∀ (w : World) (ts : Array TypeId) (ty : TypeId), (Builtin.min_ ts ty #[.int .i64 (i : Int), .int .i64 (m : Int)]).run Tryz.prog w = .ok (.int .i64 (i : Int)) w := fun w ts ty => by rw [hrun_min, Int.min_eq_left (by omega)]
  go_enter Tryz.func179, Tryz.ntmps179
  go_wp2_with fail
  refine wp_loop_rounds 2 ?_
  rw [rounds_succ]
  go_wp2_with fail
  refine (HL.out _ (AnyLater.refl w)).mono ?_
  rintro e w1 ⟨rfl, b_w1⟩
  have z_w1 := b_w1.below.size
  have a_w1 := b_w1
  have s0_w1 := any_own b_w1 s0_w
  have r0_w1 := own_row s0_w1
  have f0_w1 := own_free s0_w1
  have l0_w1 := own_lt s0_w1
  (try clear r0_w); (try clear f0_w)
  go_wp2_with fail
  refine (HQ.out _ a_w1).mono ?_
  rintro e w2 ⟨rfl, q⟩
  obtain ⟨s0_w2, hd⟩ := HM.out _ _ a_w1 q
  have HD := Lib.hid hd
  have HQ2 := Lib.hid q
  have HA1 := Lib.hid a_w1
  have r0_w2 := own_row s0_w2
  have f0_w2 := own_free s0_w2
  have l0_w2 := own_lt s0_w2
  clear q hd r0_w1 f0_w1 l0_w1 s0_w1 c1
  (try clear r0_w); (try clear f0_w); (try clear l0_w); (try clear s0_w)
  go_wp2_with fail
  rw [rounds_succ]
  go_wp2_with fail
  refine HD.out.mono ?_
  rintro e w3 ⟨m2, rfl, ho⟩
  obtain ⟨hz, s0_w3⟩ := HZ.out _ _ _ _ HA1.out HQ2.out ho
  have HE := Lib.hid hz
  have r0_w3 := own_row s0_w3
  have f0_w3 := own_free s0_w3
  have l0_w3 := own_lt s0_w3
  clear hz ho r0_w2 f0_w2 l0_w2 s0_w2
  go_wp2_with fail
  go_end0
  exact ⟨rfl, HE.out⟩
set_option maxRecDepth 100000 in
set_option maxHeartbeats 800000 in
theorem hgcut_out (hg k : Nat) (cs : Array Value) (b cap g : Nat) (t : Ht) (c : Cw) (w : World) (hh : w.heap[hg]? = some (.cells cs 116)) (hk : cs[k]? = some (.slice (some ⟨b, 0, none⟩) 1 cap)) (h : IsCh B w (.slice (some ⟨b, 0, none⟩) 1 cap) c t.hs) (hs : c.sq = some (g, t)) :
    Calls Tryz.prog 179 #[.pointer (some ⟨hg, k, none⟩), .int .i64 (t.hs.length : Int), .int .i64 0] w fun e w' => e = .returned (.tuple #[]) ∧ PDone B w hg k cs c t.hs w' := by
  obtain ⟨b', cap', cur, e, e2, e3, e4, e5, e6, e7, e8⟩ := h.one_form hs
  cases e
  obtain ⟨hq, -⟩ := h.seqAt hs
  have hm := hq.ok.most
  have hone : ChOne B w b g t := ⟨by rw [own_row e4]; exact e5, own_lt e4, hq⟩
  have HL := Lib.hid (fun (w' : World) (a : AnyLater w w') => sqlen_any (.pointer (some ⟨g, 0, none⟩)) t w' (hq.q.nil_or.later a) hq.fit)
  have HD := Lib.hid (fun (w' : World) (a : AnyLater w w') => hgdel_any b cap g t cur w' (hone.later a) (any_own a e4) e6 e8)
  have HZ : Hid (∀ (w2 w3 : World) (m : Nat), AnyLater w w2 → ((m = 1 ∧ AnyLater w2 w3) ∨ (m = 0 ∧ t.hs = [] ∧ ∃ w1, AnyLater w2 w1 ∧ w3 = w1.setCell ⟨b, 0, none⟩ (.pointer none))) → PDone B w hg k cs c t.hs (w3.setCell ⟨hg, k, none⟩ (.slice (some ⟨b, 0, none⟩) m cap)) ∧ w3.heap[hg]? = some (.cells cs 116)) := Lib.hid (fun w2 w3 m a ho => by
    refine ⟨PDone.outs h hs hh a (QOwn.same (hq.later a) (AnyLater.refl w2)) ho, ?_⟩
    rcases ho with ⟨-, a3⟩ | ⟨-, -, w4, a4, rfl⟩
    · exact any_own (a.trans a3) hh
    · exact heap_far (fun e => by rw [e, e4] at hh; cases hh) (any_own (a.trans a4) hh))
  have c1 := hone.cell
  have s0_w := hh
  have r0_w := own_row hh
  have f0_w := own_free hh
  have l0_w := own_lt hh
  clear h hs hh hq hone e2 e3 e4 e5 e6 e7 e8
  generalize t.hs = l2 at *
  generalize l2.length = m at *
  have hmn2 : ∀ (w : World) (ts : Array TypeId) (ty : TypeId), (Builtin.min_ ts ty #[.int .i64 (m : Int), .int .i64 (m : Int)]).run Tryz.prog w = .ok (.int .i64 (m : Int)) w := fun w ts ty => by rw [hrun_min, Int.min_eq_left (by omega)]
  have d0 : decide (m < m) = false := decide_eq_false (by omega)
  go_enter Tryz.func179, Tryz.ntmps179
  go_wp2_with fail
  refine wp_loop_rounds 2 ?_
  rw [rounds_succ]
  go_wp2_with fail
  refine (HL.out _ (AnyLater.refl w)).mono ?_
  rintro e w1 ⟨rfl, b_w1⟩
  have z_w1 := b_w1.below.size
  have a_w1 := b_w1
  have s0_w1 := any_own b_w1 s0_w
  have r0_w1 := own_row s0_w1
  have f0_w1 := own_free s0_w1
  have l0_w1 := own_lt s0_w1
  (try clear r0_w); (try clear f0_w)
  go_wp2_with fail
  rw [rounds_succ]
  go_wp2_with fail
  refine (HD.out _ a_w1).mono ?_
  rintro e w3 ⟨m2, rfl, ho⟩
  obtain ⟨hz, s0_w3⟩ := HZ.out _ _ _ a_w1 ho
  have HE := Lib.hid hz
  have r0_w3 := own_row s0_w3
  have f0_w3 := own_free s0_w3
  have l0_w3 := own_lt s0_w3
  clear hz ho r0_w1 f0_w1 l0_w1 s0_w1
  (try clear r0_w); (try clear f0_w); (try clear l0_w); (try clear s0_w)
  go_wp2_with fail
  go_end0
  exact ⟨rfl, HE.out⟩
theorem hgcut_any (hg k : Nat) (cs : Array Value) (v : Value) (l : Qs) (c : Cw) (i n : Nat) (w : World) (hh : w.heap[hg]? = some (.cells cs 116)) (hk : cs[k]? = some v) (h : IsCh B w v c l) (hn : i + n ≤ l.length) :
    Calls Tryz.prog 179 #[.pointer (some ⟨hg, k, none⟩), .int .i64 (i : Int), .int .i64 (n : Int)] w fun e w' => e = .returned (.tuple #[]) ∧ PDone B w hg k cs c (l.take i ++ l.drop (i + n)) w' := by
  rcases h.cases with ⟨_, rfl, A, cap, rfl⟩ | ⟨b, cap, g, t, hs, rfl, k1, rfl⟩
  · rw [List.take_nil, List.drop_nil]
    exact hgcut_none hg k cs A cap c i n w hh hk h
  · by_cases hi : i < t.hs.length
    · exact hgcut_in hg k cs b cap g t c i n w hh hk h hs hi hn
    · obtain rfl : i = t.hs.length := by omega
      obtain rfl : n = 0 := by omega
      rw [Nat.add_zero, List.take_append_drop]
      exact hgcut_out hg k cs b cap g t c w hh hk h hs
end Go.Proofs.YtamhnffokoejjaaGreatDoor
namespace Go.Proofs.YtamhnffokoejjaaGreatDoor
set_option linter.unusedSimpArgs false
set_option linter.unusedVariables false
set_option linter.unusedSectionVars false
open Go.RowKit
variable {B : Nat}
theorem PDone.from {w w1 w' : World} {hg k : Nat} {cs : Array Value} {c : Cw} {l : Qs} (a : AnyLater w w1) (h : PDone B w1 hg k cs c l w') : PDone B w hg k cs c l w' := by
  obtain ⟨v', c', h1, h2, h3, h4, h5⟩ := h
  exact ⟨v', c', h1, h2, fun b hb => (h3 b hb).imp id (fun q => Nat.le_trans a.below.size q), fun b hb => (h4 b hb).imp id (fun q => Nat.le_trans a.below.size q), (Stays.of a).trans h5⟩
theorem info_sp : (Tryz.prog.info? 166).map (fun i => (i.zero, i.size, i.bytes)) = some (some (.pointer none), 1, 8) := by kernel_rfl
theorem appSp {w : World} {v : Value} {g : Nat} (ho : w.ownsRow B 166 1 v 0 []) (hB : B ≤ w.heap.size) :
    ∃ b cap w3, (Builtin.append_ #[112, 112] 112 #[v, .slice (some ⟨w.heap.size, 0, none⟩) 1 1]).run Tryz.prog (w.alloc (.cells #[ptrV g] 166)) = .ok (.slice (some ⟨b, 0, none⟩) 1 cap) w3 ∧ w3.ownsRow B 166 1 (.slice (some ⟨b, 0, none⟩) 1 cap) 1 [ptrV g] ∧ Stays (fun x => v.ownBlock = some x) w w3 ∧ (v.ownBlock = some b ∨ w.heap.size ≤ b) := by
  obtain ⟨i0, hi0, hz0, hz1, hz2⟩ := info_parts info_sp
  have a1 : AnyLater w (w.alloc (.cells #[ptrV g] 166)) := (AnyLater.refl w).alloc _
  have hz : (w.alloc (.cells #[ptrV g] 166)).heap[w.heap.size]? = some (.cells #[ptrV g] 166) := heap_new rfl
  have ho2 : (w.alloc (.cells #[ptrV g] 166)).ownsRow B 166 1 v 0 [] := owns_later a1 ho
  obtain ⟨b, cap, w', k1, k2, k3, k4, k5⟩ := run_append_lies (P := Tryz.prog) (w := w.alloc (.cells #[ptrV g] 166)) 112 112 B 166 i0 (.pointer none) 1 8 Tryz.underlying112 hi0 hz0 hz1 hz2 rfl (by decide) v 0 [] ho2 ⟨w.heap.size, 0, none⟩ 1 1 [ptrV g] rfl (fun j u hj => by
      cases j with
      | zero =>
        cases hj
        rw [addr_add]
        exact (own_row hz 0).trans rfl
      | succ j => simp at hj) (by intro u hu; simp at hu; subst hu; rfl) (by decide) (by unfold maxLen; omega) (by omega) (Nat.le_trans hB a1.below.size) _ rfl
  refine ⟨b, cap, w', k1, k2, (Stays.of a1).trans (Stays.grown k3 (fun x e => e)), ?_⟩
  rcases k4 with k4 | k4
  · exact .inl k4
  · rw [World.size_alloc] at k4; exact .inr (by omega)
theorem PDone.added {w w2 w3 : World} {hg k g b cap : Nat} {cs : Array Value} {v : Value} {c : Cw} {t : Ht} (h : IsCh B w v c []) (hB : B ≤ w.heap.size) (hs : c.sq = none) (hh : w.heap[hg]? = some (.cells cs 116)) (a : AnyLater w w2) (hq : QAt w.heap.size w2 g t) (ho : w3.ownsRow B 166 1 (.slice (some ⟨b, 0, none⟩) 1 cap) 1 [ptrV g]) (st : Stays (fun x => v.ownBlock = some x) w2 w3) (hb : v.ownBlock = some b ∨ w2.heap.size ≤ b) : PDone B w hg k cs c t.hs (w3.setCell ⟨hg, k, none⟩ (.slice (some ⟨b, 0, none⟩) 1 cap)) ∧ w3.heap[hg]? = some (.cells cs 116) := by
  have h2 := h.later a
  have hnv : v.ownBlock ≠ some hg := fun e => by
    rw [h.1] at e
    obtain ⟨_, cs', e2⟩ := h.rowAt e
    rw [hh] at e2; cases e2
  have h3 : w3.heap[hg]? = some (.cells cs 116) := st.own (any_own a hh) hnv
  have hst2 : Stays (fun x => x = hg) w3 (w3.setCell ⟨hg, k, none⟩ (.slice (some ⟨b, 0, none⟩) 1 cap)) := (Stays.refl _ _).setCell (S := fun x => x = hg) rfl _
  have q3 : QAt w.heap.size w3 g t := hq.stays st (fun x hx e => by
    rw [h.1] at e
    obtain ⟨_, cs', e2⟩ := h2.rowAt e
    rcases hx.kinds hq with ⟨_, rv, e3⟩ | ⟨_, cs, e3⟩ | ⟨_, cs, e3⟩
    · rw [e2] at e3; cases e3
    · rw [e2] at e3; cases e3
    · rw [e2] at e3; cases e3)
  have c3 : IsCh B w3 (.slice (some ⟨b, 0, none⟩) 1 cap) ⟨some b, some (g, t)⟩ t.hs := ⟨rfl, .inr ⟨g, t, rfl, rfl, q3.mono hB, ho⟩⟩
  have hbr : c.row = some b ∨ w.heap.size ≤ b := by
    rw [← h.1]
    exact hb.imp id (fun q => Nat.le_trans a.below.size q)
  refine ⟨⟨_, ⟨some b, some (g, t)⟩, heap_at h3 rfl, c3.stays hst2 (fun x hx e => heights_blk c3 h3 (e ▸ hx)), fun x hx => ?_, fun x hx => ?_, ((Stays.of a).more (T := fun x => v.ownBlock = some x) (S := fun x => x = hg ∨ InR c x) st (fun x hx => .inl (.inr (.inl (by rw [← h.1]; exact hx))))).more hst2 (fun x hx => .inl (.inl hx))⟩, h3⟩
  · unfold Cw.bl at hx ⊢
    simp only [Option.toList_some, List.mem_append, List.mem_cons, List.not_mem_nil, or_false] at hx
    rcases hx with rfl | rfl | hx
    · rcases hbr with q | q
      · exact .inl (by rw [q]; simp)
      · exact .inr q
    · exact .inr hq.base
    · exact .inr (hq.bks_ge x hx)
  · rcases hx with hx | ⟨g', t', e, rfl⟩
    · cases hx
      exact hbr.imp .inl id
    · cases e
      exact .inr hq.base
set_option maxRecDepth 100000 in
set_option maxHeartbeats 800000 in
theorem hgadd_none (hg k : Nat) (cs : Array Value) (v u : Value) (c : Cw) (m : Qs) (w : World) (hh : w.heap[hg]? = some (.cells cs 116)) (hk : cs[k]? = some v) (h : IsCh B w v c []) (hB : B ≤ w.heap.size) (hs : c.sq = none) (hu : QR w u m) (hm : m.length ≤ 45000) (hb : m.any tlBad = false) :
    Calls Tryz.prog 227 #[.pointer (some ⟨hg, k, none⟩), u, .int .i64 16777216] w fun e w' => e = .returned (.tuple #[]) ∧ PDone B w hg k cs c m w' := by
  have HN := Lib.hid (fun (w' : World) (a : AnyLater w w') => sqnew_any u m w' (hu.later a) hm hb)
  have HP : Hid (∀ (w2 : World) (g : Nat) (t : Ht), AnyLater w w2 → QAt w.heap.size w2 g t → ∃ b cap w3, (Builtin.append_ #[112, 112] 112 #[v, .slice (some ⟨w2.heap.size, 0, none⟩) 1 1]).run Tryz.prog (w2.alloc (.cells #[.pointer (some ⟨g, 0, none⟩)] 166)) = .ok (.slice (some ⟨b, 0, none⟩) 1 cap) w3 ∧ PDone B w hg k cs c t.hs (w3.setCell ⟨hg, k, none⟩ (.slice (some ⟨b, 0, none⟩) 1 cap)) ∧ w3.heap[hg]? = some (.cells cs 116)) := Lib.hid (fun w2 g t a q => by
    have ho : w2.ownsRow B 166 1 v 0 [] := by
      rcases (h.later a).2 with ⟨_, _, h3⟩ | ⟨g', t', h1, _⟩
      · exact h3
      · rw [hs] at h1; cases h1
    obtain ⟨b, cap, w3, k1, k2, k3, k4⟩ := appSp (g := g) ho (Nat.le_trans hB a.below.size)
    obtain ⟨p1, p2⟩ := PDone.added (k := k) h hB hs hh a q k2 k3 k4
    exact ⟨b, cap, w3, k1, p1, p2⟩)
  obtain ⟨-, A, n0, rfl⟩ := h.none_form hs
  obtain ⟨A2, cap2, rfl, -⟩ := hu.form
  have s0_w := hh
  have r0_w := own_row hh
  have f0_w := own_free hh
  have l0_w := own_lt hh
  clear h hs hh hu hm hb hB
  go_enter Tryz.func227, Tryz.ntmps227
  go_wp2_with fail
  refine (HN.out _ (AnyLater.refl w)).mono ?_
  rintro e w1 ⟨g, t, rfl, b_w1, hq, rfl⟩
  obtain ⟨b, cap, w3, k1, p1, s0_w3⟩ := HP.out w1 g t b_w1 hq
  have K1 := Lib.hid k1
  have HZ := Lib.hid p1
  have s0_w1 := any_own b_w1 s0_w
  have r0_w1 := own_row s0_w1
  have f0_w1 := own_free s0_w1
  have l0_w1 := own_lt s0_w1
  have r0_w3 := own_row s0_w3
  have f0_w3 := own_free s0_w3
  have l0_w3 := own_lt s0_w3
  clear k1 p1 hq r0_w f0_w l0_w
  go_wp2_with (at_builtin; refine Lib.wpList_append_run _ rfl _ _ _ _ rfl _ _ rfl rfl _ _ K1.out ?_)
  exact bodyPost_ret (v := .tuple #[]) (by simp [results, Tryz.results227, go_sem]) rfl ⟨rfl, HZ.out⟩
set_option maxRecDepth 100000 in
set_option maxHeartbeats 800000 in
theorem hgadd_one (hg k : Nat) (cs : Array Value) (b cap g : Nat) (t : Ht) (u : Value) (c : Cw) (m : Qs) (w : World) (hh : w.heap[hg]? = some (.cells cs 116)) (hk : cs[k]? = some (.slice (some ⟨b, 0, none⟩) 1 cap)) (h : IsCh B w (.slice (some ⟨b, 0, none⟩) 1 cap) c t.hs) (hs : c.sq = some (g, t)) (hu : QR w u m) (hm : t.hs.length + m.length ≤ 45000) (hb : m.any tlBad = false) :
    Calls Tryz.prog 227 #[.pointer (some ⟨hg, k, none⟩), u, .int .i64 16777216] w fun e w' => e = .returned (.tuple #[]) ∧ PDone B w hg k cs c (t.hs ++ m) w' := by
  obtain ⟨b', cap', cur, e, e2, e3, e4, e5, e6, e7, e8⟩ := h.one_form hs
  cases e
  obtain ⟨hq, -⟩ := h.seqAt hs
  have HL := Lib.hid (fun (w' : World) (a : AnyLater w w') => sqlen_any (.pointer (some ⟨g, 0, none⟩)) t w' (hq.q.nil_or.later a) hq.fit)
  have HI := Lib.hid (fun (w' : World) (a : AnyLater w w') => qins_yes g u t t.hs.length m w' (hq.later a) (Nat.le_refl _) (hu.later a) hm hb)
  have HE : Hid (∀ (w1 w2 : World), AnyLater w w1 → QOwn B w1 g t (t.hs.take t.hs.length ++ m ++ t.hs.drop t.hs.length) w2 → PDone B w hg k cs c (t.hs ++ m) w2) := Lib.hid (fun w1 w2 a q => by
    rw [List.take_length, List.drop_length, List.append_nil] at q
    exact PDone.own h hs hh hk a q (AnyLater.refl _))
  obtain ⟨A2, cap2, rfl, -⟩ := hu.form
  have s0_w := hh
  have r0_w := own_row hh
  have f0_w := own_free hh
  have l0_w := own_lt hh
  have s1_w := e4
  have r1_w := own_row e4
  have f1_w := own_free e4
  have l1_w := own_lt e4
  unfold ptrV at e5
  have d0 : ¬ (16777216 : Int) < (t.hs.length : Int) + (m.length : Int) := by omega
  clear h hs hh hu hb e2 e3 e4 e6 e7 e8 hq
  generalize t.hs.take t.hs.length ++ m ++ t.hs.drop t.hs.length = l2 at *
  generalize t.hs ++ m = l3 at *
  generalize t.hs.length = n at *
  generalize m.length = n2 at *
  go_enter Tryz.func227, Tryz.ntmps227
  go_wp2_with fail
  refine (HL.out _ (AnyLater.refl w)).mono ?_
  rintro e w1 ⟨rfl, b_w1⟩
  have z_w1 := b_w1.below.size
  have a_w1 := b_w1
  have s0_w1 := any_own b_w1 s0_w
  have s1_w1 := any_own b_w1 s1_w
  have r0_w1 := own_row s0_w1
  have f0_w1 := own_free s0_w1
  have l0_w1 := own_lt s0_w1
  have r1_w1 := own_row s1_w1
  have f1_w1 := own_free s1_w1
  have l1_w1 := own_lt s1_w1
  (try clear r0_w); (try clear f0_w)
  (try clear r1_w); (try clear f1_w)
  go_wp2_with fail
  apply wp_region_free (16) [⟨14, 61, .int .i64 (n : Int), false, fun v _ => v = .int .i64 (n : Int)⟩] [] rfl (by kernel_rfl) (by kernel_rfl) (by kernel_rfl) (by simp) (by kernel_rfl)
  case hstab =>
    intro c hc
    simp only [List.mem_cons, List.not_mem_nil, or_false] at hc
    rcases hc with rfl
    · intro v x y hxy hv; exact hv
  case hfix =>
    intro c hc
    simp only [List.mem_cons, List.not_mem_nil, or_false] at hc
    rcases hc with rfl
    · exact .inr fun u x h => h
  case hlex =>
    intro U hU
    have q0 := own_row (any_own hU s0_w1)
    have q1 := own_row (any_own hU s1_w1)
    simp only [List.map_cons, List.map_nil, CA.act, actFrom, actOp, List.lookup, Nat.reduceBEq, Nat.reduceLeDiff, Nat.reduceAdd, if_false, if_true]
    repeat (go_big_quiet_step (fail))
    exact wpQuiet_nil rfl
  case hstep =>
    intro j hj o ho
    have hj2 : j = 0 := by simp at hj; omega
    rcases hj2 with rfl
    · cases ho
      refine ⟨rfl, fun g x hx hp => ?_⟩
      clear hp
      simp only [fillAll, Act.put, List.setIfInBounds_toArray, List.set_cons_zero, List.set_cons_succ]
      refine chain_go ?_ (free_fix (HL.out x (a_w1.trans hx)))
      first | (simp [go_sem, execOp]; done) | simp [go_sem, execOp, hcf]
  case htail =>
    intro g u hst hne
    have b_w2 : AnyLater w1 (later u) := ⟨u, rfl⟩
    generalize later u = w2 at *
    clear u
    clear hst hne
    simp only [fillAll, Act.put, List.setIfInBounds_toArray, List.set_cons_zero, List.set_cons_succ, List.drop_succ_cons, List.drop_zero, List.drop_nil]
    have z_w2 := b_w2.below.size
    have a_w2 := a_w1.trans b_w2
    have s0_w2 := any_own b_w2 s0_w1
    have s1_w2 := any_own b_w2 s1_w1
    have r0_w2 := own_row s0_w2
    have f0_w2 := own_free s0_w2
    have l0_w2 := own_lt s0_w2
    have r1_w2 := own_row s1_w2
    have f1_w2 := own_free s1_w2
    have l1_w2 := own_lt s1_w2
    (try clear r0_w1); (try clear f0_w1)
    (try clear r1_w1); (try clear f1_w1)
    go_wp2_with fail
    refine (HI.out _ a_w2).mono ?_
    rintro e w3 ⟨rfl, q⟩
    have HZ := Lib.hid (HE.out _ _ a_w2 q)
    clear q
    go_wp2_with fail
    go_end0
    exact ⟨rfl, HZ.out⟩
set_option maxRecDepth 100000 in
set_option maxHeartbeats 800000 in
theorem hgput_end (hg k : Nat) (cs : Array Value) (v u : Value) (l l2 : Qs) (c : Cw) (w : World) (hh : w.heap[hg]? = some (.cells cs 116)) (hk : cs[k]? = some v) (h : IsCh B w v c l) (hu : ∃ A n cap, u = .slice A n cap)
    (HA : ∀ w', AnyLater w w' → Calls Tryz.prog 227 #[.pointer (some ⟨hg, k, none⟩), u, .int .i64 16777216] w' fun e w'' => e = .returned (.tuple #[]) ∧ PDone B w' hg k cs c l2 w'') :
    Calls Tryz.prog 181 #[.pointer (some ⟨hg, k, none⟩), .int .i64 (l.length : Int), u, .int .i64 16777216] w fun e w' => e = .returned (.tuple #[]) ∧ PDone B w hg k cs c l2 w' := by
  have HL := Lib.hid (fun (w' : World) (a : AnyLater w w') => hgsize_any v c l w' (h.later a))
  have HA := Lib.hid HA
  obtain ⟨A, n0, cap0, rfl⟩ := h.slc
  obtain ⟨A2, n2, cap2, rfl⟩ := hu
  have s0_w := hh
  have r0_w := own_row hh
  have f0_w := own_free hh
  have l0_w := own_lt hh
  clear h hh
  generalize l.length = n at *
  go_enter Tryz.func181, Tryz.ntmps181
  go_wp2_with fail
  refine (HL.out _ (AnyLater.refl w)).mono ?_
  rintro e w1 ⟨rfl, b_w1⟩
  have z_w1 := b_w1.below.size
  have a_w1 := b_w1
  have s0_w1 := any_own b_w1 s0_w
  have r0_w1 := own_row s0_w1
  have f0_w1 := own_free s0_w1
  have l0_w1 := own_lt s0_w1
  (try clear r0_w); (try clear f0_w)
  go_wp2_with fail
  refine (HA.out _ a_w1).mono ?_
  rintro e w2 ⟨rfl, q⟩
  have HZ := Lib.hid (PDone.from a_w1 q)
  clear q
  go_wp2_with fail
  exact bodyPost_ret (v := .tuple #[]) (by simp [results, Tryz.results181, go_sem]) rfl ⟨rfl, HZ.out⟩
set_option maxRecDepth 100000 in
set_option maxHeartbeats 800000 in
theorem hgput_in (hg k : Nat) (cs : Array Value) (b cap g i : Nat) (t : Ht) (u : Value) (c : Cw) (m : Qs) (w : World) (hh : w.heap[hg]? = some (.cells cs 116)) (hk : cs[k]? = some (.slice (some ⟨b, 0, none⟩) 1 cap)) (h : IsCh B w (.slice (some ⟨b, 0, none⟩) 1 cap) c t.hs) (hs : c.sq = some (g, t)) (hi : i < t.hs.length) (hu : QR w u m) (hm : t.hs.length + m.length ≤ 45000) (hb : m.any tlBad = false) :
    Calls Tryz.prog 181 #[.pointer (some ⟨hg, k, none⟩), .int .i64 (i : Int), u, .int .i64 16777216] w fun e w' => e = .returned (.tuple #[]) ∧ PDone B w hg k cs c (t.hs.take i ++ m ++ t.hs.drop i) w' := by
  obtain ⟨hq, -⟩ := h.seqAt hs
  have HS := Lib.hid (fun (w' : World) (a : AnyLater w w') => hgsize_any _ c t.hs w' (h.later a))
  have HW := Lib.hid (fun (w' : World) (a : AnyLater w w') => hgwithin_any _ c t.hs (i : Int) w' (h.later a))
  have hwi : wiV c (i : Int) = .tuple #[.pointer (some ⟨g, 0, none⟩), .int .i64 (i : Int)] := by
    unfold wiV
    rw [hs]
    simp only [show (i : Int) < (t.hs.length : Int) by omega, if_true]
  rw [hwi] at HW
  have HL := Lib.hid (fun (w' : World) (a : AnyLater w w') => sqlen_any (.pointer (some ⟨g, 0, none⟩)) t w' (hq.q.nil_or.later a) hq.fit)
  have HI := Lib.hid (fun (w' : World) (a : AnyLater w w') => qins_yes g u t i m w' (hq.later a) (by omega) (hu.later a) hm hb)
  have HE : Hid (∀ (w1 w2 : World), AnyLater w w1 → QOwn B w1 g t (t.hs.take i ++ m ++ t.hs.drop i) w2 → PDone B w hg k cs c (t.hs.take i ++ m ++ t.hs.drop i) w2) := Lib.hid (fun w1 w2 a q => PDone.own h hs hh hk a q (AnyLater.refl _))
  obtain ⟨A2, cap2, rfl, -⟩ := hu.form
  have s0_w := hh
  have r0_w := own_row hh
  have f0_w := own_free hh
  have l0_w := own_lt hh
  have d0 : ¬ (16777216 : Int) < (t.hs.length : Int) + (m.length : Int) := by omega
  have d1 : ((i : Int) == (t.hs.length : Int)) = false := by simp; omega
  clear h hs hh hu hb hq hwi
  generalize t.hs.take i ++ m ++ t.hs.drop i = l2 at *
  generalize t.hs.length = n at *
  generalize m.length = n2 at *
  go_enter Tryz.func181, Tryz.ntmps181
  go_wp2_with fail
  refine (HS.out _ (AnyLater.refl w)).mono ?_
  rintro e w1 ⟨rfl, b_w1⟩
  have z_w1 := b_w1.below.size
  have a_w1 := b_w1
  have s0_w1 := any_own b_w1 s0_w
  have r0_w1 := own_row s0_w1
  have f0_w1 := own_free s0_w1
  have l0_w1 := own_lt s0_w1
  (try clear r0_w); (try clear f0_w)
  go_wp2_with fail
  refine (HW.out _ a_w1).mono ?_
  rintro e w2 ⟨rfl, b_w2⟩
  have z_w2 := b_w2.below.size
  have a_w2 := a_w1.trans b_w2
  have s0_w2 := any_own b_w2 s0_w1
  have r0_w2 := own_row s0_w2
  have f0_w2 := own_free s0_w2
  have l0_w2 := own_lt s0_w2
  (try clear r0_w1); (try clear f0_w1)
  go_wp2_with fail
  refine (HL.out _ a_w2).mono ?_
  rintro e w3 ⟨rfl, b_w3⟩
  have z_w3 := b_w3.below.size
  have a_w3 := a_w2.trans b_w3
  have s0_w3 := any_own b_w3 s0_w2
  have r0_w3 := own_row s0_w3
  have f0_w3 := own_free s0_w3
  have l0_w3 := own_lt s0_w3
  (try clear r0_w2); (try clear f0_w2)
  go_wp2_with fail
  refine (HI.out _ a_w3).mono ?_
  rintro e w4 ⟨rfl, q⟩
  have HZ := Lib.hid (HE.out _ _ a_w3 q)
  clear q
  go_wp2_with fail
  go_end0
  exact ⟨rfl, HZ.out⟩
theorem hgput_any (hg k : Nat) (cs : Array Value) (v u : Value) (l m : Qs) (c : Cw) (i : Nat) (w : World) (hh : w.heap[hg]? = some (.cells cs 116)) (hk : cs[k]? = some v) (h : IsCh B w v c l) (hB : B ≤ w.heap.size) (hi : i ≤ l.length) (hu : QR w u m) (hm : l.length + m.length ≤ 45000) (hb : m.any tlBad = false) :
    Calls Tryz.prog 181 #[.pointer (some ⟨hg, k, none⟩), .int .i64 (i : Int), u, .int .i64 16777216] w fun e w' => e = .returned (.tuple #[]) ∧ PDone B w hg k cs c (l.take i ++ m ++ l.drop i) w' := by
  have hu2 : ∃ A n cap, u = .slice A n cap := by
    obtain ⟨A, cap, e, _⟩ := hu.form
    exact ⟨_, _, _, e⟩
  rcases h.cases with ⟨hs, rfl, A, cap, rfl⟩ | ⟨b, cap, g, t, hs, rfl, k1, rfl⟩
  · obtain rfl : i = 0 := by simpa using hi
    simp only [List.take_nil, List.drop_nil, List.append_nil, List.nil_append]
    exact hgput_end hg k cs _ u [] m c w hh hk h hu2 (fun w' a => hgadd_none hg k cs _ u c m w' (any_own a hh) hk (h.later a) (Nat.le_trans hB a.below.size) hs (hu.later a) (by simpa using hm) hb)
  · by_cases hi2 : i < t.hs.length
    · exact hgput_in hg k cs b cap g i t u c m w hh hk h hs hi2 hu hm hb
    · obtain rfl : i = t.hs.length := by omega
      rw [List.take_length, List.drop_length, List.append_nil]
      exact hgput_end hg k cs _ u t.hs (t.hs ++ m) c w hh hk h hu2 (fun w' a => hgadd_one hg k cs b cap g t u c m w' (any_own a hh) hk (h.later a) hs (hu.later a) hm hb)
end Go.Proofs.YtamhnffokoejjaaGreatDoor
namespace Go.Proofs.YtamhnffokoejjaaGreatDoor
set_option linter.unusedSimpArgs false
set_option linter.unusedVariables false
set_option linter.unusedSectionVars false
open Go.RowKit
variable {B : Nat}
set_option maxRecDepth 100000 in
theorem mul64_one (n : Nat) (hn : n < 4294967296) (w : World) : Calls Tryz.prog 230 #[.int .u64 1, .int .u64 (n : Int)] w fun e w' => e = .returned (.tuple #[.int .u64 0, .int .u64 (n : Int)]) ∧ AnyLater w w' := by
  have h1 : bits .and .u64 (n : Int) 4294967295 = (n : Int) := by
    have := bits_mask .u64 63 (by decide) (fun x h0 h1 => by rw [IntKind.wrap_u64]; omega) 32 (by decide) (n : Int) (by omega) (by omega)
    have e : (2 : Int) ^ 32 - 1 = 4294967295 := by decide
    have e2 : (2 : Int) ^ 32 = 4294967296 := by decide
    rw [e, e2] at this
    rw [this]; omega
  have h2 : bits .and .u64 1 4294967295 = 1 := by decide
  have h3 : bits .and .u64 0 4294967295 = 0 := by decide
  have h4 : (n : Int) / 4294967296 = 0 := by omega
  go_enter Tryz.func230, Tryz.ntmps230
  go_wp2_with fail
  refine bodyPost_ret (v := .tuple #[.int .u64 0, .int .u64 (n : Int)]) (by simp [results, Tryz.results230, go_sem, *]) rfl ⟨rfl, ?_⟩
  repeat' (first | with_reducible assumption | with_reducible exact AnyLater.refl _ | with_reducible apply AnyLater.setCell | with_reducible apply AnyLater.later | with_reducible apply AnyLater.drewN | with_reducible apply AnyLater.drew | with_reducible apply AnyLater.alloc | ((try simp only [World.size_alloc, World.size_setCell, World.size_drew]); (try dsimp only); omega))
set_option maxRecDepth 100000 in
theorem mul_one_any (n : Nat) (hn : n < 4294967296) (w : World) : Calls Tryz.prog 182 #[.int .u64 1, .int .u64 (n : Int)] w fun e w' => e = .returned (.tuple #[.int .u64 0, .int .u64 (n : Int)]) ∧ AnyLater w w' := by
  have HM := Lib.hid (fun (w' : World) => mul64_one n hn w')
  go_enter Tryz.func182, Tryz.ntmps182
  go_wp2_with fail
  refine (HM.out _).mono ?_
  rintro e w1 ⟨rfl, b_w1⟩
  have z_w1 := b_w1.below.size
  have a_w1 := b_w1
  go_wp2_with fail
  refine bodyPost_ret (v := .tuple #[.int .u64 0, .int .u64 (n : Int)]) (by simp [results, Tryz.results182, go_sem, *]) rfl ⟨rfl, ?_⟩
  exact a_w1
theorem run_copy_row2 (w : World) (dT sT ty elem : TypeId) (g o dLen dCap : Nat) (a : Addr) (sLen sCap n : Nat) (cur : Array Value) (t : TypeId) (cs : List Value)
    (hu : Tryz.prog.underlying dT = some (.slice elem)) (hs : (Tryz.prog.info? elem).map (·.size) = some 2)
    (hg : w.heap[g]? = some (.cells cur t)) (hn : Nat.min sLen dLen = n) (hc : cs.length = n * 2)
    (hsrc : ∀ j v, cs[j]? = some v → w.cell? (a.add j) = some v) (hfit : o + cs.length ≤ cur.size) (h1 : ∀ v ∈ cs, v.oneCell' = true) :
    (Builtin.copy_ #[dT, sT] ty #[.slice (some ⟨g, o, none⟩) dLen dCap, .slice (some a) sLen sCap]).run Tryz.prog w =
      .ok (.int .i64 (n : Int)) (w.setRow g (cur.toList.take o ++ cs ++ cur.toList.drop (o + cs.length)).toArray) := by
  have hl := run_loadCells_list (P := Tryz.prog) w a cs hsrc
  have hst := run_storeCells_at Tryz.prog g o t cs 0 cur w hg (by simpa using hfit) h1
  rw [hc] at hl
  cases hq : Tryz.prog.info? elem with
  | none => simp [hq] at hs
  | some i =>
    have hi : i.size = 2 := by simpa [hq] using hs
    simp [Builtin.copy_, run_underlying hu, Builtin.lenOf, Builtin.firstCells, sizeOf, typeInfo, hq, hi, hn, hl, hst, goInt]
theorem info_tall : (Tryz.prog.info? 61).map (fun i => (i.zero, i.size, i.bytes)) = some (some (.agg #[.int .i64 0, .int .i64 0]), 2, 16) := by kernel_rfl
theorem size_tall : (Tryz.prog.info? 61).map (·.size) = some 2 := by kernel_rfl
def RepAt (G n k : Nat) (x : Int × Int) (w : World) : Prop := ∃ cur, w.heap[G]? = some (.cells cur 61) ∧ cur.size = n * 2 ∧ k ≤ n ∧ cur.toList.take (k * 2) = flatQ (List.replicate k x)
theorem flatQ_rep (x : Int × Int) (m k : Nat) (h : m ≤ k) : (flatQ (List.replicate k x)).take (m * 2) = flatQ (List.replicate m x) := by
  obtain ⟨d, rfl⟩ := Nat.exists_eq_add_of_le h
  rw [← List.replicate_append_replicate, flatQ_append, List.take_append_of_le_length (by rw [flatQ_length, List.length_replicate]; omega), List.take_of_length_le (by rw [flatQ_length, List.length_replicate]; omega)]
theorem rep_put {w : World} {G n k m : Nat} {x : Int × Int} {a : Addr} {sLen sCap : Nat} (h : RepAt G n k x w) (hm : Nat.min sLen (n - k) = m) (hsrc : ∀ j u, (flatQ (List.replicate m x))[j]? = some u → w.cell? (a.add j) = some u) (dCap : Nat) :
    ∃ w2, (∀ ty, (Builtin.copy_ #[84, 84] ty #[.slice (some ⟨G, k * 2, none⟩) (n - k) dCap, .slice (some a) sLen sCap]).run Tryz.prog w = .ok (.int .i64 (m : Int)) w2) ∧ RepAt G n (k + m) x w2 ∧ Stays (fun b => b = G) w w2 := by
  obtain ⟨cur, hg, hs, hk, ht⟩ := h
  have hmn : m ≤ n - k := by rw [← hm]; exact Nat.min_le_right _ _
  have hl : (flatQ (List.replicate m x)).length = m * 2 := by rw [flatQ_length, List.length_replicate]
  have hcl : cur.toList.length = n * 2 := by simpa using hs
  refine ⟨_, fun ty => run_copy_row2 w 84 84 ty 61 G (k * 2) (n - k) dCap a sLen sCap m cur 61 (flatQ (List.replicate m x)) Tryz.underlying84 size_tall hg hm hl hsrc (by rw [hl]; omega) (flatQ_one _), ⟨_, setRow_heap w G cur _ 61 (0, 0) hg, ?_, by omega, ?_⟩, ?_⟩
  · simp only [List.size_toArray, List.length_append, List.length_take, List.length_drop, hl, hcl]; omega
  · simp only []
    rw [ht, ← List.replicate_append_replicate, flatQ_append, List.take_append_of_le_length (by rw [List.length_append, flatQ_length, flatQ_length, List.length_replicate, List.length_replicate]; omega), List.take_of_length_le (by rw [List.length_append, flatQ_length, flatQ_length, List.length_replicate, List.length_replicate]; omega)]
  · refine ⟨rfl, rfl, rfl, by simp [World.setRow], fun q hq hne => ?_⟩
    unfold World.setRow
    simp only [Array.getElem?_modify]
    rw [if_neg (fun e => hne e.symm)]
theorem RepAt.done {w : World} {G n C : Nat} {x : Int × Int} (h : RepAt G n n x w) (hC : C ≤ G) (hn : n ≤ 90000) : OQ 61 w C (.slice (some ⟨G, 0, none⟩) n n) (List.replicate n x) := by
  obtain ⟨cur, hg, hs, _, ht⟩ := h
  show w.ownsRow C 61 2 _ (List.replicate n x).length _
  rw [List.length_replicate]
  exact ⟨by rw [flatQ_length, List.length_replicate], .inr ⟨G, n, cur, rfl, hC, hg, Nat.le_refl _, by unfold maxLen; omega, hs, ht⟩⟩
theorem RepAt.src {w : World} {G n k m : Nat} {x : Int × Int} (h : RepAt G n k x w) (hm : m ≤ k) : ∀ j u, (flatQ (List.replicate m x))[j]? = some u → w.cell? ((⟨G, 0, none⟩ : Addr).add j) = some u := by
  obtain ⟨cur, hg, hs, hk, ht⟩ := h
  intro j u hu
  rw [qaddr_add, Nat.zero_add, own_row hg]
  have hj : j < m * 2 := by
    rcases Nat.lt_or_ge j (m * 2) with q | q
    · exact q
    · rw [List.getElem?_eq_none (by rw [flatQ_length, List.length_replicate]; exact q)] at hu; cases hu
  rw [← flatQ_rep x m k hm, ← ht, List.take_take, List.getElem?_take_of_lt (by omega), Array.getElem?_toList] at hu
  exact hu
theorem RepAt.drew {w : World} {G n k : Nat} {x : Int × Int} (h : RepAt G n k x w) : RepAt G n k x w.drew := h
theorem rep_made (n : Nat) (hn : n ≤ 90000) (x : Int × Int) (w : World) : (Instr.makeSlice 84 (.int .i64 (n : Int)) (.int .i64 (n : Int))).run Tryz.prog w = .ok (.slice (some ⟨w.heap.size, 0, none⟩) n n) (w.alloc (.cells (madeCells #[.int .i64 0, .int .i64 0] (n * 2)) 61)) ∧ RepAt w.heap.size n 0 x (w.alloc (.cells (madeCells #[.int .i64 0, .int .i64 0] (n * 2)) 61)) := by
  obtain ⟨i0, hi0, hz0, hz1, hz2⟩ := info_parts info_tall
  have h := run_make (P := Tryz.prog) w 84 61 i0 (.agg #[.int .i64 0, .int .i64 0]) Tryz.underlying84 hi0 hz0 .i64 .i64 (n : Int) (n : Int) (by omega) (Int.le_refl _) (by rw [hz2]; omega) (by omega)
  rw [hz1] at h
  simp only [Int.toNat_natCast] at h
  exact ⟨h, _, heap_new rfl, by rw [size_madeCells], Nat.zero_le _, by simp [flatQ]⟩
set_option maxRecDepth 100000 in
theorem tall_upto (A : Option Addr) (n cap i : Nat) (h2 : i ≤ cap) (w : World) : (Instr.sliceAt 84 (.slice A n cap) none (some (.int .i64 (i : Int))) none).run Tryz.prog w = .ok (.slice A i cap) w := by
  have eA : (if cap = 0 then A else A.map (fun x => x.add 0)) = A := by
    split
    · rfl
    · cases A with
      | none => rfl
      | some a => simp [Addr.add]
  rw [run_sliceAt_slice w _ _ _ _ _ pairTall.und', run_slice_h w _ A n cap pairTall.und' .i64 (i : Int) (by omega) (by omega)]
  rw [pairTall.size]
  simp only [Result.andThen, sliced, Int.toNat_natCast, Nat.sub_zero, Nat.zero_mul]
  rw [eA]
set_option maxRecDepth 100000 in
theorem tall_from (g o n cap i : Nat) (h1 : i ≤ n) (h2 : n ≤ cap) (w : World) : (Instr.sliceAt 84 (.slice (some ⟨g, o, none⟩) n cap) (some (.int .i64 (i : Int))) none none).run Tryz.prog w = .ok (.slice (some ⟨g, if cap = i then o else o + i * 2, none⟩) (n - i) (cap - i)) w := by
  rw [run_sliceAt_slice w _ _ _ _ _ pairTall.und', run_slice_l w _ (some ⟨g, o, none⟩) n cap pairTall.und' .i64 (i : Int) (by omega) (by omega)]
  rw [pairTall.size]
  simp only [Result.andThen, sliced, Int.toNat_natCast]
  split
  · rfl
  · rw [Option.map_some, addr_add]
set_option maxRecDepth 100000 in
set_option maxHeartbeats 1600000 in
theorem hgrep_any (A0 : Option Addr) (cap0 : Nat) (x : Int × Int) (n : Nat) (w : World) (hu : QR w (.slice A0 1 cap0) [x]) (hn : n ≤ 45000) : Calls Tryz.prog 134 #[.slice A0 1 cap0, .int .i64 (n : Int)] w fun e w' => ∃ z, e = .returned z ∧ AnyLater w w' ∧ OQ 61 w' w.heap.size z (List.replicate n x) := by
  obtain ⟨A1, c1, e, _, hc⟩ := id hu
  cases e
  obtain ⟨b, off, rfl, hb, hcell⟩ := hc (by simp)
  have HM := Lib.hid (fun (w' : World) => mul_one_any n (by omega) w')
  have HMk := Lib.hid (fun (w' : World) (a : AnyLater w w') => rep_made n (by omega) x w')
  have HC1 : Hid (∀ (w1 : World) (G : Nat), AnyLater w w1 → RepAt G n 0 x w1 → ∃ w2, (∀ ty, (Builtin.copy_ #[84, 84] ty #[.slice (some ⟨G, 0, none⟩) n n, .slice (some ⟨b, off, none⟩) 1 cap0]).run Tryz.prog w1 = .ok (.int .i64 ((Nat.min 1 n : Nat) : Int)) w2) ∧ RepAt G n (Nat.min 1 n) x w2 ∧ Stays (fun b => b = G) w1 w2) := Lib.hid (fun w1 G a h => by
    have hq := QR.cells (l := [x]) (fun j hj => by
      obtain ⟨A9, c9, e9, _, hc9⟩ := hu.later a
      cases e9
      obtain ⟨b', off', e', _, hc'⟩ := hc9 (by simp)
      cases e'
      exact hc' j hj)
    have := rep_put (m := Nat.min 1 n) (sLen := 1) (sCap := cap0) (a := ⟨b, off, none⟩) h (by rw [Nat.sub_zero]) (fun j u hj => hq j u (by
      have e1 : Nat.min 1 n ≤ 1 := Nat.min_le_left _ _
      have e2 : flatQ (List.replicate 1 x) = flatQ [x] := rfl
      rw [← e2]
      rw [← flatQ_rep x _ 1 e1] at hj
      rw [List.getElem?_take] at hj
      split at hj
      · exact hj
      · cases hj)) n
    simpa using this)
  have HC2 : Hid (∀ (w1 : World) (G k m : Nat), RepAt G n k x w1 → k < n → Nat.min k (n - k) = m → ∃ w2, (∀ ty, (Builtin.copy_ #[84, 84] ty #[.slice (some ⟨G, k * 2, none⟩) (n - k) (n - k), .slice (some ⟨G, 0, none⟩) k n]).run Tryz.prog w1 = .ok (.int .i64 (m : Int)) w2) ∧ RepAt G n (k + m) x w2 ∧ Stays (fun b => b = G) w1 w2) := Lib.hid (fun w1 G k m h hk hm => rep_put h hm (h.src (by rw [← hm]; exact Nat.min_le_left _ _)) (n - k))
  clear hu hc hcell
  go_enter Tryz.func134, Tryz.ntmps134
  go_wp2_with fail
  refine (HM.out _).mono ?_
  rintro e w1 ⟨rfl, b_w1⟩
  have z_w1 := b_w1.below.size
  have a_w1 := b_w1
  obtain ⟨k1, k2⟩ := HMk.out w1 a_w1
  obtain ⟨w2, hw2⟩ : ∃ w2, w1.alloc (.cells (madeCells #[.int .i64 0, .int .i64 0] (n * 2)) 61) = w2 := ⟨_, rfl⟩
  rw [hw2] at k1 k2
  obtain ⟨G, hG⟩ : ∃ G, w1.heap.size = G := ⟨_, rfl⟩
  have hGw : w.heap.size ≤ G := by rw [← hG]; exact a_w1.below.size
  rw [hG] at k1 k2
  have a_w2 : AnyLater w w2 := by rw [← hw2]; exact a_w1.alloc _
  obtain ⟨w3, k3, k4, k5⟩ := HC1.out w2 G a_w2 k2
  have a_w3 : AnyLater w w3 := k5.any a_w2 (fun q hq => by rw [hq]; exact hGw)
  obtain ⟨m0, hm0⟩ : ∃ m0, Nat.min 1 n = m0 := ⟨_, rfl⟩
  have hm1 : m0 ≤ n ∧ (0 < n → 0 < m0) := by
    rw [← hm0]
    exact ⟨Nat.min_le_right _ _, fun h => Nat.lt_of_lt_of_le (Nat.lt_min.2 ⟨Nat.zero_lt_one, h⟩) (Nat.le_refl _)⟩
  rw [hm0] at k3 k4
  clear hm0 k2 k5 hw2
  have hmk : ∀ ty, (Builtin.copy_ #[84, 84] ty #[.slice (some ⟨G, 0, none⟩) n n, .slice (some ⟨b, off, none⟩) 1 cap0]).run Tryz.prog w2 = .ok (.int .i64 (m0 : Int)) w3 := k3
  clear k3
  have H4 := Lib.hid k4
  clear k4
  go_wp2_with fail
  go_loopg [8] (n - m0) (fun kk i wr => ∃ k : Nat, kk = n - k ∧ k ≤ n ∧ i = .int .i64 k ∧ (0 < n → 0 < k) ∧ AnyLater w wr ∧ RepAt G n k x wr)
  case atStart => exact ⟨m0, rfl, hm1.1, rfl, hm1.2, a_w3, H4.out⟩
  case round =>
    obtain ⟨k, hkk, hk, rfl, hpos, a_wr, hrep⟩ := hrel
    have HREP := Lib.hid hrep
    clear hrep
    by_cases hlt : k < n
    · obtain ⟨m, hm⟩ : ∃ m, Nat.min k (n - k) = m := ⟨_, rfl⟩
      have hmb : 0 < m ∧ m ≤ n - k := by
        rw [← hm]
        exact ⟨Nat.lt_min.2 ⟨hpos (by omega), by omega⟩, Nat.min_le_right _ _⟩
      obtain ⟨w4, k1, k2, k3⟩ := HC2.out wr.drew G k m HREP.out.drew hlt hm
      have a_w4 : AnyLater w w4 := k3.any a_wr.drew (fun q hq => by rw [hq]; exact hGw)
      have HZ := Lib.hid (And.intro a_w4 k2)
      have HK := Lib.hid k1
      have s1 := tall_from G 0 n n k (by omega) (Nat.le_refl _)
      rw [if_neg (by omega), Nat.zero_add] at s1
      have s2 := tall_upto (some ⟨G, 0, none⟩) n n k (by omega)
      clear k1 k2 k3 a_w4 hm hpos
      go_wp2_with fail
      apply wp_region_acts 10 [(7, .int .i64 (m : Int))] (fun _ => True) (stL [fun w' => w' = wr.drew, fun w' => w' = w4]) (by kernel_rfl) (by kernel_rfl) (by kernel_rfl) trivial rfl
      case hlex =>
        intro U hU
        simp only [actFrom, actOp, List.lookup, Nat.reduceBEq, Nat.reduceLeDiff, Nat.reduceAdd, if_false, if_true]
        repeat (go_big_quiet_step (fail))
        exact wpQuiet_nil rfl
      case hact =>
        intro jj hjj o ho
        obtain rfl : jj = 0 := by simp at hjj; omega
        cases ho
        refine ⟨rfl, fun w' hC hS => ?_⟩
        obtain rfl : w' = wr.drew := hS
        refine act_value (w' := w4) ?_ ⟨trivial, rfl⟩
        have k1 := HK.out
        simp [go_sem, execOp, k1]
      case htail =>
        intro w' hC hS
        obtain rfl : w' = w4 := hS
        simp only [List.drop_succ_cons, List.drop_zero, List.drop_nil]
        go_wp2_with fail
        go_roundg (n - (k + m))
        case measure => omega
        case rel => exact ⟨k + m, rfl, by omega, by go_num, fun _ => by omega, HZ.out.1, HZ.out.2⟩
    · obtain rfl : k = n := by omega
      have HZ := Lib.hid (HREP.out.done (C := w.heap.size) hGw (by omega))
      go_wp2_with fail
      go_ret
      exact ⟨_, rfl, a_wr, HZ.out⟩
end Go.Proofs.YtamhnffokoejjaaGreatDoor
