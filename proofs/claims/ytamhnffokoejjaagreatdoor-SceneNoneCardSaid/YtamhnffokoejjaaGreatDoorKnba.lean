/- what the proof stands on: SeqN SeqO SeqP HgtA HgtB HgtC -/
import Derived.LoopN
import Derived.Deep.LoopGhost
import Derived.BigRegion
import Derived.RegionTactic
import Derived.Shelf.Abstract
import Derived.ChangeKeysEq
import Derived.Deep.DeepCutAuto
import Derived.Deep.CutBlock
import Derived.Test.YtamhnffokoejjaaGreatDoorKnav
import Derived.Test.YtamhnffokoejjaaGreatDoorKnad
import Derived.Test.YtamhnffokoejjaaGreatDoorKnag
import Derived.Test.YtamhnffokoejjaaGreatDoorKnac
namespace Go.Proofs.YtamhnffokoejjaaGreatDoor
set_option linter.unusedSimpArgs false
set_option linter.unusedVariables false
set_option linter.unusedSectionVars false
open Go.RowKit
structure InvF (W : World) (m R H : Int) (L : Nat → Bool) (g : Nat → Value) (x : World) : Prop where
  any : AnyLater W x
  e13 : L 13 = true → ∃ b, g 13 = .pointer (some ⟨b, 0, none⟩) ∧ W.heap.size ≤ b ∧ ∃ u v, x.heap[b]? = some (.cells #[u, v] 61)
  e14 : L 14 = true → ∃ b, g 14 = .pointer (some ⟨b, 0, none⟩) ∧ W.heap.size ≤ b ∧ ∃ a1 a2 a3, x.heap[b]? = some (.cells #[a1, a2, a3] 206) ∧ (L 16 = true → a1 = .int .i64 m ∧ a2 = .int .i64 R ∧ a3 = .int .i64 H)
  o16 : L 16 = true → L 14 = true
section
variable {W x y : World} {m R H : Int} {L L' : Nat → Bool} {g : Nat → Value}
theorem InvF.skip {k : Nat} (h : InvF W m R H L g x) (h1 : 13 ≠ k) (h2 : 14 ≠ k) (h3 : 16 ≠ k) (u : Value) : InvF W m R H (fun i => if i = k then true else L i) (fun i => if i = k then u else g i) x :=
  ⟨h.any, by simp only [if_neg h1]; exact h.e13, by simp only [if_neg h2, if_neg h3]; exact h.e14, by simp only [if_neg h2, if_neg h3]; exact h.o16⟩
end
end Go.Proofs.YtamhnffokoejjaaGreatDoor
namespace Go.Proofs.YtamhnffokoejjaaGreatDoor
set_option linter.unusedSimpArgs false
set_option linter.unusedVariables false
set_option linter.unusedSectionVars false
open Go.RowKit
variable {B : Nat}
structure QAt (B : Nat) (w : World) (g : Nat) (t : Ht) : Prop where
  obj : ∃ rv, w.heap[g]? = some (.cells #[rv] 211) ∧ isH B t rv w
  ok : t.Ok
  base : B ≤ g
theorem QAt.q {w : World} {g : Nat} {t : Ht} (h : QAt B w g t) : IsQ w g t := by
  obtain ⟨rv, hg, _, F, hF, _⟩ := h.obj
  exact ⟨rv, F, hg, hF⟩
theorem QAt.later {w w' : World} {g : Nat} {t : Ht} (h : QAt B w g t) (a : AnyLater w w') : QAt B w' g t := by
  obtain ⟨rv, hg, ht⟩ := h.obj
  exact ⟨⟨rv, any_own a hg, isH_stays a ht⟩, h.ok, h.base⟩
theorem QAt.fit {w : World} {g : Nat} {t : Ht} (h : QAt B w g t) : t.Fit := h.ok.fit
def Chg (B : Nat) (w : World) (g : Nat) (t : Ht) (b : Nat) : Prop := b = g ∨ (B ≤ b ∧ ((∃ cs, w.heap[b]? = some (.cells cs 249)) ∨ b ∈ t.bks))
def QDone (B : Nat) (w : World) (g : Nat) (t : Ht) (l : Qs) (w' : World) : Prop := (∃ t', QAt B w' g t' ∧ t'.hs = l ∧ ∀ b ∈ t'.bks, b ∈ t.bks ∨ w.heap.size ≤ b) ∧ Stays (Chg B w g t) w w'
theorem QDone.any {W w w' : World} {g : Nat} {t : Ht} {l : Qs} (h : QDone B w g t l w') (hW : AnyLater W w) (hB : W.heap.size ≤ B) (hg : B ≤ g) : AnyLater W w' := h.2.any hW (fun k hk => by
  rcases hk with rfl | ⟨hk, _⟩
  · omega
  · omega)
theorem tlBad_not {x : Int × Int} (h : tlBad x = false) : TlOk x := by
  unfold tlBad at h
  have := of_decide_eq_false h
  unfold TlOk
  omega
theorem QDone.spliced {w w1 w' : World} {g : Nat} {t T : Ht} {l : Qs} {u : Value} (h : QAt B w g t) (a : AnyLater w w1) (hT : isH B T u w1) (e : T.hs = l) (fn : T.Fine) (nd : T.bks.Nodup) (bk : ∀ b ∈ T.bks, b ∈ t.bks ∨ w.heap.size ≤ b) (tl : Tls l) (lm : l.length ≤ 45000) (hs : w' = w1.setCell ⟨g, 0, none⟩ u) : QDone B w g t l w' := by
  obtain ⟨rv, hg, hB, F, hF, hFb⟩ := h.obj
  have hg1 := any_own a hg
  subst hs
  obtain ⟨hB1, G, hG, hGb⟩ := hT
  have hne : g ∉ G := fun hgF => by
    rcases hG.kinds g hgF with ⟨cs, hc⟩ | ⟨_, cs, hc⟩
    · rw [hg1] at hc; cases hc
    · rw [hg1] at hc; cases hc
  refine ⟨⟨T, ⟨⟨u, heap_at hg1 rfl, by rw [World.size_setCell]; exact hB1, G, hG.frame (fun b hb => ?_), hGb⟩, ⟨fn, by rw [e]; exact tl, by rw [e]; exact lm, nd⟩, h.base⟩, e, bk⟩, (Stays.of a).setCell (.inl rfl) u⟩
  have hb1 := hG.lt b hb
  have : b ≠ g := fun q => hne (q ▸ hb)
  cases hc : w1.heap[b]? with
  | none => rw [Array.getElem?_eq_none_iff] at hc; omega
  | some o => exact heap_far this hc
theorem Tls.of_any {m : Qs} (h : m.any tlBad = false) : Tls m := fun x hx => by
  have := List.any_eq_false.1 h x hx
  exact tlBad_not (by simpa using this)
theorem tests_mayNot : TestsT 221 #[] tlBad := fun b1 b2 w' => mayNot_any b1 b2 _ w' rfl
set_option maxRecDepth 100000 in
set_option maxHeartbeats 1600000 in
theorem sqins_kind (g : Nat) (u : Value) (t : Ht) (i : Nat) (m : Qs) (w : World) (h : IsQ w g t) (hf : t.Fit) (hi : i ≤ t.hs.length) (hu : QR w u m) (hm : m.length ≤ 90000) (hk : m.any tlBad = true) : Calls Tryz.prog 178 #[.pointer (some ⟨g, 0, none⟩), .int .i64 (i : Int), u] w fun e w' => e = .returned (.int .i64 5) ∧ AnyLater w w' := by
  have HL := Lib.hid (fun (w' : World) (a : AnyLater w w') => sqlen_any (.pointer (some ⟨g, 0, none⟩)) t w' (h.nil_or.later a) hf)
  have HC := Lib.hid (fun (w' : World) (a : AnyLater w w') => tlcontains_any u 221 #[] tlBad m true w' hk (hu.later a) (by omega) (enters_of Tryz.func221 (by kernel_rfl) rfl) tests_mayNot)
  obtain ⟨A, cap, rfl, -⟩ := hu.form
  have d0 : decide ((i : Int) < 0) = false := decide_eq_false (by omega)
  have d1 : decide (t.hs.length < i) = false := decide_eq_false (by omega)
  clear h hf hi hu hm hk
  generalize t.hs.length = n at *
  go_enter Tryz.func178, Tryz.ntmps178
  go_wp2_with fail
  refine (HL.out _ (AnyLater.refl w)).mono ?_
  rintro e w1 ⟨rfl, b_w1⟩
  have z_w1 := b_w1.below.size
  have a_w1 := b_w1
  go_wp2_with fail
  refine (HC.out _ a_w1).mono ?_
  rintro e w2 ⟨rfl, b_w2⟩
  have z_w2 := b_w2.below.size
  have a_w2 := a_w1.trans b_w2
  go_wp2_with fail
  go_ret
  exact ⟨rfl, a_w2⟩
set_option maxRecDepth 100000 in
set_option maxHeartbeats 1600000 in
theorem sqins_yes (g : Nat) (u : Value) (t : Ht) (i : Nat) (m : Qs) (w : World) (h : QAt B w g t) (hi : i ≤ t.hs.length) (hu : QR w u m) (hm : t.hs.length + m.length ≤ 45000) (hk : m.any tlBad = false) : Calls Tryz.prog 178 #[.pointer (some ⟨g, 0, none⟩), .int .i64 (i : Int), u] w fun e w' => e = .returned (.int .i64 0) ∧ QDone B w g t (t.hs.take i ++ m ++ t.hs.drop i) w' := by
  have hf := h.fit
  have HL := Lib.hid (fun (w' : World) (a : AnyLater w w') => sqlen_any (.pointer (some ⟨g, 0, none⟩)) t w' (h.q.nil_or.later a) hf)
  have HC := Lib.hid (fun (w' : World) (a : AnyLater w w') => tlcontains_any u 221 #[] tlBad m false w' hk (hu.later a) (by omega) (enters_of Tryz.func221 (by kernel_rfl) rfl) tests_mayNot)
  have HE : Hid (∀ w0 w1 u' w', AnyLater w w0 → AnyLater w0 w1 → isSpliced B w0 t (t.hs.take i ++ m ++ t.hs.drop i) u' w1 → w' = w1.setCell ⟨g, 0, none⟩ u' → QDone B w g t (t.hs.take i ++ m ++ t.hs.drop i) w') := Lib.hid (fun w0 w1 u' w' a0 a1 ⟨T, k1, k2, k3, k4, k5⟩ e => by
    refine QDone.spliced h (a0.trans a1) k1 k2 k3 k4 (fun b hb => (k5 b hb).imp id (fun q => Nat.le_trans a0.below.size q)) (((hf.tls.take i).append (Tls.of_any hk)).append (hf.tls.drop i)) ?_ e
    rw [List.length_append, List.length_append, List.length_take, List.length_drop]; omega)
  obtain ⟨rv, hg, ht⟩ := h.obj
  have HS := Lib.hid (fun (w' : World) (a : AnyLater w w') => hsplice_any t i i rv u m w' (isH_stays a ht) h.ok (Nat.le_refl _) hi (hu.later a) (by omega) (Tls.of_any hk))
  obtain ⟨q, rfl⟩ := ht.ptr
  obtain ⟨A, cap, rfl, -⟩ := hu.form
  have d0 : decide ((i : Int) < 0) = false := decide_eq_false (by omega)
  have d1 : decide (t.hs.length < i) = false := decide_eq_false (by omega)
  have d2 : decide ((16777216 : Int) - (t.hs.length : Int) < (m.length : Int)) = false := decide_eq_false (by omega)
  have d3 : (t.hs.length : Int) ≤ 45000 := by omega
  have s0_w := hg
  have r0_w := own_row hg
  have f0_w := own_free hg
  have l0_w := own_lt hg
  clear h hf hi hu hm hk ht hg
  generalize t.hs.take i ++ m ++ t.hs.drop i = l2 at *
  generalize t.hs.length = n at *
  generalize m.length = k at *
  go_enter Tryz.func178, Tryz.ntmps178
  go_wp2_with fail
  refine (HL.out _ (AnyLater.refl w)).mono ?_
  rintro e w1 ⟨rfl, b_w1⟩
  have z_w1 := b_w1.below.size
  have a_w1 := b_w1
  have s0_w1 := any_own b_w1 s0_w
  have r0_w1 := own_row s0_w1
  have f0_w1 := own_free s0_w1
  have l0_w1 := own_lt s0_w1
  (try clear r0_w); (try clear f0_w)
  go_wp2_with fail
  refine (HC.out _ a_w1).mono ?_
  rintro e w2 ⟨rfl, b_w2⟩
  have z_w2 := b_w2.below.size
  have a_w2 := a_w1.trans b_w2
  have s0_w2 := any_own b_w2 s0_w1
  have r0_w2 := own_row s0_w2
  have f0_w2 := own_free s0_w2
  have l0_w2 := own_lt s0_w2
  (try clear r0_w1); (try clear f0_w1)
  go_wp2_with fail
  refine (HL.out _ a_w2).mono ?_
  rintro e w3 ⟨rfl, b_w3⟩
  have z_w3 := b_w3.below.size
  have a_w3 := a_w2.trans b_w3
  have s0_w3 := any_own b_w3 s0_w2
  have r0_w3 := own_row s0_w3
  have f0_w3 := own_free s0_w3
  have l0_w3 := own_lt s0_w3
  (try clear r0_w2); (try clear f0_w2)
  go_wp2_with fail
  refine (HS.out _ a_w3).mono ?_
  rintro e w4 ⟨u4, rfl, b_w4, p4⟩
  have HZ := Lib.hid (HE.out w3 w4 u4 _ a_w3 b_w4 p4 rfl)
  obtain ⟨T, hT, -⟩ := p4
  obtain ⟨q4, rfl⟩ := hT.ptr
  have z_w4 := b_w4.below.size
  have a_w4 := a_w3.trans b_w4
  have s0_w4 := any_own b_w4 s0_w3
  have r0_w4 := own_row s0_w4
  have f0_w4 := own_free s0_w4
  have l0_w4 := own_lt s0_w4
  (try clear r0_w3); (try clear f0_w3)
  clear hT
  go_wp2_with fail
  go_ret
  exact ⟨rfl, HZ.out⟩
end Go.Proofs.YtamhnffokoejjaaGreatDoor
namespace Go.Proofs.YtamhnffokoejjaaGreatDoor
set_option linter.unusedSimpArgs false
set_option linter.unusedVariables false
set_option linter.unusedSectionVars false
open Go.RowKit
variable {B : Nat}
theorem QAt.void {w w1 : World} {g : Nat} (hg : w1.heap[g]? = some (.cells #[.pointer none] 211)) (hB : B ≤ g) (hs : B ≤ w1.heap.size) : QAt B w1 g .nil := ⟨⟨_, hg, isH_none hs⟩, ⟨Ht.Fine.nil, Tls.nil, by decide, List.nodup_nil⟩, hB⟩
set_option maxRecDepth 100000 in
theorem sqnew_any (u : Value) (m : Qs) (w : World) (hu : QR w u m) (hm : m.length ≤ 45000) (hk : m.any tlBad = false) : Calls Tryz.prog 132 #[u] w fun e w' => ∃ g t, e = .returned (.tuple #[.pointer (some ⟨g, 0, none⟩), .int .i64 0]) ∧ AnyLater w w' ∧ QAt w.heap.size w' g t ∧ t.hs = m := by
  have HI := Lib.hid (fun (w1 : World) (a : AnyLater w w1) (hg : w1.heap[w.heap.size]? = some (.cells #[.pointer none] 211)) => sqins_yes w.heap.size u .nil 0 m w1 (QAt.void (B := w.heap.size) (w := w) hg (Nat.le_refl _) a.below.size) (Nat.zero_le _) (hu.later a) (by simp [Ht.hs]; omega) hk)
  obtain ⟨A, cap, rfl, -⟩ := hu.form
  clear hu hm hk
  go_enter Tryz.func132, Tryz.ntmps132
  go_wp2_with fail
  first | refine settle_wp (fun wS => AnyLater w wS ∧ wS.heap[w.heap.size]? = some (.cells #[.pointer none] 211)) ?_ ?_ | refine settle_calls (fun wS => AnyLater w wS ∧ wS.heap[w.heap.size]? = some (.cells #[.pointer none] 211)) ?_ ?_
  · refine ⟨?_, ?_⟩
    · repeat' (first | with_reducible assumption | with_reducible exact AnyLater.refl _ | with_reducible apply AnyLater.setCell | with_reducible apply AnyLater.later | with_reducible apply AnyLater.drewN | with_reducible apply AnyLater.drew | with_reducible apply AnyLater.alloc | ((try simp only [World.size_alloc, World.size_setCell, World.size_drew]); (try dsimp only); omega))
    · ((repeat (first | with_reducible assumption | ((with_reducible apply heap_new); (try simp only [World.size_alloc, World.size_setCell, World.size_drew, World.heap_drewN]); done) | ((with_reducible apply heap_new); (try simp only [World.size_alloc, World.size_setCell, World.size_drew, World.heap_drewN]); omega) | (with_reducible refine heap_old (by (try simp only [World.size_alloc, World.size_setCell, World.size_drew, World.heap_drewN]); omega) ?_) | (with_reducible refine heap_drew ?_) | (with_reducible refine heap_far (by omega) ?_) | (with_reducible apply heap_at))); all_goals rfl)
  rintro w1 ⟨b_w1, s0_w1⟩
  have a_w1 := b_w1
  have r0_w1 := own_row s0_w1
  have f0_w1 := own_free s0_w1
  have l0_w1 := own_lt s0_w1
  have z_w1 := b_w1.below.size
  refine (HI.out _ a_w1 s0_w1).mono ?_
  rintro e w2 ⟨rfl, hq⟩
  have HZ : Hid (AnyLater w w2 ∧ ∃ t, QAt w.heap.size w2 w.heap.size t ∧ t.hs = m) := Lib.hid (by
    refine ⟨hq.any a_w1 (Nat.le_refl _) (Nat.le_refl _), ?_⟩
    obtain ⟨⟨t', k1, k2, _⟩, _⟩ := hq
    exact ⟨t', k1, by rw [k2]; simp [Ht.hs]⟩)
  clear hq
  go_wp2_with fail
  refine bodyPost_ret (v := .tuple #[.pointer (some ⟨w.heap.size, 0, none⟩), .int .i64 0]) (by simp [results, Tryz.results132, go_sem]) rfl ?_
  obtain ⟨a, t, k1, k2⟩ := HZ.out
  exact ⟨_, t, rfl, a, k1, k2⟩
end Go.Proofs.YtamhnffokoejjaaGreatDoor
namespace Go.Proofs.YtamhnffokoejjaaGreatDoor
set_option linter.unusedSimpArgs false
set_option linter.unusedVariables false
set_option linter.unusedSectionVars false
open Go.RowKit
variable {B : Nat}
def Trk (w : World) (g b : Nat) : Prop := b = g ∨ ∃ t rv F, w.heap[g]? = some (.cells #[rv] 211) ∧ IsH w t rv F ∧ b ∈ F
def QOwn (B : Nat) (w : World) (g : Nat) (t : Ht) (l : Qs) (w' : World) : Prop := (∃ t', QAt B w' g t' ∧ t'.hs = l ∧ ∀ b ∈ t'.bks, b ∈ t.bks ∨ w.heap.size ≤ b) ∧ Stays (fun b => b = g) w w'
theorem QOwn.same {w w' : World} {g : Nat} {t : Ht} (h : QAt B w g t) (a : AnyLater w w') : QOwn B w g t t.hs w' := ⟨⟨t, h.later a, rfl, fun _ hb => .inl hb⟩, .of a⟩
theorem QOwn.spliced {w w1 w' : World} {g : Nat} {t T : Ht} {l : Qs} {u : Value} (h : QAt B w g t) (a : AnyLater w w1) (hT : isH B T u w1) (e : T.hs = l) (fn : T.Fine) (nd : T.bks.Nodup) (bk : ∀ b ∈ T.bks, b ∈ t.bks ∨ w.heap.size ≤ b) (tl : Tls l) (lm : l.length ≤ 45000) (hs : w' = w1.setCell ⟨g, 0, none⟩ u) : QOwn B w g t l w' :=
  ⟨(QDone.spliced h a hT e fn nd bk tl lm hs).1, by subst hs; exact (Stays.of a).setCell (S := fun b => b = g) rfl u⟩
theorem QAt.mono {C : Nat} {w : World} {g : Nat} {t : Ht} (h : QAt B w g t) (hC : C ≤ B) : QAt C w g t := by
  obtain ⟨rv, hg, ht⟩ := h.obj
  exact ⟨⟨rv, hg, ht.mono hC⟩, h.ok, Nat.le_trans hC h.base⟩
theorem QAt.bks_ge {w : World} {g : Nat} {t : Ht} (h : QAt B w g t) : ∀ b ∈ t.bks, B ≤ b := fun b hb => by
  obtain ⟨rv, _, _, F, hF, hFb⟩ := h.obj
  exact hFb b (hF.rows b hb).1
theorem QAt.bksLt {w : World} {g : Nat} {t : Ht} (h : QAt B w g t) : ∀ b ∈ t.bks, b < w.heap.size := fun b hb => by
  obtain ⟨rv, _, _, F, hF, _⟩ := h.obj
  exact own_lt (hF.rows b hb).2.choose_spec
theorem QAt.gLt {w : World} {g : Nat} {t : Ht} (h : QAt B w g t) : g < w.heap.size := by
  obtain ⟨rv, hg, _⟩ := h.obj
  exact own_lt hg
set_option maxRecDepth 100000 in
set_option maxHeartbeats 1600000 in
theorem qins_yes (g : Nat) (u : Value) (t : Ht) (i : Nat) (m : Qs) (w : World) (h : QAt B w g t) (hi : i ≤ t.hs.length) (hu : QR w u m) (hm : t.hs.length + m.length ≤ 45000) (hk : m.any tlBad = false) : Calls Tryz.prog 178 #[.pointer (some ⟨g, 0, none⟩), .int .i64 (i : Int), u] w fun e w' => e = .returned (.int .i64 0) ∧ QOwn B w g t (t.hs.take i ++ m ++ t.hs.drop i) w' := by
  have hf := h.fit
  have HL := Lib.hid (fun (w' : World) (a : AnyLater w w') => sqlen_any (.pointer (some ⟨g, 0, none⟩)) t w' (h.q.nil_or.later a) hf)
  have HC := Lib.hid (fun (w' : World) (a : AnyLater w w') => tlcontains_any u 221 #[] tlBad m false w' hk (hu.later a) (by omega) (enters_of Tryz.func221 (by kernel_rfl) rfl) tests_mayNot)
  have HE : Hid (∀ w0 w1 u' w', AnyLater w w0 → AnyLater w0 w1 → isSpliced B w0 t (t.hs.take i ++ m ++ t.hs.drop i) u' w1 → w' = w1.setCell ⟨g, 0, none⟩ u' → QOwn B w g t (t.hs.take i ++ m ++ t.hs.drop i) w') := Lib.hid (fun w0 w1 u' w' a0 a1 ⟨T, k1, k2, k3, k4, k5⟩ e => by
    refine QOwn.spliced h (a0.trans a1) k1 k2 k3 k4 (fun b hb => (k5 b hb).imp id (fun q => Nat.le_trans a0.below.size q)) (((hf.tls.take i).append (Tls.of_any hk)).append (hf.tls.drop i)) ?_ e
    rw [List.length_append, List.length_append, List.length_take, List.length_drop]; omega)
  obtain ⟨rv, hg, ht⟩ := h.obj
  have HS := Lib.hid (fun (w' : World) (a : AnyLater w w') => hsplice_any t i i rv u m w' (isH_stays a ht) h.ok (Nat.le_refl _) hi (hu.later a) (by omega) (Tls.of_any hk))
  obtain ⟨q, rfl⟩ := ht.ptr
  obtain ⟨A, cap, rfl, -⟩ := hu.form
  have d0 : decide ((i : Int) < 0) = false := decide_eq_false (by omega)
  have d1 : decide (t.hs.length < i) = false := decide_eq_false (by omega)
  have d2 : decide ((16777216 : Int) - (t.hs.length : Int) < (m.length : Int)) = false := decide_eq_false (by omega)
  have d3 : (t.hs.length : Int) ≤ 45000 := by omega
  have s0_w := hg
  have r0_w := own_row hg
  have f0_w := own_free hg
  have l0_w := own_lt hg
  clear h hf hi hu hm hk ht hg
  generalize t.hs.take i ++ m ++ t.hs.drop i = l2 at *
  generalize t.hs.length = n at *
  generalize m.length = k at *
  go_enter Tryz.func178, Tryz.ntmps178
  go_wp2_with fail
  refine (HL.out _ (AnyLater.refl w)).mono ?_
  rintro e w1 ⟨rfl, b_w1⟩
  have z_w1 := b_w1.below.size
  have a_w1 := b_w1
  have s0_w1 := any_own b_w1 s0_w
  have r0_w1 := own_row s0_w1
  have f0_w1 := own_free s0_w1
  have l0_w1 := own_lt s0_w1
  (try clear r0_w); (try clear f0_w)
  go_wp2_with fail
  refine (HC.out _ a_w1).mono ?_
  rintro e w2 ⟨rfl, b_w2⟩
  have z_w2 := b_w2.below.size
  have a_w2 := a_w1.trans b_w2
  have s0_w2 := any_own b_w2 s0_w1
  have r0_w2 := own_row s0_w2
  have f0_w2 := own_free s0_w2
  have l0_w2 := own_lt s0_w2
  (try clear r0_w1); (try clear f0_w1)
  go_wp2_with fail
  refine (HL.out _ a_w2).mono ?_
  rintro e w3 ⟨rfl, b_w3⟩
  have z_w3 := b_w3.below.size
  have a_w3 := a_w2.trans b_w3
  have s0_w3 := any_own b_w3 s0_w2
  have r0_w3 := own_row s0_w3
  have f0_w3 := own_free s0_w3
  have l0_w3 := own_lt s0_w3
  (try clear r0_w2); (try clear f0_w2)
  go_wp2_with fail
  refine (HS.out _ a_w3).mono ?_
  rintro e w4 ⟨u4, rfl, b_w4, p4⟩
  have HZ := Lib.hid (HE.out w3 w4 u4 _ a_w3 b_w4 p4 rfl)
  obtain ⟨T, hT, -⟩ := p4
  obtain ⟨q4, rfl⟩ := hT.ptr
  have z_w4 := b_w4.below.size
  have a_w4 := a_w3.trans b_w4
  have s0_w4 := any_own b_w4 s0_w3
  have r0_w4 := own_row s0_w4
  have f0_w4 := own_free s0_w4
  have l0_w4 := own_lt s0_w4
  (try clear r0_w3); (try clear f0_w3)
  clear hT
  go_wp2_with fail
  go_ret
  exact ⟨rfl, HZ.out⟩
set_option maxRecDepth 100000 in
set_option maxHeartbeats 1600000 in
theorem qdel_yes (g : Nat) (t : Ht) (i k : Nat) (w : World) (h : QAt B w g t) (hi : i + k ≤ t.hs.length) : Calls Tryz.prog 223 #[.pointer (some ⟨g, 0, none⟩), .int .i64 (i : Int), .int .i64 (k : Int)] w fun e w' => e = .returned (.int .i64 0) ∧ QOwn B w g t (t.hs.take i ++ t.hs.drop (i + k)) w' := by
  have hf := h.fit
  have hm := h.ok.most
  have HL := Lib.hid (sqlen_any (.pointer (some ⟨g, 0, none⟩)) t w h.q.nil_or hf)
  have HSp := Lib.hid (fun (w' : World) => same_later (clcSpan_yes (i : Int) (k : Int) t.hs.length w' ⟨by omega, by omega, by omega, by omega⟩ (by omega)))
  have hz : t.hs.take i ++ [] ++ t.hs.drop (i + k) = t.hs.take i ++ t.hs.drop (i + k) := by rw [List.append_nil]
  have HE : Hid (∀ w0 w1 u' w', AnyLater w w0 → AnyLater w0 w1 → isSpliced B w0 t (t.hs.take i ++ [] ++ t.hs.drop (i + k)) u' w1 → w' = w1.setCell ⟨g, 0, none⟩ u' → QOwn B w g t (t.hs.take i ++ t.hs.drop (i + k)) w') := Lib.hid (fun w0 w1 u' w' a0 a1 ⟨T, k1, k2, k3, k4, k5⟩ e => by
    rw [hz] at k2
    refine QOwn.spliced h (a0.trans a1) k1 k2 k3 k4 (fun b hb => (k5 b hb).imp id (fun q => Nat.le_trans a0.below.size q)) ((hf.tls.take i).append (hf.tls.drop (i + k))) ?_ e
    rw [List.length_append, List.length_take, List.length_drop]; omega)
  obtain ⟨rv, hg, ht⟩ := h.obj
  have HS := Lib.hid (fun (w' : World) (a : AnyLater w w') => hsplice_any t i (i + k) rv (.slice none 0 0) [] w' (isH_stays a ht) h.ok (by omega) hi (QR.void w' none 0) (by simp; omega) Tls.nil)
  have hc : ((i + k : Nat) : Int) = (i : Int) + (k : Int) := by omega
  rw [hc] at HS
  obtain ⟨q, rfl⟩ := ht.ptr
  have s0_w := hg
  have r0_w := own_row hg
  have f0_w := own_free hg
  have l0_w := own_lt hg
  clear h hf hi ht hg hz hm hc
  generalize t.hs.take i ++ t.hs.drop (i + k) = l3 at *
  generalize t.hs.take i ++ [] ++ t.hs.drop (i + k) = l2 at *
  generalize t.hs.length = n at *
  go_enter Tryz.func223, Tryz.ntmps223
  go_wp2_with fail
  refine (HL.out).mono ?_
  rintro e w1 ⟨rfl, b_w1⟩
  have z_w1 := b_w1.below.size
  have a_w1 := b_w1
  have s0_w1 := any_own b_w1 s0_w
  have r0_w1 := own_row s0_w1
  have f0_w1 := own_free s0_w1
  have l0_w1 := own_lt s0_w1
  (try clear r0_w); (try clear f0_w)
  go_wp2_with fail
  refine (HSp.out _).mono ?_
  rintro e w2 ⟨rfl, b_w2⟩
  have z_w2 := b_w2.below.size
  have a_w2 := a_w1.trans b_w2
  have s0_w2 := any_own b_w2 s0_w1
  have r0_w2 := own_row s0_w2
  have f0_w2 := own_free s0_w2
  have l0_w2 := own_lt s0_w2
  (try clear r0_w1); (try clear f0_w1)
  go_wp2_with fail
  refine (HS.out _ a_w2).mono ?_
  rintro e w4 ⟨u4, rfl, b_w4, p4⟩
  have HZ := Lib.hid (HE.out w2 w4 u4 _ a_w2 b_w4 p4 rfl)
  obtain ⟨T, hT, -⟩ := p4
  obtain ⟨q4, rfl⟩ := hT.ptr
  have z_w4 := b_w4.below.size
  have a_w4 := a_w2.trans b_w4
  have s0_w4 := any_own b_w4 s0_w2
  have r0_w4 := own_row s0_w4
  have f0_w4 := own_free s0_w4
  have l0_w4 := own_lt s0_w4
  (try clear r0_w2); (try clear f0_w2)
  clear hT
  go_wp2_with fail
  go_ret
  exact ⟨rfl, HZ.out⟩
structure Cw where
  row : Option Nat
  sq : Option (Nat × Ht)
def Cw.bl (c : Cw) : List Nat := c.row.toList ++ (match c.sq with | none => [] | some (g, t) => g :: t.bks)
def ptrV (g : Nat) : Value := .pointer (some ⟨g, 0, none⟩)
def IsCh (B : Nat) (w : World) (v : Value) (c : Cw) (l : Qs) : Prop :=
  v.ownBlock = c.row ∧ ((c.sq = none ∧ l = [] ∧ w.ownsRow B 166 1 v 0 []) ∨ ∃ g t, c.sq = some (g, t) ∧ t.hs = l ∧ QAt B w g t ∧ w.ownsRow B 166 1 v 1 [ptrV g])
def InC (w : World) (c : Cw) (b : Nat) : Prop := c.row = some b ∨ ∃ g t, c.sq = some (g, t) ∧ Trk w g b
def InR (c : Cw) (b : Nat) : Prop := c.row = some b ∨ ∃ g t, c.sq = some (g, t) ∧ b = g
theorem InR.inC {w : World} {c : Cw} {b : Nat} (h : InR c b) : InC w c b := by
  rcases h with h | ⟨g, t, h1, h2⟩
  · exact .inl h
  · exact .inr ⟨g, t, h1, .inl h2⟩
theorem InR.bl {c : Cw} {b : Nat} (h : InR c b) : b ∈ c.bl := by
  unfold Cw.bl
  rcases h with h | ⟨g, t, h1, rfl⟩
  · rw [h]; simp
  · rw [h1]; simp
theorem IsCh.void (w : World) : IsCh B w (.slice none 0 0) ⟨none, none⟩ [] := ⟨rfl, .inl ⟨rfl, rfl, rfl, .inl ⟨rfl, rfl⟩⟩⟩
theorem own_row_stays {S : Nat → Prop} {w w' : World} {t : TypeId} {k n : Nat} {v : Value} {xs : List Value} (h : w.ownsRow B t k v n xs) (hs : Stays S w w') (hn : ∀ b, v.ownBlock = some b → ¬ S b) : w'.ownsRow B t k v n xs := by
  refine ⟨h.1, ?_⟩
  rcases h.2 with q | ⟨g, cap, cur, rfl, h1, h2, h3⟩
  · exact .inl q
  · exact .inr ⟨g, cap, cur, rfl, h1, hs.own h2 (hn g rfl), h3⟩
theorem QAt.stays {S : Nat → Prop} {w w' : World} {g : Nat} {t : Ht} (h : QAt B w g t) (hs : Stays S w w') (hn : ∀ b, Trk w g b → ¬ S b) : QAt B w' g t := by
  obtain ⟨rv, hg, hB, F, hF, hFb⟩ := h.obj
  exact ⟨⟨rv, hs.own hg (hn g (.inl rfl)), Nat.le_trans hB hs.size, F, hF.stays hs (fun b hb => hn b (.inr ⟨t, rv, F, hg, hF, hb⟩)), hFb⟩, h.ok, h.base⟩
theorem IsCh.stays {S : Nat → Prop} {w w' : World} {v : Value} {c : Cw} {l : Qs} (h : IsCh B w v c l) (hs : Stays S w w') (hn : ∀ b, InC w c b → ¬ S b) : IsCh B w' v c l := by
  refine ⟨h.1, ?_⟩
  rcases h.2 with ⟨h1, h2, h3⟩ | ⟨g, t, h1, h2, h3, h4⟩
  · exact .inl ⟨h1, h2, own_row_stays h3 hs (fun b hb => hn b (.inl (by rw [← h.1]; exact hb)))⟩
  · exact .inr ⟨g, t, h1, h2, h3.stays hs (fun b hb => hn b (.inr ⟨g, t, h1, hb⟩)), own_row_stays h4 hs (fun b hb => hn b (.inl (by rw [← h.1]; exact hb)))⟩
theorem IsCh.later {w w' : World} {v : Value} {c : Cw} {l : Qs} (h : IsCh B w v c l) (a : AnyLater w w') : IsCh B w' v c l := h.stays (S := fun _ => False) (.of a) (fun _ _ h => h)
theorem IsCh.mono {C : Nat} {w : World} {v : Value} {c : Cw} {l : Qs} (h : IsCh B w v c l) (hC : C ≤ B) : IsCh C w v c l := by
  have hw : ∀ {n : Nat} {xs : List Value}, w.ownsRow B 166 1 v n xs → w.ownsRow C 166 1 v n xs := fun q => by
    refine ⟨q.1, ?_⟩
    rcases q.2 with q | ⟨g, cap, cur, h0, h1, h2⟩
    · exact .inl q
    · exact .inr ⟨g, cap, cur, h0, by omega, h2⟩
  refine ⟨h.1, ?_⟩
  rcases h.2 with ⟨h1, h2, h3⟩ | ⟨g, t, h1, h2, h3, h4⟩
  · exact .inl ⟨h1, h2, hw h3⟩
  · exact .inr ⟨g, t, h1, h2, h3.mono hC, hw h4⟩
theorem IsCh.rowAt {w : World} {v : Value} {c : Cw} {l : Qs} (h : IsCh B w v c l) {b : Nat} (hb : c.row = some b) : B ≤ b ∧ ∃ cs, w.heap[b]? = some (.cells cs 166) := by
  have key : ∀ {n : Nat} {xs : List Value}, w.ownsRow B 166 1 v n xs → B ≤ b ∧ ∃ cs, w.heap[b]? = some (.cells cs 166) := fun q => by
    rcases q.2 with ⟨rfl, _⟩ | ⟨g, cap, cur, rfl, h1, h2, h3⟩
    · rw [← h.1] at hb; cases hb
    · rw [← h.1] at hb; cases hb; exact ⟨h1, cur, h2⟩
  rcases h.2 with ⟨_, _, h3⟩ | ⟨g, t, _, _, _, h4⟩
  · exact key h3
  · exact key h4
theorem IsCh.seqAt {w : World} {v : Value} {c : Cw} {l : Qs} (h : IsCh B w v c l) {g : Nat} {t : Ht} (hb : c.sq = some (g, t)) : QAt B w g t ∧ t.hs = l := by
  rcases h.2 with ⟨h1, _⟩ | ⟨g', t', h1, h2, h3, h4⟩
  · rw [h1] at hb; cases hb
  · rw [h1] at hb; cases hb; exact ⟨h3, h2⟩
theorem IsCh.bl_in {w : World} {v : Value} {c : Cw} {l : Qs} (h : IsCh B w v c l) {b : Nat} (hb : b ∈ c.bl) : B ≤ b ∧ b < w.heap.size := by
  unfold Cw.bl at hb
  rcases List.mem_append.1 hb with hb | hb
  · obtain ⟨h1, cs, h2⟩ := h.rowAt (by simpa using hb)
    exact ⟨h1, own_lt h2⟩
  · cases hs : c.sq with
    | none => rw [hs] at hb; cases hb
    | some p =>
      obtain ⟨g, t⟩ := p
      obtain ⟨q, -⟩ := h.seqAt hs
      rw [hs] at hb
      rcases List.mem_cons.1 hb with rfl | hb
      · exact ⟨q.base, q.gLt⟩
      · exact ⟨q.bks_ge b hb, q.bksLt b hb⟩
theorem Trk.kinds {w : World} {g b : Nat} {t : Ht} (h : QAt B w g t) (k : Trk w g b) : (b = g ∧ ∃ rv, w.heap[b]? = some (.cells #[rv] 211)) ∨ (B ≤ b ∧ ∃ cs, w.heap[b]? = some (.cells cs 249)) ∨ (b ∈ t.bks ∧ ∃ cs, w.heap[b]? = some (.cells cs 61)) := by
  obtain ⟨rv, hg, _, F, hF, hFb⟩ := h.obj
  rcases k with rfl | ⟨t', rv', F', k1, k2, k3⟩
  · exact .inl ⟨rfl, rv, hg⟩
  · rw [hg] at k1
    simp only [Option.some.injEq, Obj.cells.injEq, and_true] at k1
    obtain rfl : rv = rv' := by simpa using k1
    obtain ⟨rfl, rfl⟩ := hF.only k2
    rcases hF.kinds b k3 with q | ⟨q1, q2⟩
    · exact .inr (.inl ⟨hFb b k3, q⟩)
    · exact .inr (.inr ⟨q1, q2⟩)
theorem Trk.apart {w : World} {g g' b : Nat} {t t' : Ht} (h : QAt B w g t) (h' : QAt B w g' t') (hg : g ≠ g') (hd : ∀ x ∈ t.bks, x ∉ t'.bks) (k : Trk w g b) : ¬ Trk w g' b := by
  intro k'
  rcases k.kinds h with ⟨rfl, rv, e⟩ | ⟨_, cs, e⟩ | ⟨m, cs, e⟩
  · rcases k'.kinds h' with ⟨rfl, _⟩ | ⟨_, cs, e2⟩ | ⟨m2, cs, e2⟩
    · exact hg rfl
    · rw [e] at e2; cases e2
    · rw [e] at e2; cases e2
  · rcases k'.kinds h' with ⟨rfl, rv, e2⟩ | ⟨_, cs, e2⟩ | ⟨m2, cs, e2⟩
    · rw [e] at e2; cases e2
    ·
      obtain ⟨rv1, hg1, _, F1, hF1, _⟩ := h.obj
      obtain ⟨rv2, hg2, _, F2, hF2, _⟩ := h'.obj
      rcases k with rfl | ⟨t1, r1, G1, a1, a2, a3⟩
      · rw [hg1] at e; cases e
      rcases k' with rfl | ⟨t2, r2, G2, b1, b2, b3⟩
      · rw [hg2] at e2; cases e2
      rw [hg1] at a1
      rw [hg2] at b1
      simp only [Option.some.injEq, Obj.cells.injEq, and_true] at a1 b1
      obtain rfl : rv1 = r1 := by simpa using a1
      obtain rfl : rv2 = r2 := by simpa using b1
      obtain ⟨rfl, rfl⟩ := hF1.only a2
      obtain ⟨rfl, rfl⟩ := hF2.only b2
      exact hF1.apart hF2 hd b a3 b3
    · exact node_tall e e2
  · rcases k'.kinds h' with ⟨rfl, rv, e2⟩ | ⟨_, cs, e2⟩ | ⟨m2, cs, e2⟩
    · rw [e] at e2; cases e2
    · exact node_tall e2 e
    · exact hd b m m2
theorem InC.apart {w : World} {v v' : Value} {c c' : Cw} {l l' : Qs} (h : IsCh B w v c l) (h' : IsCh B w v' c' l') (hd : ∀ x ∈ c.bl, x ∉ c'.bl) {b : Nat} (k : InC w c b) : ¬ InC w c' b := by
  intro k'
  rcases k with k | ⟨g, t, k1, k2⟩
  · obtain ⟨_, cs, e⟩ := h.rowAt k
    rcases k' with k' | ⟨g', t', k3, k4⟩
    · exact hd b (InR.bl (.inl k)) (InR.bl (.inl k'))
    · rcases k4.kinds (h'.seqAt k3).1 with ⟨_, rv, e2⟩ | ⟨_, cs, e2⟩ | ⟨_, cs, e2⟩
      · rw [e] at e2; cases e2
      · rw [e] at e2; cases e2
      · rw [e] at e2; cases e2
  · rcases k' with k' | ⟨g', t', k3, k4⟩
    · obtain ⟨_, cs, e⟩ := h'.rowAt k'
      rcases k2.kinds (h.seqAt k1).1 with ⟨_, rv, e2⟩ | ⟨_, cs, e2⟩ | ⟨_, cs, e2⟩
      · rw [e] at e2; cases e2
      · rw [e] at e2; cases e2
      · rw [e] at e2; cases e2
    · refine k2.apart (h.seqAt k1).1 (h'.seqAt k3).1 (fun e => ?_) (fun x hx hx' => ?_) k4
      · subst e
        exact hd g (InR.bl (.inr ⟨g, t, k1, rfl⟩)) (InR.bl (.inr ⟨g, t', k3, rfl⟩))
      · refine hd x ?_ ?_
        · unfold Cw.bl; rw [k1]; simp [hx]
        · unfold Cw.bl; rw [k3]; simp [hx']
theorem InC.kinds {w : World} {v : Value} {c : Cw} {l : Qs} (h : IsCh B w v c l) {b : Nat} (k : InC w c b) : B ≤ b ∧ (b ∈ c.bl ∨ ∃ cs, w.heap[b]? = some (.cells cs 249)) := by
  rcases k with k | ⟨g, t, k1, k2⟩
  · exact ⟨(h.rowAt k).1, .inl (InR.bl (.inl k))⟩
  · have q := (h.seqAt k1).1
    rcases k2.kinds q with ⟨rfl, _⟩ | ⟨h1, h2⟩ | ⟨m, _⟩
    · exact ⟨q.base, .inl (InR.bl (.inr ⟨b, t, k1, rfl⟩))⟩
    · exact ⟨h1, .inr h2⟩
    · exact ⟨q.bks_ge b m, .inl (by unfold Cw.bl; rw [k1]; simp [m])⟩
theorem IsCh.tls {w : World} {v : Value} {c : Cw} {l : Qs} (h : IsCh B w v c l) : Tls l ∧ l.length ≤ 45000 := by
  rcases h.2 with ⟨_, rfl, _⟩ | ⟨g, t, _, rfl, q, _⟩
  · exact ⟨Tls.nil, by simp⟩
  · exact ⟨q.ok.tls, q.ok.most⟩
end Go.Proofs.YtamhnffokoejjaaGreatDoor
namespace Go.Proofs.YtamhnffokoejjaaGreatDoor
set_option linter.unusedSimpArgs false
set_option linter.unusedVariables false
set_option linter.unusedSectionVars false
open Go.RowKit
variable {B : Nat}
theorem IsCh.none_form {w : World} {v : Value} {c : Cw} {l : Qs} (h : IsCh B w v c l) (hs : c.sq = none) : l = [] ∧ ∃ A cap, v = .slice A 0 cap := by
  rcases h.2 with ⟨_, h2, h3⟩ | ⟨g, t, h1, _⟩
  · refine ⟨h2, ?_⟩
    rcases h3.2 with ⟨rfl, _⟩ | ⟨b, cap, cur, rfl, _⟩
    · exact ⟨_, _, rfl⟩
    · exact ⟨_, _, rfl⟩
  · rw [hs] at h1; cases h1
theorem IsCh.one_form {w : World} {v : Value} {c : Cw} {l : Qs} (h : IsCh B w v c l) {g : Nat} {t : Ht} (hs : c.sq = some (g, t)) : ∃ b cap cur, v = .slice (some ⟨b, 0, none⟩) 1 cap ∧ c.row = some b ∧ B ≤ b ∧ w.heap[b]? = some (.cells cur 166) ∧ cur[0]? = some (ptrV g) ∧ 1 ≤ cap ∧ cap ≤ maxLen ∧ cur.size = cap := by
  rcases h.2 with ⟨h1, _⟩ | ⟨g', t', h1, h2, h3, h4⟩
  · rw [hs] at h1; cases h1
  · rw [hs] at h1
    cases h1
    rcases h4.2 with ⟨_, e⟩ | ⟨b, cap, cur, rfl, k1, k2, k3, k4, k5, k6⟩
    · cases e
    · refine ⟨b, cap, cur, rfl, h.1.symm, k1, k2, ?_, k3, k4, by omega⟩
      have e : (cur.toList.take (1 * 1))[0]? = [ptrV g][0]? := by rw [k6]
      rw [List.getElem?_take_of_lt (by omega), Array.getElem?_toList] at e
      rw [e]; rfl
structure ChOne (B : Nat) (w : World) (b g : Nat) (t : Ht) : Prop where
  cell : w.cell? ⟨b, 0, none⟩ = some (.pointer (some ⟨g, 0, none⟩))
  lt : b < w.heap.size
  q : QAt B w g t
theorem ChOne.later {w w' : World} {b g : Nat} {t : Ht} (h : ChOne B w b g t) (a : AnyLater w w') : ChOne B w' b g t := ⟨(a.below.cell h.lt).trans h.cell, Nat.lt_of_lt_of_le h.lt a.below.size, h.q.later a⟩
theorem IsCh.one {w : World} {v : Value} {c : Cw} {l : Qs} (h : IsCh B w v c l) {g : Nat} {t : Ht} (hs : c.sq = some (g, t)) : ∃ b cap, v = .slice (some ⟨b, 0, none⟩) 1 cap ∧ ChOne B w b g t ∧ t.hs = l := by
  obtain ⟨b, cap, cur, e, _, _, k1, k2, _⟩ := h.one_form hs
  exact ⟨b, cap, e, ⟨by rw [own_row k1]; exact k2, own_lt k1, (h.seqAt hs).1⟩, (h.seqAt hs).2⟩
theorem IsCh.cases {w : World} {v : Value} {c : Cw} {l : Qs} (h : IsCh B w v c l) : (c.sq = none ∧ l = [] ∧ ∃ A cap, v = .slice A 0 cap) ∨ ∃ b cap g t, c.sq = some (g, t) ∧ v = .slice (some ⟨b, 0, none⟩) 1 cap ∧ ChOne B w b g t ∧ t.hs = l := by
  cases hs : c.sq with
  | none => exact .inl ⟨rfl, h.none_form hs⟩
  | some p =>
    obtain ⟨g, t⟩ := p
    obtain ⟨b, cap, e, k, e2⟩ := h.one hs
    exact .inr ⟨b, cap, g, t, rfl, e, k, e2⟩
theorem hgsize_none (A : Option Addr) (cap : Nat) (w : World) : Calls Tryz.prog 92 #[.agg #[.slice A 0 cap]] w fun e w' => e = .returned (.int .i64 0) ∧ AnyLater w w' := by
  go_enter Tryz.func92, Tryz.ntmps92
  go_wp2_with fail
  refine wp_loop_rounds 1 ?_
  rw [rounds_succ]
  go_wp2_with fail
  go_ret
  exact ⟨rfl, by repeat' (first | with_reducible assumption | with_reducible exact AnyLater.refl _ | with_reducible apply AnyLater.setCell | with_reducible apply AnyLater.later | with_reducible apply AnyLater.drewN | with_reducible apply AnyLater.drew | with_reducible apply AnyLater.alloc | ((try simp only [World.size_alloc, World.size_setCell, World.size_drew]); (try dsimp only); omega))⟩
theorem hgsize_one (b cap g : Nat) (t : Ht) (w : World) (h : ChOne B w b g t) : Calls Tryz.prog 92 #[.agg #[.slice (some ⟨b, 0, none⟩) 1 cap]] w fun e w' => e = .returned (.int .i64 (t.hs.length : Int)) ∧ AnyLater w w' := by
  have HL := Lib.hid (fun (w' : World) (a : AnyLater w w') => sqlen_any (.pointer (some ⟨g, 0, none⟩)) t w' (h.q.q.nil_or.later a) h.q.fit)
  have hm := h.q.ok.most
  have HC := Lib.hid h
  clear h
  generalize t.hs.length = n at *
  go_enter Tryz.func92, Tryz.ntmps92
  go_wp2_with fail
  first | refine settle_wp (fun wS => AnyLater w wS ∧ wS.heap[w.heap.size]? = some (.cells #[.slice (some ⟨b, 0, none⟩) 1 cap] 114)) ?_ ?_ | refine settle_calls (fun wS => AnyLater w wS ∧ wS.heap[w.heap.size]? = some (.cells #[.slice (some ⟨b, 0, none⟩) 1 cap] 114)) ?_ ?_
  · refine ⟨?_, ?_⟩
    · repeat' (first | with_reducible assumption | with_reducible exact AnyLater.refl _ | with_reducible apply AnyLater.setCell | with_reducible apply AnyLater.later | with_reducible apply AnyLater.drewN | with_reducible apply AnyLater.drew | with_reducible apply AnyLater.alloc | ((try simp only [World.size_alloc, World.size_setCell, World.size_drew]); (try dsimp only); omega))
    · ((repeat (first | with_reducible assumption | ((with_reducible apply heap_new); (try simp only [World.size_alloc, World.size_setCell, World.size_drew, World.heap_drewN]); done) | ((with_reducible apply heap_new); (try simp only [World.size_alloc, World.size_setCell, World.size_drew, World.heap_drewN]); omega) | (with_reducible refine heap_old (by (try simp only [World.size_alloc, World.size_setCell, World.size_drew, World.heap_drewN]); omega) ?_) | (with_reducible refine heap_drew ?_) | (with_reducible refine heap_far (by omega) ?_) | (with_reducible apply heap_at))); all_goals rfl)
  rintro w1 ⟨b_w1, s0_w1⟩
  have a_w1 := b_w1
  have r0_w1 := own_row s0_w1
  have f0_w1 := own_free s0_w1
  have l0_w1 := own_lt s0_w1
  have z_w1 := b_w1.below.size
  have c1 := (HC.out.later a_w1).cell
  refine wp_loop_rounds 2 ?_
  rw [rounds_succ]
  go_wp2_with fail
  refine (HL.out _ a_w1).mono ?_
  rintro e w2 ⟨rfl, b_w2⟩
  have z_w2 := b_w2.below.size
  have a_w2 := a_w1.trans b_w2
  have s0_w2 := any_own b_w2 s0_w1
  have r0_w2 := own_row s0_w2
  have f0_w2 := own_free s0_w2
  have l0_w2 := own_lt s0_w2
  (try clear r0_w1); (try clear f0_w1)
  go_wp2_with fail
  rw [rounds_succ]
  go_wp2_with fail
  go_ret
  exact ⟨by go_num, a_w2⟩
theorem hgsize_any (v : Value) (c : Cw) (l : Qs) (w : World) (h : IsCh B w v c l) : Calls Tryz.prog 92 #[.agg #[v]] w fun e w' => e = .returned (.int .i64 (l.length : Int)) ∧ AnyLater w w' := by
  rcases h.cases with ⟨_, rfl, A, cap, rfl⟩ | ⟨b, cap, g, t, _, rfl, k, rfl⟩
  · exact hgsize_none A cap w
  · exact hgsize_one b cap g t w k
theorem hgwithin_none (A : Option Addr) (cap : Nat) (i : Int) (w : World) : Calls Tryz.prog 142 #[.agg #[.slice A 0 cap], .int .i64 i] w fun e w' => e = .returned (.tuple #[.pointer none, .int .i64 0]) ∧ AnyLater w w' := by
  go_enter Tryz.func142, Tryz.ntmps142
  go_wp2_with fail
  refine wp_loop_rounds 1 ?_
  rw [rounds_succ]
  go_wp2_with fail
  refine bodyPost_ret (v := .tuple #[.pointer none, .int .i64 0]) (by simp [results, Tryz.results142, go_sem]) rfl ⟨rfl, ?_⟩
  repeat' (first | with_reducible assumption | with_reducible exact AnyLater.refl _ | with_reducible apply AnyLater.setCell | with_reducible apply AnyLater.later | with_reducible apply AnyLater.drewN | with_reducible apply AnyLater.drew | with_reducible apply AnyLater.alloc | ((try simp only [World.size_alloc, World.size_setCell, World.size_drew]); (try dsimp only); omega))
theorem hgwithin_in (b cap g : Nat) (t : Ht) (i : Int) (w : World) (h : ChOne B w b g t) (hi : i < t.hs.length) : Calls Tryz.prog 142 #[.agg #[.slice (some ⟨b, 0, none⟩) 1 cap], .int .i64 i] w fun e w' => e = .returned (.tuple #[.pointer (some ⟨g, 0, none⟩), .int .i64 i]) ∧ AnyLater w w' := by
  have HL := Lib.hid (fun (w' : World) (a : AnyLater w w') => sqlen_any (.pointer (some ⟨g, 0, none⟩)) t w' (h.q.q.nil_or.later a) h.q.fit)
  have HC := Lib.hid h
  clear h
  generalize t.hs.length = n at *
  go_enter Tryz.func142, Tryz.ntmps142
  go_wp2_with fail
  first | refine settle_wp (fun wS => AnyLater w wS ∧ wS.heap[w.heap.size]? = some (.cells #[.slice (some ⟨b, 0, none⟩) 1 cap] 114)) ?_ ?_ | refine settle_calls (fun wS => AnyLater w wS ∧ wS.heap[w.heap.size]? = some (.cells #[.slice (some ⟨b, 0, none⟩) 1 cap] 114)) ?_ ?_
  · refine ⟨?_, ?_⟩
    · repeat' (first | with_reducible assumption | with_reducible exact AnyLater.refl _ | with_reducible apply AnyLater.setCell | with_reducible apply AnyLater.later | with_reducible apply AnyLater.drewN | with_reducible apply AnyLater.drew | with_reducible apply AnyLater.alloc | ((try simp only [World.size_alloc, World.size_setCell, World.size_drew]); (try dsimp only); omega))
    · ((repeat (first | with_reducible assumption | ((with_reducible apply heap_new); (try simp only [World.size_alloc, World.size_setCell, World.size_drew, World.heap_drewN]); done) | ((with_reducible apply heap_new); (try simp only [World.size_alloc, World.size_setCell, World.size_drew, World.heap_drewN]); omega) | (with_reducible refine heap_old (by (try simp only [World.size_alloc, World.size_setCell, World.size_drew, World.heap_drewN]); omega) ?_) | (with_reducible refine heap_drew ?_) | (with_reducible refine heap_far (by omega) ?_) | (with_reducible apply heap_at))); all_goals rfl)
  rintro w1 ⟨b_w1, s0_w1⟩
  have a_w1 := b_w1
  have r0_w1 := own_row s0_w1
  have f0_w1 := own_free s0_w1
  have l0_w1 := own_lt s0_w1
  have z_w1 := b_w1.below.size
  have c1 := (HC.out.later a_w1).cell
  refine wp_loop_rounds 2 ?_
  rw [rounds_succ]
  go_wp2_with fail
  refine (HL.out _ a_w1).mono ?_
  rintro e w2 ⟨rfl, b_w2⟩
  have z_w2 := b_w2.below.size
  have a_w2 := a_w1.trans b_w2
  have s0_w2 := any_own b_w2 s0_w1
  have r0_w2 := own_row s0_w2
  have f0_w2 := own_free s0_w2
  have l0_w2 := own_lt s0_w2
  (try clear r0_w1); (try clear f0_w1)
  go_wp2_with fail
  refine bodyPost_ret (v := .tuple #[.pointer (some ⟨g, 0, none⟩), .int .i64 i]) (by simp [results, Tryz.results142, go_sem]) rfl ⟨rfl, ?_⟩
  exact a_w2
theorem hgwithin_out (b cap g : Nat) (t : Ht) (i : Int) (w : World) (h : ChOne B w b g t) (hi : ¬ i < t.hs.length) : Calls Tryz.prog 142 #[.agg #[.slice (some ⟨b, 0, none⟩) 1 cap], .int .i64 i] w fun e w' => e = .returned (.tuple #[.pointer none, .int .i64 0]) ∧ AnyLater w w' := by
  have HL := Lib.hid (fun (w' : World) (a : AnyLater w w') => sqlen_any (.pointer (some ⟨g, 0, none⟩)) t w' (h.q.q.nil_or.later a) h.q.fit)
  have hm := h.q.ok.most
  have HC := Lib.hid h
  clear h
  generalize t.hs.length = n at *
  have d0 : decide (i < (n : Int)) = false := decide_eq_false hi
  go_enter Tryz.func142, Tryz.ntmps142
  go_wp2_with fail
  first | refine settle_wp (fun wS => AnyLater w wS ∧ wS.heap[w.heap.size]? = some (.cells #[.slice (some ⟨b, 0, none⟩) 1 cap] 114)) ?_ ?_ | refine settle_calls (fun wS => AnyLater w wS ∧ wS.heap[w.heap.size]? = some (.cells #[.slice (some ⟨b, 0, none⟩) 1 cap] 114)) ?_ ?_
  · refine ⟨?_, ?_⟩
    · repeat' (first | with_reducible assumption | with_reducible exact AnyLater.refl _ | with_reducible apply AnyLater.setCell | with_reducible apply AnyLater.later | with_reducible apply AnyLater.drewN | with_reducible apply AnyLater.drew | with_reducible apply AnyLater.alloc | ((try simp only [World.size_alloc, World.size_setCell, World.size_drew]); (try dsimp only); omega))
    · ((repeat (first | with_reducible assumption | ((with_reducible apply heap_new); (try simp only [World.size_alloc, World.size_setCell, World.size_drew, World.heap_drewN]); done) | ((with_reducible apply heap_new); (try simp only [World.size_alloc, World.size_setCell, World.size_drew, World.heap_drewN]); omega) | (with_reducible refine heap_old (by (try simp only [World.size_alloc, World.size_setCell, World.size_drew, World.heap_drewN]); omega) ?_) | (with_reducible refine heap_drew ?_) | (with_reducible refine heap_far (by omega) ?_) | (with_reducible apply heap_at))); all_goals rfl)
  rintro w1 ⟨b_w1, s0_w1⟩
  have a_w1 := b_w1
  have r0_w1 := own_row s0_w1
  have f0_w1 := own_free s0_w1
  have l0_w1 := own_lt s0_w1
  have z_w1 := b_w1.below.size
  have c1 := (HC.out.later a_w1).cell
  refine wp_loop_rounds 2 ?_
  rw [rounds_succ]
  go_wp2_with fail
  refine (HL.out _ a_w1).mono ?_
  rintro e w2 ⟨rfl, b_w2⟩
  have z_w2 := b_w2.below.size
  have a_w2 := a_w1.trans b_w2
  have s0_w2 := any_own b_w2 s0_w1
  have r0_w2 := own_row s0_w2
  have f0_w2 := own_free s0_w2
  have l0_w2 := own_lt s0_w2
  (try clear r0_w1); (try clear f0_w1)
  go_wp2_with fail
  refine (HL.out _ a_w2).mono ?_
  rintro e w3 ⟨rfl, b_w3⟩
  have z_w3 := b_w3.below.size
  have a_w3 := a_w2.trans b_w3
  have s0_w3 := any_own b_w3 s0_w2
  have r0_w3 := own_row s0_w3
  have f0_w3 := own_free s0_w3
  have l0_w3 := own_lt s0_w3
  (try clear r0_w2); (try clear f0_w2)
  go_wp2_with fail
  rw [rounds_succ]
  go_wp2_with fail
  refine bodyPost_ret (v := .tuple #[.pointer none, .int .i64 0]) (by simp [results, Tryz.results142, go_sem]) rfl ⟨rfl, ?_⟩
  exact a_w3
def wiV (c : Cw) (i : Int) : Value := match c.sq with
  | none => .tuple #[.pointer none, .int .i64 0]
  | some (g, t) => if i < t.hs.length then .tuple #[.pointer (some ⟨g, 0, none⟩), .int .i64 i] else .tuple #[.pointer none, .int .i64 0]
theorem hgwithin_any (v : Value) (c : Cw) (l : Qs) (i : Int) (w : World) (h : IsCh B w v c l) : Calls Tryz.prog 142 #[.agg #[v], .int .i64 i] w fun e w' => e = .returned (wiV c i) ∧ AnyLater w w' := by
  unfold wiV
  rcases h.cases with ⟨hs, rfl, A, cap, rfl⟩ | ⟨b, cap, g, t, hs, rfl, k, rfl⟩
  · rw [hs]; exact hgwithin_none A cap i w
  · rw [hs]
    by_cases hi : i < t.hs.length
    · simp only [hi, if_true]; exact hgwithin_in b cap g t i w k hi
    · simp only [hi, if_false]; exact hgwithin_out b cap g t i w k hi
theorem IsCh.slc {w : World} {v : Value} {c : Cw} {l : Qs} (h : IsCh B w v c l) : ∃ A n cap, v = .slice A n cap := by
  rcases h.cases with ⟨hs, rfl, A, cap, rfl⟩ | ⟨b, cap, g, t, hs, rfl, k, rfl⟩
  · exact ⟨_, _, _, rfl⟩
  · exact ⟨_, _, _, rfl⟩
end Go.Proofs.YtamhnffokoejjaaGreatDoor
namespace Go.Proofs.YtamhnffokoejjaaGreatDoor
set_option linter.unusedSimpArgs false
set_option linter.unusedVariables false
set_option linter.unusedSectionVars false
open Go.RowKit
variable {B : Nat}
theorem hrun_min {P : Program} (w : World) (ts : Array TypeId) (t : TypeId) (p q : Int) : (Builtin.min_ ts t #[.int .i64 p, .int .i64 q]).run P w = .ok (.int .i64 (min p q)) w := by
  rw [run_min_int2]
  split
  · rw [Int.min_eq_right (by omega)]
  · rw [Int.min_eq_left (by omega)]
set_option maxRecDepth 100000 in
theorem hgsum_none (A : Option Addr) (cap : Nat) (i : Int) (w : World) : Calls Tryz.prog 77 #[.agg #[.slice A 0 cap], .int .i64 i] w fun e w' => e = .returned (.agg #[.int .i64 0, .int .i64 0]) ∧ AnyLater w w' := by
  go_enter Tryz.func77, Tryz.ntmps77
  go_wp2_with fail
  refine wp_loop_rounds 1 ?_
  rw [rounds_succ]
  go_wp2_with fail
  refine bodyPost_ret (v := .agg #[.int .i64 0, .int .i64 0]) (by simp [results, Tryz.results77, go_sem, *]) rfl ⟨rfl, ?_⟩
  repeat' (first | with_reducible assumption | with_reducible exact AnyLater.refl _ | with_reducible apply AnyLater.setCell | with_reducible apply AnyLater.later | with_reducible apply AnyLater.drewN | with_reducible apply AnyLater.drew | with_reducible apply AnyLater.alloc | ((try simp only [World.size_alloc, World.size_setCell, World.size_drew]); (try dsimp only); omega))
set_option maxRecDepth 100000 in
theorem hgsum_one (b cap g : Nat) (t : Ht) (i : Int) (w : World) (R Hh : Int) (hR : tlR (t.hs.take (sumN t.hs i)) = R) (hH : tlH (t.hs.take (sumN t.hs i)) = Hh) (h : ChOne B w b g t) : Calls Tryz.prog 77 #[.agg #[.slice (some ⟨b, 0, none⟩) 1 cap], .int .i64 i] w fun e w' => e = .returned (.agg #[.int .i64 R, .int .i64 Hh]) ∧ AnyLater w w' := by
  have hb := h.q.ok.tls.bound (by have := h.q.ok.most; omega) (sumN t.hs i)
  rw [hR, hH] at hb
  have HS := Lib.hid (fun (w' : World) (a : AnyLater w w') => sqsum_any (.pointer (some ⟨g, 0, none⟩)) t i w' R Hh hR hH (h.q.q.nil_or.later a) h.q.fit)
  have HL := Lib.hid (fun (w' : World) (a : AnyLater w w') => sqlen_any (.pointer (some ⟨g, 0, none⟩)) t w' (h.q.q.nil_or.later a) h.q.fit)
  have hm := h.q.ok.most
  have HC := Lib.hid h
  obtain ⟨⟨b1, b2⟩, b3, b4⟩ := hb
  clear h hR hH
  generalize t.hs.length = n at *
  obtain ⟨z, hz⟩ : ∃ z, min i (n : Int) = z := ⟨_, rfl⟩
  have hmn : ∀ (w : World) (ts : Array TypeId) (ty : TypeId), (Builtin.min_ ts ty #[.int .i64 i, .int .i64 (n : Int)]).run Tryz.prog w = .ok (.int .i64 z) w := fun w ts ty => by rw [hrun_min, hz]
  clear hz
  go_enter Tryz.func77, Tryz.ntmps77
  go_wp2_with fail
  first | refine settle_wp (fun wS => AnyLater w wS ∧ wS.heap[w.heap.size]? = some (.cells #[.slice (some ⟨b, 0, none⟩) 1 cap] 114) ∧ wS.heap[w.heap.size + 1]? = some (.cells #[.int .i64 0, .int .i64 0] 61) ∧ wS.heap[w.heap.size + 2]? = some (.cells #[.int .i64 0, .int .i64 0] 61)) ?_ ?_ | refine settle_calls (fun wS => AnyLater w wS ∧ wS.heap[w.heap.size]? = some (.cells #[.slice (some ⟨b, 0, none⟩) 1 cap] 114) ∧ wS.heap[w.heap.size + 1]? = some (.cells #[.int .i64 0, .int .i64 0] 61) ∧ wS.heap[w.heap.size + 2]? = some (.cells #[.int .i64 0, .int .i64 0] 61)) ?_ ?_
  · refine ⟨?_, ?_, ?_, ?_⟩
    · repeat' (first | with_reducible assumption | with_reducible exact AnyLater.refl _ | with_reducible apply AnyLater.setCell | with_reducible apply AnyLater.later | with_reducible apply AnyLater.drewN | with_reducible apply AnyLater.drew | with_reducible apply AnyLater.alloc | ((try simp only [World.size_alloc, World.size_setCell, World.size_drew]); (try dsimp only); omega))
    · ((repeat (first | with_reducible assumption | ((with_reducible apply heap_new); (try simp only [World.size_alloc, World.size_setCell, World.size_drew, World.heap_drewN]); done) | ((with_reducible apply heap_new); (try simp only [World.size_alloc, World.size_setCell, World.size_drew, World.heap_drewN]); omega) | (with_reducible refine heap_old (by (try simp only [World.size_alloc, World.size_setCell, World.size_drew, World.heap_drewN]); omega) ?_) | (with_reducible refine heap_drew ?_) | (with_reducible refine heap_far (by omega) ?_) | (with_reducible apply heap_at))); all_goals rfl)
    · ((repeat (first | with_reducible assumption | ((with_reducible apply heap_new); (try simp only [World.size_alloc, World.size_setCell, World.size_drew, World.heap_drewN]); done) | ((with_reducible apply heap_new); (try simp only [World.size_alloc, World.size_setCell, World.size_drew, World.heap_drewN]); omega) | (with_reducible refine heap_old (by (try simp only [World.size_alloc, World.size_setCell, World.size_drew, World.heap_drewN]); omega) ?_) | (with_reducible refine heap_drew ?_) | (with_reducible refine heap_far (by omega) ?_) | (with_reducible apply heap_at))); all_goals rfl)
    · ((repeat (first | with_reducible assumption | ((with_reducible apply heap_new); (try simp only [World.size_alloc, World.size_setCell, World.size_drew, World.heap_drewN]); done) | ((with_reducible apply heap_new); (try simp only [World.size_alloc, World.size_setCell, World.size_drew, World.heap_drewN]); omega) | (with_reducible refine heap_old (by (try simp only [World.size_alloc, World.size_setCell, World.size_drew, World.heap_drewN]); omega) ?_) | (with_reducible refine heap_drew ?_) | (with_reducible refine heap_far (by omega) ?_) | (with_reducible apply heap_at))); all_goals rfl)
  rintro w1 ⟨b_w1, s0_w1, s1_w1, s2_w1⟩
  have a_w1 := b_w1
  have r0_w1 := own_row s0_w1
  have f0_w1 := own_free s0_w1
  have l0_w1 := own_lt s0_w1
  have r1_w1 := own_row s1_w1
  have f1_w1 := own_free s1_w1
  have l1_w1 := own_lt s1_w1
  have r2_w1 := own_row s2_w1
  have f2_w1 := own_free s2_w1
  have l2_w1 := own_lt s2_w1
  have z_w1 := b_w1.below.size
  have c1 := (HC.out.later a_w1).cell
  refine wp_loop_rounds 2 ?_
  rw [rounds_succ]
  go_wp2_with fail
  refine (HS.out _ a_w1).mono ?_
  rintro e w2 ⟨rfl, b_w2⟩
  have z_w2 := b_w2.below.size
  have a_w2 := a_w1.trans b_w2
  have s0_w2 := any_own b_w2 s0_w1
  have s1_w2 := any_own b_w2 s1_w1
  have s2_w2 := any_own b_w2 s2_w1
  have r0_w2 := own_row s0_w2
  have f0_w2 := own_free s0_w2
  have l0_w2 := own_lt s0_w2
  have r1_w2 := own_row s1_w2
  have f1_w2 := own_free s1_w2
  have l1_w2 := own_lt s1_w2
  have r2_w2 := own_row s2_w2
  have f2_w2 := own_free s2_w2
  have l2_w2 := own_lt s2_w2
  (try clear r0_w1); (try clear f0_w1)
  (try clear r1_w1); (try clear f1_w1)
  (try clear r2_w1); (try clear f2_w1)
  go_wp2_with fail
  first | refine settle_wp (fun wS => AnyLater w wS ∧ wS.heap[w.heap.size]? = some (.cells #[.slice (some ⟨b, 0, none⟩) 1 cap] 114) ∧ wS.heap[w.heap.size + 1]? = some (.cells #[.int .i64 0, .int .i64 0] 61) ∧ wS.heap[w.heap.size + 2]? = some (.cells #[.int .i64 R, .int .i64 Hh] 61)) ?_ ?_ | refine settle_calls (fun wS => AnyLater w wS ∧ wS.heap[w.heap.size]? = some (.cells #[.slice (some ⟨b, 0, none⟩) 1 cap] 114) ∧ wS.heap[w.heap.size + 1]? = some (.cells #[.int .i64 0, .int .i64 0] 61) ∧ wS.heap[w.heap.size + 2]? = some (.cells #[.int .i64 R, .int .i64 Hh] 61)) ?_ ?_
  · refine ⟨?_, ?_, ?_, ?_⟩
    · repeat' (first | with_reducible assumption | with_reducible exact AnyLater.refl _ | with_reducible apply AnyLater.setCell | with_reducible apply AnyLater.later | with_reducible apply AnyLater.drewN | with_reducible apply AnyLater.drew | with_reducible apply AnyLater.alloc | ((try simp only [World.size_alloc, World.size_setCell, World.size_drew]); (try dsimp only); omega))
    · ((repeat (first | with_reducible assumption | ((with_reducible apply heap_new); (try simp only [World.size_alloc, World.size_setCell, World.size_drew, World.heap_drewN]); done) | ((with_reducible apply heap_new); (try simp only [World.size_alloc, World.size_setCell, World.size_drew, World.heap_drewN]); omega) | (with_reducible refine heap_old (by (try simp only [World.size_alloc, World.size_setCell, World.size_drew, World.heap_drewN]); omega) ?_) | (with_reducible refine heap_drew ?_) | (with_reducible refine heap_far (by omega) ?_) | (with_reducible apply heap_at))); all_goals rfl)
    · ((repeat (first | with_reducible assumption | ((with_reducible apply heap_new); (try simp only [World.size_alloc, World.size_setCell, World.size_drew, World.heap_drewN]); done) | ((with_reducible apply heap_new); (try simp only [World.size_alloc, World.size_setCell, World.size_drew, World.heap_drewN]); omega) | (with_reducible refine heap_old (by (try simp only [World.size_alloc, World.size_setCell, World.size_drew, World.heap_drewN]); omega) ?_) | (with_reducible refine heap_drew ?_) | (with_reducible refine heap_far (by omega) ?_) | (with_reducible apply heap_at))); all_goals rfl)
    · ((repeat (first | with_reducible assumption | ((with_reducible apply heap_new); (try simp only [World.size_alloc, World.size_setCell, World.size_drew, World.heap_drewN]); done) | ((with_reducible apply heap_new); (try simp only [World.size_alloc, World.size_setCell, World.size_drew, World.heap_drewN]); omega) | (with_reducible refine heap_old (by (try simp only [World.size_alloc, World.size_setCell, World.size_drew, World.heap_drewN]); omega) ?_) | (with_reducible refine heap_drew ?_) | (with_reducible refine heap_far (by omega) ?_) | (with_reducible apply heap_at))); all_goals rfl)
  rintro w3 ⟨b_w3, s0_w3, s1_w3, s2_w3⟩
  have a_w3 := b_w3
  have r0_w3 := own_row s0_w3
  have f0_w3 := own_free s0_w3
  have l0_w3 := own_lt s0_w3
  have r1_w3 := own_row s1_w3
  have f1_w3 := own_free s1_w3
  have l1_w3 := own_lt s1_w3
  have r2_w3 := own_row s2_w3
  have f2_w3 := own_free s2_w3
  have l2_w3 := own_lt s2_w3
  have z_w3 := b_w3.below.size
  refine (HL.out _ a_w3).mono ?_
  rintro e w4 ⟨rfl, b_w4⟩
  have z_w4 := b_w4.below.size
  have a_w4 := a_w3.trans b_w4
  have s0_w4 := any_own b_w4 s0_w3
  have s1_w4 := any_own b_w4 s1_w3
  have s2_w4 := any_own b_w4 s2_w3
  have r0_w4 := own_row s0_w4
  have f0_w4 := own_free s0_w4
  have l0_w4 := own_lt s0_w4
  have r1_w4 := own_row s1_w4
  have f1_w4 := own_free s1_w4
  have l1_w4 := own_lt s1_w4
  have r2_w4 := own_row s2_w4
  have f2_w4 := own_free s2_w4
  have l2_w4 := own_lt s2_w4
  (try clear r0_w3); (try clear f0_w3)
  (try clear r1_w3); (try clear f1_w3)
  (try clear r2_w3); (try clear f2_w3)
  go_wp2_with fail
  rw [rounds_succ]
  go_wp2_with fail
  refine bodyPost_ret (v := .agg #[.int .i64 R, .int .i64 Hh]) (by simp [results, Tryz.results77, go_sem, *]) rfl ⟨rfl, ?_⟩
  repeat' (first | with_reducible assumption | with_reducible exact AnyLater.refl _ | with_reducible apply AnyLater.setCell | with_reducible apply AnyLater.later | with_reducible apply AnyLater.drewN | with_reducible apply AnyLater.drew | with_reducible apply AnyLater.alloc | ((try simp only [World.size_alloc, World.size_setCell, World.size_drew]); (try dsimp only); omega))
theorem hgsum_any (v : Value) (c : Cw) (l : Qs) (i : Int) (w : World) (R Hh : Int) (hR : tlR (l.take (sumN l i)) = R) (hH : tlH (l.take (sumN l i)) = Hh) (h : IsCh B w v c l) : Calls Tryz.prog 77 #[.agg #[v], .int .i64 i] w fun e w' => e = .returned (.agg #[.int .i64 R, .int .i64 Hh]) ∧ AnyLater w w' := by
  rcases h.cases with ⟨_, rfl, A, cap, rfl⟩ | ⟨b, cap, g, t, _, rfl, k, rfl⟩
  · rw [List.take_nil] at hR hH
    subst hR
    subst hH
    exact hgsum_none A cap i w
  · exact hgsum_one b cap g t i w R Hh hR hH k
theorem sumN_all (l : Qs) : sumN l (l.length : Int) = l.length := by
  unfold sumN clcClamp
  split
  · omega
  · split <;> omega
end Go.Proofs.YtamhnffokoejjaaGreatDoor
