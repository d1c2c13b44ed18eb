/- what the proof stands on: ScnD ScnE ScnF ScnG ScnH ScnL ScnM ScnR -/
import Derived.Shelf.SlLaysF0
import Derived.Ground.SlsfProg
import Derived.Shelf.SlGeneric
import Derived.Shelf.SlSortCmp.WholeK
import Derived.Shelf.SlSortCmp.NoneTotal
import Derived.Lib.AppendZeros
import Derived.Deep.Upon
import Derived.Test.YtamhnffokoejjaaGreatDoorKnbg
import Derived.Test.YtamhnffokoejjaaGreatDoorKnbl
import Derived.Test.YtamhnffokoejjaaGreatDoorKnbm
import Derived.Test.YtamhnffokoejjaaGreatDoorKnap
import Derived.Test.YtamhnffokoejjaaGreatDoorKnbi
import Derived.Test.YtamhnffokoejjaaGreatDoorChecked
import Derived.Test.YtamhnffokoejjaaGreatDoorKnai
import Derived.Test.YtamhnffokoejjaaGreatDoorKnax
import Derived.Deep.LoopGhost
import Derived.BigRegion
import Derived.Test.YtamhnffokoejjaaGreatDoorKnbe
import Derived.Test.YtamhnffokoejjaaGreatDoorKnat
import Derived.Test.YtamhnffokoejjaaGreatDoorKnaj
import Derived.Test.YtamhnffokoejjaaGreatDoorKnbn
import Derived.Deep.DeepCutAuto
import Derived.Test.YtamhnffokoejjaaGreatDoorKnac
namespace Go.Proofs.YtamhnffokoejjaaGreatDoor
set_option linter.unusedSimpArgs false
set_option linter.unusedVariables false
set_option linter.unusedSectionVars false
open Go.RowKit
def MvT (t : TypeId) : Prop := t = 81 ∨ t = 146 ∨ t = 116 ∨ t = 166 ∨ t = 211 ∨ t = 249 ∨ t = 61
def Mv (B : Nat) (w : World) (b : Nat) : Prop := B ≤ b ∧ ∃ cs t m, w.heap[b]? = some (.cells cs t m) ∧ MvT t
def Ch (B : Nat) (w w' : World) : Prop := Stays (Mv B w) w w'
theorem Ch.own {B : Nat} {w w' : World} {k : Nat} {cs : Array Value} {t : TypeId} {m : Nat × Nat} (h : Ch B w w') (hk : w.heap[k]? = some (.cells cs t m)) (ht : ¬ MvT t) : w'.heap[k]? = some (.cells cs t m) :=
  Stays.own h hk (fun ⟨_, cs', t', m', h2, h3⟩ => by rw [hk] at h2; cases h2; exact ht h3)
theorem Ch.cell {B : Nat} {w w' : World} {b : Nat} {o : Nat} {cs : Array Value} {t : TypeId} {m : Nat × Nat} {x : Value} (h : Ch B w w') (hk : w.heap[b]? = some (.cells cs t m)) (ht : ¬ MvT t) (hx : w.cell? ⟨b, o, none⟩ = some x) : w'.cell? ⟨b, o, none⟩ = some x := by
  have h2 := h.own hk ht
  have e : ∀ {v : World}, v.heap[b]? = some (.cells cs t m) → v.cell? ⟨b, o, none⟩ = cs[o]? := fun q => by simp [World.cell?, q]
  rw [e h2, ← e hk]; exact hx
theorem not_run : ¬ MvT 76 := by unfold MvT; decide
theorem not_spn : ¬ MvT 69 := by unfold MvT; decide
theorem not_int : ¬ MvT 3 := by unfold MvT; decide
theorem not_u8 : ¬ MvT 5 := by unfold MvT; decide
theorem not_i32 : ¬ MvT 21 := by unfold MvT; decide
theorem not_rnd : ¬ MvT 193 := by unfold MvT; decide
theorem not_txt : ¬ MvT 135 := by unfold MvT; decide
theorem RRt.ch {B : Nat} {w w' : World} {v : Value} {l : Runs} (h : RRt w v l) (c : Ch B w w') : RRt w' v l := by
  obtain ⟨⟨A, cap, rfl, h2, h3⟩, h4⟩ := h
  refine ⟨⟨A, cap, rfl, h2, fun h0 => ?_⟩, fun b hb => ?_⟩
  · obtain ⟨b, off, rfl, hb, hc⟩ := h3 h0
    obtain ⟨cs, hcs⟩ := h4 b rfl
    exact ⟨b, off, rfl, Nat.lt_of_lt_of_le hb c.size, fun j hj => ⟨c.cell hcs not_run (hc j hj).1, c.cell hcs not_run (hc j hj).2⟩⟩
  · obtain ⟨cs, hcs⟩ := h4 b hb
    exact ⟨cs, c.own hcs not_run⟩
theorem QT.ch {B : Nat} {w w' : World} {v : Value} {l : Qs} (h : QT w v l) (c : Ch B w w') : QT w' v l := by
  obtain ⟨⟨A, cap, rfl, h2, h3⟩, h4⟩ := h
  refine ⟨⟨A, cap, rfl, h2, fun h0 => ?_⟩, fun b hb => ?_⟩
  · obtain ⟨b, off, rfl, hb, hc⟩ := h3 h0
    obtain ⟨cs, hcs⟩ := h4 b rfl
    exact ⟨b, off, rfl, Nat.lt_of_lt_of_le hb c.size, fun j hj => ⟨c.cell hcs not_spn (hc j hj).1, c.cell hcs not_spn (hc j hj).2⟩⟩
  · obtain ⟨cs, hcs⟩ := h4 b hb
    exact ⟨cs, c.own hcs not_spn⟩
theorem RT.ch {B : Nat} {k : IntKind} {t : TypeId} {w w' : World} {v : Value} {l : List Int} (h : RT k t w v l) (c : Ch B w w') (ht : ¬ MvT t) : RT k t w' v l := by
  obtain ⟨A, cap, h1, h2, h3⟩ := h
  refine ⟨A, cap, h1, h2, fun h0 => ?_⟩
  obtain ⟨b, off, cs, m, e, hb, hc⟩ := h3 h0
  exact ⟨b, off, cs, m, e, c.own hb ht, hc⟩
theorem IsT.ch {B : Nat} {w w' : World} (c : Ch B w w') : ∀ {t : Tr} {v : Value}, IsT w t v → IsT w' t v
  | .nil, _, h => h
  | .node l p r, v, h => by
    obtain ⟨k, lv, rv, bv, fv, q1, q2, q3, q4, q5⟩ := h
    exact ⟨k, lv, rv, bv, fv, q1, c.own q2 not_rnd, IsT.ch c q3, IsT.ch c q4, q5.1.ch c not_u8, q5.2.ch c not_i32⟩
theorem HAt.off {B : Nat} {S : Nat → Prop} {w w' : World} {hg : Nat} {K : List Nat} {L : Qs} {H : List Bool} (h : HAt B w hg K L H) (st : Stays S w w') (hS : ∀ b, S b → ∃ cs t m, w.heap[b]? = some (.cells cs t m) ∧ (t = 81 ∨ t = 146)) : HAt B w' hg K L H :=
  h.stays st (fun b hb hs => by
    obtain ⟨cs, t, m, e, q⟩ := hS b hs
    obtain ⟨cs', t', e', q'⟩ := HC.kind h hb
    rw [e] at e'
    cases e'
    rcases q with rfl | rfl <;> rcases q' with q' | q' | ⟨_, q' | q' | q'⟩ <;> exact absurd q' (by decide))
theorem HAt.mono {B C : Nat} {w : World} {hg : Nat} {K : List Nat} {L : Qs} {H : List Bool} (h : HAt B w hg K L H) (hC : C ≤ B) : HAt C w hg K L H := by
  obtain ⟨v1, v2, v3, c1, c2, c3, h0, h1, h2, h3, d⟩ := h.ex
  exact ⟨⟨v1, v2, v3, c1, c2, c3, h0, h1.mono hC, h2.mono hC, h3.mono hC, d⟩, Nat.le_trans hC h.base, h.len⟩
structure Sc where
  b : List Int
  S : List Int
  F : Qs
  most : Int
  wd : Int
  ld : Int
structure ScV where
  tg : Nat
  g : Nat
  hg : Nat
  t : Tr
  K : List Nat
  v1 : Value
  v2 : Value
  v3 : Value
def scC (x : ScV) (m : Sc) : Array Value := #[.pointer (some ⟨x.tg, 0, none⟩), .int .i64 m.most, x.v1, x.v2, x.v3, .int .i64 m.wd, .pointer (some ⟨x.hg, 0, none⟩), .int .i64 m.ld]
structure Sc.Ok (m : Sc) : Prop where
  by_ : Bytes m.b
  sl : m.S.length = m.b.length
  sg : ∀ s ∈ m.S, goodS s = true
  len : m.b.length ≤ 900
  fg : goodZ m.b.length 0 m.F = true
  fl : m.F.length ≤ 100
  most : (m.b.length : Int) ≤ m.most ∧ m.most ≤ 16777216
  wd : 1 ≤ m.wd ∧ m.wd ≤ 4096
  ld : 0 ≤ m.ld ∧ m.ld ≤ 1000000000
structure SP_ (B : Nat) (w : World) (s : Nat) (x : ScV) (m : Sc) (b S : List Int) (L : Qs) (H : List Bool) : Prop where
  blk : w.heap[s]? = some (.cells (scC x m) 81)
  tx : IsTx w x.tg x.g m.most x.t
  tok : x.t.Ok
  tb : x.t.bs = b
  runs : RRt w x.v1 (ofR S)
  ends : RT .i64 3 w x.v2 (endsR (ofR S))
  folds : QT w x.v3 m.F
  hts : HAt B w x.hg x.K L H
  bs : B ≤ s
  bg : B ≤ x.g
theorem SP_.later {B : Nat} {w w' : World} {s : Nat} {x : ScV} {m : Sc} {b S : List Int} {L : Qs} {H : List Bool} (h : SP_ B w s x m b S L H) (a : AnyLater w w') : SP_ B w' s x m b S L H :=
  ⟨any_own a h.blk, h.tx.later a, h.tok, h.tb, h.runs.later a, h.ends.later a, h.folds.later a, h.hts.later a, h.bs, h.bg⟩
theorem IsTx.ch_ {B : Nat} {w w' : World} {tg g : Nat} {most : Int} {t : Tr} (h : IsTx w tg g most t) (c : Ch B w w') (hg : w'.heap[g]? = w.heap[g]?) : IsTx w' tg g most t := by
  obtain ⟨h1, rv, h2, h3⟩ := h
  exact ⟨c.own h1 not_txt, rv, hg.trans h2, IsT.ch c h3⟩
def scB (x : ScV) (m : Sc) (hv : Value) : Array Value := #[.pointer (some ⟨x.tg, 0, none⟩), .int .i64 m.most, x.v1, x.v2, x.v3, .int .i64 m.wd, hv, .int .i64 m.ld]
structure SB_ (w : World) (s : Nat) (x : ScV) (m : Sc) (b S : List Int) (hv : Value) : Prop where
  blk : w.heap[s]? = some (.cells (scB x m hv) 81)
  tx : IsTx w x.tg x.g m.most x.t
  tok : x.t.Ok
  tb : x.t.bs = b
  runs : RRt w x.v1 (ofR S)
  ends : RT .i64 3 w x.v2 (endsR (ofR S))
theorem SB_.later {w w' : World} {s : Nat} {x : ScV} {m : Sc} {b S : List Int} {hv : Value} (h : SB_ w s x m b S hv) (a : AnyLater w w') : SB_ w' s x m b S hv := ⟨any_own a h.blk, h.tx.later a, h.tok, h.tb, h.runs.later a, h.ends.later a⟩
theorem SP_.sb {B : Nat} {w : World} {s : Nat} {x : ScV} {m : Sc} {b S : List Int} {L : Qs} {H : List Bool} (h : SP_ B w s x m b S L H) : SB_ w s x m b S (.pointer (some ⟨x.hg, 0, none⟩)) := ⟨h.blk, h.tx, h.tok, h.tb, h.runs, h.ends⟩
end Go.Proofs.YtamhnffokoejjaaGreatDoor
namespace Go.Proofs.YtamhnffokoejjaaGreatDoor
set_option linter.unusedSimpArgs false
set_option linter.unusedVariables false
set_option linter.unusedSectionVars false
open Go.RowKit
open Classical in
noncomputable def cntN (l : List Int) : Nat := if h : ∃ c, Cnt l c then h.choose else 0
theorem cntN_is {l : List Int} (hb : Bytes l) : Cnt l (cntN l) := by
  obtain ⟨c, h, _⟩ := cnt_ex hb
  have hx : ∃ c, Cnt l c := ⟨c, h⟩
  unfold cntN
  rw [dif_pos hx]
  exact hx.choose_spec
noncomputable def rowsL (wd : Int) (l st : List Int) : List Ld := linesL (celsU l (fun p => st.getD p 0) (cntN l)) wd
noncomputable def talL (wd : Int) (l st : List Int) : Int × Int := (((rowsL wd l st).length : Int), sumL (rowsL wd l st))
structure TOk (b S : List Int) : Prop where
  by_ : Bytes b
  sl : S.length = b.length
  sg : ∀ s ∈ S, goodS s = true
  len : b.length ≤ 900
theorem Sc.Ok.t {m : Sc} (h : m.Ok) : TOk m.b m.S := ⟨h.by_, h.sl, h.sg, h.len⟩
theorem lineC_bytes {b X : List Int} (h : Bytes X) (k : Nat) : Bytes (lineC b X k) := fun c hc => h c (List.mem_of_mem_take (List.mem_of_mem_drop hc))
theorem lineC_good {b X : List Int} (h : ∀ s ∈ X, goodS s = true) (k : Nat) : ∀ s ∈ lineC b X k, goodS s = true := fun c hc => h c (List.mem_of_mem_take (List.mem_of_mem_drop hc))
theorem TOk.styles {b S : List Int} (h : TOk b S) : stylesR (ofR S) = S := styles_of h.sg (by have := h.sl; have := h.len; omega)
theorem TOk.fairs {b S : List Int} (h : TOk b S) : Fairs (ofR S) := fairs_of h.sg (by have := h.sl; have := h.len; omega)
theorem TOk.runs {b S : List Int} (h : TOk b S) : (ofR S).length ≤ 900 := by have := ofR_length S; have := h.sl; have := h.len; omega
theorem TOk.line {b S : List Int} (h : TOk b S) {k : Nat} (hk : k ≤ (feN 0 b).length) : ∃ s n : Nat, lnS (feN 0 b) k = s ∧ lnE (feN 0 b) b.length k = ((s + n : Nat) : Int) ∧ s + n ≤ b.length ∧ (lineC b b k).length = n ∧ (lineC b S k).length = n := by
  have hF := feedsOk b
  have h0 := hF.s0 hk
  have h1 := hF.se hk
  have h2 := hF.en hk
  obtain ⟨s, hs⟩ := Int.eq_ofNat_of_zero_le h0
  obtain ⟨e, he⟩ := Int.eq_ofNat_of_zero_le (show 0 ≤ lnE (feN 0 b) b.length k by omega)
  have hl := h.sl
  refine ⟨s, e - s, hs, by omega, by omega, ?_, ?_⟩
  · unfold lineC; rw [hs, he, cutZ_length (by omega)]
  · unfold lineC; rw [hs, he, cutZ_length (by omega)]
theorem rows_same {wd : Int} {l st : List Int} {Q : Runs} (hb : Bytes l) (hl : st.length = l.length) (hq : stylesR Q = st) (h9 : l.length ≤ 900) : linesL (celsU l (fun p => (styD Q 0 l.length).getD p 0) (cntN l)) wd = rowsL wd l st := by
  unfold rowsL
  rw [celsU_congr (cntN_is hb) (sty2 := fun p => st.getD p 0) (fun p hp => ?_)]
  rw [stA_part (by rw [hq]; omega) 0 hp, hq]
  unfold stA
  rw [if_pos (by omega)]
  simp
theorem rowsL_few {wd : Int} {l st : List Int} (hb : Bytes l) : (rowsL wd l st).length ≤ l.length + 1 := by
  have h1 := (linesL_few (celsU l (fun p => st.getD p 0) (cntN l)) wd).1
  rw [celsU_length] at h1
  have := (cntN_is hb).le hb
  unfold rowsL
  omega
def IsPart (st : List Int) (u : Value) (w : World) : Prop := ∃ Q : Runs, RRn w u Q ∧ stylesR Q = st ∧ NumsR Q ∧ Q.length ≤ 60000
theorem IsPart.later {st : List Int} {u : Value} {w w' : World} (a : AnyLater w w') (h : IsPart st u w) : IsPart st u w' := by
  obtain ⟨Q, h1, h2⟩ := h
  exact ⟨Q, h1.later a, h2⟩
theorem Lds.mono {B C : Nat} {w : World} {v : Value} {L : List Ld} (h : Lds w B v L) (hC : C ≤ B) : Lds w C v L := by
  obtain ⟨lv, h1, h2, h3⟩ := h
  exact ⟨lv, owns_base' h1 hC, h2, fun j k k' => ⟨⟨owns_base' (h3 j k k').1.1 hC, owns_base' (h3 j k k').1.2 hC⟩, (h3 j k k').2⟩⟩
set_option maxRecDepth 100000 in
set_option maxHeartbeats 1600000 in
theorem srowsB_any {s : Nat} {x : ScV} {m : Sc} {b S : List Int} {hv : Value} (k : Nat) (w : World) (h : SB_ w s x m b S hv) (ok : TOk b S) (hg : GlobU w) (hwd : I64s m.wd) (hk : k ≤ (feN 0 b).length) :
    Calls Tryz.prog 75 #[.pointer (some ⟨s, 0, none⟩), .int .i64 (k : Int)] w fun e w' => ∃ u, e = .returned u ∧ AnyLater w w' ∧ Lds w' w.heap.size u (rowsL m.wd (lineC b b k) (lineC b S k)) := by
  obtain ⟨s0, n, e1, e2, e3, e4, e5⟩ := ok.line hk
  have hkt : k ≤ x.t.nf := by rw [← fds_len]; unfold fds; rw [h.tb]; exact hk
  have HTL := Lib.hid (fun (w' : World) (a : AnyLater w w') => tline_yes x.tg x.g m.most x.t k (lineC b b k) w' (h.tx.later a) h.tok hkt (by unfold fds lineC; rw [← Tr.len_bs, h.tb]))
  have HST := Lib.hid (fun (w' : World) (a : AnyLater w w') => tstart_yes x.tg x.g m.most x.t k (s0 : Int) w' (h.tx.later a) h.tok hkt (by unfold fds; rw [h.tb, e1]))
  have hstL : stylesR (ofR S) = S := ok.styles
  have hrl := ok.runs
  have HP := Lib.hid (fun (w' : World) (a : AnyLater w w') => spart_any x.v1 x.v2 (ofR S) s0 (s0 + n) w' (h.runs.1.later a) (h.ends.rn.later a) ok.fairs (by omega) (by rw [hstL, ok.sl]; exact e3) (by omega) (by rw [hstL, ok.sl]; have := ok.len; omega))
  rw [hstL] at HP
  have hlb := lineC_bytes ok.by_ k (b := b)
  have hcS : cutZ S (s0 : Int) ((s0 + n : Nat) : Int) = lineC b S k := by unfold lineC; rw [e1, e2]
  rw [hcS] at HP
  have hn9 : n ≤ 900 := by have := ok.len; omega
  have HML := Lib.hid (fun (w' : World) (v vr : Value) (Q : Runs) (a : AnyLater w w') (hv : RN .u8 w' v (lineC b b k)) (hr : RRn w' vr Q) (hq : stylesR Q = lineC b S k) (hN : NumsR Q) (hl : Q.length ≤ 60000) => (by
    have := mline_any v vr (lineC b b k) Q 0 m.wd (cntN (lineC b b k)) w' hv hlb (by omega) (hg.later a) (cntN_is hlb) hr hN (by omega) (by constructor <;> omega) hwd
    rwa [rows_same hlb (by rw [e4, e5]) hq (by omega)] at this : Calls Tryz.prog 116 #[v, vr, .int .i64 0, .int .i64 m.wd] w' fun e w'' => ∃ u, e = .returned u ∧ AnyLater w' w'' ∧ Lds w'' w'.heap.size u (rowsL m.wd (lineC b b k) (lineC b S k))))
  have HBK := Lib.hid h.blk
  have HGL := Lib.hid e4
  have hsn : s0 + n ≤ 900 := by have := ok.len; omega
  clear e1 e2 e3 e5 hkt hstL hrl hlb hcS ok hk hg
  obtain ⟨tg, g, hgt, t, K, v1, v2, v3⟩ := x
  obtain ⟨mb, mS, mF, most, wd, ld⟩ := m
  simp only [scB] at HBK
  simp only at HTL HST HP HML hwd ⊢
  generalize lineC b b k = l at *
  generalize lineC b S k = st at *
  generalize rowsL wd l st = R at *
  have s0_w := HBK.out
  have a_w := AnyLater.refl w
  have r0_w := own_row s0_w
  have f0_w := own_free s0_w
  have l0_w := own_lt s0_w
  clear h
  go_enter Tryz.func75, Tryz.ntmps75
  go_wp2_with fail
  refine (HTL.out _ a_w).mono ?_
  rintro e w1 ⟨u1, rfl, b_w1, q1⟩
  obtain ⟨A1, cap1, rfl, -⟩ := isB.form q1
  rw [HGL.out] at q1 ⊢
  have H1 := Lib.hid q1
  clear q1
  have z_w1 := b_w1.below.size
  have a_w1 := b_w1
  have s0_w1 := any_own b_w1 s0_w
  have r0_w1 := own_row s0_w1
  have f0_w1 := own_free s0_w1
  have l0_w1 := own_lt s0_w1
  (try clear r0_w); (try clear f0_w)
  go_wp2_with fail
  refine (HST.out _ a_w1).mono ?_
  rintro e w2 ⟨rfl, b_w2⟩
  have z_w2 := b_w2.below.size
  have a_w2 := a_w1.trans b_w2
  have s0_w2 := any_own b_w2 s0_w1
  have r0_w2 := own_row s0_w2
  have f0_w2 := own_free s0_w2
  have l0_w2 := own_lt s0_w2
  (try clear r0_w1); (try clear f0_w1)
  have HA2 := Lib.hid a_w2
  have H2 := Lib.hid (isB_stays b_w2 H1.out)
  have HP2 : Hid (∀ x, AnyLater w2 x → Calls Tryz.prog 117 #[.agg #[v1, v2], .int .i64 (s0 : Int), .int .i64 ((s0 : Int) + (n : Int))] x fun e w' => ∃ u, e = .returned u ∧ AnyLater x w' ∧ IsPart st u w') := Lib.hid (fun x a => by
    rw [show (s0 : Int) + (n : Int) = ((s0 + n : Nat) : Int) by omega]
    refine (HP.out x (HA2.out.trans a)).mono ?_
    rintro e w' ⟨u, Q, rfl, b, q1, q2⟩
    exact ⟨u, rfl, b, Q, q1.reads, q2⟩)
  have HM2 : Hid (∀ x vr, AnyLater w2 x → IsPart st vr x → Calls Tryz.prog 116 #[.slice A1 n cap1, vr, .int .i64 0, .int .i64 wd] x fun e w' => ∃ u, e = .returned u ∧ AnyLater x w' ∧ Lds w' w.heap.size u R) := Lib.hid (fun x vr a hv => by
    obtain ⟨Q, q1, q2, q3, q4⟩ := hv
    have q5 : RN .u8 x (.slice A1 n cap1) l := (isB_stays a H2.out).rn
    refine (HML.out x _ vr Q (HA2.out.trans a) q5 q1 q2 q3 q4).mono ?_
    rintro e w' ⟨u, rfl, b, q⟩
    exact ⟨u, rfl, b, q.mono (HA2.out.trans a).below.size⟩)
  clear b_w1 b_w2
  go_wp2_with fail
  apply Wild.wp_region_free (17) [⟨10, 33, undef, true, IsPart st⟩, ⟨15, 38, undef, true, fun u w' => Lds w' w.heap.size u R⟩, ⟨16, 4, undef, true, fun u w' => Lds w' w.heap.size u R⟩] [⟨10, 33, IsPart st⟩, ⟨15, 38, fun u w' => Lds w' w.heap.size u R⟩, ⟨16, 4, fun u w' => Lds w' w.heap.size u R⟩] rfl (by kernel_rfl) (by kernel_rfl) (by kernel_rfl) (by simp) (by kernel_rfl)
  case hstab =>
    intro c hc
    simp only [List.mem_cons, List.not_mem_nil, or_false] at hc
    rcases hc with rfl | rfl | rfl
    · intro v x y hxy hv; exact (fun h k => IsPart.later h k) hxy hv
    · intro v x y hxy hv; exact (fun h k => Lds.later k h) hxy hv
    · intro v x y hxy hv; exact (fun h k => Lds.later k h) hxy hv
  case hfix =>
    intro c hc
    simp only [List.mem_cons, List.not_mem_nil, or_false] at hc
    rcases hc with rfl | rfl | rfl
    · exact .inl rfl
    · exact .inl rfl
    · exact .inl rfl
  case hlex =>
    intro U hU
    have q0 := own_row (any_own hU s0_w2)
    simp only [List.map_cons, List.map_nil, CA.act, actFrom, actOp, List.lookup, Nat.reduceBEq, Nat.reduceLeDiff, Nat.reduceAdd, if_false, if_true]
    repeat (go_big_quiet_step (fail))
    exact wpQuiet_nil rfl
  case hstep =>
    intro j hj o ho
    have hj2 : j = 0 ∨ j = 1 ∨ j = 2 := by simp at hj; omega
    rcases hj2 with rfl | rfl | rfl
    · cases ho
      refine ⟨rfl, fun g x hx hp => ?_⟩
      clear hp
      simp only [fillAll, Act.put, List.setIfInBounds_toArray, List.set_cons_zero, List.set_cons_succ]
      refine chain_go ?_ (Wild.free_tells (HP2.out x hx))
      first | (simp [go_sem, execOp]; done) | simp [go_sem, execOp, hcf]
    · cases ho
      refine ⟨rfl, fun g x hx hp => ?_⟩
      have p33 : (IsPart st) (g 10) x := hp _ (List.mem_of_getElem? (i := 0) rfl) (List.contains_iff_mem.1 (by kernel_rfl))
      clear hp
      simp only [fillAll, Act.put, List.setIfInBounds_toArray, List.set_cons_zero, List.set_cons_succ]
      refine chain_go ?_ (Wild.free_tells (HM2.out x _ hx p33))
      first | (simp [go_sem, execOp]; done) | simp [go_sem, execOp, hcf]
    · cases ho
      refine ⟨rfl, fun g x hx hp => ?_⟩
      have p38 : (fun u w' => Lds w' w.heap.size u R) (g 15) x := hp _ (List.mem_of_getElem? (i := 1) rfl) (List.contains_iff_mem.1 (by kernel_rfl))
      clear hp
      simp only [fillAll, Act.put, List.setIfInBounds_toArray, List.set_cons_zero, List.set_cons_succ]
      refine Wild.free_is (v := g 15) ?_ p38; simp [go_sem, execOp]
  case htail =>
    intro g u hst hne
    have b_w3 : AnyLater w2 (later u) := ⟨u, rfl⟩
    generalize later u = w3 at *
    clear u hne
    obtain ⟨p33_w3, -⟩ := hst _ (List.mem_of_getElem? (i := 0) rfl)
    (try dsimp only at p33_w3)
    obtain ⟨p38_w3, -⟩ := hst _ (List.mem_of_getElem? (i := 1) rfl)
    (try dsimp only at p38_w3)
    obtain ⟨p4_w3, -⟩ := hst _ (List.mem_of_getElem? (i := 2) rfl)
    (try dsimp only at p4_w3)
    clear hst
    simp only [fillAll, Act.put, List.setIfInBounds_toArray, List.set_cons_zero, List.set_cons_succ, List.drop_succ_cons, List.drop_zero, List.drop_nil]
    generalize g 10 = v33 at *
    generalize g 15 = v38 at *
    generalize g 16 = v4 at *
    have z_w3 := b_w3.below.size
    have a_w3 := a_w2.trans b_w3
    have s0_w3 := any_own b_w3 s0_w2
    have r0_w3 := own_row s0_w3
    have f0_w3 := own_free s0_w3
    have l0_w3 := own_lt s0_w3
    (try clear r0_w2); (try clear f0_w2)
    go_wp2_with fail
    go_ret
    exact ⟨_, rfl, a_w3, p4_w3⟩
theorem srows_any {B s : Nat} {x : ScV} {m : Sc} {b S : List Int} {L : Qs} {H : List Bool} (k : Nat) (w : World) (h : SP_ B w s x m b S L H) (ok : TOk b S) (hg : GlobU w) (hwd : I64s m.wd) (hk : k ≤ (feN 0 b).length) :
    Calls Tryz.prog 75 #[.pointer (some ⟨s, 0, none⟩), .int .i64 (k : Int)] w fun e w' => ∃ u, e = .returned u ∧ AnyLater w w' ∧ Lds w' w.heap.size u (rowsL m.wd (lineC b b k) (lineC b S k)) := srowsB_any k w h.sb ok hg hwd hk
end Go.Proofs.YtamhnffokoejjaaGreatDoor
namespace Go.Proofs.YtamhnffokoejjaaGreatDoor
set_option linter.unusedSimpArgs false
set_option linter.unusedVariables false
set_option linter.unusedSectionVars false
open Go.RowKit
theorem rowsL_ok {wd : Int} {l st : List Int} (hb : Bytes l) (hl : l.length ≤ 900) (hs : ∀ s ∈ st, goodS s = true) : LdsOk (rowsL wd l st) := by
  have hc := (cntN_is hb).le hb
  refine linesL_ok (celsU_ok hb (fun p => ?_) (by omega) _) (celsU_small hb (by omega) _) (by rw [celsU_length]; omega)
  rcases Nat.lt_or_ge p st.length with q | q
  · have := goodS_in (hs _ (List.getElem_mem q))
    rw [List.getD_eq_getElem?_getD, List.getElem?_eq_getElem q]
    show I64s st[p]
    constructor <;> omega
  · rw [List.getD_eq_getElem?_getD, List.getElem?_eq_none q]
    show I64s 0
    constructor <;> omega
theorem rowsL_sum {wd : Int} {l st : List Int} : 0 ≤ sumL (rowsL wd l st) ∧ sumL (rowsL wd l st) ≤ 17 * (rowsL wd l st).length := linesL_sum _ _
theorem linP_length {α : Type} (T : List Int → List Int → α) (b S : List Int) (lf m : Nat) : (linP T b S lf m).length = m := by simp [linP]
theorem linP_succ {α : Type} (T : List Int → List Int → α) (b S : List Int) (lf m : Nat) : linP T b S lf (m + 1) = linP T b S lf m ++ [T (lineC b b (lf + m)) (lineC b S (lf + m))] := by
  unfold linP
  rw [List.range_succ, List.map_append]; rfl
theorem tmade (n : Nat) (hn : n ≤ 90000) (w : World) : (Instr.makeSlice 84 (.int .i64 0) (.int .i64 (n : Int))).run Tryz.prog w = .ok (.slice (some ⟨w.heap.size, 0, none⟩) 0 n) (w.alloc (.cells (madeCells #[.int .i64 0, .int .i64 0] (n * 2)) 61)) ∧ OQ 61 (w.alloc (.cells (madeCells #[.int .i64 0, .int .i64 0] (n * 2)) 61)) w.heap.size (.slice (some ⟨w.heap.size, 0, none⟩) 0 n) [] := by
  obtain ⟨i0, hi0, hz0, hz1, hz2⟩ := info_parts info_tall
  have h := run_make (P := Tryz.prog) w 84 61 i0 (.agg #[.int .i64 0, .int .i64 0]) Tryz.underlying84 hi0 hz0 .i64 .i64 0 (n : Int) (by omega) (by omega) (by rw [hz2]; omega) (by omega)
  rw [hz1] at h
  simp only [Int.toNat_natCast, Int.toNat_zero] at h
  exact ⟨h, rfl, .inr ⟨_, n, _, rfl, Nat.le_refl _, heap_new rfl, Nat.zero_le _, by unfold maxLen; omega, by rw [size_madeCells], rfl⟩⟩
set_option maxRecDepth 100000 in
set_option maxHeartbeats 3200000 in
theorem smeasB_any {s : Nat} {x : ScV} {m : Sc} {b S : List Int} {hv : Value} (f n : Nat) (w : World) (h : SB_ w s x m b S hv) (ok : TOk b S) (hg : GlobU w) (hwd : I64s m.wd) (hld : 0 ≤ m.ld ∧ m.ld ≤ 2000000000) (hn : f + n ≤ (feN 0 b).length + 1) :
    Calls Tryz.prog 39 #[.pointer (some ⟨s, 0, none⟩), .int .i64 (f : Int), .int .i64 ((f : Int) + n - 1)] w fun e w' => ∃ u w1, e = .returned u ∧ AnyLater w w1 ∧ w' = w1.setCell ⟨s, 7, none⟩ (.int .i64 (m.ld + n)) ∧ OQ 61 w' w.heap.size u (linP (talL m.wd) b S f n) := by
  have HR := Lib.hid (fun (k : Nat) (w' : World) (a : AnyLater w w') (hk : k ≤ (feN 0 b).length) => srowsB_any k w' (h.later a) ok (hg.later a) hwd hk)
  have hbn : (feN 0 b).length ≤ 900 := Nat.le_trans (feN_le b 0) ok.len
  have HSum := Lib.hid (fun (k : Nat) (w' : World) (v : Value) (hv : LR w' v (rowsL m.wd (lineC b b k) (lineC b S k))) (hk : k ≤ (feN 0 b).length) => (by
    have hlb := lineC_bytes ok.by_ k (b := b)
    obtain ⟨s0, n0, e1, e2, e3, e4, e5⟩ := ok.line hk
    have h9 := ok.len
    exact msum_any v (rowsL m.wd (lineC b b k) (lineC b S k)) w' _ rfl hv (rowsL_ok hlb (by omega) (lineC_good ok.sg k)) (by have := rowsL_few (wd := m.wd) (st := lineC b S k) hlb; omega) : Calls Tryz.prog 91 #[v] w' fun e w'' => e = .returned (.int .i64 (sumL (rowsL m.wd (lineC b b k) (lineC b S k)))) ∧ AnyLater w' w''))
  have HFew := Lib.hid (fun (k : Nat) (hk : k ≤ (feN 0 b).length) => (by
    have hlb := lineC_bytes ok.by_ k (b := b)
    obtain ⟨s0, n0, e1, e2, e3, e4, e5⟩ := ok.line hk
    have h9 := ok.len
    have h1 := rowsL_few (wd := m.wd) (st := lineC b S k) hlb
    have h2 := rowsL_sum (wd := m.wd) (l := lineC b b k) (st := lineC b S k)
    exact ⟨by omega, h2.1, by omega⟩ : (rowsL m.wd (lineC b b k) (lineC b S k)).length ≤ 901 ∧ 0 ≤ sumL (rowsL m.wd (lineC b b k) (lineC b S k)) ∧ sumL (rowsL m.wd (lineC b b k) (lineC b S k)) ≤ 16777216))
  have HBK := Lib.hid h.blk
  have HLP := Lib.hid (fun j => linP_succ (talL m.wd) b S f j)
  have s0_w := h.blk
  obtain ⟨tg, g, hgt, t, K, v1, v2, v3⟩ := x
  obtain ⟨mb, mS, mF, most, wd, ld⟩ := m
  simp only [scB] at s0_w HBK
  simp only at HR HSum HFew HLP hld ⊢
  obtain ⟨N, hN⟩ : ∃ N, (feN 0 b).length = N := ⟨_, rfl⟩
  rw [hN] at HR HSum HFew hn hbn
  have HP0 : Hid (linP (talL wd) b S f 0 = []) := Lib.hid rfl
  have HPL := Lib.hid (fun j => linP_length (talL wd) b S f j)
  have a_w := AnyLater.refl w
  have r0_w := own_row s0_w
  have f0_w := own_free s0_w
  have l0_w := own_lt s0_w
  have HM := tmade n (by omega) w
  obtain ⟨hm1, hm2⟩ := HM
  have HM := Lib.hid hm2
  clear h ok hg hm2 hN hwd
  have i0 : (f : Int) + n - 1 - f + 1 = n := by omega
  go_enter Tryz.func39, Tryz.ntmps39
  go_wp2_with fail
  have a0 : AnyLater w (w.alloc (.cells (madeCells #[.int .i64 0, .int .i64 0] (n * 2)) 61)) := (AnyLater.refl w).alloc _
  go_loopg [7, 8] n (fun kk lv iv wr => ∃ j : Nat, kk = n - j ∧ j ≤ n ∧ iv = .int .i64 ((f : Int) + j) ∧ AnyLater w wr ∧ OQ 61 wr w.heap.size lv (linP (talL wd) b S f j))
  case atStart => exact ⟨0, by omega, by omega, by rw [Int.natCast_zero, Int.add_zero], a0, by rw [HP0.out]; exact HM.out⟩
  case round =>
    obtain ⟨j, hk, hj, rfl, a_wr, ho⟩ := hrel
    have HO := Lib.hid ho
    have HL := Lib.hid (HPL.out j)
    obtain ⟨A9, c9, rfl, -⟩ := (OQ.rq ho).form
    rw [HPL.out j]
    have s0_wr := any_own a_wr HBK.out
    have r0_wr := own_row s0_wr
    have f0_wr := own_free s0_wr
    have l0_wr := own_lt s0_wr
    have HA := Lib.hid a_wr
    clear ho r0_w f0_w
    by_cases hlt : j < n
    · have d0 : decide ((f : Int) + j ≤ f + n - 1) = true := decide_eq_true (by omega)
      have hkN : f + j ≤ N := by omega
      obtain ⟨R, hR⟩ : ∃ R, rowsL wd (lineC b b (f + j)) (lineC b S (f + j)) = R := ⟨_, rfl⟩
      have HR1 := HR.out (f + j) wr a_wr hkN
      have HS1 := Lib.hid (fun w' v hv => HSum.out (f + j) w' v hv hkN)
      have HF1 := HFew.out (f + j) hkN
      have HN1 : Hid (linP (talL wd) b S f (j + 1) = linP (talL wd) b S f j ++ [((R.length : Int), sumL R)]) := Lib.hid (by rw [HLP.out j]; unfold talL; rw [hR])
      rw [hR] at HR1 HS1 HF1
      have HR1 := Lib.hid HR1
      obtain ⟨y, hy⟩ : ∃ y, sumL R = y := ⟨_, rfl⟩
      rw [hy] at HS1 HF1 HN1
      obtain ⟨F1, F2, F3⟩ := HF1
      clear hR hy
      have i1 : ((f + j : Nat) : Int) = (f : Int) + j := by omega
      rw [i1] at HR1
      go_wp2_with fail
      refine HR1.out.mono ?_
      rintro e w1 ⟨u1, rfl, b_w1, q1⟩
      have q1 := q1.lr
      have H1 := Lib.hid q1
      obtain ⟨A1, cap1, rfl, -⟩ := q1.form
      obtain ⟨z, hz⟩ : ∃ z, R.length = z := ⟨_, rfl⟩
      rw [hz] at F1 HN1 ⊢
      have H1 : Hid (LR w1 (.slice A1 z cap1) R) := Lib.hid (by rw [← hz]; exact H1.out)
      have a_w1 := a_wr.trans b_w1
      clear q1 hz
      go_wp2_with fail
      refine (HS1.out w1 _ H1.out).mono ?_
      rintro e w2 ⟨rfl, b_w2⟩
      have hmn : min y 16777216 = y := by omega
      have b02 := b_w1.trans b_w2
      have HO2 : OQ 61 w2 w.heap.size (.slice A9 j c9) (linP (talL wd) b S f j) := by
        have := HO.out
        rw [HL.out] at this
        exact OQ.later b02 this
      obtain ⟨u2, w3, q1, q2, q3⟩ := appQ1 pairTall ((z : Int), y) HO2 (a_wr.trans b02).below.size (by rw [HL.out]; omega)
      have K1 := Lib.hid q1
      have K2 := Lib.hid (And.intro q2 (q3 w (Nat.le_refl _) (a_wr.trans b02)))
      obtain ⟨A4, c4, rfl, -⟩ := (OQ.rq q2).form
      rw [List.length_append, List.length_singleton, HL.out] at K1 K2
      clear q1 q2 q3 HO2
      go_wp2_with (at_builtin; refine Lib.wpList_append_run _ rfl _ _ _ _ rfl _ _ rfl rfl _ _ K1.out ?_)
      go_roundg (n - (j + 1))
      case measure => omega
      case rel =>
        refine ⟨j + 1, rfl, by omega, by congr 1, K2.out.2, ?_⟩
        rw [HN1.out]
        exact K2.out.1
    · obtain rfl : j = n := by omega
      have d0 : decide ((f : Int) + j ≤ f + j - 1) = false := decide_eq_false (by omega)
      clear hlt
      go_wp2_with fail
      go_ret
      refine ⟨_, wr, rfl, HA.out, rfl, ?_⟩
      have q := HO.out
      rw [HL.out] at q
      exact own_row_stays q ((Stays.refl (fun b => b = s) wr).setCell (b := s) rfl _) (fun k hk he => by
        have h1 : w.heap.size ≤ k := owns_base q k hk
        have h2 := own_lt HBK.out
        have he2 : k = s := he
        omega)
end Go.Proofs.YtamhnffokoejjaaGreatDoor
namespace Go.Proofs.YtamhnffokoejjaaGreatDoor
set_option linter.unusedSimpArgs false
set_option linter.unusedVariables false
set_option linter.unusedSectionVars false
open Go.RowKit
theorem HC.types {B : Nat} {w : World} {hg : Nat} {K : List Nat} {L : Qs} {H : List Bool} (h : HAt B w hg K L H) {b : Nat} (hb : HC B w hg K b) {cs : Array Value} {t : TypeId} {m : Nat × Nat} (e : w.heap[b]? = some (.cells cs t m)) : t = 116 ∨ t = 249 ∨ t = 166 ∨ t = 211 ∨ (t = 61 ∧ b ∈ K) := by
  obtain ⟨cs', t', e', q⟩ := HC.kind h hb
  rw [e] at e'
  cases e'
  rcases q with q | q | ⟨hk, q | q | q⟩
  · exact .inl q
  · exact .inr (.inl q)
  · exact .inr (.inr (.inl q))
  · exact .inr (.inr (.inr (.inl q)))
  · exact .inr (.inr (.inr (.inr ⟨q, hk⟩)))
end Go.Proofs.YtamhnffokoejjaaGreatDoor
namespace Go.Proofs.YtamhnffokoejjaaGreatDoor
set_option linter.unusedSimpArgs false
set_option linter.unusedVariables false
set_option linter.unusedSectionVars false
open Go.RowKit
theorem talL_good {b S : List Int} (ok : TOk b S) (wd : Int) {k : Nat} (hk : k ≤ (feN 0 b).length) : tlBad (talL wd (lineC b b k) (lineC b S k)) = false := by
  have hlb := lineC_bytes ok.by_ k (b := b)
  obtain ⟨s0, n0, e1, e2, e3, e4, e5⟩ := ok.line hk
  have h9 := ok.len
  have h1 := rowsL_few (wd := wd) (st := lineC b S k) hlb
  have h2 := rowsL_sum (wd := wd) (l := lineC b b k) (st := lineC b S k)
  unfold tlBad talL
  exact decide_eq_false (by simp only; omega)
theorem linP_good {b S : List Int} (ok : TOk b S) (wd : Int) {f n : Nat} (hn : f + n ≤ (feN 0 b).length + 1) : ∀ r ∈ linP (talL wd) b S f n, tlBad r = false := by
  intro r hr
  obtain ⟨k, hk, rfl⟩ := List.mem_map.1 hr
  rw [List.mem_range] at hk
  exact talL_good ok wd (by omega)
end Go.Proofs.YtamhnffokoejjaaGreatDoor
namespace Go.Proofs.YtamhnffokoejjaaGreatDoor
set_option linter.unusedSimpArgs false
set_option linter.unusedVariables false
set_option linter.unusedSectionVars false
open Go.RowKit
structure SAt (B : Nat) (w : World) (s : Nat) (x : ScV) (m : Sc) : Prop where
  ok : m.Ok
  p : SP_ B w s x m m.b m.S (linL (talL m.wd) m.b m.S) (hidsL m.b m.F)
theorem SAt.later {B : Nat} {w w' : World} {s : Nat} {x : ScV} {m : Sc} (h : SAt B w s x m) (a : AnyLater w w') : SAt B w' s x m := ⟨h.ok, h.p.later a⟩
theorem SAt.asks {B : Nat} {w : World} {s : Nat} {x : ScV} {m : Sc} (h : SAt B w s x m) : Asks w x.v1 (ofR m.S) := by
  have l := ofR_length m.S
  have h1 := h.ok.sl
  have h2 := h.ok.len
  refine ⟨h.p.runs, fun r hr => ?_, by omega⟩
  have q := smalls_of h.ok.sg (by omega) r hr
  have q2 := goodS_in (fairR_in (h.ok.t.fairs r hr)).2.2
  constructor <;> constructor <;> omega
theorem SAt.nf {B : Nat} {w : World} {s : Nat} {x : ScV} {m : Sc} (h : SAt B w s x m) : (feN 0 m.b).length ≤ 900 := Nat.le_trans (feN_le m.b 0) h.ok.len
theorem Sc.Ok.wd64 {m : Sc} (h : m.Ok) : I64s m.wd := by have := h.wd; constructor <;> omega
section
set_option maxRecDepth 100000
theorem sheights_any {B s : Nat} {x : ScV} {m : Sc} {b S : List Int} {L : Qs} {H : List Bool} (w : World) (h : SP_ B w s x m b S L H) : Calls Tryz.prog 26 #[.pointer (some ⟨s, 0, none⟩)] w fun e w' => e = .returned (.pointer (some ⟨x.hg, 0, none⟩)) ∧ AnyLater w w' := by
  have s0_w := h.blk
  simp only [scC] at s0_w
  have r0_w := own_row s0_w
  clear h
  go_enter Tryz.func26, Tryz.ntmps26
  go_wp2_with fail
  go_ret
  exact ⟨rfl, AnyLater.refl _⟩
end
end Go.Proofs.YtamhnffokoejjaaGreatDoor
namespace Go.Proofs.YtamhnffokoejjaaGreatDoor
set_option linter.unusedSimpArgs false
set_option linter.unusedVariables false
set_option linter.unusedSectionVars false
open Go.RowKit
set_option maxRecDepth 100000 in
theorem swide_any (n c : Int) (hc : widZ n = c) (w : World) : Calls Tryz.prog 37 #[.int .i64 n] w fun e w' => e = .returned (.int .i64 c) ∧ w = w' := by
  have e : clcClamp n 1 4096 = c := by
    rw [← hc]
    unfold clcClamp widZ
    by_cases h : n < 1
    · rw [if_pos (.inl h), if_pos h]
    · rw [if_neg (by omega), if_neg h]
  have HC := Lib.hid (clcClamp_any n 1 4096 w c e)
  clear hc e
  go_enter Tryz.func37, Tryz.ntmps37
  go_wp2_with fail
  refine HC.out.mono ?_
  rintro e w' ⟨rfl, rfl⟩
  go_wp2_with fail
  go_ret
  exact ⟨rfl, rfl⟩
noncomputable def rowsZ (m : Sc) (k : Int) : List Ld := if 0 ≤ k ∧ k ≤ ((feN 0 m.b).length : Int) then rowsL m.wd (lineC m.b m.b k.toNat) (lineC m.b m.S k.toNat) else []
set_option maxRecDepth 100000 in
set_option maxHeartbeats 1600000 in
theorem srowsZ_any {B s : Nat} {x : ScV} {m : Sc} (k : Int) (w : World) (h : SAt B w s x m) (hg : GlobU w) : Calls Tryz.prog 25 #[.pointer (some ⟨s, 0, none⟩), .int .i64 k] w fun e w' => ∃ u, e = .returned u ∧ AnyLater w w' ∧ LR w' u (rowsZ m k) := by
  have hn9 := h.nf
  have hnf : x.t.nf = (feN 0 m.b).length := by rw [← fds_len]; unfold fds; rw [h.p.tb]
  have HTL := Lib.hid (tlines_some x.tg x.g m.most x.t w h.p.tx (by omega))
  rw [hnf] at HTL
  have s0_w := h.p.blk
  simp only [scC] at s0_w
  have r0_w := own_row s0_w
  by_cases h0 : k < 0
  · have HE : Hid (rowsZ m k = []) := Lib.hid (by unfold rowsZ; rw [if_neg (by omega)])
    clear h hg HTL hnf
    go_enter Tryz.func25, Tryz.ntmps25
    go_wp2_with fail
    go_ret
    exact ⟨_, rfl, AnyLater.refl _, by rw [HE.out]; exact LR.void _ _ _⟩
  · by_cases h1 : k ≤ ((feN 0 m.b).length : Int)
    · obtain ⟨n, rfl⟩ := Int.eq_ofNat_of_zero_le (show 0 ≤ k by omega)
      have HR := Lib.hid (fun w' (a : AnyLater w w') => srows_any n w' (h.p.later a) h.ok.t (hg.later a) h.ok.wd64 (by omega))
      have HE : Hid (rowsZ m (n : Int) = rowsL m.wd (lineC m.b m.b n) (lineC m.b m.S n)) := Lib.hid (by unfold rowsZ; rw [if_pos (by omega), Int.toNat_natCast])
      have d0 : decide (((n : Nat) : Int) < 0) = false := decide_eq_false (by omega)
      have d1 : decide ((feN 0 m.b).length + 1 ≤ n) = false := decide_eq_false (by omega)
      clear h hg hnf h0 h1
      generalize (feN 0 m.b).length + 1 = N at *
      go_enter Tryz.func25, Tryz.ntmps25
      go_wp2_with fail
      refine (HTL.out).mono ?_
      rintro e w1 ⟨rfl, b_w1⟩
      have z_w1 := b_w1.below.size
      have a_w1 := b_w1
      go_wp2_with fail
      refine (HR.out w1 a_w1).mono ?_
      rintro e w2 ⟨u, rfl, b2, q⟩
      have HQ := Lib.hid (And.intro (a_w1.trans b2) q.lr)
      obtain ⟨A, c, rfl, -⟩ := q.lr.form
      generalize (rowsL m.wd (lineC m.b m.b n) (lineC m.b m.S n)).length = rn at *
      clear b2 q
      go_wp2_with fail
      go_ret
      exact ⟨_, rfl, HQ.out.1, by rw [HE.out]; exact HQ.out.2⟩
    · have HE : Hid (rowsZ m k = []) := Lib.hid (by unfold rowsZ; rw [if_neg (by omega)])
      have d0 : decide (k < 0) = false := decide_eq_false (by omega)
      have d1 : decide ((((feN 0 m.b).length + 1 : Nat) : Int) ≤ k) = true := decide_eq_true (by omega)
      clear h hg hnf h0 h1
      generalize (feN 0 m.b).length + 1 = N at *
      go_enter Tryz.func25, Tryz.ntmps25
      go_wp2_with fail
      refine (HTL.out).mono ?_
      rintro e w1 ⟨rfl, b_w1⟩
      have z_w1 := b_w1.below.size
      have a_w1 := b_w1
      go_wp2_with fail
      go_ret
      exact ⟨_, rfl, a_w1, by rw [HE.out]; exact LR.void _ _ _⟩
end Go.Proofs.YtamhnffokoejjaaGreatDoor
namespace Go.Proofs.YtamhnffokoejjaaGreatDoor
set_option linter.unusedSimpArgs false
set_option linter.unusedVariables false
set_option linter.unusedSectionVars false
open Go.RowKit
def newM (b : List Int) (most width : Int) : Sc := { b := b, S := List.replicate b.length 0, F := [], most := most, wd := widZ width, ld := (((feN 0 b).length + 1 : Nat) : Int) }
theorem tidy_plain (n : Nat) (hn : n ≤ 16777216) : tidyR [((n : Int), 0)] = ofR (List.replicate n 0) := by
  have h1 : stylesR [((n : Int), 0)] = List.replicate n 0 := by
    rw [stylesR_cons, stylesR_nil, List.append_nil]
    unfold oneR
    rcases Nat.eq_zero_or_pos n with h | h
    · subst h
      rw [if_neg (by decide)]; rfl
    · rw [if_pos (by unfold fairR; rw [show goodS 0 = true from by decide, Bool.and_true]; exact decide_eq_true ⟨by omega, by omega⟩), Int.toNat_natCast]
  unfold tidyR
  rw [sR_small (by rw [h1, List.length_replicate]; exact hn), h1]
theorem hids_none (b : List Int) : hidsL b [] = List.replicate ((feN 0 b).length + 1) false := by
  refine getD_ext (by rw [hidsL_length, List.length_replicate]) (fun k hk => ?_)
  rw [hidsL_length] at hk
  rw [hidsL_get b [] (by omega), List.getD_eq_getElem?_getD, List.getElem?_replicate, if_pos hk]
  rfl
theorem newM_ok {b : List Int} {most width : Int} (hb : Bytes b) (hl : b.length ≤ 900) (hm : (b.length : Int) ≤ most ∧ most ≤ 16777216) : (newM b most width).Ok := by
  have hnf : (feN 0 b).length ≤ 900 := Nat.le_trans (feN_le b 0) hl
  exact ⟨hb, List.length_replicate, fun s hs => by rw [List.eq_of_mem_replicate hs]; decide, hl, rfl, Nat.zero_le _, hm, widZ_in width, ⟨Int.natCast_nonneg _, by show (((feN 0 b).length + 1 : Nat) : Int) ≤ _; omega⟩⟩
theorem SB_.stays {w w' : World} {s : Nat} {x x' : ScV} {m m' : Sc} {b S : List Int} {hv hv' : Value} (h : SB_ w s x m b S hv) (st : Stays (fun k => k = s) w w') (hb : w'.heap[s]? = some (.cells (scB x' m' hv') 81)) (e : x'.tg = x.tg ∧ x'.g = x.g ∧ x'.t = x.t ∧ x'.v1 = x.v1 ∧ x'.v2 = x.v2 ∧ m'.most = m.most) : SB_ w' s x' m' b S hv' := by
  obtain ⟨e1, e2, e3, e4, e5, e6⟩ := e
  have c : Ch 0 w w' := Stays.wide st (fun k _ hk => by
    obtain rfl : k = s := hk
    exact ⟨Nat.zero_le _, _, _, _, h.blk, .inl rfl⟩)
  obtain ⟨ht, rv, h2, h3⟩ := h.tx
  have hg : x.g ≠ s := fun q => by
    rw [q, h.blk] at h2
    cases h2
  refine ⟨hb, ?_, by rw [e3]; exact h.tok, by rw [e3]; exact h.tb, by rw [e4]; exact h.runs.ch c, by rw [e5]; exact h.ends.ch c not_int⟩
  rw [e1, e2, e3, e6]
  exact h.tx.ch_ c (st.block _ (own_lt h2) hg)
theorem SB_.ldS {w : World} {s : Nat} {x : ScV} {m : Sc} {b S : List Int} {hv : Value} (h : SB_ w s x m b S hv) (n : Int) : SB_ (w.setCell ⟨s, 7, none⟩ (.int .i64 n)) s x { m with ld := n } b S hv :=
  h.stays ((Stays.refl (fun k => k = s) w).setCell (b := s) rfl _) (heap_at h.blk (by simp [scB])) ⟨rfl, rfl, rfl, rfl, rfl, rfl⟩
theorem SB_.fin {B C : Nat} {w : World} {s : Nat} {x : ScV} {m : Sc} {b S : List Int} {hv : Value} {hg : Nat} {K : List Nat} {L : Qs} {H : List Bool} (h : SB_ w s x m b S hv) (hB : B ≤ s) (hgB : B ≤ x.g) (hh : HAt C w hg K L H) (hC : B ≤ C) (hF : QT w x.v3 m.F) : SP_ B (w.setCell ⟨s, 6, none⟩ (.pointer (some ⟨hg, 0, none⟩))) s { x with hg := hg, K := K } m b S L H := by
  have st : Stays (fun k => k = s) w (w.setCell ⟨s, 6, none⟩ (.pointer (some ⟨hg, 0, none⟩))) := (Stays.refl (fun k => k = s) w).setCell (b := s) rfl _
  have q := h.stays (x' := { x with hg := hg, K := K }) (m' := m) (hv' := .pointer (some ⟨hg, 0, none⟩)) st (heap_at h.blk (by simp [scB])) ⟨rfl, rfl, rfl, rfl, rfl, rfl⟩
  have c : Ch B w (w.setCell ⟨s, 6, none⟩ (.pointer (some ⟨hg, 0, none⟩))) := Stays.wide st (fun k _ hk => by
    obtain rfl : k = s := hk
    exact ⟨hB, _, _, _, h.blk, .inl rfl⟩)
  exact ⟨q.blk, q.tx, q.tok, q.tb, q.runs, q.ends, hF.ch c, (hh.mono hC).off st (fun k hk => by
    obtain rfl : k = s := hk
    exact ⟨_, _, _, h.blk, .inl rfl⟩), hB, hgB⟩
set_option maxRecDepth 100000 in
set_option maxHeartbeats 3200000 in
theorem snew_yes (v : Value) (b : List Int) (most width : Int) (w : World) (hv : RN .u8 w v b) (hb : Bytes b) (hl : b.length ≤ 900) (hm : (b.length : Int) ≤ most) (hmost : 0 ≤ most ∧ most ≤ 16777216) (hg : GlobU w) :
    Calls Tryz.prog 8 #[v, .int .i64 most, .int .i64 width] w fun e w' => ∃ s x, e = .returned (.tuple #[.pointer (some ⟨s, 0, none⟩), .int .i64 0]) ∧ AnyLater w w' ∧ SAt w.heap.size w' s x (newM b most width) := by
  have HT := Lib.hid (tnew_yes v b most w hv hb hm hmost (by omega))
  have hok := newM_ok (width := width) hb hl ⟨hm, hmost.2⟩
  have ht := newT_bs b
  have hto := newT_ok hb (show b.length ≤ 60000 by omega)
  have hnf : (feN 0 b).length ≤ 900 := Nat.le_trans (feN_le b 0) hl
  have htn : (newT b).nf = (feN 0 b).length := by rw [← fds_len]; unfold fds; rw [ht]
  have HTi := Lib.hid (fun (w' : World) (u : Value) (q : RRt w' u [((b.length : Int), 0)]) => rsays.tidy [((b.length : Int), 0)] _ (tidy_plain b.length (by omega)) (⟨q, fun r hr => by rw [List.mem_singleton.1 hr]; exact ⟨⟨by show _ ≤ (b.length : Int); omega, by show (b.length : Int) ≤ _; omega⟩, by show (-9223372036854775808 : Int) ≤ 0; omega, by show (0 : Int) ≤ _; omega⟩, by simp⟩ : Asks w' u _))
  have HO := Lib.hid (fun (w' : World) (u : Value) (q : RRn w' u (ofR (List.replicate b.length 0))) => sof_any u (ofR (List.replicate b.length 0)) w' q hok.t.fairs (by have := hok.t.runs; have e : (newM b most width).S = List.replicate b.length 0 := rfl; rw [e] at this; omega) (by rw [show stylesR (ofR (List.replicate b.length 0)) = List.replicate b.length 0 from hok.t.styles, List.length_replicate]; omega))
  have HW := Lib.hid (fun w' => swide_any width (widZ width) rfl w')
  have HLi := Lib.hid (fun (w' : World) (tg g : Nat) (q : IsTx w' tg g most (newT b)) => (by
    have := tlines_some tg g most (newT b) w' q (by omega)
    rwa [htn] at this : Calls Tryz.prog 23 #[.pointer (some ⟨tg, 0, none⟩)] w' fun e w'' => e = .returned (.int .i64 (((feN 0 b).length + 1 : Nat) : Int)) ∧ AnyLater w' w''))
  have HMe := Lib.hid (fun (w' : World) (s : Nat) (x : ScV) (q : SB_ w' s x { newM b most width with ld := 0 } b (List.replicate b.length 0) (.pointer none)) (hg' : GlobU w') => (by
    have := smeasB_any 0 ((feN 0 b).length + 1) w' q hok.t hg' hok.wd64 (by show (0 : Int) ≤ 0 ∧ (0 : Int) ≤ _; omega) (by omega)
    rw [show ((0 : Nat) : Int) + (((feN 0 b).length + 1 : Nat) : Int) - 1 = ((feN 0 b).length : Nat) by omega, show ({ newM b most width with ld := 0 } : Sc).ld + (((feN 0 b).length + 1 : Nat) : Int) = (((feN 0 b).length + 1 : Nat) : Int) from Int.zero_add _] at this
    exact this : Calls Tryz.prog 39 #[.pointer (some ⟨s, 0, none⟩), .int .i64 0, .int .i64 ((feN 0 b).length : Nat)] w' fun e w'' => ∃ u w1, e = .returned u ∧ AnyLater w' w1 ∧ w'' = w1.setCell ⟨s, 7, none⟩ (.int .i64 (((feN 0 b).length + 1 : Nat) : Int)) ∧ OQ 61 w'' w'.heap.size u (linP (talL (widZ width)) b (List.replicate b.length 0) 0 ((feN 0 b).length + 1))))
  have hlp := linP_all (talL (widZ width)) b (List.replicate b.length 0)
  rw [hlp] at HMe
  have hlg := linP_good hok.t (widZ width) (f := 0) (n := (feN 0 b).length + 1) (by show 0 + _ ≤ (feN 0 b).length + 1; omega)
  have hlg2 : (linL (talL (widZ width)) b (List.replicate b.length 0)).any tlBad = false := by
    rw [← hlp, List.any_eq_false]
    exact fun r hr => by rw [hlg r hr]; decide
  have HHN := Lib.hid (fun (w' : World) (C : Nat) (u : Value) (q : OQ 61 w' C u (linL (talL (widZ width)) b (List.replicate b.length 0))) => (by
    have := hgnew_yes u _ C w' q (by rw [linL_length]; omega) hlg2
    rwa [linL_length, ← hids_none] at this : Calls Tryz.prog 38 #[u] w' fun e w'' => ∃ hg K, e = .returned (.tuple #[.pointer (some ⟨hg, 0, none⟩), .int .i64 0]) ∧ AnyLater w' w'' ∧ HAt w'.heap.size w'' hg K (linL (talL (widZ width)) b (List.replicate b.length 0)) (hidsL b [])))
  have HOk := Lib.hid hok
  have HGl := Lib.hid hg
  have HTk := Lib.hid (And.intro ht hto)
  have hln : (linL (talL (widZ width)) b (List.replicate b.length 0)).length ≤ 901 := by rw [linL_length]; omega
  obtain ⟨A0, cap0, rfl, -⟩ := hv.form
  clear hv hb hm hok ht hto htn hg hlp hlg hlg2
  obtain ⟨wd, hwd⟩ : ∃ wd, widZ width = wd := ⟨_, rfl⟩
  have EM : Hid (newM b most width = { b := b, S := List.replicate b.length 0, F := [], most := most, wd := wd, ld := (((feN 0 b).length + 1 : Nat) : Int) }) := Lib.hid (by unfold newM; rw [hwd])
  rw [EM.out] at HOk HMe ⊢
  rw [hwd] at HW HMe HHN hln
  clear hwd
  go_enter Tryz.func8, Tryz.ntmps8
  go_wp2_with fail
  refine HT.out.mono ?_
  rintro e w1 ⟨tg, g, rfl, a_w1, hg1, htg1, hne, tx1⟩
  have HX1 := Lib.hid (And.intro hg1 (And.intro htg1 (And.intro hne tx1)))
  clear hg1 htg1 hne tx1
  go_wp2_with fail
  first | refine settle_wp (fun wS => AnyLater w1 wS ∧ wS.heap[w1.heap.size]? = some (.cells #[.int .i64 (b.length : Int), .int .i64 0] 76)) ?_ ?_ | refine settle_calls (fun wS => AnyLater w1 wS ∧ wS.heap[w1.heap.size]? = some (.cells #[.int .i64 (b.length : Int), .int .i64 0] 76)) ?_ ?_
  · refine ⟨?_, ?_⟩
    · repeat' (first | with_reducible assumption | with_reducible exact AnyLater.refl _ | with_reducible apply AnyLater.setCell | with_reducible apply AnyLater.later | with_reducible apply AnyLater.drewN | with_reducible apply AnyLater.drew | with_reducible apply AnyLater.alloc | ((try simp only [World.size_alloc, World.size_setCell, World.size_drew]); (try dsimp only); omega))
    · ((repeat (first | with_reducible assumption | ((with_reducible apply heap_new); (try simp only [World.size_alloc, World.size_setCell, World.size_drew, World.heap_drewN]); done) | ((with_reducible apply heap_new); (try simp only [World.size_alloc, World.size_setCell, World.size_drew, World.heap_drewN]); omega) | (with_reducible refine heap_old (by (try simp only [World.size_alloc, World.size_setCell, World.size_drew, World.heap_drewN]); omega) ?_) | (with_reducible refine heap_drew ?_) | (with_reducible refine heap_far (by omega) ?_) | (with_reducible apply heap_at))); all_goals rfl)
  rintro w2 ⟨b_w2, s0_w2⟩
  have a_w2 := a_w1.trans b_w2
  have r0_w2 := own_row s0_w2
  have f0_w2 := own_free s0_w2
  have l0_w2 := own_lt s0_w2
  have z_w2 := b_w2.below.size
  refine (HTi.out w2 _ (ORn.typed (ORn.one (B := 0) (r := ((b.length : Int), 0)) (Nat.zero_le _) s0_w2))).mono ?_
  rintro e w3 ⟨u3, rfl, b_w3, q3⟩
  have H3 := Lib.hid (And.intro (a_w2.trans b_w3) (And.intro (b_w2.trans b_w3) q3))
  obtain ⟨A3, c3, rfl, -⟩ := q3.1
  generalize (ofR (List.replicate b.length 0)).length = l3 at *
  clear q3 b_w3 s0_w2 r0_w2 f0_w2 l0_w2
  go_wp2_with fail
  refine (HO.out w3 _ H3.out.2.2.1).mono ?_
  rintro e w4 ⟨u4, rfl, b_w4, o4⟩
  have H4 := Lib.hid (And.intro b_w4 (ON.rt o4))
  obtain ⟨A4, c4, rfl, -⟩ := (ON.rt o4).form
  generalize (endsR (ofR (List.replicate b.length 0))).length = l4 at *
  clear o4 b_w4
  go_wp2_with fail
  refine (HW.out w4).mono ?_
  rintro e w' ⟨rfl, rfl⟩
  have a45 : AnyLater w4 (w4.alloc (.cells #[.pointer (some ⟨tg, 0, none⟩), .int .i64 most, .slice A3 l3 c3, .slice A4 l4 c4, .slice none 0 0, .int .i64 wd, .pointer none, .int .i64 0] 81)) := (AnyLater.refl w4).alloc _
  have a05 : AnyLater w (w4.alloc (.cells #[.pointer (some ⟨tg, 0, none⟩), .int .i64 most, .slice A3 l3 c3, .slice A4 l4 c4, .slice none 0 0, .int .i64 wd, .pointer none, .int .i64 0] 81)) := (H3.out.1.trans H4.out.1).trans a45
  have a15 : AnyLater w1 (w4.alloc (.cells #[.pointer (some ⟨tg, 0, none⟩), .int .i64 most, .slice A3 l3 c3, .slice A4 l4 c4, .slice none 0 0, .int .i64 wd, .pointer none, .int .i64 0] 81)) := (H3.out.2.1.trans H4.out.1).trans a45
  have hB5 : SB_ (w4.alloc (.cells #[.pointer (some ⟨tg, 0, none⟩), .int .i64 most, .slice A3 l3 c3, .slice A4 l4 c4, .slice none 0 0, .int .i64 wd, .pointer none, .int .i64 0] 81)) w4.heap.size { tg := tg, g := g, hg := 0, t := newT b, K := [], v1 := .slice A3 l3 c3, v2 := .slice A4 l4 c4, v3 := .slice none 0 0 } { b := b, S := List.replicate b.length 0, F := [], most := most, wd := wd, ld := 0 } b (List.replicate b.length 0) (.pointer none) := ⟨heap_new rfl, HX1.out.2.2.2.later a15, HTk.out.2, HTk.out.1, H3.out.2.2.later (H4.out.1.trans a45), H4.out.2.later a45⟩
  have H5 := Lib.hid (And.intro a05 (And.intro hB5 a15))
  have hsz : w.heap.size ≤ w4.heap.size := (H3.out.1.trans H4.out.1).below.size
  have HSZ := Lib.hid hsz
  clear a45 a05 a15 hB5 hsz
  go_wp2_with fail
  generalize w4.alloc (.cells #[.pointer (some ⟨tg, 0, none⟩), .int .i64 most, .slice A3 l3 c3, .slice A4 l4 c4, .slice none 0 0, .int .i64 wd, .pointer none, .int .i64 0] 81) = w5 at *
  generalize w4.heap.size = s at *
  refine (HLi.out w5 tg g H5.out.2.1.tx).mono ?_
  rintro e w6 ⟨rfl, b6⟩
  have H6 := Lib.hid b6
  clear b6
  go_wp2_with fail
  refine (HMe.out w6 s _ (H5.out.2.1.later H6.out) (HGl.out.later (H5.out.1.trans H6.out))).mono ?_
  rintro e w8 ⟨u7, w7, rfl, b7, e8, o8⟩
  have hB7 := (H5.out.2.1.later (H6.out.trans b7)).ldS (((feN 0 b).length + 1 : Nat) : Int)
  rw [← e8] at hB7
  have HSs := own_lt H5.out.2.1.blk
  have a8 : AnyLater w w8 := by
    rw [e8]
    exact (H5.out.1.trans (H6.out.trans b7)).setCell (p := ⟨s, 7, none⟩) HSZ.out _
  have H8 := Lib.hid (And.intro a8 (And.intro hB7 o8))
  obtain ⟨A7, c7, rfl, -⟩ := (OQ.rq o8).form
  have hlen9 : (linL (talL wd) b (List.replicate b.length 0)).length ≤ 901 := hln
  generalize (linL (talL wd) b (List.replicate b.length 0)).length = l7 at *
  clear a8 hB7 o8 e8 b7
  go_wp2_with fail
  refine (HHN.out w8 _ _ H8.out.2.2).mono ?_
  rintro e w9 ⟨hg, K, rfl, b9, hh⟩
  have hs9 := H8.out.2.1.later b9
  have s0_w9 := hs9.blk
  simp only [scB] at s0_w9
  have r0_w9 := own_row s0_w9
  have f0_w9 := own_free s0_w9
  have l0_w9 := own_lt s0_w9
  have hfin := hs9.fin (B := w.heap.size) HSZ.out (by have := HX1.out.1; exact this) hh H8.out.1.below.size (QT.void w9)
  have H10 := Lib.hid (And.intro ((H8.out.1.trans b9).setCell (p := ⟨s, 6, none⟩) HSZ.out (.pointer (some ⟨hg, 0, none⟩))) hfin)
  clear b9 hh hs9 hfin
  go_wp2_with fail
  refine bodyPost_ret (v := .tuple #[.pointer (some ⟨s, 0, none⟩), .int .i64 0]) (by simp [results, Tryz.results8, go_sem]) rfl ⟨s, _, rfl, H10.out.1, HOk.out, H10.out.2⟩
end Go.Proofs.YtamhnffokoejjaaGreatDoor
