/- undo: the document's stack in memory; its Back, Again, Push, by contract. -/
import Derived.Test.YtnbchaigbkblfaaUndR
import Derived.BigRegion
import Derived.RegionTactic
namespace Go.Proofs.Ytnbchaigbkblfaa
set_option linter.unusedSimpArgs false
set_option linter.unusedVariables false
set_option linter.unusedSectionVars false
open Go.RowKit

/-- a row of numbers in a block of its own, from some place of it on -/
def OX (w : World) (B : Nat) (v : Value) (l : List Int) : Prop :=
  (v = .slice none 0 0 ∧ l = []) ∨ ∃ g off cap cur, v = .slice (some ⟨g, off, none⟩) l.length cap ∧ B ≤ g ∧ w.heap[g]? = some (.cells cur 3) ∧ l.length ≤ cap ∧ ∀ (j : Nat) (hj : j < l.length), cur[off + j]? = some (.int .i64 l[j])
theorem OX.stays {S : Nat → Prop} {w w' : World} {B : Nat} {v : Value} {l : List Int} (h : OX w B v l) (hk : Stays S w w') (hn : ∀ k, v.ownBlock = some k → ¬ S k) : OX w' B v l := by
  rcases h with q | ⟨g, off, cap, cur, rfl, h1, h2, h3⟩
  · exact .inl q
  · exact .inr ⟨g, off, cap, cur, rfl, h1, hk.own h2 (hn g rfl), h3⟩
theorem OX.base {w : World} {B : Nat} {v : Value} {l : List Int} (h : OX w B v l) : ∀ k, v.ownBlock = some k → B ≤ k ∧ k < w.heap.size := by
  intro k e
  rcases h with ⟨rfl, _⟩ | ⟨g, off, cap, cur, rfl, h1, h2, h3⟩
  · cases e
  · obtain rfl : g = k := by simpa [Value.ownBlock] using e
    exact ⟨h1, own_lt h2⟩
theorem OX.rn {w : World} {B : Nat} {v : Value} {l : List Int} (h : OX w B v l) : RI w v l := by
  rcases h with ⟨rfl, rfl⟩ | ⟨g, off, cap, cur, rfl, h1, h2, h3, h4⟩
  · exact ⟨none, 0, rfl, Nat.le_refl _, fun h => absurd h (by decide)⟩
  · exact ⟨_, cap, rfl, h3, fun _ => ⟨g, off, rfl, own_lt h2, fun j hj => (own_row h2 _).trans (h4 j hj)⟩⟩
theorem OX.set {w : World} {B g off cap i : Nat} {x : Int} {cur : Array Value} {l : List Int} (hB : B ≤ g) (h : w.heap[g]? = some (.cells cur 3)) (hc : l.length ≤ cap) (hcell : ∀ (j : Nat) (hj : j < l.length), cur[off + j]? = some (.int .i64 l[j])) (hi : i < l.length) :
    OX (w.setCell ⟨g, off + i, none⟩ (.int .i64 x)) B (.slice (some ⟨g, off, none⟩) l.length cap) (l.set i x) := by
  refine .inr ⟨g, off, cap, _, by rw [List.length_set], hB, heap_at h rfl, by rw [List.length_set]; exact hc, fun j hj => ?_⟩
  rw [List.length_set] at hj
  rw [List.getElem_set]
  by_cases e : i = j
  · subst e
    have := hcell i hi
    have hlt : off + i < cur.size := (Array.getElem?_eq_some_iff.1 this).1
    rw [if_pos rfl, Array.getElem?_setIfInBounds_self, if_pos hlt]
  · rw [if_neg e, Array.getElem?_setIfInBounds_ne (by omega)]
    exact hcell j hj
theorem ON.ox {w : World} {B : Nat} {v : Value} {l : List Int} (h : ON .i64 3 w B v l) (h0 : 0 < l.length) : OX w B v l := by
  obtain ⟨g, cap, cur, rfl, h1, h2, h3, -, -, h6⟩ := h.at h0
  exact .inr ⟨g, 0, cap, cur, rfl, h1, h2, h3, fun j hj => by rw [Nat.zero_add]; exact h6 j hj⟩

structure UIsX (w : World) (x : Nat) (v : Value) (most : Nat) (m : UM) : Prop where
  blk : w.heap[x]? = some (.cells #[v, .int .i64 (m.now : Int), .int .i64 (most : Int)] 31)
  row : OX w (x + 1) v m.l
  ok : UOk most m
  most : 1 ≤ most ∧ most ≤ 1024
theorem UIsX.stays {S : Nat → Prop} {w w' : World} {x : Nat} {v : Value} {most : Nat} {m : UM} (h : UIsX w x v most m) (hk : Stays S w w') (hn : ∀ k, Fp x v k → ¬ S k) : UIsX w' x v most m :=
  ⟨hk.own h.blk (hn x (.inl rfl)), h.row.stays hk (fun k e => hn k (.inr e)), h.ok, h.most⟩
theorem UIsX.later {w w' : World} {x : Nat} {v : Value} {most : Nat} {m : UM} (h : UIsX w x v most m) (ha : AnyLater w w') : UIsX w' x v most m :=
  h.stays (S := fun _ => False) (.of ha) (fun _ _ q => q)
theorem UIsX.lt {w : World} {x : Nat} {v : Value} {most : Nat} {m : UM} (h : UIsX w x v most m) : ∀ k, Fp x v k → k < w.heap.size := by
  intro k hk
  rcases hk with rfl | e
  · exact own_lt h.blk
  · exact (h.row.base k e).2
def TurnsX (w : World) (x : Nat) (v : Value) (most : Nat) (m : UM) (w' : World) : Prop :=
  ∃ v', UIsX w' x v' most m ∧ Stays (Fp x v) w w' ∧ ∀ k, v'.ownBlock = some k → v.ownBlock = some k ∨ w.heap.size ≤ k
theorem TurnsX.same {w w' : World} {x : Nat} {v : Value} {most : Nat} {m : UM} (h : UIsX w x v most m) (ha : AnyLater w w') : TurnsX w x v most m w' := ⟨v, h.later ha, .of ha, fun _ e => .inl e⟩
/-- one value of the row turned over, and where one is -/
theorem UIsX.turn {w w1 w2 w3 : World} {x g off cap most i k : Nat} {m : UM} {z : Int} {cur : Array Value} (h : UIsX w x (.slice (some ⟨g, off, none⟩) m.l.length cap) most m) (hg : w.heap[g]? = some (.cells cur 3)) (hB : x + 1 ≤ g) (hc : m.l.length ≤ cap) (hcell : ∀ (j : Nat) (hj : j < m.l.length), cur[off + j]? = some (.int .i64 m.l[j]))
    (hi : i < m.l.length) (hk : k ≤ m.l.length) (a1 : Stays (fun q => q = x) w w1) (h1 : w1.heap[x]? = some (.cells #[.slice (some ⟨g, off, none⟩) m.l.length cap, .int .i64 (k : Int), .int .i64 (most : Int)] 31)) (e2 : w1.setCell ⟨g, off + i, none⟩ (.int .i64 z) = w2) (a3 : AnyLater w2 w3) :
    TurnsX w x (.slice (some ⟨g, off, none⟩) m.l.length cap) most ⟨m.l.set i z, k⟩ w3 := by
  subst e2
  have hne : g ≠ x := by omega
  have g1 := a1.own hg (fun e => hne e)
  refine ⟨.slice (some ⟨g, off, none⟩) m.l.length cap, UIsX.later ⟨heap_far (fun e => hne e.symm) h1, OX.set hB g1 hc hcell hi, ⟨by rw [List.length_set]; exact hk, by rw [List.length_set]; exact h.ok.len⟩, h.most⟩ a3, ?_, fun q e => .inl e⟩
  exact ((a1.wide (fun _ _ e => .inl e)).setCell (.inr rfl) _).later a3
set_option maxRecDepth 100000 in
set_option maxHeartbeats 1600000 in
theorem xback_any (s : Nat) (v : Value) (most : Nat) (m : UM) (x : Int) (w : World) (h : UIsX w s v most m) : Calls Try.prog 10 #[sptr s, .int .i64 x] w fun e w' => e = .returned (.tuple #[.int .i64 (backV m x), .bool (backB m)]) ∧ TurnsX w s v most (backU m x) w' := by
  have s0 := h.blk
  have r0 := own_row s0
  have f0 := own_free s0
  have lt := own_lt s0
  unfold backV backB backU
  by_cases h0 : m.now = 0
  · have HZ := Lib.hid (TurnsX.same h (.refl w))
    rw [if_pos h0, if_pos h0, h0]
    rw [h0] at r0
    clear h s0
    unfold sptr at *
    go_enter Try.func10, Try.ntmps10
    go_wp2_with fail
    refine bodyPost_ret (v := .tuple #[.int .i64 x, .bool false]) (by simp [results, Try.results10, go_sem]) rfl ?_
    exact ⟨rfl, HZ.out⟩
  · have hle := h.ok.le
    have hlen := h.ok.len
    have hmost := h.most.2
    rw [if_neg h0, if_neg h0]
    obtain ⟨k, hk⟩ : ∃ k, m.now = k + 1 := ⟨m.now - 1, by omega⟩
    rcases h.row with ⟨-, e⟩ | ⟨g, off, cap, cur, rfl, hB, hg, hc, hcell⟩
    · rw [e] at hle; simp at hle; omega
    · have hne : g ≠ s := by omega
      have HT := Lib.hid (fun w1 w2 w3 => h.turn (i := k) (k := k) (z := x) (w1 := w1) (w2 := w2) (w3 := w3) hg hB hc hcell (by omega) (by omega))
      have hz := hcell k (by omega)
      have e1 : m.l.getD (m.now - 1) 0 = m.l[k] := by rw [hk, Nat.add_sub_cancel, List.getD_eq_getElem?_getD, List.getElem?_eq_getElem (by omega)]; rfl
      rw [e1, hk, Nat.add_sub_cancel]
      rw [hk] at r0
      have i1 : (((k + 1 : Nat) : Int) == 0) = false := by simp; omega
      have hk9 : k + 1 ≤ 1024 := by omega
      have hkl : k < m.l.length := by omega
      have HG := Lib.hid hg
      have HX : Hid ((w.setCell ⟨s, 1, none⟩ (.int .i64 (k : Int))).heap[s]? = some (.cells #[.slice (some ⟨g, off, none⟩) m.l.length cap, .int .i64 (k : Int), .int .i64 (most : Int)] 31)) := Lib.hid (heap_at s0 (by rfl))
      clear hcell e1
      generalize m.l[k]'_ = z at *
      clear h s0 hg hk h0 hc hB
      generalize m.l.set k x = L at *
      generalize m.l.length = n at *
      obtain ⟨k1, hk1⟩ : ∃ k1, ((k + 1 : Nat) : Int) = k1 := ⟨_, rfl⟩
      have hk2 : k1 - 1 = (k : Int) := by omega
      have hk3 : 1 ≤ k1 ∧ k1 ≤ 1024 := by omega
      rw [hk1] at i1 r0
      clear hk1
      unfold sptr at *
      go_enter Try.func10, Try.ntmps10
      go_wp2_with fail
      have a1 : Stays (fun q => q = s) w (w.setCell ⟨s, 1, none⟩ (.int .i64 (k : Int))) := Stays.setCell (S := fun q => q = s) (Stays.refl _ w) rfl _
      generalize w.setCell ⟨s, 1, none⟩ (.int .i64 (k : Int)) = w1 at *
      have s1 := HX.out
      have g1 := a1.own HG.out hne
      have r1 := own_row s1
      have r2 : w1.cell? ⟨g, off + k, none⟩ = some (.int .i64 z) := (own_row g1 _).trans hz
      have f1 := own_free s1
      have f2 := own_free g1
      have lt1 := own_lt s1
      have lt2 := own_lt g1
      have d1 : (k : Int) < (n : Int) := by omega
      have HA1 := Lib.hid a1
      clear r0 f0 lt a1 s1 g1
      go_quiet (fail)
      go_wp2_with fail
      have a2 := (AnyLater.refl w1).drewN nq
      have HA2 : Hid (Stays (fun q => q = s) w (w1.drewN nq)) := Lib.hid (HA1.out.later a2)
      have s2 := any_own a2 HX.out
      generalize w1.drewN nq = w2 at *
      have g2 := HA2.out.own HG.out hne
      clear r1 r2 f1 f2 lt1 lt2 a2
      have r1 := own_row s2
      have r2 : w2.cell? ⟨g, off + k, none⟩ = some (.int .i64 z) := (own_row g2 _).trans hz
      have f1 := own_free s2
      have f2 := own_free g2
      have lt1 := own_lt s2
      have lt2 := own_lt g2
      have HS2 := Lib.hid s2
      clear s2 g2 HX HA1 HG
      go_region
      go_wp2_with fail
      refine bodyPost_ret (v := .tuple #[.int .i64 z, .bool true]) (by simp [results, Try.results10, go_sem]) rfl ?_
      refine ⟨rfl, HT.out (w2.drewN 1) _ _ (HA2.out.later ((AnyLater.refl _).drewN _)) (heap_drew HS2.out) rfl (AnyLater.refl _)⟩
theorem OX.later {w w' : World} {B : Nat} {v : Value} {l : List Int} (h : OX w B v l) (ha : AnyLater w w') : OX w' B v l := h.stays (S := fun _ => False) (.of ha) (fun _ _ q => q)
/-- the same, where one is being told last -/
theorem UIsX.turn2 {w w1 w2 w3 : World} {x g off cap most i k : Nat} {m : UM} {z : Int} {cur : Array Value} (h : UIsX w x (.slice (some ⟨g, off, none⟩) m.l.length cap) most m) (hg : w.heap[g]? = some (.cells cur 3)) (hB : x + 1 ≤ g) (hc : m.l.length ≤ cap) (hcell : ∀ (j : Nat) (hj : j < m.l.length), cur[off + j]? = some (.int .i64 m.l[j]))
    (hi : i < m.l.length) (hk : k ≤ m.l.length) (a1 : AnyLater w w1) (a2 : AnyLater (w1.setCell ⟨g, off + i, none⟩ (.int .i64 z)) w2) (e3 : w2.setCell ⟨x, 1, none⟩ (.int .i64 (k : Int)) = w3) :
    TurnsX w x (.slice (some ⟨g, off, none⟩) m.l.length cap) most ⟨m.l.set i z, k⟩ w3 := by
  subst e3
  have hne : g ≠ x := by omega
  have g1 := any_own a1 hg
  have h2 := any_own a2 (heap_far (fun e => hne e.symm) (any_own a1 h.blk))
  have o2 := (OX.set (x := z) hB g1 hc hcell hi).later a2
  refine ⟨.slice (some ⟨g, off, none⟩) m.l.length cap, ⟨heap_at h2 rfl, o2.stays (Stays.setCell (S := fun q => q = x) (Stays.refl _ w2) rfl _) (fun q e e2 => hne (by cases e; exact e2)), ⟨by rw [List.length_set]; exact hk, by rw [List.length_set]; exact h.ok.len⟩, h.most⟩, ?_, fun q e => .inl e⟩
  exact (((Stays.of a1).setCell (.inr rfl) _).later a2).setCell (.inl rfl) _
set_option maxRecDepth 100000 in
set_option maxHeartbeats 1600000 in
theorem xagain_any (s : Nat) (v : Value) (most : Nat) (m : UM) (x : Int) (w : World) (h : UIsX w s v most m) : Calls Try.prog 12 #[sptr s, .int .i64 x] w fun e w' => e = .returned (.tuple #[.int .i64 (againV m x), .bool (againB m)]) ∧ TurnsX w s v most (againU m x) w' := by
  have s0 := h.blk
  have r0 := own_row s0
  have f0 := own_free s0
  have lt := own_lt s0
  unfold againV againB againU
  by_cases h0 : m.l.length ≤ m.now
  · have HZ := Lib.hid (fun w' (a : AnyLater w w') => TurnsX.same h a)
    rw [if_pos h0, if_pos h0, decide_eq_false (Nat.not_lt.2 h0)]
    have d0 : (m.l.length : Int) ≤ (m.now : Int) := by omega
    obtain ⟨A, cap, rfl, -⟩ := h.row.rn.form
    clear h s0
    generalize m.l.length = n at *
    generalize m.now = k at *
    unfold sptr at *
    go_enter Try.func12, Try.ntmps12
    go_wp2_with fail
    go_quiet (fail)
    go_wp2_with fail
    refine bodyPost_ret (v := .tuple #[.int .i64 x, .bool false]) (by simp [results, Try.results12, go_sem]) rfl ?_
    exact ⟨rfl, HZ.out _ ((AnyLater.refl _).drewN _)⟩
  · have hle := h.ok.le
    have hlen := h.ok.len
    have hmost := h.most.2
    rw [if_neg h0, if_neg h0, decide_eq_true (Nat.lt_of_not_le h0)]
    obtain ⟨k, hk⟩ : ∃ k, m.now = k := ⟨_, rfl⟩
    rcases h.row with ⟨-, e⟩ | ⟨g, off, cap, cur, rfl, hB, hg, hc, hcell⟩
    · rw [e] at h0; simp at h0
    · have hne : g ≠ s := by omega
      have HT := Lib.hid (fun w1 w2 w3 => h.turn2 (i := k) (k := k + 1) (z := x) (w1 := w1) (w2 := w2) (w3 := w3) hg hB hc hcell (by omega) (by omega))
      have hz := hcell k (by omega)
      have e1 : m.l.getD m.now 0 = m.l[k] := by rw [hk, List.getD_eq_getElem?_getD, List.getElem?_eq_getElem (by omega)]; rfl
      rw [e1, hk]
      rw [hk] at r0 s0
      have hk9 : k + 1 ≤ 1024 := by omega
      have hkl : k < m.l.length := by omega
      have HG := Lib.hid hg
      have HS := Lib.hid s0
      clear hcell e1
      generalize m.l[k]'_ = z at *
      clear h s0 hg hk h0 hc hB
      generalize m.l.set k x = L at *
      generalize m.l.length = n at *
      have d0 : decide ((n : Int) ≤ (k : Int)) = false := decide_eq_false (by omega)
      have d1 : (k : Int) < (n : Int) := by omega
      unfold sptr at *
      go_enter Try.func12, Try.ntmps12
      go_wp2_with fail
      go_quiet (fail)
      have a1 := (AnyLater.refl w).drewN nq
      have s1 := any_own a1 HS.out
      have g1 := any_own a1 HG.out
      have HA1 := Lib.hid a1
      clear r0 f0 lt a1
      generalize w.drewN nq = w1 at *
      have r1 := own_row s1
      have r2 : w1.cell? ⟨g, off + k, none⟩ = some (.int .i64 z) := (own_row g1 _).trans hz
      have lt1 := own_lt s1
      have lt2 := own_lt g1
      clear s1 g1
      obtain ⟨n1, rfl⟩ : ∃ n1, n1 = nq := ⟨_, rfl⟩
      go_wp2_with fail
      go_quiet (fail)
      have a2 := HA1.out.trans ((AnyLater.refl w1).drewN nq)
      have s2 := any_own a2 HS.out
      have g2 := any_own a2 HG.out
      have HA2 := Lib.hid a2
      clear r1 r2 lt1 lt2 a2 HA1
      generalize w1.drewN nq = w2 at *
      have r1 := own_row s2
      have r2 : w2.cell? ⟨g, off + k, none⟩ = some (.int .i64 z) := (own_row g2 _).trans hz
      have f1 := own_free s2
      have f2 := own_free g2
      have lt1 := own_lt s2
      have lt2 := own_lt g2
      have HS2 := Lib.hid s2
      clear s2 g2 HG HS
      go_wp2_with fail
      go_region
      have s3 : (w2.setCell ⟨g, off + k, none⟩ (.int .i64 x)).drew.heap[s]? = _ := heap_drew (heap_far (fun e => hne e.symm) HS2.out)
      generalize hw3 : (w2.setCell ⟨g, off + k, none⟩ (.int .i64 x)).drew = w3 at *
      have HW3 := Lib.hid hw3
      clear hw3 r1 r2 f1 f2 lt1 lt2
      have r1 := own_row s3
      have f1 := own_free s3
      have lt1 := own_lt s3
      clear s3
      go_wp2_with fail
      refine bodyPost_ret (v := .tuple #[.int .i64 z, .bool true]) (by simp [results, Try.results12, go_sem]) rfl ?_
      refine ⟨rfl, HT.out w2 w3 _ HA2.out (by rw [← HW3.out]; exact (AnyLater.refl _).drew) rfl⟩
end Go.Proofs.Ytnbchaigbkblfaa
