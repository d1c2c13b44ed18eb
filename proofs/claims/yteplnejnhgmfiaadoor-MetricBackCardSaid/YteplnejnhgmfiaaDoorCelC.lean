/- cells, the program: first, behind, stylesOf, slices.Grow of none; runs that are used up from the front. -/
import Derived.Test.YteplnejnhgmfiaaDoorCelB
import Derived.Test.YteplnejnhgmfiaaDoorRunsB
import Derived.Lib.AppendZeros
namespace Go.Proofs.YteplnejnhgmfiaaDoor
set_option linter.unusedSimpArgs false
set_option linter.unusedVariables false
set_option linter.unusedSectionVars false
open Go.RowKit

/-! ### runs that are used up -/
def expR (R : Runs) : List Int := R.flatMap fun r => List.replicate r.1.toNat r.2
theorem expR_nil : expR [] = [] := rfl
theorem expR_cons (r : Int × Int) (R : Runs) : expR (r :: R) = List.replicate r.1.toNat r.2 ++ expR R := rfl
def PosR (R : Runs) : Prop := ∀ r ∈ R, 1 ≤ r.1 ∧ r.1 ≤ 16777216 ∧ I64s r.2
theorem PosR.tail {r : Int × Int} {R : Runs} (h : PosR (r :: R)) : PosR R := fun x hx => h x (List.mem_cons_of_mem _ hx)
theorem PosR.head {r : Int × Int} {R : Runs} (h : PosR (r :: R)) : 1 ≤ r.1 ∧ r.1 ≤ 16777216 ∧ I64s r.2 := h r List.mem_cons_self
def behR : Runs → Nat → Runs
  | [], _ => []
  | (k, s) :: R, n => if k ≤ (n : Int) then behR R (n - k.toNat) else (k - n, s) :: R
theorem behR_pos : ∀ {R : Runs} {n : Nat}, PosR R → PosR (behR R n)
  | [], n, h => h
  | (k, s) :: R, n, h => by
    unfold behR
    split
    · exact behR_pos h.tail
    · have hh := h.head
      simp only at hh
      intro r hr
      rcases List.mem_cons.1 hr with rfl | hr
      · exact ⟨by simp only; omega, by simp only; omega, hh.2.2⟩
      · exact h.tail r hr
theorem behR_len : ∀ {R : Runs} {n : Nat}, (behR R n).length ≤ R.length
  | [], n => Nat.le_refl _
  | (k, s) :: R, n => by
    unfold behR
    split
    · exact Nat.le_succ_of_le behR_len
    · simp
theorem behR_exp : ∀ {R : Runs} {n : Nat}, PosR R → expR (behR R n) = (expR R).drop n
  | [], n, h => by simp [behR, expR]
  | (k, s) :: R, n, h => by
    have hh := h.head
    simp only at hh
    unfold behR
    split
    · rename_i hk
      rw [behR_exp h.tail, expR_cons, List.drop_append, List.length_replicate, List.drop_replicate, show (k, s).1.toNat - n = 0 by simp only; omega, List.replicate_zero, List.nil_append]
    · rename_i hk
      rw [expR_cons, expR_cons, List.drop_append, List.length_replicate, List.drop_replicate, show n - k.toNat = 0 by omega, List.drop_zero, show (k - (n : Int)).toNat = k.toNat - n by omega]
theorem first_exp : ∀ {R : Runs}, PosR R → (expR R).getD 0 0 = (R.head?.map (·.2)).getD 0
  | [], h => rfl
  | (k, s) :: R, h => by
    have hh := h.head
    simp only at hh
    rw [expR_cons, show (k, s).1.toNat = (k.toNat - 1) + 1 by simp only; omega, List.replicate_succ]
    rfl
theorem expR_of : ∀ l : List Int, expR (ofR l) = l
  | [] => rfl
  | s :: l => by
    have ih := expR_of l
    have hp := ofR_le l
    show expR (consR s (ofR l)) = _
    cases hl : ofR l with
    | nil => rw [ofR_nil hl]; rfl
    | cons y q =>
      obtain ⟨k, u⟩ := y
      rw [hl] at ih hp
      have hk := (hp (k, u) List.mem_cons_self).1
      simp only at hk
      rw [consR_cons]
      split
      · rename_i e
        subst e
        rw [expR_cons] at ih ⊢
        simp only at ih ⊢
        rw [show (k + 1).toNat = k.toNat + 1 by omega, List.replicate_succ, List.cons_append, ih]
      · rw [expR_cons, ih]; rfl

/-! ### a row of runs in a block, from some run on -/
def StR (B : Nat) (w : World) (v : Value) (R : Runs) : Prop := ∃ A cap, v = .slice A R.length cap ∧ R.length ≤ cap ∧ (0 < R.length → ∃ g off cs, A = some ⟨g, off, none⟩ ∧ B ≤ g ∧ w.heap[g]? = some (.cells cs 54) ∧ ∀ (j : Nat) (h : j < R.length), cs[off + j * 2]? = some (.int .i64 R[j].1) ∧ cs[off + j * 2 + 1]? = some (.int .i64 R[j].2))
theorem StR.of_own {B : Nat} {w : World} {v : Value} {l : Runs} (h : ORn w B v l) : StR B w v l := by
  rcases h.2 with ⟨rfl, h0⟩ | ⟨g, cap, cur, rfl, h2, h3, h4, h5, h6, h7⟩
  · exact ⟨none, 0, by rw [h0], by omega, fun hp => by omega⟩
  · refine ⟨_, cap, rfl, h4, fun _ => ⟨g, 0, cur, rfl, h2, h3, fun j hj => ?_⟩⟩
    have e : ∀ k, k < l.length * 2 → cur[k]? = (flatN l)[k]? := fun k hk => by
      have : (cur.toList.take (l.length * 2))[k]? = (flatN l)[k]? := by rw [h7]
      rw [List.getElem?_take_of_lt hk] at this
      simpa using this
    rw [Nat.zero_add, e _ (by omega), e _ (by omega), flatN_0, flatN_1, List.getElem?_eq_getElem hj]
    exact ⟨rfl, rfl⟩
theorem StR.nil (B : Nat) (w : World) : StR B w (.slice none 0 0) [] := ⟨none, 0, rfl, Nat.le_refl _, fun h => absurd h (by simp)⟩
theorem StR.later {B : Nat} {w w' : World} {v : Value} {R : Runs} (h : StR B w v R) (ha : AnyLater w w') : StR B w' v R := by
  obtain ⟨A, cap, h1, h2, h3⟩ := h
  refine ⟨A, cap, h1, h2, fun h0 => ?_⟩
  obtain ⟨g, off, cs, e, hB, hg, hc⟩ := h3 h0
  exact ⟨g, off, cs, e, hB, any_own ha hg, hc⟩
theorem StR.form {B : Nat} {w : World} {v : Value} {R : Runs} (h : StR B w v R) : ∃ A cap, v = .slice A R.length cap ∧ R.length ≤ cap := by
  obtain ⟨A, cap, h1, h2, _⟩ := h
  exact ⟨A, cap, h1, h2⟩
set_option maxRecDepth 100000 in
theorem size_runs (w : World) : (Go.sizeOf (Tryd.prog.elem 23)).run Tryd.prog w = .ok 2 w := by simp [go_sem]
set_option maxRecDepth 100000 in
/-- v[1:] -/
theorem StR.cut {B : Nat} {w : World} {A : Option Addr} {cap m : Nat} {r : Int × Int} {R : Runs} (h : StR B w (.slice A (m + 1) cap) (r :: R)) (hm : R.length = m) : ∃ A' cap', StR B w (.slice A' m cap') R ∧ ∀ w', (Instr.sliceAt 23 (.slice A (m + 1) cap) (some (.int .i64 1)) none none).run Tryd.prog w' = .ok (.slice A' m cap') w' := by
  subst hm
  obtain ⟨A', cap', e, h2, h3⟩ := h
  cases e
  obtain ⟨g, off, cs, rfl, hB, hg, hc⟩ := h3 (by simp)
  rw [List.length_cons] at h2
  refine ⟨some ⟨g, if cap = 1 then off else off + 2, none⟩, cap - 1, ⟨_, _, rfl, by omega, fun h0 => ⟨g, _, cs, rfl, hB, hg, fun j hj => ?_⟩⟩, fun w' => ?_⟩
  · rw [if_neg (by omega)]
    have := hc (j + 1) (by rw [List.length_cons]; omega)
    rw [show off + (j + 1) * 2 = off + 2 + j * 2 by omega] at this
    simpa using this
  · rw [run_sliceAt_slice w' _ _ _ _ _ Tryd.underlying23, run_slice_l w' _ (some ⟨g, off, none⟩) (R.length + 1) cap Tryd.underlying23 .i64 1 (by omega) (by omega)]
    rw [size_runs]
    simp only [Result.andThen, sliced]
    split
    · rename_i e
      rw [if_pos (by simpa using e)]; rfl
    · rename_i e
      rw [if_neg (by simpa using e), Option.map_some, addr_add]; rfl
/-- the first run of a row -/
theorem StR.head {B : Nat} {w : World} {A : Option Addr} {n cap : Nat} {r : Int × Int} {R : Runs} (h : StR B w (.slice A n cap) (r :: R)) : ∃ g off cs, A = some ⟨g, off, none⟩ ∧ B ≤ g ∧ w.heap[g]? = some (.cells cs 54) ∧ cs[off]? = some (.int .i64 r.1) ∧ cs[off + 1]? = some (.int .i64 r.2) := by
  obtain ⟨A', cap', e, h2, h3⟩ := h
  cases e
  obtain ⟨g, off, cs, rfl, hB, hg, hc⟩ := h3 (by simp)
  have := hc 0 (by simp)
  exact ⟨g, off, cs, rfl, hB, hg, by simpa using this⟩
theorem StR.put {B : Nat} {w : World} {g off n cap : Nat} {r : Int × Int} {R : Runs} (x : Int) (h : StR B w (.slice (some ⟨g, off, none⟩) n cap) (r :: R)) : StR B (w.setCell ⟨g, off, none⟩ (.int .i64 x)) (.slice (some ⟨g, off, none⟩) n cap) ((x, r.2) :: R) := by
  obtain ⟨A', cap', e, h2, h3⟩ := h
  cases e
  obtain ⟨g', off', cs, e, hB, hg, hc⟩ := h3 (by simp)
  cases e
  refine ⟨_, _, rfl, h2, fun _ => ⟨g, off, cs.setIfInBounds off (.int .i64 x), rfl, hB, heap_at hg rfl, fun j hj => ?_⟩⟩
  cases j with
  | zero =>
    have h0 := hc 0 (by simp)
    have hlt : off < cs.size := (Array.getElem?_eq_some_iff.1 (by simpa using h0.1)).1
    refine ⟨?_, ?_⟩
    · rw [Nat.zero_mul, Nat.add_zero, Array.getElem?_setIfInBounds_self, if_pos hlt]; rfl
    · rw [Nat.zero_mul, Nat.add_zero, Array.getElem?_setIfInBounds_ne (by omega)]
      simpa using h0.2
  | succ j =>
    have := hc (j + 1) (by simpa using hj)
    rw [Array.getElem?_setIfInBounds_ne (by omega), Array.getElem?_setIfInBounds_ne (by omega)]
    simpa using this
/-- what using runs up may change: one number in their block -/
def TouR (B : Nat) (w w' : World) : Prop := w' = w ∨ ∃ g i x cs, B ≤ g ∧ w.heap[g]? = some (.cells cs 54) ∧ w' = w.setCell ⟨g, i, none⟩ x
theorem TouR.any {B : Nat} {W w w' : World} (h : TouR B w w') (hB : W.heap.size ≤ B) (ha : AnyLater W w) : AnyLater W w' := by
  rcases h with rfl | ⟨g, i, x, cs, h1, h2, rfl⟩
  · exact ha
  · exact ha.setCell (p := ⟨g, i, none⟩) (by simp only; omega) x
theorem TouR.cels {B : Nat} {w w' : World} (h : TouR B w w') {v : Value} {l : Cels} {C : Nat} (o : OF celF 63 w C v l) : OF celF 63 w' C v l := by
  rcases h with rfl | ⟨g, i, x, cs, h1, h2, rfl⟩
  · exact o
  · exact owns_set h2 (by decide) x i o

/-- an append onto a row of cells leaves them -/
theorem StR.grown {B C : Nat} {w w2 : World} {v vc : Value} {R : Runs} {l : Cels} {cs : Array Value} (h : StR B w v R) (o : OF celF 63 w C vc l) (hg : (w.alloc (.cells cs 63)).grownBy w2 vc.ownBlock) : StR B w2 v R := by
  have a1 : AnyLater w (w.alloc (.cells cs 63)) := (AnyLater.refl w).alloc _
  have o2 := o.later a1
  obtain ⟨A, cap, h1, h2, h3⟩ := h.later a1
  refine ⟨A, cap, h1, h2, fun h0 => ?_⟩
  obtain ⟨g, off, cs, e, hB, hg1, hc⟩ := h3 h0
  exact ⟨g, off, cs, e, hB, grown_block hg hg1 (owns_ne o2 hg1 (by decide)), hc⟩

/-! ### the program's functions -/
set_option maxRecDepth 100000 in
theorem cfirst_any (v : Value) (R : Runs) (B : Nat) (w : World) (c : Int) (hc : (R.head?.map (·.2)).getD 0 = c) (h : StR B w v R) : Calls Tryd.prog 50 #[v] w fun e w' => e = .returned (.int .i64 c) ∧ w = w' := by
  obtain ⟨A, cap, rfl, h2⟩ := h.form
  cases R with
  | nil =>
    have HC := Lib.hid hc
    clear h hc
    simp only [List.length_nil]
    go_enter Tryd.func50, Tryd.ntmps50
    go_wp2_with fail
    go_ret
    exact ⟨ret_int HC.out, rfl⟩
  | cons r R =>
    obtain ⟨g, off, cs, rfl, hB, hg, c0, c1⟩ := h.head
    have e1 : w.cell? ⟨g, off + 1, none⟩ = some (.int .i64 r.2) := by rw [own_row hg]; exact c1
    have HC := Lib.hid hc
    rw [List.length_cons] at *
    have i1 : ((R.length : Int) + 1 == 0) = false := by simp; omega
    obtain ⟨m, hm⟩ : ∃ m, R.length = m := ⟨_, rfl⟩
    rw [hm] at *
    clear h hc hm hg c0 c1
    go_enter Tryd.func50, Tryd.ntmps50
    go_wp2_with fail
    go_ret
    exact ⟨ret_int HC.out, rfl⟩
set_option maxRecDepth 100000 in
set_option maxHeartbeats 3200000 in
theorem cbehind_any (v : Value) (R : Runs) (n B : Nat) (w : World) (h : StR B w v R) (hp : PosR R) (hn : n ≤ 1000) (hl : R.length ≤ 100000) : Calls Tryd.prog 51 #[v, .int .i64 (n : Int)] w fun e w' => ∃ u, e = .returned u ∧ StR B w' u (behR R n) ∧ TouR B w w' := by
  obtain ⟨A, cap, rfl, h2⟩ := h.form
  have HV := Lib.hid h
  have HP := Lib.hid hp
  obtain ⟨L, hL⟩ : ∃ L, R.length = L := ⟨_, rfl⟩
  have HL := Lib.hid hL
  rw [hL] at HV h2 hl ⊢
  clear h hp hL
  go_enter Tryd.func51, Tryd.ntmps51
  go_wp2_with fail
  go_loopg [0, 1] L (fun kk sv nv wr => wr = w ∧ ∃ (R' : Runs) (m c2 : Nat) (A2 : Option Addr), kk = R'.length ∧ nv = .int .i64 (m : Int) ∧ m ≤ 1000 ∧ sv = .slice A2 kk c2 ∧ kk ≤ c2 ∧ kk ≤ L ∧ StR B w (.slice A2 kk c2) R' ∧ PosR R' ∧ behR R n = behR R' m)
  case atStart => exact ⟨rfl, R, n, cap, A, HL.out.symm, rfl, hn, rfl, h2, Nat.le_refl _, HV.out, HP.out, rfl⟩
  case round =>
    obtain ⟨rfl, R', m, c2, A2, hk, rfl, hm, rfl, hc2, hkl, hs, hp, hb⟩ := hrel
    have HS := Lib.hid hs
    have HPP := Lib.hid hp
    have HB := Lib.hid hb
    clear hb
    cases R' with
    | nil =>
      obtain rfl : gk = 0 := hk
      clear hs hp
      go_wp2_with fail
      go_ret
      exact ⟨_, rfl, by rw [HB.out]; exact HS.out, .inl rfl⟩
    | cons r R' =>
      obtain ⟨q, hq⟩ : ∃ q, R'.length = q := ⟨_, rfl⟩
      obtain rfl : gk = q + 1 := by rw [hk, List.length_cons, hq]
      obtain ⟨g, off, cs, rfl, hBg, hg, c0, c1⟩ := hs.head
      obtain ⟨A3, c3, HS3, hcut⟩ := hs.cut hq
      have HS3 := Lib.hid HS3
      have HG := Lib.hid hg
      have d0 : wr.cell? ⟨g, off, none⟩ = some (.int .i64 r.1) := by rw [own_row hg]; exact c0
      have hh := hp.head
      obtain ⟨k, s⟩ := r
      simp only at d0 hh
      obtain ⟨k1, k2, -⟩ := hh
      have i1 : (0 : Int) < (q : Int) + 1 := by omega
      have HQ := Lib.hid hq
      have hc3 : q ≤ c3 := by obtain ⟨_, _, e, he⟩ := HS3.out.form; cases e; omega
      have fz := own_free hg off
      clear hs hp hk hq c0 c1
      by_cases hkm : k ≤ (m : Int)
      · have HB2 : Hid (behR R n = behR R' (m - k.toNat)) := Lib.hid (by rw [HB.out]; show (if k ≤ (m : Int) then _ else _) = _; rw [if_pos hkm])
        clear hg
        go_wp2_with fail
        go_roundg q
        case measure => omega
        case rel => exact ⟨rfl, R', m - k.toNat, c3, A3, HQ.out.symm, by congr 1; omega, by omega, rfl, hc3, by omega, HS3.out, HPP.out.tail, HB2.out⟩
      · have hkf : decide (k ≤ (m : Int)) = false := decide_eq_false hkm
        have HB2 : Hid (StR B (wr.setCell ⟨g, off, none⟩ (.int .i64 (k - m))) (.slice (some ⟨g, off, none⟩) (q + 1) c2) (behR R n)) := Lib.hid (by
          rw [HB.out]
          show StR B _ _ (if k ≤ (m : Int) then _ else _)
          rw [if_neg hkm]
          exact HS.out.put (k - m))
        clear hg
        go_wp2_with fail
        go_ret
        exact ⟨_, rfl, HB2.out, .inr ⟨g, off, _, cs, hBg, HG.out, rfl⟩⟩
end Go.Proofs.YteplnejnhgmfiaaDoor
