/- metric: slices.IndexFunc at cells; begun: by contract. -/
import Derived.Test.YteplnejnhgmfiaaDoorMetA
import Derived.Test.YteplnejnhgmfiaaDoorFree
import Derived.Deep.LoopGhost
import Derived.Deep.OwnRows
import Derived.Deep.QuietTactic
import Derived.Shelf.Abstract
namespace Go.Proofs.YteplnejnhgmfiaaDoor
set_option linter.unusedSimpArgs false
set_option linter.unusedVariables false
set_option linter.unusedSectionVars false
open Go.RowKit

theorem idxC_at {p : Cel → Bool} {l : Cels} {j : Nat} (h : j < l.length) (hf : (l.take j).any p = false) (hp : p l[j] = true) : idxC p l = (j : Int) := by
  unfold idxC
  rw [if_pos (List.any_eq_true.2 ⟨_, List.getElem_mem h, hp⟩)]
  congr 1
  rw [List.findIdx_eq h]
  refine ⟨hp, fun i hi => ?_⟩
  have := List.any_eq_false.1 hf l[i] (by rw [List.mem_take_iff_getElem]; exact ⟨i, by omega, rfl⟩)
  simpa using this
theorem idxC_none {p : Cel → Bool} {l : Cels} (h : l.any p = false) : idxC p l = -1 := by unfold idxC; rw [if_neg (by rw [h]; decide)]
theorem idxC_cases (p : Cel → Bool) (l : Cels) : (l.any p = false ∧ idxC p l = -1) ∨ (l.any p = true ∧ ∃ j : Nat, idxC p l = (j : Int) ∧ ∃ h : j < l.length, (l.take j).any p = false ∧ p l[j] = true) := by
  cases h : l.any p
  · exact .inl ⟨rfl, idxC_none h⟩
  · refine .inr ⟨rfl, l.findIdx p, by unfold idxC; rw [if_pos h], ?_⟩
    have hl : l.findIdx p < l.length := List.findIdx_lt_length_of_exists (by simpa using List.any_eq_true.1 h)
    refine ⟨hl, ?_, List.findIdx_getElem (w := hl)⟩
    rw [List.any_eq_false]
    intro x hx
    obtain ⟨i, hi, rfl⟩ := List.mem_take_iff_getElem.1 hx
    have hi2 : i < l.findIdx p := Nat.lt_of_lt_of_le hi (Nat.min_le_left _ _)
    simpa using List.not_of_lt_findIdx hi2
theorem idxC_in (p : Cel → Bool) (l : Cels) : -1 ≤ idxC p l ∧ idxC p l < (l.length : Int) := by
  rcases idxC_cases p l with ⟨_, e⟩ | ⟨_, j, e, h, _⟩
  · rw [e]; omega
  · rw [e]; omega
/-- a closure that answers whether p holds of a cell, wherever P holds -/
def TestsG (P : World → Prop) (gc : Nat) (cb : Array Value) (p : Cel → Bool) : Prop := ∀ (b1 b2 b3 b4 : Int) (w' : World), P w' →
  Calls Tryd.prog gc (#[.agg #[.int .i64 b1, .int .i64 b2, .int .i32 b3, .int .i64 b4]] ++ cb) w' fun e w'' => e = .returned (.bool (p (b1, b2, b3, b4))) ∧ AnyLater w' w''
set_option maxRecDepth 100000 in
set_option maxHeartbeats 1600000 in
theorem gindex_any (v : Value) (gc : Nat) (cb : Array Value) (p : Cel → Bool) (l : Cels) (r : Int) (w : World) (P : World → Prop) (hk : idxC p l = r) (hr : FR celF w v l) (hn : l.length ≤ 100000) (hP : P w) (hPl : ∀ x y, P x → AnyLater x y → P y)
    (hcf : ∀ args w, (callFunc gc args).run Tryd.prog w = .ok (.enter gc args) w) (hdo : TestsG P gc cb p) :
    Calls Tryd.prog 62 #[v, .func (.func gc) #[] cb] w fun e w' => e = .returned (.int .i64 r) ∧ AnyLater w w' := by
  obtain ⟨A, cap, rfl, h2⟩ := hr.form
  have HCC := Lib.hid hr
  have HD := Lib.hid hdo
  have HP := Lib.hid (And.intro hP hPl)
  have HK := Lib.hid hk
  obtain ⟨n, hnn⟩ : ∃ n, l.length = n := ⟨_, rfl⟩
  have HN := Lib.hid hnn
  rw [hnn] at h2 hn HCC ⊢
  clear hr hk hP hPl hdo hnn
  go_enter Tryd.func62, Tryd.ntmps62
  go_wp2_with fail
  go_loopg [8] n (fun k i wr => ∃ j : Nat, k = n - j ∧ j ≤ n ∧ i = .int .i64 j ∧ AnyLater w wr ∧ (l.take j).any p = false)
  case atStart => exact ⟨0, by omega, by omega, rfl, AnyLater.refl _, by simp⟩
  case round =>
    obtain ⟨j, hk, hj, rfl, a_wr, hf⟩ := hrel
    have HF := Lib.hid hf
    clear hf
    by_cases hlt : j < n
    · have lj : j < l.length := by rw [HN.out]; exact hlt
      obtain ⟨b, off, rfl, hb, c0, c1, c2, c3⟩ := celAt (HCC.out.later a_wr) j lj
      have HT : Hid ((l.take (j + 1)).any p = ((l.take j).any p || p l[j])) := Lib.hid (by rw [List.take_succ_eq_append_getElem lj, List.any_append]; simp)
      have HH : Hid (p l[j] = true → idxC p l = (j : Int)) := Lib.hid (fun h => idxC_at lj HF.out h)
      generalize l[j] = x at *
      obtain ⟨x1, x2, x3, x4⟩ := x
      simp only at c0 c1 c2 c3
      have HD1 := Lib.hid (HD.out x1 x2 x3 x4 wr (HP.out.2 _ _ HP.out.1 a_wr))
      cases hp : p (x1, x2, x3, x4) with
      | true =>
        rw [hp] at HD1
        have HE := Lib.hid (HH.out hp)
        clear hp HT HH
        go_wp2_with fail
        refine HD1.out.mono ?_
        rintro e w1 ⟨rfl, b_w1⟩
        go_wp2_with fail
        go_ret
        exact ⟨by rw [← HK.out, HE.out]; rfl, a_wr.trans b_w1⟩
      | false =>
        rw [hp] at HD1
        have HE : Hid ((l.take (j + 1)).any p = false) := Lib.hid (by rw [HT.out, HF.out, hp]; rfl)
        clear hp HT HH
        go_wp2_with fail
        refine HD1.out.mono ?_
        rintro e w1 ⟨rfl, b_w1⟩
        go_wp2_with fail
        go_roundg (n - (j + 1))
        case measure => omega
        case rel => exact ⟨j + 1, rfl, hlt, by go_num, a_wr.trans b_w1, HE.out⟩
    · obtain rfl : j = n := by omega
      have HE : Hid (idxC p l = -1) := Lib.hid (idxC_none (by
        have := HF.out
        rwa [List.take_of_length_le (Nat.le_of_eq HN.out)] at this))
      go_wp2_with fail
      go_ret
      exact ⟨by rw [← HK.out, HE.out]; rfl, a_wr⟩

/-! ### begun -/
theorem mrun_min {P : Program} (w : World) (ts : Array TypeId) (t : TypeId) (p q : Int) : (Builtin.min_ ts t #[.int .i64 p, .int .i64 q]).run P w = .ok (.int .i64 (min p q)) w := by
  rw [run_min_int2]
  split
  · rw [Int.min_eq_right (by omega)]
  · rw [Int.min_eq_left (by omega)]
set_option maxRecDepth 100000 in
theorem begun1_any (B : Nat) (col x1 x2 x3 x4 : Int) (w : World) (h : w.cell? ⟨B, 0, none⟩ = some (.int .i64 col)) : Calls Tryd.prog 63 #[.agg #[.int .i64 x1, .int .i64 x2, .int .i32 x3, .int .i64 x4], .pointer (some ⟨B, 0, none⟩)] w fun e w' => e = .returned (.bool (x1 == col)) ∧ AnyLater w w' := by
  have hB : B < w.heap.size := World.block_lt_of_cell? w ⟨B, 0, none⟩ h
  obtain ⟨c, hc⟩ : ∃ c, (x1 == col) = c := ⟨_, rfl⟩
  rw [hc]
  go_enter Tryd.func63, Tryd.ntmps63
  go_wp2_with fail
  go_ret
  exact ⟨rfl, by repeat' (first | with_reducible assumption | with_reducible exact AnyLater.refl _ | with_reducible apply AnyLater.setCell | with_reducible apply AnyLater.later | with_reducible apply AnyLater.drewN | with_reducible apply AnyLater.drew | with_reducible apply AnyLater.alloc | ((try simp only [World.size_alloc, World.size_setCell, World.size_drew]); (try dsimp only); omega))⟩
theorem begun_enters : ∀ args w, (callFunc 63 args).run Tryd.prog w = .ok (.enter 63 args) w := enters_of Tryd.func63 (by kernel_rfl) rfl
set_option maxRecDepth 100000 in
set_option maxHeartbeats 1600000 in
theorem begun_any (a1 a2 : Option Addr) (k1 k2 : Nat) (cs : Cels) (xs : List Int) (u d f t : Int) (la : Bool) (col : Int) (w : World) (i : Int) (hi : idxC (fun c => c.1 == col) (cs.take (min cs.length xs.length)) = i)
    (hc : FR celF w (.slice a1 cs.length k1) cs) (hn : cs.length ≤ 100000) : Calls Tryd.prog 44 #[.agg #[.slice a1 cs.length k1, .slice a2 xs.length k2, .int .i64 u, .int .i64 d, .int .i64 f, .int .i64 t, .bool la], .int .i64 col] w fun e w' => e = .returned (.int .i64 i) ∧ AnyLater w w' := by
  obtain ⟨m, hm⟩ : ∃ m, min cs.length xs.length = m := ⟨_, rfl⟩
  rw [hm] at hi
  obtain ⟨A3, c3, h3, hcut⟩ := hc.uptoF celFT m (by omega)
  have H3 := Lib.hid h3
  have HI := Lib.hid hi
  have HM : Hid (m ≤ 100000) := Lib.hid (by omega)
  have HT := Lib.hid (show (cs.take m).length = m by rw [List.length_take]; omega)
  have hmn : ∀ (w : World) (ts : Array TypeId) (t : TypeId), (Builtin.min_ ts t #[.int .i64 (cs.length : Int), .int .i64 (xs.length : Int)]).run Tryd.prog w = .ok (.int .i64 (m : Int)) w := fun w ts t => by
    rw [mrun_min, ← hm]; congr 2; omega
  obtain ⟨n1, hn1⟩ : ∃ n, cs.length = n := ⟨_, rfl⟩
  obtain ⟨n2, hn2⟩ : ∃ n, xs.length = n := ⟨_, rfl⟩
  rw [hn1, hn2] at hmn
  rw [hn1] at hcut
  rw [hn1, hn2]
  clear hc hn hm hn1 hn2 hi h3
  go_enter Tryd.func44, Tryd.ntmps44
  go_wp2_with fail
  first | refine settle_wp (fun wS => AnyLater w wS ∧ wS.heap[w.heap.size]? = some (.cells #[.slice a1 n1 k1, .slice a2 n2 k2, .int .i64 u, .int .i64 d, .int .i64 f, .int .i64 t, .bool la] 43) ∧ wS.heap[w.heap.size + 1]? = some (.cells #[.int .i64 col] 3)) ?_ ?_ | refine settle_calls (fun wS => AnyLater w wS ∧ wS.heap[w.heap.size]? = some (.cells #[.slice a1 n1 k1, .slice a2 n2 k2, .int .i64 u, .int .i64 d, .int .i64 f, .int .i64 t, .bool la] 43) ∧ wS.heap[w.heap.size + 1]? = some (.cells #[.int .i64 col] 3)) ?_ ?_
  · refine ⟨?_, ?_, ?_⟩
    · repeat' (first | with_reducible assumption | with_reducible exact AnyLater.refl _ | with_reducible apply AnyLater.setCell | with_reducible apply AnyLater.later | with_reducible apply AnyLater.drewN | with_reducible apply AnyLater.drew | with_reducible apply AnyLater.alloc | ((try simp only [World.size_alloc, World.size_setCell, World.size_drew]); (try dsimp only); omega))
    · ((repeat (first | with_reducible assumption | ((with_reducible apply heap_new); (try simp only [World.size_alloc, World.size_setCell, World.size_drew, World.heap_drewN]); done) | ((with_reducible apply heap_new); (try simp only [World.size_alloc, World.size_setCell, World.size_drew, World.heap_drewN]); omega) | (with_reducible refine heap_old (by (try simp only [World.size_alloc, World.size_setCell, World.size_drew, World.heap_drewN]); omega) ?_) | (with_reducible refine heap_drew ?_) | (with_reducible refine heap_far (by omega) ?_) | (with_reducible apply heap_at))); all_goals rfl)
    · ((repeat (first | with_reducible assumption | ((with_reducible apply heap_new); (try simp only [World.size_alloc, World.size_setCell, World.size_drew, World.heap_drewN]); done) | ((with_reducible apply heap_new); (try simp only [World.size_alloc, World.size_setCell, World.size_drew, World.heap_drewN]); omega) | (with_reducible refine heap_old (by (try simp only [World.size_alloc, World.size_setCell, World.size_drew, World.heap_drewN]); omega) ?_) | (with_reducible refine heap_drew ?_) | (with_reducible refine heap_far (by omega) ?_) | (with_reducible apply heap_at))); all_goals rfl)
  rintro w1 ⟨b_w1, s0_w1, s1_w1⟩
  have a_w1 := b_w1
  have r0_w1 := own_row s0_w1
  have f0_w1 := own_free s0_w1
  have l0_w1 := own_lt s0_w1
  have r1_w1 := own_row s1_w1
  have f1_w1 := own_free s1_w1
  have l1_w1 := own_lt s1_w1
  have z_w1 := b_w1.below.size
  have HX := Lib.hid (gindex_any (.slice A3 m c3) 63 #[.pointer (some ⟨w.heap.size + 1, 0, none⟩)] (fun c => c.1 == col) (cs.take m) i w1 (fun x => x.cell? ⟨w.heap.size + 1, 0, none⟩ = some (.int .i64 col)) HI.out (H3.out.later b_w1) (by rw [HT.out]; exact HM.out) (by rw [r1_w1]; rfl)
    (fun x y h a => (a.below.cell (World.block_lt_of_cell? x ⟨w.heap.size + 1, 0, none⟩ h)).trans h) begun_enters (fun b1 b2 b3 b4 w' h => begun1_any _ _ _ _ _ _ _ h))
  go_wp2_with fail
  refine HX.out.mono ?_
  rintro e w2 ⟨rfl, b_w2⟩
  have HB := Lib.hid (b_w1.trans b_w2)
  clear b_w2
  go_wp2_with fail
  go_ret
  exact ⟨rfl, HB.out⟩
end Go.Proofs.YteplnejnhgmfiaaDoor
