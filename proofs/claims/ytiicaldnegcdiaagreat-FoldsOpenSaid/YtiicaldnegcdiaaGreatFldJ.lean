/- folds: the library's DeleteFunc at spans, the program's Opens: by contract. -/
import Derived.Test.YtiicaldnegcdiaaGreatFldE
import Derived.Laws.IdiomCopy
namespace Go.Proofs.YtiicaldnegcdiaaGreat
set_option linter.unusedSimpArgs false
set_option linter.unusedVariables false
set_option linter.unusedSectionVars false
open Go.RowKit

/-! ### clear -/
theorem AnyLater.setCells {W : World} {g : Nat} (hg : W.heap.size ≤ g) : ∀ (vs : List Value) (o : Nat) (w : World), AnyLater W w → AnyLater W (w.setCells g o vs)
  | [], _, _, h => h
  | v :: vs, o, w, h => AnyLater.setCells hg vs (o + 1) _ (h.setCell (p := ⟨g, o, none⟩) hg v)
theorem size_setCells {g : Nat} : ∀ (vs : List Value) (o : Nat) (w : World), (w.setCells g o vs).heap.size = w.heap.size
  | [], _, _ => rfl
  | _ :: vs, o, _ => (size_setCells vs (o + 1) _).trans (World.size_setCell _ _ _)
set_option maxRecDepth 100000 in
theorem cut_raw {t s : TypeId} (T : PairT t s) (g n cap i : Nat) (h1 : i < n) (h2 : n ≤ cap) (w' : World) : (Instr.sliceAt s (.slice (some ⟨g, 0, none⟩) n cap) (some (.int .i64 (i : Int))) none none).run Tryz.prog w' = .ok (.slice (some ⟨g, i * 2, none⟩) (n - i) (cap - i)) w' := by
  rw [run_sliceAt_slice w' _ _ _ _ _ T.und', run_slice_l w' _ (some ⟨g, 0, none⟩) n cap T.und' .i64 (i : Int) (by omega) (by omega)]
  rw [T.size]
  simp only [Result.andThen, sliced, Int.toNat_natCast]
  rw [if_neg (by omega), Option.map_some, qaddr_add, Nat.zero_add]
set_option maxRecDepth 100000 in
theorem upto_raw {t s : TypeId} (T : PairT t s) (g n cap i : Nat) (h1 : i < n) (h2 : n ≤ cap) (w' : World) : (Instr.sliceAt s (.slice (some ⟨g, 0, none⟩) n cap) none (some (.int .i64 (i : Int))) none).run Tryz.prog w' = .ok (.slice (some ⟨g, 0, none⟩) i cap) w' := by
  rw [run_sliceAt_slice w' _ _ _ _ _ T.und', run_slice_h w' _ (some ⟨g, 0, none⟩) n cap T.und' .i64 (i : Int) (by omega) (by omega)]
  rw [T.size]
  simp only [Result.andThen, sliced, Int.toNat_natCast]
  rw [if_neg (by omega), Option.map_some, Nat.zero_mul, qaddr_add, Nat.sub_zero, Nat.sub_zero]
/-- clear(s), s a slice of n > 0 pairs: some cells are written -/
theorem clear_pairs {P : Program} (w : World) (t e : TypeId) (a b : Value) (ht : P.underlying t = some (.slice e)) (hv : ∀ w, (zeroValue e).run P w = .ok (.agg #[a, b]) w) (hz : (Value.agg #[a, b]).cells = #[a, b]) (ha : a.oneCell' = true) (hb : b.oneCell' = true) (g o n c : Nat) (hn : 0 < n)
    (hc : ∀ j, j < n * 2 → (w.cell? ⟨g, o + j, none⟩).isSome = true) (hf : ∀ j, j < n * 2 → w.frozen? ⟨g, o + j, none⟩ = false) :
    ∃ xs : List Value, xs.length = n * 2 ∧ ∀ ty, (Builtin.clear_ #[t] ty #[.slice (some ⟨g, o, none⟩) n c]).run P w = .ok (.tuple #[]) (w.setCells g o xs) := by
  refine ⟨(Builtin.zeroCells #[a, b] n).toList, by rw [Array.length_toList, size_zeroCells]; rfl, fun ty => ?_⟩
  have hl : (Builtin.zeroCells #[a, b] n).toList.length = n * 2 := by rw [Array.length_toList, size_zeroCells]; rfl
  have hst := run_storeCells_cells (P := P) g o (Builtin.zeroCells #[a, b] n).toList 0 w (by rw [hl]; simpa using hc) (by rw [hl]; simpa using hf) (by
    intro v hv'
    unfold Builtin.zeroCells at hv'
    rw [Array.toList_map] at hv'
    obtain ⟨i, _, rfl⟩ := List.mem_map.1 hv'
    show (#[a, b] : Array Value)[i % 2]!.oneCell' = true
    rcases Nat.mod_two_eq_zero_or_one i with h | h
    · rw [h]; exact ha
    · rw [h]; exact hb)
  simp only [Nat.add_zero] at hst
  obtain ⟨m, rfl⟩ : ∃ m, n = m + 1 := ⟨n - 1, by omega⟩
  simp [Builtin.clear_, run_underlying ht, hv, hz, hst]

/-! ### DeleteFunc -/
def keptQ (p : Int × Int → Bool) (l : Qs) : Qs := l.filter fun s => !p s
theorem keptQ_take {p : Int × Int → Bool} {l : Qs} {j : Nat} (h : j < l.length) : keptQ p (l.take (j + 1)) = keptQ p (l.take j) ++ (if p l[j] = true then [] else [l[j]]) := by
  unfold keptQ
  rw [List.take_succ_eq_append_getElem h, List.filter_append]
  congr 1
  cases hq : p l[j] <;> simp [hq]
theorem keptQ_le (p : Int × Int → Bool) (l : Qs) (j : Nat) : (keptQ p (l.take j)).length ≤ j := Nat.le_trans (List.length_filter_le _ _) (by rw [List.length_take]; omega)
theorem keptQ_all {p : Int × Int → Bool} {l : Qs} (h : l.any p = false) : keptQ p l = l := by
  unfold keptQ
  rw [List.filter_eq_self]
  intro a ha
  have := List.any_eq_false.1 h a ha
  simpa using this
/-- the row at g while j of them have been looked at: those that stay stand in front, the rest is as it was -/
def DelAt (g : Nat) (l : Qs) (p : Int × Int → Bool) (j : Nat) (x : World) : Prop :=
  ∃ cur, x.heap[g]? = some (.cells cur 55) ∧ l.length * 2 ≤ cur.size ∧
    (∀ (y : Nat) (h : y < (keptQ p (l.take j)).length), cur[y * 2]? = some (.int .i64 (keptQ p (l.take j))[y].1) ∧ cur[y * 2 + 1]? = some (.int .i64 (keptQ p (l.take j))[y].2)) ∧
    (∀ (y : Nat) (h : y < l.length), j ≤ y → cur[y * 2]? = some (.int .i64 l[y].1) ∧ cur[y * 2 + 1]? = some (.int .i64 l[y].2))
theorem DelAt.later {g : Nat} {l : Qs} {p : Int × Int → Bool} {j : Nat} {x y : World} (a : AnyLater x y) (h : DelAt g l p j x) : DelAt g l p j y := by
  obtain ⟨cur, h1, h2⟩ := h
  exact ⟨cur, any_own a h1, h2⟩
theorem DelAt.gone {g : Nat} {l : Qs} {p : Int × Int → Bool} {j : Nat} {x : World} (hj : j < l.length) (hp : p l[j] = true) (h : DelAt g l p j x) : DelAt g l p (j + 1) x := by
  obtain ⟨cur, h1, h2, h3, h4⟩ := h
  have e : keptQ p (l.take (j + 1)) = keptQ p (l.take j) := by rw [keptQ_take hj, if_pos hp, List.append_nil]
  refine ⟨cur, h1, h2, ?_, fun y hy hj => h4 y hy (by omega)⟩
  rw [e]
  exact h3
theorem DelAt.stays {g : Nat} {l : Qs} {p : Int × Int → Bool} {j : Nat} {x : World} (hj : j < l.length) (hp : p l[j] = false) (h : DelAt g l p j x) :
    DelAt g l p (j + 1) ((x.setCell ⟨g, (keptQ p (l.take j)).length * 2, none⟩ (.int .i64 l[j].1)).setCell ⟨g, (keptQ p (l.take j)).length * 2 + 1, none⟩ (.int .i64 l[j].2)) := by
  obtain ⟨cur, h1, h2, h3, h4⟩ := h
  have e : keptQ p (l.take (j + 1)) = keptQ p (l.take j) ++ [l[j]] := by rw [keptQ_take hj, if_neg (by rw [hp]; decide)]
  have hle := keptQ_le p l j
  obtain ⟨i, hi⟩ : ∃ i, (keptQ p (l.take j)).length = i := ⟨_, rfl⟩
  rw [hi] at hle ⊢
  refine ⟨(cur.setIfInBounds (i * 2) (.int .i64 l[j].1)).setIfInBounds (i * 2 + 1) (.int .i64 l[j].2), heap_at (heap_at h1 rfl) rfl, by simpa using h2, ?_, ?_⟩
  · rw [e]
    intro y hy
    rw [List.length_append, hi, List.length_singleton] at hy
    by_cases hyi : y = i
    · subst hyi
      have q1 : (keptQ p (l.take j) ++ [l[j]])[y]'(by rw [List.length_append, hi]; simp) = l[j] := by rw [List.getElem_append_right (by omega)]; simp [hi]
      rw [q1]
      refine ⟨?_, ?_⟩
      · rw [Array.getElem?_setIfInBounds_ne (by omega), Array.getElem?_setIfInBounds_self, if_pos (by omega)]
      · rw [Array.getElem?_setIfInBounds_self, if_pos (by rw [Array.size_setIfInBounds]; omega)]
    · have hy2 : y < (keptQ p (l.take j)).length := by omega
      have q1 : (keptQ p (l.take j) ++ [l[j]])[y]'(by rw [List.length_append, hi]; simp; omega) = (keptQ p (l.take j))[y] := List.getElem_append_left hy2
      rw [q1, Array.getElem?_setIfInBounds_ne (by omega), Array.getElem?_setIfInBounds_ne (by omega), Array.getElem?_setIfInBounds_ne (by omega), Array.getElem?_setIfInBounds_ne (by omega)]
      exact h3 y hy2
  · intro y hy hjy
    rw [Array.getElem?_setIfInBounds_ne (by omega), Array.getElem?_setIfInBounds_ne (by omega), Array.getElem?_setIfInBounds_ne (by omega), Array.getElem?_setIfInBounds_ne (by omega)]
    exact h4 y hy (by omega)
/-- what is in front reads as a list -/
theorem DelAt.reads {g : Nat} {l : Qs} {p : Int × Int → Bool} {x : World} {cap : Nat} (hc : l.length ≤ cap) (xs : List Value) (h : DelAt g l p l.length x) : QR (x.setCells g ((keptQ p l).length * 2) xs) (.slice (some ⟨g, 0, none⟩) (keptQ p l).length cap) (keptQ p l) := by
  obtain ⟨cur, h1, h2, h3, -⟩ := h
  rw [List.take_length] at h3
  have hle := keptQ_le p l l.length
  rw [List.take_length] at hle
  have hsz : x.heap.size ≤ (x.setCells g ((keptQ p l).length * 2) xs).heap.size := Nat.le_of_eq (size_setCells _ _ _).symm
  refine ⟨_, cap, rfl, by omega, fun _ => ⟨g, 0, rfl, Nat.lt_of_lt_of_le (own_lt h1) hsz, fun j hj => ?_⟩⟩
  obtain ⟨q1, q2⟩ := h3 j hj
  rw [World.cell?_setCells_out g xs _ x ⟨g, 0 + j * 2, none⟩ (fun _ _ => .inl (by show 0 + j * 2 < _; omega)), World.cell?_setCells_out g xs _ x ⟨g, 0 + j * 2 + 1, none⟩ (fun _ _ => .inl (by show 0 + j * 2 + 1 < _; omega)), Nat.zero_add, own_row h1, own_row h1]
  exact ⟨q1, q2⟩
theorem DelAt.begins {t : TypeId} {w x : World} {B : Nat} {v : Value} {l : Qs} {p : Int × Int → Bool} {i : Nat} (ht : t = 55) (ho : OQ t w B v l) (hi : i < l.length) (hf : (l.take i).any p = false) (hp : p l[i] = true) (a : AnyLater w x) :
    ∃ g cap, v = .slice (some ⟨g, 0, none⟩) l.length cap ∧ B ≤ g ∧ l.length ≤ cap ∧ g < w.heap.size ∧ DelAt g l p (i + 1) x ∧ (keptQ p (l.take (i + 1))).length = i := by
  subst ht
  rcases ho.2 with ⟨_, h0⟩ | ⟨g, cap, cur, rfl, h2, h3, h4, h5, h6, h7⟩
  · omega
  · have e : keptQ p (l.take (i + 1)) = l.take i := by rw [keptQ_take hi, if_pos hp, List.append_nil, keptQ_all hf]
    have ec : ∀ k, k < l.length * 2 → cur[k]? = (flatQ l)[k]? := fun k hk => by
      have : (cur.toList.take (l.length * 2))[k]? = (flatQ l)[k]? := by rw [h7]
      rw [List.getElem?_take_of_lt hk] at this
      simpa using this
    have el : ∀ (y : Nat) (h : y < l.length), cur[y * 2]? = some (.int .i64 l[y].1) ∧ cur[y * 2 + 1]? = some (.int .i64 l[y].2) := fun y h => by
      rw [ec _ (by omega), ec _ (by omega), flatQ_0, flatQ_1, List.getElem?_eq_getElem h]
      exact ⟨rfl, rfl⟩
    refine ⟨g, cap, rfl, h2, h4, own_lt h3, ⟨cur, any_own a h3, by omega, ?_, fun y hy _ => el y hy⟩, by rw [e, List.length_take]; omega⟩
    rw [e]
    intro y hy
    rw [List.length_take] at hy
    rw [List.getElem_take]
    exact el y (by omega)
theorem zero_span : ∀ w, (zeroValue 55).run Tryz.prog w = .ok (.agg #[.int .i64 0, .int .i64 0]) w := fun w => by simp [go_sem]
set_option maxRecDepth 100000 in
set_option maxHeartbeats 3200000 in
theorem qdelete_any (W : World) (B : Nat) (v : Value) (gc : Nat) (cb : Array Value) (p : Int × Int → Bool) (l M : Qs) (w : World) (P : World → Prop) (hM : keptQ p l = M) (ho : OQ 55 w B v l) (hWB : W.heap.size ≤ B) (aW : AnyLater W w) (hl : l.length ≤ 60000) (hP : P w) (hPl : ∀ x y, P x → AnyLater x y → P y) (hPs : ∀ x g i u, B ≤ g → g < w.heap.size → v.ownBlock = some g → P x → P (x.setCell ⟨g, i, none⟩ u))
    (hcf : ∀ args w, (callFunc gc args).run Tryz.prog w = .ok (.enter gc args) w) (hdo : TestsQ P gc cb p) :
    Calls Tryz.prog 38 #[v, .func (.func gc) #[] cb] w fun e w' => ∃ u, e = .returned u ∧ AnyLater W w' ∧ QR w' u M := by
  have HI := Lib.hid (qindex_any v gc cb p l _ w P rfl (OQ.rq ho) (by omega) hP hPl hcf hdo)
  rcases idxV_cases p l with ⟨h1, h2⟩ | ⟨-, i, h2, hi, hf, hp⟩
  · rw [h2] at HI
    have HB := Lib.hid (And.intro ((keptQ_all h1).symm.trans hM) (OQ.rq ho))
    obtain ⟨A, cap, rfl, -⟩ := ho.form
    clear ho hP hPl hPs hdo hcf hM h1 h2
    generalize l.length = n at *
    go_enter Tryz.func38, Tryz.ntmps38
    go_wp2_with fail
    refine HI.out.mono ?_
    rintro e w1 ⟨rfl, b_w1⟩
    go_wp2_with fail
    go_ret
    exact ⟨_, rfl, aW.trans b_w1, by rw [← HB.out.1]; exact HB.out.2.later b_w1⟩
  · rw [h2] at HI
    obtain ⟨g, cap, rfl, hBg, hlc, hgw, -⟩ := DelAt.begins rfl ho hi hf hp (AnyLater.refl w)
    have HD0 := Lib.hid (fun x (a : AnyLater w x) => by
      obtain ⟨g2, cap2, e, -, -, -, q⟩ := DelAt.begins rfl ho hi hf hp a
      cases e
      exact q)
    have HPs : Hid (∀ x k u, P x → P (x.setCell ⟨g, k, none⟩ u)) := Lib.hid (fun x k u h => hPs x g k u hBg hgw rfl h)
    have HPl := Lib.hid hPl
    have HP := Lib.hid hP
    have HDo := Lib.hid hdo
    have HM := Lib.hid hM
    have HWg : Hid (W.heap.size ≤ g) := Lib.hid (by omega)
    have HKle := Lib.hid (keptQ_le p l)
    have HKlt : Hid (∀ j, i < j → j ≤ l.length → (keptQ p (l.take j)).length < j) := Lib.hid (fun j hij hj => by
      have q0 : ∀ d, i + 1 + d ≤ l.length → (keptQ p (l.take (i + 1 + d))).length < i + 1 + d := fun d => by
        induction d with
        | zero =>
          intro _
          obtain ⟨_, _, _, _, _, _, _, q⟩ := DelAt.begins rfl ho hi hf hp (AnyLater.refl w)
          have q1 : (keptQ p (l.take (i + 1 + 0))).length = i := q
          omega
        | succ d ih =>
          intro hd
          have := ih (by omega)
          rw [show i + 1 + (d + 1) = i + 1 + d + 1 by omega, keptQ_take (by omega), List.length_append]
          split
          · simp only [List.length_nil]; omega
          · simp only [List.length_singleton]; omega
      have := q0 (j - (i + 1)) (by omega)
      rwa [show i + 1 + (j - (i + 1)) = j by omega] at this)
    have HSt := Lib.hid (fun (x : World) (j : Nat) (hj : j < l.length) (hq : p l[j] = false) (h : DelAt g l p j x) => h.stays hj hq)
    have HGo := Lib.hid (fun (x : World) (j : Nat) (hj : j < l.length) (hq : p l[j] = true) (h : DelAt g l p j x) => h.gone hj hq)
    have HT : Hid (∀ (j : Nat) (hj : j < l.length), (keptQ p (l.take (j + 1))).length = (keptQ p (l.take j)).length + (if p l[j] = true then 0 else 1)) := Lib.hid (fun j hj => by
      rw [keptQ_take hj, List.length_append]
      split <;> simp)
    obtain ⟨n, hn⟩ : ∃ n, l.length = n := ⟨_, rfl⟩
    have HN := Lib.hid hn
    rw [hn] at hl hlc hi HI ⊢
    clear hn ho hP hPl hPs hdo hM h2 hf hp
    have hi1 : (i : Int) + 1 ≤ 60000 := by omega
    have hi2 : ((i : Int) == -1) = false := by simp <;> omega
    go_enter Tryz.func38, Tryz.ntmps38
    go_wp2_with fail
    refine HI.out.mono ?_
    rintro e w1 ⟨rfl, b_w1⟩
    have HB1 := Lib.hid b_w1
    have HD1 := Lib.hid (HD0.out _ b_w1)
    have HP1 := Lib.hid (HPl.out _ _ HP.out b_w1)
    clear b_w1
    go_wp2_with fail
    go_loopg [5, 6] (n - (i + 1)) (fun kk iv jv wr => ∃ j : Nat, kk = n - j ∧ i < j ∧ j ≤ n ∧ jv = .int .i64 (j : Int) ∧ iv = .int .i64 (((keptQ p (l.take j)).length : Nat) : Int) ∧ AnyLater W wr ∧ P wr ∧ g < wr.heap.size ∧ DelAt g l p j wr)
    case atStart => exact ⟨i + 1, rfl, by omega, by omega, by go_num, by rw [HD1.out.2], aW.trans HB1.out, HP1.out, Nat.lt_of_lt_of_le hgw HB1.out.below.size, HD1.out.1⟩
    case round =>
      obtain ⟨j, hk, hij, hj, rfl, rfl, aWr, hPr, hgr, hd⟩ := hrel
      have HD := Lib.hid hd
      have HA := Lib.hid (And.intro aWr hPr)
      have hkle := HKle.out j
      have hklt := HKlt.out j hij (by rw [HN.out]; exact hj)
      by_cases hlt : j < n
      · have lj : j < l.length := by rw [HN.out]; exact hlt
        have i0 : (j : Int) < (n : Int) := by omega
        obtain ⟨cur, s0_wr, hcs, -, hcr⟩ := hd
        have c0 : wr.cell? ⟨g, j * 2, none⟩ = some (.int .i64 l[j].1) := (own_row s0_wr _).trans (hcr j lj (Nat.le_refl _)).1
        have c1 : wr.cell? ⟨g, j * 2 + 1, none⟩ = some (.int .i64 l[j].2) := (own_row s0_wr _).trans (hcr j lj (Nat.le_refl _)).2
        rw [HN.out] at hcs
        have HSt1 := Lib.hid (fun x => HSt.out x j lj)
        have HGo1 := Lib.hid (fun x => HGo.out x j lj)
        have HTj := Lib.hid (HT.out j lj)
        have HDo1 := Lib.hid (fun w' (h : P w') => HDo.out l[j].1 l[j].2 w' h)
        have hb1 := (AnyLater.refl wr).alloc (.cells #[.int .i64 l[j].1, .int .i64 l[j].2] 55)
        have HPb := Lib.hid (HPl.out _ _ hPr hb1)
        have HB2 := Lib.hid hb1
        clear hcr hb1 hPr
        generalize hki : (keptQ p (l.take j)).length = ki at *
        have HKi := Lib.hid hki
        clear hki
        generalize l[j] = s at *
        obtain ⟨f, t⟩ := s
        simp only at c0 c1
        cases hp : p (f, t) with
        | true =>
          have HC := Lib.hid (HDo1.out _ HPb.out)
          simp only [hp] at HC
          have HE : Hid ((keptQ p (l.take (j + 1))).length = ki) := Lib.hid (by rw [HTj.out, if_pos hp, Nat.add_zero])
          have HG2 := Lib.hid (fun x => HGo1.out x hp)
          clear hp HTj HSt1 HGo1
          go_wp2_with fail
          refine HC.out.mono ?_
          rintro e w2 ⟨rfl, b_w2⟩
          have b2 := HB2.out.trans b_w2
          have HZ := Lib.hid (And.intro (aWr.trans b2) (And.intro (HPl.out _ _ HPb.out b_w2) (And.intro (Nat.lt_of_lt_of_le hgr b2.below.size) (HG2.out _ (HD.out.later b2)))))
          clear b2 b_w2
          go_wp2_with fail
          go_roundg (n - (j + 1))
          case measure => omega
          case rel => exact ⟨j + 1, rfl, by omega, hlt, by go_num, by rw [HE.out], HZ.out⟩
        | false =>
          have HC := Lib.hid (HDo1.out _ HPb.out)
          simp only [hp] at HC
          have HE : Hid ((keptQ p (l.take (j + 1))).length = ki + 1) := Lib.hid (by rw [HTj.out, if_neg (by rw [hp]; decide)])
          have HG2 := Lib.hid (fun x => HSt1.out x hp)
          clear hp HTj HSt1 HGo1
          go_wp2_with fail
          refine HC.out.mono ?_
          rintro e w2 ⟨rfl, b_w2⟩
          have b2 := HB2.out.trans b_w2
          have s0_w2 := any_own b2 s0_wr
          have f0_w2 := own_free s0_w2
          have e0 : w2.cell? ⟨g, ki * 2, none⟩ = some (cur[ki * 2]'(by omega)) := (own_row s0_w2 _).trans (Array.getElem?_eq_getElem _)
          have e1 : w2.cell? ⟨g, ki * 2 + 1, none⟩ = some (cur[ki * 2 + 1]'(by omega)) := (own_row s0_w2 _).trans (Array.getElem?_eq_getElem _)
          have s1_w2 : w2.heap[wr.heap.size]? = some (.cells #[.int .i64 f, .int .i64 t] 55) := any_own b_w2 (heap_new rfl)
          have r1_w2 := own_row s1_w2
          have hne : g ≠ wr.heap.size := by omega
          have i2 : (ki : Int) < (n : Int) := by omega
          have HDx := HG2.out _ (HD.out.later b2)
          have HZ := Lib.hid (And.intro (AnyLater.setCell (AnyLater.setCell (aWr.trans b2) (p := ⟨g, ki * 2, none⟩) HWg.out (.int .i64 f)) (p := ⟨g, ki * 2 + 1, none⟩) HWg.out (.int .i64 t)) (And.intro (HPs.out _ (ki * 2 + 1) (.int .i64 t) (HPs.out _ (ki * 2) (.int .i64 f) (HPl.out _ _ HPb.out b_w2))) (And.intro (Nat.lt_of_lt_of_le hgr b2.below.size) HDx)))
          clear b2 b_w2 s0_w2 s1_w2 HDx
          generalize (cur[ki * 2]'_) = z0 at *
          generalize (cur[ki * 2 + 1]'_) = z1 at *
          go_wp2_with fail
          go_roundg (n - (j + 1))
          case measure => omega
          case rel => exact ⟨j + 1, rfl, by omega, hlt, by go_num, by rw [HE.out]; go_num, HZ.out.1, HZ.out.2.1, by rw [World.size_setCell, World.size_setCell]; exact HZ.out.2.2.1, HZ.out.2.2.2⟩
      · obtain rfl : j = n := by omega
        have d0 : decide ((j : Int) < (j : Int)) = false := by simp
        obtain ⟨cur, s0_wr, hcs, -, -⟩ := hd
        rw [HN.out] at hcs
        have HKM : Hid (keptQ p (l.take j) = M ∧ keptQ p l = M) := Lib.hid ⟨by rw [List.take_of_length_le (Nat.le_of_eq HN.out)]; exact HM.out, HM.out⟩
        have HDn : Hid (DelAt g l p l.length wr) := Lib.hid (by rw [HN.out]; exact HD.out)
        have HRd := Lib.hid (fun xs => HDn.out.reads (cap := cap) (by rw [HN.out]; exact hlc) xs)
        rw [HKM.out.2] at HRd
        rw [HKM.out.1] at hkle hklt ⊢
        have HML : Hid (M.length = M.length) := Lib.hid rfl
        obtain ⟨xs, hxs, hcl⟩ := clear_pairs (P := Tryz.prog) wr 23 55 (.int .i64 0) (.int .i64 0) Tryz.underlying23 zero_span rfl rfl rfl g (M.length * 2) (j - M.length) (cap - M.length) (by omega) (fun k hk => by rw [own_row s0_wr, Array.getElem?_eq_getElem (by omega)]; rfl) (fun k hk => own_free s0_wr _)
        have HRx := Lib.hid (HRd.out xs)
        have hs1 := cut_raw pairSpan g j cap M.length hklt hlc
        have hs2 := upto_raw pairSpan g j cap M.length hklt hlc
        have HZ := Lib.hid (AnyLater.setCells HWg.out xs (M.length * 2) wr aWr)
        clear hxs hcs s0_wr
        generalize hm : M.length = mM at *
        go_wp2_with fail
        go_ret
        exact ⟨_, rfl, HZ.out, HRx.out⟩
end Go.Proofs.YtiicaldnegcdiaaGreat
