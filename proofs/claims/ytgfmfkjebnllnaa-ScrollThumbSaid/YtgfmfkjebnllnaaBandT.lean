/- band: changed by contract: what a function makes of each band, brought within the edges, sorted and made one. -/
import Derived.Test.YtgfmfkjebnllnaaBandS
import Derived.Shelf.SlSortCmp.NoneTotal
namespace Go.Proofs.Ytgfmfkjebnllnaa
set_option linter.unusedSimpArgs false
set_option linter.unusedVariables false
set_option linter.unusedSectionVars false
open Go.RowKit

/-- what is picked of l: the bands that h makes, if they have rows -/
def pickB (h : Int × Int → Int × Int) (l : Bands) : Bands := (l.map fun b => h (edgeB b)).filter fun c => decide (c.1 < c.2)
theorem pickB_nil (h : Int × Int → Int × Int) : pickB h [] = [] := rfl
theorem pickB_take {h : Int × Int → Int × Int} {l : Bands} {j : Nat} (hj : j < l.length) : pickB h (l.take (j + 1)) = pickB h (l.take j) ++ (if (h (edgeB l[j])).1 < (h (edgeB l[j])).2 then [h (edgeB l[j])] else []) := by
  unfold pickB
  rw [List.take_succ_eq_append_getElem hj, List.map_append, List.filter_append]
  congr 1
  rw [List.map_cons, List.map_nil, List.filter_cons, List.filter_nil]
  split <;> split <;> simp_all
theorem pickB_len (h : Int × Int → Int × Int) (l : Bands) : (pickB h l).length ≤ l.length := by
  unfold pickB
  exact Nat.le_trans (List.length_filter_le _ _) (by rw [List.length_map]; exact Nat.le_refl _)
theorem pickB_full {h : Int × Int → Int × Int} (hin : ∀ b, -1073741824 ≤ (h (edgeB b)).1 ∧ (h (edgeB b)).2 ≤ 1073741824) (l : Bands) : Full (pickB h l) := by
  intro c hc
  obtain ⟨h1, h2⟩ := List.mem_filter.1 hc
  obtain ⟨b, _, rfl⟩ := List.mem_map.1 h1
  have := hin b
  have := of_decide_eq_true h2
  omega
theorem pickB_rows {h : Int × Int → Int × Int} (hin : ∀ b, -1073741824 ≤ (h (edgeB b)).1 ∧ (h (edgeB b)).2 ≤ 1073741824) (l : Bands) (y : Int) : inB (pickB h l) y = l.any fun b => decide ((h (edgeB b)).1 ≤ y ∧ y < (h (edgeB b)).2) := by
  rw [inB_full (pickB_full hin l), Bool.eq_iff_iff, List.any_eq_true, List.any_eq_true]
  constructor
  · rintro ⟨c, hc, hy⟩
    obtain ⟨h1, h2⟩ := List.mem_filter.1 hc
    obtain ⟨b, hb, rfl⟩ := List.mem_map.1 h1
    exact ⟨b, hb, hy⟩
  · rintro ⟨b, hb, hy⟩
    have := of_decide_eq_true hy
    exact ⟨_, List.mem_filter.2 ⟨List.mem_map.2 ⟨b, hb, rfl⟩, decide_eq_true (by omega)⟩, hy⟩
theorem perm_inB {A B : Bands} (h : A.Perm B) (y : Int) : inB A y = inB B y := by
  unfold inB
  rw [Bool.eq_iff_iff, List.any_eq_true, List.any_eq_true]
  exact ⟨fun ⟨b, hb, hy⟩ => ⟨b, h.mem_iff.1 hb, hy⟩, fun ⟨b, hb, hy⟩ => ⟨b, h.mem_iff.2 hb, hy⟩⟩

set_option maxRecDepth 100000 in
theorem merged_nil (w : World) : Calls Try.prog 36 #[.slice none 0 0] w fun e w' => e = .returned (.slice none 0 0) ∧ w = w' := by
  go_enter Try.func36, Try.ntmps36
  go_wp2_with fail
  refine wp_loop_rounds 1 ?_
  rw [rounds_succ]
  go_wp2_with fail
  go_ret
  exact ⟨rfl, rfl⟩

/-- sorted, then made one -/
def Merged (W : World) (K : Bands) (e : Ending) (w' : World) : Prop := ∃ v T, e = .returned v ∧ AnyLater W w' ∧ OB w' W.heap.size v T ∧ GoodL T ∧ ∀ y, inB T y = inB K y
/-- a closure that answers with what h makes of a band -/
def Makes (w : World) (gc : Nat) (cb : Array Value) (h : Int × Int → Int × Int) : Prop := ∀ (b1 b2 : Int), (-1073741824 ≤ b1 ∧ b1 ≤ 1073741824 ∧ -1073741824 ≤ b2 ∧ b2 ≤ 1073741824) → ∀ w', AnyLater w w' →
  Calls Try.prog gc (#[.agg #[.int .i64 b1, .int .i64 b2]] ++ cb) w' fun e w'' => e = .returned (.agg #[.int .i64 (h (b1, b2)).1, .int .i64 (h (b1, b2)).2]) ∧ AnyLater w' w''

set_option maxRecDepth 100000 in
set_option maxHeartbeats 3200000 in
theorem changed_some (b off n cap gc : Nat) (cb : Array Value) (h : Int × Int → Int × Int) (l : Bands) (w : World) (hl : l.length = n) (h0 : 0 < n) (hn : n ≤ 100000) (hb : b < w.heap.size) (hc : ∀ (j : Nat) (h : j < l.length), w.cell? ⟨b, off + j * 2, none⟩ = some (.int .i64 l[j].1) ∧ w.cell? ⟨b, off + j * 2 + 1, none⟩ = some (.int .i64 l[j].2))
    (hin : ∀ b, -1073741824 ≤ (h (edgeB b)).1 ∧ (h (edgeB b)).2 ≤ 1073741824) (hcf : ∀ args w, (callFunc gc args).run Try.prog w = .ok (.enter gc args) w) (hdo : Makes w gc cb h) :
    Calls Try.prog 28 #[.slice (some ⟨b, off, none⟩) n cap, .func (.func gc) #[] cb] w (Merged w (pickB h l)) := by
  obtain ⟨i0, hi0, hz0, hz1, hz2⟩ := info_parts info_band
  have HL := Lib.hid hl
  have HC := Lib.hid hc
  have HI := Lib.hid hin
  have HD := Lib.hid hdo
  clear hl hc hin hdo
  go_enter Try.func28, Try.ntmps28
  go_wp2_with fail
  go_loopg [5, 11] n (fun k v i wr => ∃ j : Nat, k = n - j ∧ j ≤ n ∧ i = .int .i64 j ∧ AnyLater w wr ∧ OB wr w.heap.size v (pickB h (l.take j)))
  case atStart => exact ⟨0, by omega, by omega, rfl, AnyLater.refl w, ⟨rfl, .inl ⟨rfl, rfl⟩⟩⟩
  case round =>
    obtain ⟨j, hk, hj, rfl, a_wr, ho⟩ := hrel
    have HO := Lib.hid ho
    clear ho
    by_cases hlt : j < n
    · have lj : j < l.length := by rw [HL.out]; exact hlt
      have c0 : wr.cell? ⟨b, off + j * 2, none⟩ = some (.int .i64 l[j].1) := (a_wr.below.cell hb).trans (HC.out j lj).1
      have c1 : wr.cell? ⟨b, off + j * 2 + 1, none⟩ = some (.int .i64 l[j].2) := (a_wr.below.cell hb).trans (HC.out j lj).2
      have HT := Lib.hid (pickB_take (h := h) lj)
      have HLen : Hid ((pickB h (l.take j)).length ≤ 100000) := Lib.hid (by have := pickB_len h (l.take j); rw [List.length_take] at this; omega)
      generalize l[j] = x at *
      obtain ⟨f, t⟩ := x
      simp only at c0 c1
      obtain ⟨r1, hr1⟩ : ∃ r, clZ f (-1073741824) 1073741824 = r := ⟨_, rfl⟩
      obtain ⟨r2, hr2⟩ : ∃ r, clZ t (-1073741824) 1073741824 = r := ⟨_, rfl⟩
      have he : edgeB (f, t) = (r1, r2) := by unfold edgeB clB; rw [hr1, hr2]
      have hri := edge_in (f, t)
      rw [he] at hri HT
      have HR := Lib.hid (And.intro hr1 (And.intro hr2 hri))
      obtain ⟨y1, hy1⟩ : ∃ r, (h (r1, r2)).1 = r := ⟨_, rfl⟩
      obtain ⟨y2, hy2⟩ : ∃ r, (h (r1, r2)).2 = r := ⟨_, rfl⟩
      have hy : h (r1, r2) = (y1, y2) := Prod.ext hy1 hy2
      rw [hy] at HT
      have HY := Lib.hid hy
      clear hr1 hr2 he hri hy1 hy2 hy
      go_wp2_with fail
      first | refine settle_wp (fun wS => AnyLater wr wS ∧ wS.heap[wr.heap.size]? = some (.cells #[.int .i64 f, .int .i64 t] 39)) ?_ ?_ | refine settle_calls (fun wS => AnyLater wr wS ∧ wS.heap[wr.heap.size]? = some (.cells #[.int .i64 f, .int .i64 t] 39)) ?_ ?_
      · refine ⟨?_, ?_⟩
        · repeat' (first | with_reducible assumption | with_reducible exact AnyLater.refl _ | with_reducible apply AnyLater.setCell | with_reducible apply AnyLater.later | with_reducible apply AnyLater.drewN | with_reducible apply AnyLater.drew | with_reducible apply AnyLater.alloc | ((try simp only [World.size_alloc, World.size_setCell, World.size_drew]); (try dsimp only); omega))
        · ((repeat (first | with_reducible assumption | ((with_reducible apply heap_new); (try simp only [World.size_alloc, World.size_setCell, World.size_drew, World.heap_drewN]); done) | ((with_reducible apply heap_new); (try simp only [World.size_alloc, World.size_setCell, World.size_drew, World.heap_drewN]); omega) | (with_reducible refine heap_old (by (try simp only [World.size_alloc, World.size_setCell, World.size_drew, World.heap_drewN]); omega) ?_) | (with_reducible refine heap_drew ?_) | (with_reducible refine heap_far (by omega) ?_) | (with_reducible apply heap_at))); all_goals rfl)
      rintro w1 ⟨b_w1, s0_w1⟩
      have a_w1 := a_wr.trans b_w1
      have r0_w1 := own_row s0_w1
      have f0_w1 := own_free s0_w1
      have l0_w1 := own_lt s0_w1
      have z_w1 := b_w1.below.size
      refine (within_any f t _ _ r1 r2 w1 HR.out.1 HR.out.2.1).mono ?_
      rintro e w2 ⟨rfl, b_w2⟩
      have z_w2 := b_w2.below.size
      have a_w2 := a_w1.trans b_w2
      have s0_w2 := any_own b_w2 s0_w1
      have r0_w2 := own_row s0_w2
      have f0_w2 := own_free s0_w2
      have l0_w2 := own_lt s0_w2
      (try clear r0_w1); (try clear f0_w1)
      go_wp2_with fail
      have HD2 := Lib.hid (HD.out r1 r2 HR.out.2.2 w2 a_w2)
      rw [HY.out] at HD2
      refine (HD2.out).mono ?_
      rintro e w3 ⟨rfl, b_w3⟩
      have z_w3 := b_w3.below.size
      have a_w3 := a_w2.trans b_w3
      have s0_w3 := any_own b_w3 s0_w2
      have r0_w3 := own_row s0_w3
      have f0_w3 := own_free s0_w3
      have l0_w3 := own_lt s0_w3
      (try clear r0_w2); (try clear f0_w2)
      go_wp2_with fail
      first | refine settle_wp (fun wS => AnyLater w3 wS ∧ wS.heap[w3.heap.size]? = some (.cells #[.int .i64 y1, .int .i64 y2] 39)) ?_ ?_ | refine settle_calls (fun wS => AnyLater w3 wS ∧ wS.heap[w3.heap.size]? = some (.cells #[.int .i64 y1, .int .i64 y2] 39)) ?_ ?_
      · refine ⟨?_, ?_⟩
        · repeat' (first | with_reducible assumption | with_reducible exact AnyLater.refl _ | with_reducible apply AnyLater.setCell | with_reducible apply AnyLater.later | with_reducible apply AnyLater.drewN | with_reducible apply AnyLater.drew | with_reducible apply AnyLater.alloc | ((try simp only [World.size_alloc, World.size_setCell, World.size_drew]); (try dsimp only); omega))
        · ((repeat (first | with_reducible assumption | ((with_reducible apply heap_new); (try simp only [World.size_alloc, World.size_setCell, World.size_drew, World.heap_drewN]); done) | ((with_reducible apply heap_new); (try simp only [World.size_alloc, World.size_setCell, World.size_drew, World.heap_drewN]); omega) | (with_reducible refine heap_old (by (try simp only [World.size_alloc, World.size_setCell, World.size_drew, World.heap_drewN]); omega) ?_) | (with_reducible refine heap_drew ?_) | (with_reducible refine heap_far (by omega) ?_) | (with_reducible apply heap_at))); all_goals rfl)
      rintro w4 ⟨b_w4, s1_w4⟩
      have a_w4 := a_w3.trans b_w4
      have s0_w4 := any_own b_w4 s0_w3
      have r0_w4 := own_row s0_w4
      have f0_w4 := own_free s0_w4
      have l0_w4 := own_lt s0_w4
      (try clear r0_w3); (try clear f0_w3)
      have r1_w4 := own_row s1_w4
      have f1_w4 := own_free s1_w4
      have l1_w4 := own_lt s1_w4
      have z_w4 := b_w4.below.size
      by_cases hf : y1 < y2
      · have hf1 : decide (y1 < y2) = true := decide_eq_true hf
        refine (filled_any y1 y2 w4 true hf1).mono ?_
        rintro e w5 ⟨rfl, b_w5⟩
        have z_w5 := b_w5.below.size
        have a_w5 := a_w4.trans b_w5
        have s0_w5 := any_own b_w5 s0_w4
        have s1_w5 := any_own b_w5 s1_w4
        have r0_w5 := own_row s0_w5
        have f0_w5 := own_free s0_w5
        have l0_w5 := own_lt s0_w5
        have r1_w5 := own_row s1_w5
        have f1_w5 := own_free s1_w5
        have l1_w5 := own_lt s1_w5
        (try clear r0_w4); (try clear f0_w4)
        (try clear r1_w4); (try clear f1_w4)
        have HO5 := Lib.hid ((HO.out.later ((b_w1.trans b_w2).trans (b_w3.trans (b_w4.trans b_w5)))).later ((AnyLater.refl w5).alloc (.cells #[.int .i64 y1, .int .i64 y2] 39)))
        have HN1 := Lib.hid (World.news_of_block (w := w5.alloc (.cells #[.int .i64 y1, .int .i64 y2] 39)) (cs := #[.int .i64 y1, .int .i64 y2]) (t := 39) (fr := (0, 0)) (heap_new rfl))
        have HB : Hid ((pickB h (l.take j)).length + 1 ≤ maxLen ∧ ((pickB h (l.take j)).length + 1) * 16 ≤ 140737488355328 ∧ w.heap.size ≤ (w5.alloc (.cells #[.int .i64 y1, .int .i64 y2] 39)).heap.size) := Lib.hid ⟨by have := HLen.out; unfold maxLen; omega, by have := HLen.out; omega, (a_w5.alloc _).below.size⟩
        have HS : Hid (pickB h (l.take (j + 1)) = pickB h (l.take j) ++ [(y1, y2)]) := Lib.hid (by rw [HT.out, if_pos hf])
        have HAL := Lib.hid (And.intro (a_w5.alloc (.cells #[.int .i64 y1, .int .i64 y2] 39)) (owns_base HO.out))
        clear HT hf hf1
        go_wp2_with (at_builtin; refine wpList_append_own _ rfl _ _ 31 rfl w.heap.size 39 i0 (.agg #[.int .i64 0, .int .i64 0]) 2 16 Try.underlying31 hi0 hz0 hz1 hz2 rfl (by decide) _ (pickB h (l.take j)).length (flatB (pickB h (l.take j))) rfl HO5.out ⟨w5.heap.size, 0, none⟩ 1 1 [.int .i64 y1, .int .i64 y2] rfl rfl HN1.out (by simp [Value.oneCell']) HB.out.1 HB.out.2.1 HB.out.2.2 ?_; intro v' w6 hown1 hgrow hnil; have S : Hid (AnyLater w w6 ∧ OB w6 w.heap.size v' (pickB h (l.take (j + 1)))) := Lib.hid ⟨grown_later HAL.out.1 hgrow HAL.out.2, by rw [HS.out]; unfold OB; rw [List.length_append, flatB_append]; exact hown1⟩; clear hown1 hgrow hnil)
        go_roundg (n - (j + 1))
        case measure => omega
        case rel => exact ⟨j + 1, rfl, hlt, by go_num, S.out⟩
      · have hf1 : decide (y1 < y2) = false := decide_eq_false hf
        refine (filled_any y1 y2 w4 false hf1).mono ?_
        rintro e w5 ⟨rfl, b_w5⟩
        have z_w5 := b_w5.below.size
        have a_w5 := a_w4.trans b_w5
        have s0_w5 := any_own b_w5 s0_w4
        have s1_w5 := any_own b_w5 s1_w4
        have r0_w5 := own_row s0_w5
        have f0_w5 := own_free s0_w5
        have l0_w5 := own_lt s0_w5
        have r1_w5 := own_row s1_w5
        have f1_w5 := own_free s1_w5
        have l1_w5 := own_lt s1_w5
        (try clear r0_w4); (try clear f0_w4)
        (try clear r1_w4); (try clear f1_w4)
        have HS : Hid (pickB h (l.take (j + 1)) = pickB h (l.take j)) := Lib.hid (by rw [HT.out, if_neg hf, List.append_nil])
        have HO5 := Lib.hid (HO.out.later ((b_w1.trans b_w2).trans (b_w3.trans (b_w4.trans b_w5))))
        clear HT hf hf1
        go_wp2_with fail
        go_roundg (n - (j + 1))
        case measure => omega
        case rel => exact ⟨j + 1, rfl, hlt, by go_num, a_w5, by rw [HS.out]; exact HO5.out⟩
    · obtain rfl : j = n := by omega
      have ho := HO.out
      have ht : l.take j = l := List.take_of_length_le (Nat.le_of_eq HL.out)
      rw [ht] at ho
      have HF := Lib.hid (And.intro (pickB_full HI.out l) (pickB_len h l))
      generalize pickB h l = K at *
      clear HO ht
      rcases ho.2 with ⟨rfl, hk0⟩ | ⟨gb, cap2, cur, rfl, q1, q2, q3, q4, q5, q6⟩
      · have HK : Hid (K = []) := Lib.hid (List.eq_nil_of_length_eq_zero hk0)
        clear ho
        go_wp2_with fail
        refine (AnyF.slices_SortFunc_none sortLay none 0 _ wr).mono ?_
        rintro e w' ⟨rfl, rfl⟩
        go_wp2_with fail
        refine (merged_nil _).mono ?_
        rintro e w' ⟨rfl, rfl⟩
        go_wp2_with fail
        go_ret
        exact ⟨_, [], rfl, a_wr, ⟨rfl, .inl ⟨rfl, rfl⟩⟩, GoodL.nil, fun y => by rw [HK.out]⟩
      · have HQ := Lib.hid (And.intro q1 (And.intro q4 q5))
        have hcu := CellsB.of_take q6
        have hle : K.length ≤ 100000 := by have := HF.out.2; have := HL.out; omega
        have HS := Lib.hid (sort_any gb cap2 cur K w wr a_wr q1 q2 (by rw [q5]; omega) hcu hle)
        clear ho q1 q2 q4 q5 q6 hcu
        go_wp2_with fail
        refine HS.out.mono ?_
        rintro e w1 ⟨rfl, cur1, L, a_w1, s0_w1, k1, k2, k3, k4⟩
        have HK := Lib.hid (And.intro k1 (And.intro k2 (And.intro k3 k4)))
        have HP : Hid (L.length = K.length) := Lib.hid k3.length_eq
        clear k1 k2 k3 k4 HS
        go_wp2_with fail
        refine (merged_block gb K.length cap2 cur1 L w w1 a_w1 HQ.out.1 s0_w1 HP.out hle q3 HQ.out.2.1 (by rw [HK.out.1, HQ.out.2.2]) HK.out.2.1 (fun c hc => HF.out.1 c (HK.out.2.2.1.mem_iff.1 hc)) HK.out.2.2.2).mono ?_
        rintro e w2 ⟨v, T, rfl, a_w2, o2, g2, r2⟩
        have HE := Lib.hid (And.intro o2 (And.intro g2 r2))
        clear o2 g2 r2
        go_wp2_with fail
        go_ret
        exact ⟨_, T, rfl, a_w2, HE.out.1, HE.out.2.1, fun y => (HE.out.2.2 y).trans (perm_inB HK.out.2.2.1 y)⟩
end Go.Proofs.Ytgfmfkjebnllnaa
