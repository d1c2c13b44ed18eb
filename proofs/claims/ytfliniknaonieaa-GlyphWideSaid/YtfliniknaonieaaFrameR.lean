/- frame: the program's New, At, Line and Clone, by contract. -/
import Derived.Test.YtfliniknaonieaaFrameQ
import Derived.WalkSpells
namespace Go.Proofs.Ytfliniknaonieaa
set_option linter.unusedSimpArgs false
set_option linter.unusedVariables false
set_option linter.unusedSectionVars false
open Go.RowKit

/-! ### all pixels in one list -/
def flatL (W : Nat) (rows : Pix) : List Int := (List.range (W * rows.length)).map fun k => px rows (k / W) (k % W)
theorem flatL_len (W : Nat) (rows : Pix) : (flatL W rows).length = W * rows.length := by simp [flatL]
theorem flat_in {W H k : Nat} (h : k < W * H) : k / W < H ∧ k % W < W ∧ (k / W) * W + k % W = k := by
  have hW : 0 < W := by
    rcases Nat.eq_zero_or_pos W with h0 | h0
    · rw [h0, Nat.zero_mul] at h; omega
    · exact h0
  exact ⟨Nat.div_lt_of_lt_mul h, Nat.mod_lt _ hW, Nat.div_add_mod' k W⟩
theorem flatL_get (W : Nat) (rows : Pix) (k : Nat) (h : k < (flatL W rows).length) : (flatL W rows)[k] = px rows (k / W) (k % W) := by simp [flatL]
theorem flat_idx {W H i j : Nat} (hi : i < H) (hj : j < W) : i * W + j < W * H ∧ (i * W + j) / W = i ∧ (i * W + j) % W = j := by
  have h := idx_row (W := W) hi
  refine ⟨by omega, ?_, ?_⟩
  · rw [Nat.mul_comm, Nat.mul_add_div (by omega), Nat.div_eq_of_lt hj]; omega
  · rw [Nat.mul_comm, Nat.mul_add_mod, Nat.mod_eq_of_lt hj]
theorem flatL_at {W : Nat} {rows : Pix} {i j : Nat} (hi : i < rows.length) (hj : j < W) : (flatL W rows)[i * W + j]'(by rw [flatL_len]; exact (flat_idx hi hj).1) = px rows i j := by
  obtain ⟨_, h2, h3⟩ := flat_idx hi hj
  rw [flatL_get, h2, h3]
theorem PixF.flat {cells : Array Value} {W : Nat} {rows : Pix} (h : PixF cells W rows.length (px rows)) (k : Nat) (hk : k < (flatL W rows).length) : cells[k]? = some (.int .u32 (flatL W rows)[k]) := by
  have hk2 : k < W * rows.length := by rw [flatL_len] at hk; exact hk
  obtain ⟨h1, h2, h3⟩ := flat_in hk2
  rw [flatL_get, ← h _ _ h1 h2, h3]
theorem PixF.of_flat {cells : Array Value} {W : Nat} {rows : Pix} (h : ∀ (k : Nat) (hk : k < (flatL W rows).length), cells[k]? = some (.int .u32 (flatL W rows)[k])) : PixF cells W rows.length (px rows) := fun i j hi hj => by
  rw [h _ (by rw [flatL_len]; exact (flat_idx hi hj).1), flatL_at hi hj]
theorem FrA.allRU {w : World} {a : Nat} {m : FM} {S : Nat → Prop} {A : Option Addr} {cap : Nat} (h : FrA w a m S A cap) : RU w (.slice A (m.w * m.rows.length) cap) (flatL m.w m.rows) := by
  refine ⟨A, cap, by rw [flatL_len], by rw [flatL_len]; exact h.room, fun h0 => ?_⟩
  rw [flatL_len] at h0
  obtain ⟨q, cells, e, sq, hq, hp⟩ := h.pix h0
  exact ⟨q, 0, e, own_lt hq, fun j hj => by rw [own_row hq, Nat.zero_add, hp.flat j hj]⟩
theorem FrA.rowSRU {w : World} {a : Nat} {m : FM} {S : Nat → Prop} {A : Option Addr} {cap : Nat} {y : Nat} (h : FrA w a m S A cap) (hy : y < m.rows.length) : RU w (rowS A cap m.w y) m.rows[y] := by
  have hl := h.ok.wide y hy
  have hr := idx_row (W := m.w) hy
  have hroom := h.room
  rcases Nat.eq_zero_or_pos m.w with h0 | h0
  · refine ⟨_, _, by unfold rowS; rw [hl], by omega, fun h1 => by omega⟩
  · obtain ⟨q, cells, rfl, sq, hq, hp⟩ := h.pix (mul_pos_lt hy h0)
    rw [rowS_some (by omega)]
    exact h.rowRU hq hp hy _ (by omega)

/-! ### a list of pixels copied -/
def isPix (l : List Int) (v : Value) (w : World) : Prop := ∃ A c, v = .slice A l.length c ∧ l.length ≤ c ∧ (0 < l.length → ∃ b cells, A = some ⟨b, 0, none⟩ ∧ w.heap[b]? = some (.cells cells 33) ∧ ∀ (x : Nat) (hx : x < l.length), cells[x]? = some (.int .u32 l[x]))
theorem isPix_stays {l : List Int} {v : Value} {w w' : World} (ha : AnyLater w w') (h : isPix l v w) : isPix l v w' := by
  obtain ⟨A, c, h1, h2, h3⟩ := h
  refine ⟨A, c, h1, h2, fun h0 => ?_⟩
  obtain ⟨b, cells, e, hb, hc⟩ := h3 h0
  exact ⟨b, cells, e, any_own ha hb, hc⟩
theorem isPix.ru {l : List Int} {v : Value} {w : World} (h : isPix l v w) : RU w v l := by
  obtain ⟨A, c, h1, h2, h3⟩ := h
  refine ⟨A, c, h1, h2, fun h0 => ?_⟩
  obtain ⟨b, cells, e, hb, hc⟩ := h3 h0
  exact ⟨b, 0, e, own_lt hb, fun j hj => by rw [own_row hb, Nat.zero_add, hc j hj]⟩
theorem run_copyL {w : World} {v2 : Value} {l : List Int} (hr : RU w v2 l) (hn : l.length ≤ 20000000) :
    ∃ g c cells w2, (Builtin.append_ #[34, 34] 34 #[.slice (some ⟨w.heap.size, 0, none⟩) 0 0, v2]).run Try.prog (w.alloc (.cells #[] 33)) = .ok (.slice (some ⟨g, 0, none⟩) l.length c) w2 ∧ AnyLater w w2 ∧ w.heap.size ≤ g ∧ w2.heap[g]? = some (.cells cells 33) ∧ l.length ≤ c ∧ ∀ (x : Nat) (hx : x < l.length), cells[x]? = some (.int .u32 l[x]) := by
  obtain ⟨i0, hi0, hz0, hz1, hz2⟩ := info_parts info_pix
  obtain ⟨A, cap, rfl, h2, h3⟩ := hr
  have ho : (w.alloc (.cells #[] 33)).ownsRow w.heap.size 33 1 (.slice (some ⟨w.heap.size, 0, none⟩) 0 0) 0 [] := ⟨rfl, .inr ⟨w.heap.size, 0, #[], rfl, Nat.le_refl _, heap_new rfl, Nat.le_refl _, Nat.zero_le _, rfl, rfl⟩⟩
  have a1 : AnyLater w (w.alloc (.cells #[] 33)) := (AnyLater.refl w).alloc _
  cases A with
  | none =>
    have h0 : l.length = 0 := by
      rcases Nat.eq_zero_or_pos l.length with h | h
      · exact h
      · obtain ⟨b, off, e, _⟩ := h3 h; cases e
    obtain rfl := List.eq_nil_of_length_eq_zero h0
    have hs := Src.ofNil (P := Try.prog) (w.alloc (.cells #[] 33)) (size := i0.size) Try.underlying34 cap
    exact ⟨w.heap.size, 0, #[], _, run_append_nothing (P := Try.prog) _ 34 34 34 33 i0 Try.underlying34 hi0 _ 0 0 (Nat.le_refl _) _ hs, a1, Nat.le_refl _, heap_new rfl, Nat.le_refl _, fun x hx => by simp at hx⟩
  | some ad =>
    have hnews : ∀ j u, (l.map (Value.int .u32))[j]? = some u → (w.alloc (.cells #[] 33)).cell? (ad.add j) = some u := by
      intro j u hu
      have hj : j < l.length := by
        rcases Nat.lt_or_ge j l.length with h | h
        · exact h
        · rw [List.getElem?_eq_none (by simpa using h)] at hu; cases hu
      obtain ⟨b, off, e, hb, hc⟩ := h3 (by omega)
      cases e
      have hadd : (⟨b, off, none⟩ : Addr).add j = ⟨b, off + j, none⟩ := by unfold Addr.add; split <;> simp_all
      rw [hadd, a1.below.cell hb, hc j hj, ← hu]
      simp [hj]
    obtain ⟨v', w', k1, k2, k3, k4⟩ := run_append_own (P := Try.prog) (w.alloc (.cells #[] 33)) w.heap.size 34 34 33 i0 (.int .u32 0) 1 4 Try.underlying34 hi0 hz0 hz1 hz2 rfl (by decide) _ 0 [] ho ad l.length cap (l.map (Value.int .u32)) (by simp) hnews (by intro u hu; obtain ⟨z, _, rfl⟩ := List.mem_map.1 hu; rfl) (by unfold maxLen; omega) (by omega) (by simp)
    have aw : AnyLater w w' := grown_later a1 k3 (fun k hk => by simp only [Value.ownBlock, Option.some.injEq] at hk; omega)
    rcases k2.2 with ⟨e, _⟩ | ⟨g, c, cur, rfl, q1, q2, q3, q4, q5, q6⟩
    · have := (k4.1 e).1; cases this
    · rw [Nat.zero_add] at k1 q3 q6
      refine ⟨g, c, cur, w', k1, aw, q1, q2, q3, fun x hx => ?_⟩
      have : (cur.toList.take (l.length * 1))[x]? = (l.map (Value.int .u32))[x]? := by rw [q6]; rfl
      rw [List.getElem?_take_of_lt (by omega), Array.getElem?_toList] at this
      rw [this]
      simp [hx]
set_option maxRecDepth 100000 in
set_option maxHeartbeats 1600000 in
theorem clonePix_any (w : World) (v : Value) (l : List Int) (h : RU w v l) (hl : l.length ≤ 20000000) : Calls Try.prog 44 #[v] w (Gives (isPix l) w) := by
  have hr := h
  obtain ⟨A, cap, rfl, h2, h3⟩ := h
  have hq := fun (w : World) (n : Nat) => Lib.run_eql_slice_nil (P := Try.prog) w 34 33 A n cap 0 0 Try.underlying34
  cases A with
  | none =>
    have h0 : l.length = 0 := by
      rcases Nat.eq_zero_or_pos l.length with h | h
      · exact h
      · obtain ⟨b, off, e, _⟩ := h3 h; cases e
    obtain rfl := List.eq_nil_of_length_eq_zero h0
    clear h2 h3 hr hl h0
    go_enter Try.func44, Try.ntmps44
    go_wp2_with fail
    go_ret
    exact ⟨_, rfl, AnyLater.refl _, ⟨none, 0, rfl, Nat.le_refl _, fun h => by simp at h⟩, fun b hb => by cases hb⟩
  | some ad =>
    obtain ⟨g, c, cells, w2, k1, k2, k3, k4, k5, k6⟩ := run_copyL hr hl
    have HK := Lib.hid (And.intro k2 (And.intro k3 (And.intro k4 (And.intro k5 k6))))
    have K1 := Lib.hid k1
    clear k1 k2 k3 k4 k5 k6 h2 h3 hr hl
    obtain ⟨n, hn⟩ : ∃ n, l.length = n := ⟨_, rfl⟩
    rw [hn] at K1 ⊢
    have HN := Lib.hid hn
    clear hn
    go_enter Try.func44, Try.ntmps44
    go_wp2_with (at_builtin; refine Lib.wpList_append_run _ rfl _ _ _ _ rfl _ _ rfl rfl _ _ K1.out ?_)
    go_ret
    obtain ⟨k2, k3, k4, k5, k6⟩ := HK.out
    refine ⟨_, rfl, k2, ⟨_, c, by rw [HN.out]; rfl, k5, fun _ => ⟨g, cells, rfl, k4, k6⟩⟩, fun b hb => ?_⟩
    simp only [vblk, Array.getD_eq_getD_getElem?] at hb
    simp at hb
    subst hb
    exact ⟨k3, own_lt k4⟩

/-! ### New -/
theorem px_newM {W H i j : Nat} (hi : i < H) (hj : j < W) : px (newM W H).rows i j = 0 := by simp [px, newM, hi, hj]
set_option maxRecDepth 100000 in
set_option maxHeartbeats 3200000 in
theorem new_any (W H : Nat) (w : World) (hW : W ≤ 4096) (hH : H ≤ 4096) : Calls Try.prog 10 #[.int .i64 W, .int .i64 H] w fun e w' => ∃ a S, e = .returned (.tuple #[ptr a, .int .i64 0]) ∧ AnyLater w w' ∧ Fr w' a (newM W H) S ∧ ∀ k, S k → w.heap.size ≤ k := by
  obtain ⟨N, hN⟩ : ∃ N, W * H = N := ⟨_, rfl⟩
  have hNm : N ≤ 4096 * 4096 := by rw [← hN]; exact Nat.mul_le_mul hW hH
  have e1 : (W : Int) * (H : Int) = (N : Int) := by rw [← hN]; simp
  have hm0 := run_make_row' (P := Try.prog) 34 33 (.int .u32 0) 4 Try.underlying34 info_pix rfl .i64 .i64 N (by omega) (by omega) w
  have HN := Lib.hid hN
  obtain ⟨w1, hw1⟩ : ∃ w1, w.alloc (.cells (madeCells #[.int .u32 0] N) 33) = w1 := ⟨_, rfl⟩
  have z1 : w1.heap.size = w.heap.size + 1 := by rw [← hw1]; simp
  have b1 : AnyLater w w1 := by rw [← hw1]; exact (AnyLater.refl w).alloc _
  have s1 : w1.heap[w.heap.size]? = some (.cells (madeCells #[.int .u32 0] N) 33) := by rw [← hw1]; exact heap_new rfl
  rw [hw1] at hm0
  have HB := Lib.hid (And.intro b1 (And.intro s1 z1))
  have g1 := fun w => frGoodSide_any (W : Int) w true (decide_eq_true (by omega)) (by unfold I64; omega)
  have g2 := fun w => frGoodSide_any (H : Int) w true (decide_eq_true (by omega)) (by unfold I64; omega)
  have HG := Lib.hid (And.intro g1 g2)
  clear hN hw1 b1 s1 z1 g1 g2
  go_enter Try.func10, Try.ntmps10
  go_wp2_with fail
  refine (HG.out.1 w).mono ?_
  rintro e w' ⟨rfl, rfl⟩
  go_wp2_with fail
  refine (HG.out.2 w).mono ?_
  rintro e w' ⟨rfl, rfl⟩
  go_wp2_with fail
  obtain ⟨b1, s1, z1⟩ := HB.out
  have l1 := own_lt s1
  refine bodyPost_ret (v := .tuple #[ptr w1.heap.size, .int .i64 0]) (by simp [results, Try.results10, go_sem, ptr]) rfl ⟨w1.heap.size, sinceS w (w1.alloc (.cells #[.int .i64 W, .int .i64 H, .slice (some ⟨w.heap.size, 0, none⟩) N N, .int .i64 0] 67)), rfl, b1.alloc _, ⟨some ⟨w.heap.size, 0, none⟩, N, ?_⟩, fun k hk => hk.1⟩
  have eH : (newM W H).rows.length = H := by simp [newM]
  refine ⟨⟨by omega, by simp⟩, ?_, newM_ok W H, ?_, fun h0 => ⟨w.heap.size, _, rfl, ⟨Nat.le_refl _, by simp; omega⟩, heap_old l1 s1, ?_⟩, fun k hk => hk.2⟩
  · have e2 : (newM W H).w * H = N := HN.out
    rw [eH, e2]
    exact heap_new rfl
  · rw [eH]; show W * H ≤ N; rw [HN.out]; exact Nat.le_refl _
  · rw [eH]
    intro i j hi hj
    have hj' : j < W := hj
    rw [px_newM hi hj']
    exact made_get N _ (by rw [← HN.out]; exact (flat_idx hi hj).1)
theorem newBad_any (W H : Int) (w : World) (hW : I64 W) (hH : I64 H) (hb : W < 0 ∨ H < 0 ∨ 4096 < W ∨ 4096 < H) : Calls Try.prog 10 #[.int .i64 W, .int .i64 H] w fun e w' => e = .returned (.tuple #[.pointer none, .int .i64 1]) ∧ AnyLater w w' := by
  by_cases h1 : 0 ≤ W ∧ W ≤ 4096
  · have g1 := fun w => frGoodSide_any W w true (decide_eq_true h1) hW
    have g2 := fun w => frGoodSide_any H w false (decide_eq_false (by omega)) hH
    have HG := Lib.hid (And.intro g1 g2)
    clear g1 g2
    go_enter Try.func10, Try.ntmps10
    go_wp2_with fail
    refine (HG.out.1 w).mono ?_
    rintro e w' ⟨rfl, rfl⟩
    go_wp2_with fail
    refine (HG.out.2 w).mono ?_
    rintro e w' ⟨rfl, rfl⟩
    go_wp2_with fail
    exact bodyPost_ret (v := .tuple #[.pointer none, .int .i64 1]) (by simp [results, Try.results10, go_sem]) rfl ⟨rfl, AnyLater.refl _⟩
  · have g1 := fun w => frGoodSide_any W w false (decide_eq_false h1) hW
    have HG := Lib.hid g1
    clear g1
    go_enter Try.func10, Try.ntmps10
    go_wp2_with fail
    refine (HG.out w).mono ?_
    rintro e w' ⟨rfl, rfl⟩
    go_wp2_with fail
    exact bodyPost_ret (v := .tuple #[.pointer none, .int .i64 1]) (by simp [results, Try.results10, go_sem]) rfl ⟨rfl, AnyLater.refl _⟩

/-! ### At -/
theorem has_all {W H : Nat} {x y : Int} (hW : W ≤ 4096) (hH : H ≤ 4096) : Rt.has ⟨0, 0, W, H⟩ x y = decide (0 ≤ x ∧ 0 ≤ y ∧ x < (W : Int) ∧ y < (H : Int)) := by
  unfold Rt.has goodB sideB
  rw [Bool.eq_iff_iff]
  simp
  omega
section
variable {w : World} {a : Nat} {m : FM} {S : Nat → Prop}
set_option maxRecDepth 100000 in
set_option maxHeartbeats 3200000 in
theorem at_any (x y c : Int) (hc : atM x y m = c) (h : Fr w a m S) (hs : Small m) (hx : I64 x) (hy : I64 y) : Calls Try.prog 38 #[ptr a, .int .i64 x, .int .i64 y] w fun e w' => e = .returned (.int .u32 c) ∧ AnyLater w w' := by
  obtain ⟨A, cap, h⟩ := h
  obtain ⟨s1, s2, s3, s4, s5⟩ := hs
  have HA := Lib.hid h
  have hha := has_all (x := x) (y := y) s2 s3
  by_cases hb : 0 ≤ x ∧ 0 ≤ y ∧ x < (m.w : Int) ∧ y < (m.rows.length : Int)
  · rw [decide_eq_true hb] at hha
    obtain ⟨i, rfl⟩ : ∃ i : Nat, (i : Int) = x := ⟨x.toNat, by omega⟩
    obtain ⟨j, rfl⟩ : ∃ j : Nat, (j : Int) = y := ⟨y.toNat, by omega⟩
    have HH := Lib.hid (fun w => has_any 0 0 (m.w : Int) (m.rows.length : Int) i j w true hha (by unfold I64; omega) (by unfold I64; omega) (by unfold I64; omega) (by unfold I64; omega) hx hy)
    have hi : i < m.w := by omega
    have hj : j < m.rows.length := by omega
    have hcv : c = px m.rows j i := by
      rw [← hc]
      unfold atM
      rw [if_pos hb]
      simp [px]
    obtain ⟨q, cells, rfl, sq, hq, hp⟩ := h.pix (mul_pos_lt hj (by omega))
    have hcell := hp j i hj hi
    rw [← hcv] at hcell
    have hrow := idx_row (W := m.w) hj
    have hroom := h.room
    have HR := Lib.hid (fun w' (h : FrA w' a m S (some ⟨q, 0, none⟩) cap) => row_any h j hj s2 s3)
    have eR : rowS (some ⟨q, 0, none⟩) cap m.w j = .slice (some ⟨q, j * m.w, none⟩) m.w (cap - j * m.w) := rowS_some (by omega)
    rw [eR] at HR
    have HQ := Lib.hid hq
    clear hc h hha hq hp hcv eR hrow hroom
    generalize j * m.w = l at *
    unfold ptr
    go_enter Try.func38, Try.ntmps38
    go_wp2_with fail
    refine (all_any HA.out).mono ?_
    rintro e w1 ⟨rfl, b1⟩
    go_wp2_with fail
    refine (HH.out w1).mono ?_
    rintro e w2 ⟨rfl, b2⟩
    go_wp2_with fail
    refine (HR.out w2 (HA.out.any (b1.trans b2))).mono ?_
    rintro e w3 ⟨rfl, b3⟩
    have b := (b1.trans b2).trans b3
    have r_q := own_row (any_own b HQ.out)
    clear b1 b2 b3
    go_wp2_with fail
    go_ret
    exact ⟨rfl, b⟩
  · rw [decide_eq_false hb] at hha
    have HH := Lib.hid (fun w => has_any 0 0 (m.w : Int) (m.rows.length : Int) x y w false hha (by unfold I64; omega) (by unfold I64; omega) (by unfold I64; omega) (by unfold I64; omega) hx hy)
    have hz : 0 = c := by rw [← hc]; unfold atM; rw [if_neg hb]
    have HZ := Lib.hid hz
    clear hc h hha hz
    unfold ptr
    go_enter Try.func38, Try.ntmps38
    go_wp2_with fail
    refine (all_any HA.out).mono ?_
    rintro e w1 ⟨rfl, b1⟩
    go_wp2_with fail
    refine (HH.out w1).mono ?_
    rintro e w2 ⟨rfl, b2⟩
    go_wp2_with fail
    go_ret
    exact ⟨ret_int HZ.out, b1.trans b2⟩

/-! ### Line -/
set_option maxRecDepth 100000 in
set_option maxHeartbeats 3200000 in
theorem line_any (y : Int) (h : Fr w a m S) (hs : Small m) (hy : I64 y) : Calls Try.prog 18 #[ptr a, .int .i64 y] w fun e w' => ∃ v, e = .returned v ∧ AnyLater w w' ∧ RU w' v (lineM y m) := by
  obtain ⟨A, cap, h⟩ := h
  obtain ⟨s1, s2, s3, s4, s5⟩ := hs
  have HA := Lib.hid h
  by_cases hb : 0 ≤ y ∧ y < (m.rows.length : Int)
  · obtain ⟨j, rfl⟩ : ∃ j : Nat, (j : Int) = y := ⟨y.toNat, by omega⟩
    have hj : j < m.rows.length := by omega
    have HH := Lib.hid (hasRow_any h (j : Int) true (decide_eq_true hb) hy)
    have HR := Lib.hid (fun w' (h : FrA w' a m S A cap) => row_any h j hj s2 s3)
    have hv : lineM (j : Int) m = m.rows[j] := by unfold lineM; rw [if_pos hb]; simp [hj]
    rw [hv]
    have HC := Lib.hid (fun w' (h : FrA w' a m S A cap) => clonePix_any w' (rowS A cap m.w j) m.rows[j] (h.rowSRU hj) (by rw [s1.wide j hj]; omega))
    clear h hv
    have eR : ∃ A2 c2, rowS A cap m.w j = .slice A2 m.w c2 := ⟨_, _, rfl⟩
    obtain ⟨A2, c2, eR⟩ := eR
    rw [eR] at HR HC
    generalize m.rows[j] = row at *
    clear eR
    unfold ptr
    go_enter Try.func18, Try.ntmps18
    go_wp2_with fail
    refine HH.out.mono ?_
    rintro e w1 ⟨rfl, b1⟩
    go_wp2_with fail
    refine (HR.out w1 (HA.out.any b1)).mono ?_
    rintro e w2 ⟨rfl, b2⟩
    go_wp2_with fail
    refine (HC.out w2 (HA.out.any (b1.trans b2))).mono ?_
    rintro e w3 ⟨v, rfl, b3, p3, -⟩
    have HP := Lib.hid p3.ru
    obtain ⟨A3, c3, rfl⟩ : ∃ A3 c3, v = .slice A3 row.length c3 := by
      obtain ⟨A3, c3, h, _⟩ := p3
      exact ⟨_, _, h⟩
    clear p3
    go_wp2_with fail
    go_ret
    exact ⟨.slice A3 row.length c3, rfl, (b1.trans b2).trans b3, HP.out⟩
  · have HH := Lib.hid (hasRow_any h y false (decide_eq_false hb) hy)
    have hv : lineM y m = [] := by unfold lineM; rw [if_neg hb]
    rw [hv]
    clear h hv
    unfold ptr
    go_enter Try.func18, Try.ntmps18
    go_wp2_with fail
    refine HH.out.mono ?_
    rintro e w1 ⟨rfl, b1⟩
    go_wp2_with fail
    go_ret
    exact ⟨_, rfl, b1, none, 0, rfl, Nat.le_refl _, fun h => by simp at h⟩
end
end Go.Proofs.Ytfliniknaonieaa
