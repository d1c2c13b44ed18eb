/- glyph: a glyph in memory of its own with few rows; Is and none: by contract. -/
import Derived.Test.YtbgpjfiabefajaaGlyA
import Derived.Test.YtbgpjfiabefajaaFree
namespace Go.Proofs.Ytbgpjfiabefajaa
set_option linter.unusedSimpArgs false
set_option linter.unusedVariables false
set_option linter.unusedSectionVars false
open Go.RowKit

theorem IsG.nob {g : GM} (u : Value) (w : World) (h : IsG g u w) : vblk u = none := by
  obtain ⟨s, rfl, _⟩ := h
  rfl
theorem IsG.form {g : GM} {v : Value} {w : World} (h : IsG g v w) : ∃ A n cap, v = .agg #[.int .i64 g.w, .int .i64 g.h, .slice A n cap] ∧ g.rows.length = n := by
  obtain ⟨s, rfl, A, cap, rfl, _⟩ := h
  exact ⟨A, _, cap, rfl, rfl⟩
/-- a glyph's rows lie in memory that is no older -/
def FreshG (B : Nat) (v : Value) : Prop := ∀ x y b o n c, v = .agg #[x, y, .slice (some ⟨b, o, none⟩) n c] → B ≤ b
/-! ### few -/
set_option maxRecDepth 100000 in
set_option maxHeartbeats 1600000 in
theorem few_both (g : GM) (v : Value) (w : World) (hv : IsG g v w) : Calls Try.prog 24 #[v] w fun e w' => ∃ u, e = .returned u ∧ AnyLater w w' ∧ IsG (few g) u w' ∧ FreshG w.heap.size u := by
  obtain ⟨s, rfl, A, cap, rfl, h2, h3⟩ := hv
  obtain ⟨W, H, rows⟩ := g
  simp only at h2 h3
  obtain ⟨wb, hwb⟩ : ∃ wb, (w.alloc (.cells #[.int .i64 W, .int .i64 H, .slice A rows.length cap] 51)).alloc (.cells #[.int .i64 0, .int .i64 0, .slice none 0 0] 51) = wb := ⟨_, rfl⟩
  have b1 : AnyLater w wb := by rw [← hwb]; exact ((AnyLater.refl w).alloc _).alloc _
  have s1 : wb.heap[w.heap.size]? = some (.cells #[.int .i64 W, .int .i64 H, .slice A rows.length cap] 51) := by rw [← hwb]; exact heap_old (by simp) (heap_new rfl)
  have s2 : wb.heap[w.heap.size + 1]? = some (.cells #[.int .i64 0, .int .i64 0, .slice none 0 0] 51) := by rw [← hwb]; exact heap_new (by simp)
  have hru : RU w (.slice A rows.length cap) rows := ⟨A, cap, rfl, h2, h3⟩
  by_cases hlt : 40 < rows.length
  · have hl40 : (rows.take 40).length = 40 := by rw [List.length_take]; omega
    have hru2 : RU wb (.slice A 40 cap) (rows.take 40) := by
      refine RU.later ⟨A, cap, by rw [hl40], by rw [hl40]; omega, fun _ => ?_⟩ b1
      obtain ⟨b, off, e, hb, hc⟩ := h3 (by omega)
      exact ⟨b, off, e, hb, fun j hj => by rw [hc j (by rw [hl40] at hj; omega), List.getElem_take]⟩
    have i0 : (40 : Int) < (rows.length : Int) := by omega
    obtain ⟨q, c, cells, w2, k1, k2, k3, k4, k5, k6⟩ := run_copy hru2 (by rw [hl40]; decide)
    rw [hl40] at k1
    have HK := Lib.hid (And.intro b1 (And.intro k2 (And.intro k3 (And.intro k4 (And.intro k5 k6)))))
    have t1 := any_own k2 s1
    have t2 := any_own k2 s2
    have K1 := Lib.hid k1
    have rb := own_row s1
    have lb := own_lt s1
    have r1 := own_row t1
    have f1 := own_free t1
    have l1 := own_lt t1
    have r2 := own_row t2
    have f2 := own_free t2
    have l2 := own_lt t2
    have l3 := own_lt k4
    have HL := Lib.hid hl40
    have hz := own_lt s2
    clear k1 k2 k3 k4 k5 k6 h3 hru hru2 t1 t2 b1 s1 s2
    obtain ⟨n, hn⟩ : ∃ n, rows.length = n := ⟨_, rfl⟩
    rw [hn] at hwb hlt h2 rb r1 i0 ⊢
    clear hn
    go_enter Try.func24, Try.ntmps24
    go_wp2_with (at_builtin; refine Lib.wpList_append_run _ rfl _ _ _ _ rfl _ _ rfl rfl _ _ K1.out ?_)
    have hzz := hz
    refine bodyPost_ret (v := .agg #[.int .i64 W, .int .i64 H, .slice (some ⟨q, 0, none⟩) 40 c]) (by simp [results, Try.results24, go_sem, *]) rfl ?_
    obtain ⟨b1, k2, k3, k4, k5, k6⟩ := HK.out
    have a2 := b1.trans k2
    refine ⟨_, rfl, ?_, ⟨_, rfl, some ⟨q, 0, none⟩, c, ?_, ?_, fun h0 => ⟨q, 0, rfl, ?_, fun j hj => ?_⟩⟩, fun _ _ b' _ _ _ he => by cases he; have := b1.below.size; omega⟩
    · repeat' (first | with_reducible assumption | with_reducible exact AnyLater.refl _ | with_reducible apply AnyLater.setCell | with_reducible apply AnyLater.later | with_reducible apply AnyLater.drewN | with_reducible apply AnyLater.drew | with_reducible apply AnyLater.alloc | ((try simp only [World.size_alloc, World.size_setCell, World.size_drew]); (try dsimp only); omega))
    · show Value.slice _ 40 c = .slice _ (rows.take 40).length c
      rw [HL.out]
    · show (rows.take 40).length ≤ c
      exact k5
    · simp only [World.size_setCell]; exact l3
    · refine (own_row (c := cells) (t := 33) (heap_far (by omega) (heap_far (by omega) (heap_far (by omega) (heap_far (by omega) k4)))) _).trans ?_
      rw [Nat.zero_add]
      have hj2 : j < (rows.take 40).length := hj
      exact k6 j hj2
  · have ht : rows.take 40 = rows := List.take_of_length_le (by omega)
    have hru2 : RU wb (.slice A rows.length cap) rows := hru.later b1
    have hl0 : rows.length = rows.length := rfl
    have i0 : ¬ (40 : Int) < (rows.length : Int) := by omega
    obtain ⟨q, c, cells, w2, k1, k2, k3, k4, k5, k6⟩ := run_copy hru2 (by omega)
    have HK := Lib.hid (And.intro b1 (And.intro k2 (And.intro k3 (And.intro k4 (And.intro k5 k6)))))
    have t1 := any_own k2 s1
    have t2 := any_own k2 s2
    have K1 := Lib.hid k1
    have rb := own_row s1
    have lb := own_lt s1
    have r1 := own_row t1
    have f1 := own_free t1
    have l1 := own_lt t1
    have r2 := own_row t2
    have f2 := own_free t2
    have l2 := own_lt t2
    have l3 := own_lt k4
    have HL := Lib.hid ht
    clear hl0 ht
    have hz := own_lt s2
    clear k1 k2 k3 k4 k5 k6 h3 hru hru2 t1 t2 b1 s1 s2
    obtain ⟨n, hn⟩ : ∃ n, rows.length = n := ⟨_, rfl⟩
    have HNN := Lib.hid hn
    rw [hn] at hwb hlt h2 rb r1 i0 K1 ⊢
    clear hn
    go_enter Try.func24, Try.ntmps24
    go_wp2_with (at_builtin; refine Lib.wpList_append_run _ rfl _ _ _ _ rfl _ _ rfl rfl _ _ K1.out ?_)
    have hzz := hz
    refine bodyPost_ret (v := .agg #[.int .i64 W, .int .i64 H, .slice (some ⟨q, 0, none⟩) n c]) (by simp [results, Try.results24, go_sem, *]) rfl ?_
    obtain ⟨b1, k2, k3, k4, k5, k6⟩ := HK.out
    have a2 := b1.trans k2
    refine ⟨_, rfl, ?_, ⟨_, rfl, some ⟨q, 0, none⟩, c, ?_, ?_, fun h0 => ⟨q, 0, rfl, ?_, fun j hj => ?_⟩⟩, fun _ _ b' _ _ _ he => by cases he; have := b1.below.size; omega⟩
    · repeat' (first | with_reducible assumption | with_reducible exact AnyLater.refl _ | with_reducible apply AnyLater.setCell | with_reducible apply AnyLater.later | with_reducible apply AnyLater.drewN | with_reducible apply AnyLater.drew | with_reducible apply AnyLater.alloc | ((try simp only [World.size_alloc, World.size_setCell, World.size_drew]); (try dsimp only); omega))
    · show Value.slice _ n c = .slice _ (rows.take 40).length c
      rw [HL.out, HNN.out]
    · show (rows.take 40).length ≤ c
      rw [HL.out]; exact k5
    · simp only [World.size_setCell]; exact l3
    · refine (own_row (c := cells) (t := 33) (heap_far (by omega) (heap_far (by omega) (heap_far (by omega) (heap_far (by omega) k4)))) _).trans ?_
      rw [Nat.zero_add]
      have hj2 : j < rows.length := by have h := hj; simp only [few, HL.out] at h; exact h
      exact by simp only [few, HL.out]; exact k6 j hj2
theorem few_any (g : GM) (v : Value) (w : World) (hv : IsG g v w) : Calls Try.prog 24 #[v] w fun e w' => ∃ u, e = .returned u ∧ AnyLater w w' ∧ IsG (few g) u w' := (few_both g v w hv).mono fun _ _ ⟨u, h1, h2, h3, _⟩ => ⟨u, h1, h2, h3⟩
/-! ### Is, none -/
set_option maxRecDepth 100000 in
theorem is_any (g : GM) (v : Value) (w : World) (x y : Int) (c : Bool) (hc : (decide (g.w = x ∧ g.h = y) && goodG g) = c) (hv : IsG g v w) (hok : g.Ok) (hl : g.rows.length ≤ 1000) :
    Calls Try.prog 36 #[v, .int .i64 x, .int .i64 y] w fun e w' => e = .returned (.bool c) ∧ AnyLater w w' := by
  have HV := Lib.hid hv
  have HG := Lib.hid (fun w' (ha : AnyLater w w') c hc => refGoodG_any g v w' c hc (hv.later ha) hok hl)
  have HC := Lib.hid hc
  obtain ⟨s, rfl, A, cap, rfl, h2, h3⟩ := hv
  have HL := Lib.hid ((AnyLater.refl w).alloc (.cells #[.int .i64 g.w, .int .i64 g.h, .slice A g.rows.length cap] 51))
  clear hc h3
  by_cases q1 : g.w = x
  · by_cases q2 : g.h = y
    · have d1 : (g.w == x) = true := by simpa using q1
      have d2 : (g.h == y) = true := by simpa using q2
      have HZ : Hid (goodG g = c) := Lib.hid (by rw [← HC.out, decide_eq_true ⟨q1, q2⟩, Bool.true_and])
      have HG2 := Lib.hid (fun w' ha => HG.out w' ha c HZ.out)
      clear q1 q2
      generalize g.w = W at *
      generalize g.h = H at *
      generalize g.rows.length = n at *
      go_enter Try.func36, Try.ntmps36
      go_wp2_with fail
      refine (HG2.out _ HL.out).mono ?_
      rintro e w2 ⟨rfl, b2⟩
      have HB := Lib.hid (HL.out.trans b2)
      clear b2
      go_wp2_with fail
      go_ret
      exact ⟨rfl, HB.out⟩
    · have d1 : (g.w == x) = true := by simpa using q1
      have d2 : (g.h == y) = false := by simpa using q2
      have HZ : Hid (false = c) := Lib.hid (by rw [← HC.out, decide_eq_false (fun h => q2 h.2), Bool.false_and])
      clear q1 q2
      generalize g.w = W at *
      generalize g.h = H at *
      generalize g.rows.length = n at *
      go_enter Try.func36, Try.ntmps36
      go_wp2_with fail
      go_ret
      exact ⟨ret_bool HZ.out, HL.out⟩
  · have d1 : (g.w == x) = false := by simpa using q1
    have HZ : Hid (false = c) := Lib.hid (by rw [← HC.out, decide_eq_false (fun h => q1 h.1), Bool.false_and])
    clear q1
    generalize g.w = W at *
    generalize g.h = H at *
    generalize g.rows.length = n at *
    go_enter Try.func36, Try.ntmps36
    go_wp2_with fail
    go_ret
    exact ⟨ret_bool HZ.out, HL.out⟩
set_option maxRecDepth 100000 in
theorem none_any (g : GM) (v : Value) (w : World) (c : Bool) (hc : decide (g.w = 0 ∧ g.h = 0 ∧ g.rows.length = 0) = c) (hv : IsG g v w) :
    Calls Try.prog 35 #[v] w fun e w' => e = .returned (.bool c) ∧ AnyLater w w' := by
  have HC := Lib.hid hc
  obtain ⟨s, rfl, A, cap, rfl, h2, h3⟩ := hv
  have HL := Lib.hid ((AnyLater.refl w).alloc (.cells #[.int .i64 g.w, .int .i64 g.h, .slice A g.rows.length cap] 51))
  clear hc h3
  generalize g.w = W at *
  generalize g.h = H at *
  generalize g.rows.length = n at *
  rcases hq1 : (W == 0)
  · have HZ : Hid (false = c) := Lib.hid (by rw [← HC.out]; simp at hq1; simp [hq1])
    go_enter Try.func35, Try.ntmps35
    go_wp2_with fail
    go_ret
    exact ⟨ret_bool HZ.out, HL.out⟩
  · rcases hq2 : (H == 0)
    · have HZ : Hid (false = c) := Lib.hid (by rw [← HC.out]; simp at hq2; simp [hq2])
      go_enter Try.func35, Try.ntmps35
      go_wp2_with fail
      go_ret
      exact ⟨ret_bool HZ.out, HL.out⟩
    · rcases hq3 : ((n : Int) == 0)
      · have HZ : Hid (false = c) := Lib.hid (by rw [← HC.out]; simp at hq3; simp [hq3])
        go_enter Try.func35, Try.ntmps35
        go_wp2_with fail
        go_ret
        exact ⟨ret_bool HZ.out, HL.out⟩
      · have HZ : Hid (true = c) := Lib.hid (by rw [← HC.out]; simp at hq1 hq2 hq3; simp [hq1, hq2, hq3])
        go_enter Try.func35, Try.ntmps35
        go_wp2_with fail
        go_ret
        exact ⟨ret_bool HZ.out, HL.out⟩
end Go.Proofs.Ytbgpjfiabefajaa
