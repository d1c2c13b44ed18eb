/- heights: lines' heights in memory, and what they tell: by contract. Up to 45000 lines. heights: lines put in the place of others, a height set, a line hidden, lines made: by contract. Up to 45000 lines. heights: Splice, Set, Hide, New: by contract. Up to 45000 lines. heights: Set, Hide, New: by contract. Up to 45000 lines. heights: Hide, New: by contract. Up to 45000 lines. -/
import Derived.Test.YtjoadlfkdkeomaaHgtI
import Derived.LoopN
import Derived.Deep.LoopGhost
import Derived.BigRegion
import Derived.RegionTactic
import Derived.Shelf.Abstract
import Derived.ChangeKeysEq
import Derived.Deep.DeepCutAuto
import Derived.Deep.CutBlock
import Derived.Test.YtjoadlfkdkeomaaMakeW
namespace Go.Proofs.Ytjoadlfkdkeomaa
set_option linter.unusedSimpArgs false
set_option linter.unusedVariables false
set_option linter.unusedSectionVars false
open Go.RowKit
variable {B : Nat}

/-! ### lines' heights -/
/-- what lines count: one that is hidden counts as nothing -/
def shwL (L : Qs) (H : List Bool) : Qs := List.zipWith (fun x h => if h then (0, 0) else x) L H
/-- which lines are open -/
def opnL (H : List Bool) : Qs := H.map fun h => if h then (0, 0) else (0, 1)
/-- lines' heights at hg; K: what else they take up, from B on -/
structure HAt (B : Nat) (w : World) (hg : Nat) (K : List Nat) (L : Qs) (H : List Bool) : Prop where
  ex : ∃ v1 v2 v3 c1 c2 c3, w.heap[hg]? = some (.cells #[v1, v2, v3] 70) ∧ IsCh B w v1 c1 L ∧ IsCh B w v2 c2 (shwL L H) ∧ IsCh B w v3 c3 (opnL H) ∧ (∀ b ∈ c1.bl, b ∉ c2.bl) ∧ (∀ b ∈ c1.bl, b ∉ c3.bl) ∧ (∀ b ∈ c2.bl, b ∉ c3.bl) ∧ K = c1.bl ++ c2.bl ++ c3.bl
  base : B ≤ hg
  len : H.length = L.length
theorem HAt.later {w w' : World} {hg : Nat} {K : List Nat} {L : Qs} {H : List Bool} (h : HAt B w hg K L H) (a : AnyLater w w') : HAt B w' hg K L H := by
  obtain ⟨v1, v2, v3, c1, c2, c3, h0, h1, h2, h3, h4⟩ := h.ex
  exact ⟨⟨v1, v2, v3, c1, c2, c3, any_own a h0, h1.later a, h2.later a, h3.later a, h4⟩, h.base, h.len⟩
theorem HAt.lt {w : World} {hg : Nat} {K : List Nat} {L : Qs} {H : List Bool} (h : HAt B w hg K L H) : hg < w.heap.size := by
  obtain ⟨v1, v2, v3, c1, c2, c3, h0, _⟩ := h.ex
  exact own_lt h0
theorem HAt.in_ {w : World} {hg : Nat} {K : List Nat} {L : Qs} {H : List Bool} (h : HAt B w hg K L H) : ∀ b ∈ K, B ≤ b ∧ b < w.heap.size := fun b hb => by
  obtain ⟨v1, v2, v3, c1, c2, c3, h0, h1, h2, h3, _, _, _, rfl⟩ := h.ex
  rcases List.mem_append.1 hb with hb | hb
  · rcases List.mem_append.1 hb with hb | hb
    · exact h1.bl_in hb
    · exact h2.bl_in hb
  · exact h3.bl_in hb
theorem HAt.few {w : World} {hg : Nat} {K : List Nat} {L : Qs} {H : List Bool} (h : HAt B w hg K L H) : Tls L ∧ L.length ≤ 45000 := by
  obtain ⟨v1, v2, v3, c1, c2, c3, h0, h1, _⟩ := h.ex
  exact h1.tls
/-- lines' heights, or none -/
def HV (B : Nat) (w : World) (hv : Value) (L : Qs) (H : List Bool) : Prop := (hv = .pointer none ∧ L = [] ∧ H = []) ∨ ∃ hg K, hv = .pointer (some ⟨hg, 0, none⟩) ∧ HAt B w hg K L H
theorem HV.later {w w' : World} {hv : Value} {L : Qs} {H : List Bool} (h : HV B w hv L H) (a : AnyLater w w') : HV B w' hv L H := by
  rcases h with h | ⟨hg, K, e, h⟩
  · exact .inl h
  · exact .inr ⟨hg, K, e, h.later a⟩
theorem HV.len {w : World} {hv : Value} {L : Qs} {H : List Bool} (h : HV B w hv L H) : H.length = L.length ∧ L.length ≤ 45000 ∧ Tls L := by
  rcases h with ⟨_, rfl, rfl⟩ | ⟨hg, K, e, h⟩
  · exact ⟨rfl, by simp, Tls.nil⟩
  · exact ⟨h.len, h.few.2, h.few.1⟩
theorem HAt.v {w : World} {hg : Nat} {K : List Nat} {L : Qs} {H : List Bool} (h : HAt B w hg K L H) : HV B w (.pointer (some ⟨hg, 0, none⟩)) L H := .inr ⟨hg, K, rfl, h⟩
set_option maxRecDepth 100000 in
theorem hglines_nil (w : World) : Calls Try.prog 33 #[.pointer none] w fun e w' => e = .returned (.agg #[.slice none 0 0, .slice none 0 0, .slice none 0 0]) ∧ AnyLater w w' := by
  go_enter Try.func33, Try.ntmps33
  go_wp2_with fail
  refine bodyPost_ret (v := .agg #[.slice none 0 0, .slice none 0 0, .slice none 0 0]) (by simp [results, Try.results33, go_sem, *]) rfl ⟨rfl, ?_⟩
  repeat' (first | with_reducible assumption | with_reducible exact AnyLater.refl _ | with_reducible apply AnyLater.setCell | with_reducible apply AnyLater.later | with_reducible apply AnyLater.drewN | with_reducible apply AnyLater.drew | with_reducible apply AnyLater.alloc | ((try simp only [World.size_alloc, World.size_setCell, World.size_drew]); (try dsimp only); omega))
set_option maxRecDepth 100000 in
theorem hglines_at (hg : Nat) (A1 A2 A3 : Option Addr) (n1 n2 n3 k1 k2 k3 : Nat) (w : World) (hh : w.heap[hg]? = some (.cells #[.slice A1 n1 k1, .slice A2 n2 k2, .slice A3 n3 k3] 70)) : Calls Try.prog 33 #[.pointer (some ⟨hg, 0, none⟩)] w fun e w' => e = .returned (.agg #[.slice A1 n1 k1, .slice A2 n2 k2, .slice A3 n3 k3]) ∧ AnyLater w w' := by
  have r0 := own_row hh
  have l0 := own_lt hh
  clear hh
  go_enter Try.func33, Try.ntmps33
  go_wp2_with fail
  refine bodyPost_ret (v := .agg #[.slice A1 n1 k1, .slice A2 n2 k2, .slice A3 n3 k3]) (by simp [results, Try.results33, go_sem, *]) rfl ⟨rfl, ?_⟩
  repeat' (first | with_reducible assumption | with_reducible exact AnyLater.refl _ | with_reducible apply AnyLater.setCell | with_reducible apply AnyLater.later | with_reducible apply AnyLater.drewN | with_reducible apply AnyLater.drew | with_reducible apply AnyLater.alloc | ((try simp only [World.size_alloc, World.size_setCell, World.size_drew]); (try dsimp only); omega))
/-- the three chains of lines, as they are told -/
theorem HV.lines {w : World} {hv : Value} {L : Qs} {H : List Bool} (h : HV B w hv L H) : ∃ A1 A2 A3 n1 n2 n3 k1 k2 k3 c1 c2 c3, (∀ w', AnyLater w w' → Calls Try.prog 33 #[hv] w' fun e w'' => e = .returned (.agg #[.slice A1 n1 k1, .slice A2 n2 k2, .slice A3 n3 k3]) ∧ AnyLater w' w'') ∧ IsCh B w (.slice A1 n1 k1) c1 L ∧ IsCh B w (.slice A2 n2 k2) c2 (shwL L H) ∧ IsCh B w (.slice A3 n3 k3) c3 (opnL H) := by
  rcases h with ⟨rfl, rfl, rfl⟩ | ⟨hg, K, rfl, h⟩
  · exact ⟨_, _, _, _, _, _, _, _, _, _, _, _, fun w' _ => hglines_nil w', IsCh.void w, IsCh.void w, IsCh.void w⟩
  · obtain ⟨v1, v2, v3, c1, c2, c3, h0, h1, h2, h3, _⟩ := h.ex
    obtain ⟨A1, n1, k1, rfl⟩ := h1.slc
    obtain ⟨A2, n2, k2, rfl⟩ := h2.slc
    obtain ⟨A3, n3, k3, rfl⟩ := h3.slc
    exact ⟨A1, A2, A3, n1, n2, n3, k1, k2, k3, c1, c2, c3, fun w' a => hglines_at hg A1 A2 A3 n1 n2 n3 k1 k2 k3 w' (any_own a h0), h1, h2, h3⟩
theorem HV.ptr {w : World} {hv : Value} {L : Qs} {H : List Bool} (h : HV B w hv L H) : ∃ q, hv = .pointer q := by
  rcases h with ⟨rfl, _⟩ | ⟨hg, K, rfl, _⟩
  · exact ⟨_, rfl⟩
  · exact ⟨_, rfl⟩
theorem hfield_0 (v1 v2 v3 : Value) (w : World) : (Instr.field 70 (.agg #[v1, v2, v3]) 0).run Try.prog w = .ok (.agg #[v1]) w := by kernel_rfl
theorem hfield_1 (v1 v2 v3 : Value) (w : World) : (Instr.field 70 (.agg #[v1, v2, v3]) 1).run Try.prog w = .ok (.agg #[v2]) w := by kernel_rfl
theorem hfield_2 (v1 v2 v3 : Value) (w : World) : (Instr.field 70 (.agg #[v1, v2, v3]) 2).run Try.prog w = .ok (.agg #[v3]) w := by kernel_rfl

/-! ### what they tell -/
set_option maxRecDepth 100000 in
theorem hglen_any (hv : Value) (L : Qs) (H : List Bool) (w : World) (h : HV B w hv L H) : Calls Try.prog 12 #[hv] w fun e w' => e = .returned (.int .i64 (L.length : Int)) ∧ AnyLater w w' := by
  obtain ⟨A1, A2, A3, n1, n2, n3, k1, k2, k3, c1, c2, c3, HL, i1, i2, i3⟩ := h.lines
  have HL := Lib.hid HL
  have HS := Lib.hid (fun (w' : World) (a : AnyLater w w') => hgsize_any _ c1 L w' (i1.later a))
  obtain ⟨q, rfl⟩ := h.ptr
  have hf := hfield_0
  clear h i1 i2 i3
  generalize L.length = n at *
  go_enter Try.func12, Try.ntmps12
  go_wp2_with fail
  refine (HL.out _ (AnyLater.refl w)).mono ?_
  rintro e w1 ⟨rfl, b_w1⟩
  have z_w1 := b_w1.below.size
  have a_w1 := b_w1
  go_wp2_with fail
  refine (HS.out _ a_w1).mono ?_
  rintro e w2 ⟨rfl, b_w2⟩
  have z_w2 := b_w2.below.size
  have a_w2 := a_w1.trans b_w2
  go_wp2_with fail
  go_ret
  exact ⟨rfl, a_w2⟩
set_option maxRecDepth 100000 in
theorem hgfull_any (hv : Value) (L : Qs) (H : List Bool) (i : Int) (w : World) (r : Value) (hr : getV L i = r) (h : HV B w hv L H) : Calls Try.prog 13 #[hv, .int .i64 i] w fun e w' => e = .returned r ∧ AnyLater w w' := by
  obtain ⟨A1, A2, A3, n1, n2, n3, k1, k2, k3, c1, c2, c3, HL, i1, i2, i3⟩ := h.lines
  have HL := Lib.hid HL
  obtain ⟨a, b, ok, e⟩ := getV_tuple L i
  rw [e] at hr
  subst hr
  have HS := Lib.hid (fun (w' : World) (a : AnyLater w w') => hgget_any _ c1 L i w' _ e (i1.later a))
  obtain ⟨q, rfl⟩ := h.ptr
  have hf := hfield_0
  clear h i1 i2 i3 e
  go_enter Try.func13, Try.ntmps13
  go_wp2_with fail
  first | refine settle_wp (fun wS => AnyLater w wS ∧ wS.heap[w.heap.size]? = some (.cells #[.int .i64 0, .int .i64 0] 33)) ?_ ?_ | refine settle_calls (fun wS => AnyLater w wS ∧ wS.heap[w.heap.size]? = some (.cells #[.int .i64 0, .int .i64 0] 33)) ?_ ?_
  · refine ⟨?_, ?_⟩
    · repeat' (first | with_reducible assumption | with_reducible exact AnyLater.refl _ | with_reducible apply AnyLater.setCell | with_reducible apply AnyLater.later | with_reducible apply AnyLater.drewN | with_reducible apply AnyLater.drew | with_reducible apply AnyLater.alloc | ((try simp only [World.size_alloc, World.size_setCell, World.size_drew]); (try dsimp only); omega))
    · ((repeat (first | with_reducible assumption | ((with_reducible apply heap_new); (try simp only [World.size_alloc, World.size_setCell, World.size_drew, World.heap_drewN]); done) | ((with_reducible apply heap_new); (try simp only [World.size_alloc, World.size_setCell, World.size_drew, World.heap_drewN]); omega) | (with_reducible refine heap_old (by (try simp only [World.size_alloc, World.size_setCell, World.size_drew, World.heap_drewN]); omega) ?_) | (with_reducible refine heap_drew ?_) | (with_reducible refine heap_far (by omega) ?_) | (with_reducible apply heap_at))); all_goals rfl)
  rintro w1 ⟨b_w1, s0_w1⟩
  have a_w1 := b_w1
  have r0_w1 := own_row s0_w1
  have f0_w1 := own_free s0_w1
  have l0_w1 := own_lt s0_w1
  have z_w1 := b_w1.below.size
  refine (HL.out _ a_w1).mono ?_
  rintro e w2 ⟨rfl, b_w2⟩
  have z_w2 := b_w2.below.size
  have a_w2 := a_w1.trans b_w2
  have s0_w2 := any_own b_w2 s0_w1
  have r0_w2 := own_row s0_w2
  have f0_w2 := own_free s0_w2
  have l0_w2 := own_lt s0_w2
  (try clear r0_w1); (try clear f0_w1)
  go_wp2_with fail
  refine (HS.out _ a_w2).mono ?_
  rintro e w3 ⟨rfl, b_w3⟩
  have z_w3 := b_w3.below.size
  have a_w3 := a_w2.trans b_w3
  have s0_w3 := any_own b_w3 s0_w2
  have r0_w3 := own_row s0_w3
  have f0_w3 := own_free s0_w3
  have l0_w3 := own_lt s0_w3
  (try clear r0_w2); (try clear f0_w2)
  go_wp2_with fail
  refine bodyPost_ret (v := .tuple #[.agg #[.int .i64 a, .int .i64 b], .bool ok]) (by simp [results, Try.results13, go_sem, *]) rfl ⟨rfl, ?_⟩
  repeat' (first | with_reducible assumption | with_reducible exact AnyLater.refl _ | with_reducible apply AnyLater.setCell | with_reducible apply AnyLater.later | with_reducible apply AnyLater.drewN | with_reducible apply AnyLater.drew | with_reducible apply AnyLater.alloc | ((try simp only [World.size_alloc, World.size_setCell, World.size_drew]); (try dsimp only); omega))
/-- whether the line i is there, and hidden -/
def hidB (H : List Bool) (i : Int) : Bool := if h : 0 ≤ i ∧ i < H.length then H[i.toNat]'(by omega) else false
theorem opn_get (H : List Bool) (i : Int) : (getV (opnL H) i = .tuple #[.agg #[.int .i64 0, .int .i64 0], .bool (hidB H i)] ∧ (hidB H i = true ∨ ¬ (0 ≤ i ∧ i < H.length))) ∨ (getV (opnL H) i = .tuple #[.agg #[.int .i64 0, .int .i64 1], .bool true] ∧ hidB H i = false) := by
  unfold getV hidB
  have hl : (opnL H).length = H.length := by unfold opnL; rw [List.length_map]
  by_cases h : 0 ≤ i ∧ i < H.length
  · rw [dif_pos (by rw [hl]; exact h), dif_pos h]
    have e : (opnL H)[i.toNat]'(by rw [hl]; omega) = if H[i.toNat]'(by omega) then (0, 0) else (0, 1) := by unfold opnL; rw [List.getElem_map]
    simp only [e]
    cases hb : H[i.toNat]'(by omega)
    · right; simp
    · left; simp
  · rw [dif_neg (by rw [hl]; exact h), dif_neg h]
    exact .inl ⟨rfl, .inr h⟩
set_option maxRecDepth 100000 in
theorem hghidden_any (hv : Value) (L : Qs) (H : List Bool) (i : Int) (w : World) (h : HV B w hv L H) : Calls Try.prog 14 #[hv, .int .i64 i] w fun e w' => e = .returned (.bool (hidB H i)) ∧ AnyLater w w' := by
  obtain ⟨A1, A2, A3, n1, n2, n3, k1, k2, k3, c1, c2, c3, HL, i1, i2, i3⟩ := h.lines
  have HL := Lib.hid HL
  obtain ⟨q, rfl⟩ := h.ptr
  have hf := hfield_2
  rcases opn_get H i with ⟨e, e2⟩ | ⟨e, e2⟩
  · have HS := Lib.hid (fun (w' : World) (a : AnyLater w w') => hgget_any _ c3 (opnL H) i w' _ e (i3.later a))
    clear h i1 i2 i3 e e2
    cases hb : hidB H i with
    | false =>
      rw [hb] at HS
      clear hb
      go_enter Try.func14, Try.ntmps14
      go_wp2_with fail
      refine (HL.out _ (AnyLater.refl w)).mono ?_
      rintro e w2 ⟨rfl, b_w2⟩
      have z_w2 := b_w2.below.size
      have a_w2 := b_w2
      go_wp2_with fail
      refine (HS.out _ a_w2).mono ?_
      rintro e w3 ⟨rfl, b_w3⟩
      have z_w3 := b_w3.below.size
      have a_w3 := a_w2.trans b_w3
      go_wp2_with fail
      go_ret
      exact ⟨rfl, by repeat' (first | with_reducible assumption | with_reducible exact AnyLater.refl _ | with_reducible apply AnyLater.setCell | with_reducible apply AnyLater.later | with_reducible apply AnyLater.drewN | with_reducible apply AnyLater.drew | with_reducible apply AnyLater.alloc | ((try simp only [World.size_alloc, World.size_setCell, World.size_drew]); (try dsimp only); omega))⟩
    | true =>
      rw [hb] at HS
      clear hb
      go_enter Try.func14, Try.ntmps14
      go_wp2_with fail
      refine (HL.out _ (AnyLater.refl w)).mono ?_
      rintro e w2 ⟨rfl, b_w2⟩
      have z_w2 := b_w2.below.size
      have a_w2 := b_w2
      go_wp2_with fail
      refine (HS.out _ a_w2).mono ?_
      rintro e w3 ⟨rfl, b_w3⟩
      have z_w3 := b_w3.below.size
      have a_w3 := a_w2.trans b_w3
      go_wp2_with fail
      go_ret
      exact ⟨rfl, by repeat' (first | with_reducible assumption | with_reducible exact AnyLater.refl _ | with_reducible apply AnyLater.setCell | with_reducible apply AnyLater.later | with_reducible apply AnyLater.drewN | with_reducible apply AnyLater.drew | with_reducible apply AnyLater.alloc | ((try simp only [World.size_alloc, World.size_setCell, World.size_drew]); (try dsimp only); omega))⟩
  · have HS := Lib.hid (fun (w' : World) (a : AnyLater w w') => hgget_any _ c3 (opnL H) i w' _ e (i3.later a))
    rw [e2]
    clear h i1 i2 i3 e e2
    go_enter Try.func14, Try.ntmps14
    go_wp2_with fail
    refine (HL.out _ (AnyLater.refl w)).mono ?_
    rintro e w2 ⟨rfl, b_w2⟩
    have z_w2 := b_w2.below.size
    have a_w2 := b_w2
    go_wp2_with fail
    refine (HS.out _ a_w2).mono ?_
    rintro e w3 ⟨rfl, b_w3⟩
    have z_w3 := b_w3.below.size
    have a_w3 := a_w2.trans b_w3
    go_wp2_with fail
    go_ret
    exact ⟨rfl, by repeat' (first | with_reducible assumption | with_reducible exact AnyLater.refl _ | with_reducible apply AnyLater.setCell | with_reducible apply AnyLater.later | with_reducible apply AnyLater.drewN | with_reducible apply AnyLater.drew | with_reducible apply AnyLater.alloc | ((try simp only [World.size_alloc, World.size_setCell, World.size_drew]); (try dsimp only); omega))⟩
set_option maxRecDepth 100000 in
theorem hgline_any (hv : Value) (L : Qs) (H : List Bool) (y : Int) (w : World) (hy : y ≤ 9223372036854775807) (r1 r2 : Int) (hr : fdL 2 y (shwL L H) 0 (-1) 0 0 = (r1, r2)) (h : HV B w hv L H) : Calls Try.prog 16 #[hv, .int .i64 y] w fun e w' => e = .returned (.tuple #[.int .i64 r1, .int .i64 r2]) ∧ AnyLater w w' := by
  obtain ⟨A1, A2, A3, n1, n2, n3, k1, k2, k3, c1, c2, c3, HL, i1, i2, i3⟩ := h.lines
  have HL := Lib.hid HL
  have HS := Lib.hid (fun (w' : World) (a : AnyLater w w') => hgfind_any _ c2 _ y w' hy r1 r2 hr (i2.later a))
  obtain ⟨q, rfl⟩ := h.ptr
  have hf := hfield_1
  clear h i1 i2 i3 hr
  go_enter Try.func16, Try.ntmps16
  go_wp2_with fail
  refine (HL.out _ (AnyLater.refl w)).mono ?_
  rintro e w2 ⟨rfl, b_w2⟩
  have z_w2 := b_w2.below.size
  have a_w2 := b_w2
  go_wp2_with fail
  refine (HS.out _ a_w2).mono ?_
  rintro e w3 ⟨rfl, b_w3⟩
  have z_w3 := b_w3.below.size
  have a_w3 := a_w2.trans b_w3
  go_wp2_with fail
  refine bodyPost_ret (v := .tuple #[.int .i64 r1, .int .i64 r2]) (by simp [results, Try.results16, go_sem, *]) rfl ⟨rfl, ?_⟩
  exact a_w3
set_option maxRecDepth 100000 in
theorem hgtop_any (hv : Value) (L : Qs) (H : List Bool) (i : Int) (w : World) (Hh : Int) (hH : tlH ((shwL L H).take (sumN (shwL L H) i)) = Hh) (h : HV B w hv L H) : Calls Try.prog 18 #[hv, .int .i64 i] w fun e w' => e = .returned (.int .i64 Hh) ∧ AnyLater w w' := by
  obtain ⟨A1, A2, A3, n1, n2, n3, k1, k2, k3, c1, c2, c3, HL, i1, i2, i3⟩ := h.lines
  have HL := Lib.hid HL
  obtain ⟨R, hR⟩ : ∃ R, tlR ((shwL L H).take (sumN (shwL L H) i)) = R := ⟨_, rfl⟩
  have HS := Lib.hid (fun (w' : World) (a : AnyLater w w') => hgsum_any _ c2 _ i w' R Hh hR hH (i2.later a))
  obtain ⟨q, rfl⟩ := h.ptr
  have hf := hfield_1
  have hf1 := hfield1
  clear h i1 i2 i3 hR hH
  go_enter Try.func18, Try.ntmps18
  go_wp2_with fail
  refine (HL.out _ (AnyLater.refl w)).mono ?_
  rintro e w2 ⟨rfl, b_w2⟩
  have z_w2 := b_w2.below.size
  have a_w2 := b_w2
  go_wp2_with fail
  refine (HS.out _ a_w2).mono ?_
  rintro e w3 ⟨rfl, b_w3⟩
  have z_w3 := b_w3.below.size
  have a_w3 := a_w2.trans b_w3
  go_wp2_with fail
  go_ret
  exact ⟨rfl, a_w3⟩
theorem shw_len {L : Qs} {H : List Bool} (h : H.length = L.length) : (shwL L H).length = L.length := by unfold shwL; rw [List.length_zipWith, h, Nat.min_self]
set_option maxRecDepth 100000 in
theorem hgtotal_any (hv : Value) (L : Qs) (H : List Bool) (w : World) (R Hh : Int) (hR : tlR (shwL L H) = R) (hH : tlH (shwL L H) = Hh) (h : HV B w hv L H) : Calls Try.prog 20 #[hv] w fun e w' => e = .returned (.agg #[.int .i64 R, .int .i64 Hh]) ∧ AnyLater w w' := by
  obtain ⟨A1, A2, A3, n1, n2, n3, k1, k2, k3, c1, c2, c3, HL, i1, i2, i3⟩ := h.lines
  have HL := Lib.hid HL
  have HN := Lib.hid (fun (w' : World) (a : AnyLater w w') => hglen_any hv L H w' (h.later a))
  have e : (shwL L H).take (sumN (shwL L H) (L.length : Int)) = shwL L H := by
    rw [← shw_len h.len.1, sumN_all, List.take_length]
  have HS := Lib.hid (fun (w' : World) (a : AnyLater w w') => hgsum_any _ c2 _ (L.length : Int) w' R Hh (by rw [e]; exact hR) (by rw [e]; exact hH) (i2.later a))
  obtain ⟨q, rfl⟩ := h.ptr
  have hf := hfield_1
  clear h i1 i2 i3 hR hH e
  generalize L.length = n at *
  go_enter Try.func20, Try.ntmps20
  go_wp2_with fail
  first | refine settle_wp (fun wS => AnyLater w wS ∧ wS.heap[w.heap.size]? = some (.cells #[.int .i64 0, .int .i64 0] 33)) ?_ ?_ | refine settle_calls (fun wS => AnyLater w wS ∧ wS.heap[w.heap.size]? = some (.cells #[.int .i64 0, .int .i64 0] 33)) ?_ ?_
  · refine ⟨?_, ?_⟩
    · repeat' (first | with_reducible assumption | with_reducible exact AnyLater.refl _ | with_reducible apply AnyLater.setCell | with_reducible apply AnyLater.later | with_reducible apply AnyLater.drewN | with_reducible apply AnyLater.drew | with_reducible apply AnyLater.alloc | ((try simp only [World.size_alloc, World.size_setCell, World.size_drew]); (try dsimp only); omega))
    · ((repeat (first | with_reducible assumption | ((with_reducible apply heap_new); (try simp only [World.size_alloc, World.size_setCell, World.size_drew, World.heap_drewN]); done) | ((with_reducible apply heap_new); (try simp only [World.size_alloc, World.size_setCell, World.size_drew, World.heap_drewN]); omega) | (with_reducible refine heap_old (by (try simp only [World.size_alloc, World.size_setCell, World.size_drew, World.heap_drewN]); omega) ?_) | (with_reducible refine heap_drew ?_) | (with_reducible refine heap_far (by omega) ?_) | (with_reducible apply heap_at))); all_goals rfl)
  rintro w1 ⟨b_w1, s0_w1⟩
  have a_w1 := b_w1
  have r0_w1 := own_row s0_w1
  have f0_w1 := own_free s0_w1
  have l0_w1 := own_lt s0_w1
  have z_w1 := b_w1.below.size
  refine (HL.out _ a_w1).mono ?_
  rintro e w2 ⟨rfl, b_w2⟩
  have z_w2 := b_w2.below.size
  have a_w2 := a_w1.trans b_w2
  have s0_w2 := any_own b_w2 s0_w1
  have r0_w2 := own_row s0_w2
  have f0_w2 := own_free s0_w2
  have l0_w2 := own_lt s0_w2
  (try clear r0_w1); (try clear f0_w1)
  go_wp2_with fail
  refine (HN.out _ a_w2).mono ?_
  rintro e w3 ⟨rfl, b_w3⟩
  have z_w3 := b_w3.below.size
  have a_w3 := a_w2.trans b_w3
  have s0_w3 := any_own b_w3 s0_w2
  have r0_w3 := own_row s0_w3
  have f0_w3 := own_free s0_w3
  have l0_w3 := own_lt s0_w3
  (try clear r0_w2); (try clear f0_w2)
  go_wp2_with fail
  refine (HS.out _ a_w3).mono ?_
  rintro e w4 ⟨rfl, b_w4⟩
  have z_w4 := b_w4.below.size
  have a_w4 := a_w3.trans b_w4
  have s0_w4 := any_own b_w4 s0_w3
  have r0_w4 := own_row s0_w4
  have f0_w4 := own_free s0_w4
  have l0_w4 := own_lt s0_w4
  (try clear r0_w3); (try clear f0_w3)
  go_wp2_with fail
  refine bodyPost_ret (v := .agg #[.int .i64 R, .int .i64 Hh]) (by simp [results, Try.results20, go_sem, *]) rfl ⟨rfl, ?_⟩
  repeat' (first | with_reducible assumption | with_reducible exact AnyLater.refl _ | with_reducible apply AnyLater.setCell | with_reducible apply AnyLater.later | with_reducible apply AnyLater.drewN | with_reducible apply AnyLater.drew | with_reducible apply AnyLater.alloc | ((try simp only [World.size_alloc, World.size_setCell, World.size_drew]); (try dsimp only); omega))
/-- how many lines of the first i are open -/
def opnN (H : List Bool) (i : Int) : Int := tlH ((opnL H).take (sumN (opnL H) i))
theorem pkV_tuple (l : Qs) (y : Int) : ∃ a b, pkV l y = .tuple #[.int .i64 a, .bool b] := by
  unfold pkV
  split
  · exact ⟨_, _, rfl⟩
  · exact ⟨_, _, rfl⟩
set_option maxRecDepth 100000 in
set_option maxHeartbeats 800000 in
theorem hgnext_any (hv : Value) (L : Qs) (H : List Bool) (i : Int) (w : World) (hi : -9223372036854775808 ≤ i) (r : Value) (hr : pkV (opnL H) (opnN H (min i (L.length : Int) + 1)) = r) (h : HV B w hv L H) : Calls Try.prog 21 #[hv, .int .i64 i] w fun e w' => e = .returned r ∧ AnyLater w w' := by
  obtain ⟨A1, A2, A3, n1, n2, n3, k1, k2, k3, c1, c2, c3, HL, i1, i2, i3⟩ := h.lines
  have HL := Lib.hid HL
  have HN := Lib.hid (fun (w' : World) (a : AnyLater w w') => hglen_any hv L H w' (h.later a))
  obtain ⟨a, b, e⟩ := pkV_tuple (opnL H) (opnN H (min i (L.length : Int) + 1))
  rw [e] at hr
  subst hr
  have hlen := h.len.2.1
  obtain ⟨z, hz⟩ : ∃ z, min i (L.length : Int) = z := ⟨_, rfl⟩
  have hz1 : -9223372036854775808 ≤ z ∧ z ≤ 45000 := by omega
  rw [hz] at e
  obtain ⟨R, hR⟩ : ∃ R, tlR ((opnL H).take (sumN (opnL H) (z + 1))) = R := ⟨_, rfl⟩
  have HS := Lib.hid (fun (w' : World) (a : AnyLater w w') => hgsum_any _ c3 _ (z + 1) w' R (opnN H (z + 1)) hR rfl (i3.later a))
  have HP := Lib.hid (fun (w' : World) (a : AnyLater w w') => hgpick_any _ c3 _ (opnN H (z + 1)) w' _ e (i3.later a))
  have hmn : ∀ (w : World) (ts : Array TypeId) (ty : TypeId), (Builtin.min_ ts ty #[.int .i64 i, .int .i64 (L.length : Int)]).run Try.prog w = .ok (.int .i64 z) w := fun w ts ty => by rw [hrun_min, hz]
  obtain ⟨q, rfl⟩ := h.ptr
  have hf := hfield_2
  have hf1 := hfield1
  obtain ⟨hz2, hz3⟩ := hz1
  clear h i1 i2 i3 hR e hz hi hlen
  generalize opnN H (z + 1) = y at *
  generalize L.length = n at *
  go_enter Try.func21, Try.ntmps21
  go_wp2_with fail
  refine (HL.out _ (AnyLater.refl w)).mono ?_
  rintro e w1 ⟨rfl, b_w1⟩
  have z_w1 := b_w1.below.size
  have a_w1 := b_w1
  go_wp2_with fail
  first | refine settle_wp (fun wS => AnyLater w1 wS ∧ wS.heap[w1.heap.size]? = some (.cells #[.slice A3 n3 k3] 68)) ?_ ?_ | refine settle_calls (fun wS => AnyLater w1 wS ∧ wS.heap[w1.heap.size]? = some (.cells #[.slice A3 n3 k3] 68)) ?_ ?_
  · refine ⟨?_, ?_⟩
    · repeat' (first | with_reducible assumption | with_reducible exact AnyLater.refl _ | with_reducible apply AnyLater.setCell | with_reducible apply AnyLater.later | with_reducible apply AnyLater.drewN | with_reducible apply AnyLater.drew | with_reducible apply AnyLater.alloc | ((try simp only [World.size_alloc, World.size_setCell, World.size_drew]); (try dsimp only); omega))
    · ((repeat (first | with_reducible assumption | ((with_reducible apply heap_new); (try simp only [World.size_alloc, World.size_setCell, World.size_drew, World.heap_drewN]); done) | ((with_reducible apply heap_new); (try simp only [World.size_alloc, World.size_setCell, World.size_drew, World.heap_drewN]); omega) | (with_reducible refine heap_old (by (try simp only [World.size_alloc, World.size_setCell, World.size_drew, World.heap_drewN]); omega) ?_) | (with_reducible refine heap_drew ?_) | (with_reducible refine heap_far (by omega) ?_) | (with_reducible apply heap_at))); all_goals rfl)
  rintro w2 ⟨b_w2, s0_w2⟩
  have a_w2 := a_w1.trans b_w2
  have r0_w2 := own_row s0_w2
  have f0_w2 := own_free s0_w2
  have l0_w2 := own_lt s0_w2
  have z_w2 := b_w2.below.size
  refine (HN.out _ a_w2).mono ?_
  rintro e w3 ⟨rfl, b_w3⟩
  have z_w3 := b_w3.below.size
  have a_w3 := a_w2.trans b_w3
  have s0_w3 := any_own b_w3 s0_w2
  have r0_w3 := own_row s0_w3
  have f0_w3 := own_free s0_w3
  have l0_w3 := own_lt s0_w3
  (try clear r0_w2); (try clear f0_w2)
  go_wp2_with fail
  apply wp_region_free (11) [⟨4, 18, .agg #[.int .i64 R, .int .i64 y], false, fun v _ => v = .agg #[.int .i64 R, .int .i64 y]⟩, ⟨6, 20, .tuple #[.int .i64 a, .bool b], false, fun v _ => v = .tuple #[.int .i64 a, .bool b]⟩] [] rfl (by kernel_rfl) (by kernel_rfl) (by kernel_rfl) (by simp) (by kernel_rfl)
  case hstab =>
    intro c hc
    simp only [List.mem_cons, List.not_mem_nil, or_false] at hc
    rcases hc with rfl | rfl
    · intro v x y hxy hv; exact hv
    · intro v x y hxy hv; exact hv
  case hfix =>
    intro c hc
    simp only [List.mem_cons, List.not_mem_nil, or_false] at hc
    rcases hc with rfl | rfl
    · exact .inr fun u x h => h
    · exact .inr fun u x h => h
  case hlex =>
    intro U hU
    have q0 := own_row (any_own hU s0_w3)
    simp only [List.map_cons, List.map_nil, CA.act, actFrom, actOp, List.lookup, Nat.reduceBEq, Nat.reduceLeDiff, Nat.reduceAdd, if_false, if_true]
    repeat (go_big_quiet_step (fail))
    exact wpQuiet_nil rfl
  case hstep =>
    intro j hj o ho
    have hj2 : j = 0 ∨ j = 1 := by simp at hj; omega
    rcases hj2 with rfl | rfl
    · cases ho
      refine ⟨rfl, fun g x hx hp => ?_⟩
      clear hp
      simp only [fillAll, Act.put, List.setIfInBounds_toArray, List.set_cons_zero, List.set_cons_succ]
      refine chain_go ?_ (free_fix (HS.out x (a_w3.trans hx)))
      first | (simp [go_sem, execOp]; done) | simp [go_sem, execOp, hcf]
    · cases ho
      refine ⟨rfl, fun g x hx hp => ?_⟩
      clear hp
      simp only [fillAll, Act.put, List.setIfInBounds_toArray, List.set_cons_zero, List.set_cons_succ]
      refine chain_go ?_ (free_fix (HP.out x (a_w3.trans hx)))
      first | (simp [go_sem, execOp]; done) | simp [go_sem, execOp, hcf]
  case htail =>
    intro g u hst hne
    have b_w4 : AnyLater w3 (later u) := ⟨u, rfl⟩
    generalize later u = w4 at *
    clear u
    clear hst hne
    simp only [fillAll, Act.put, List.setIfInBounds_toArray, List.set_cons_zero, List.set_cons_succ, List.drop_succ_cons, List.drop_zero, List.drop_nil]
    have z_w4 := b_w4.below.size
    have a_w4 := a_w3.trans b_w4
    have s0_w4 := any_own b_w4 s0_w3
    have r0_w4 := own_row s0_w4
    have f0_w4 := own_free s0_w4
    have l0_w4 := own_lt s0_w4
    (try clear r0_w3); (try clear f0_w3)
    go_wp2_with fail
    refine bodyPost_ret (v := .tuple #[.int .i64 a, .bool b]) (by simp [results, Try.results21, go_sem, *]) rfl ⟨rfl, ?_⟩
    exact a_w4
set_option maxRecDepth 100000 in
set_option maxHeartbeats 800000 in
theorem hgprev_any (hv : Value) (L : Qs) (H : List Bool) (i : Int) (w : World) (r : Value) (hr : pkV (opnL H) (opnN H i - 1) = r) (h : HV B w hv L H) : Calls Try.prog 22 #[hv, .int .i64 i] w fun e w' => e = .returned r ∧ AnyLater w w' := by
  obtain ⟨A1, A2, A3, n1, n2, n3, k1, k2, k3, c1, c2, c3, HL, i1, i2, i3⟩ := h.lines
  have HL := Lib.hid HL
  obtain ⟨a, b, e⟩ := pkV_tuple (opnL H) (opnN H i - 1)
  rw [e] at hr
  subst hr
  obtain ⟨R, hR⟩ : ∃ R, tlR ((opnL H).take (sumN (opnL H) i)) = R := ⟨_, rfl⟩
  have hb : 0 ≤ opnN H i ∧ opnN H i ≤ 2000000000000 := by
    have := (i3.tls.1.bound (by have := i3.tls.2; omega) (sumN (opnL H) i)).2
    exact this
  have HS := Lib.hid (fun (w' : World) (a : AnyLater w w') => hgsum_any _ c3 _ i w' R (opnN H i) hR rfl (i3.later a))
  have HP := Lib.hid (fun (w' : World) (a : AnyLater w w') => hgpick_any _ c3 _ (opnN H i - 1) w' _ e (i3.later a))
  obtain ⟨q, rfl⟩ := h.ptr
  have hf := hfield_2
  have hf1 := hfield1
  obtain ⟨hb1, hb2⟩ := hb
  clear h i1 i2 i3 hR e
  generalize opnN H i = y at *
  go_enter Try.func22, Try.ntmps22
  go_wp2_with fail
  refine (HL.out _ (AnyLater.refl w)).mono ?_
  rintro e w1 ⟨rfl, b_w1⟩
  have z_w1 := b_w1.below.size
  have a_w1 := b_w1
  go_wp2_with fail
  first | refine settle_wp (fun wS => AnyLater w1 wS ∧ wS.heap[w1.heap.size]? = some (.cells #[.slice A3 n3 k3] 68)) ?_ ?_ | refine settle_calls (fun wS => AnyLater w1 wS ∧ wS.heap[w1.heap.size]? = some (.cells #[.slice A3 n3 k3] 68)) ?_ ?_
  · refine ⟨?_, ?_⟩
    · repeat' (first | with_reducible assumption | with_reducible exact AnyLater.refl _ | with_reducible apply AnyLater.setCell | with_reducible apply AnyLater.later | with_reducible apply AnyLater.drewN | with_reducible apply AnyLater.drew | with_reducible apply AnyLater.alloc | ((try simp only [World.size_alloc, World.size_setCell, World.size_drew]); (try dsimp only); omega))
    · ((repeat (first | with_reducible assumption | ((with_reducible apply heap_new); (try simp only [World.size_alloc, World.size_setCell, World.size_drew, World.heap_drewN]); done) | ((with_reducible apply heap_new); (try simp only [World.size_alloc, World.size_setCell, World.size_drew, World.heap_drewN]); omega) | (with_reducible refine heap_old (by (try simp only [World.size_alloc, World.size_setCell, World.size_drew, World.heap_drewN]); omega) ?_) | (with_reducible refine heap_drew ?_) | (with_reducible refine heap_far (by omega) ?_) | (with_reducible apply heap_at))); all_goals rfl)
  rintro w2 ⟨b_w2, s0_w2⟩
  have a_w2 := a_w1.trans b_w2
  have r0_w2 := own_row s0_w2
  have f0_w2 := own_free s0_w2
  have l0_w2 := own_lt s0_w2
  have z_w2 := b_w2.below.size
  apply wp_region_free (11) [⟨3, 13, .agg #[.int .i64 R, .int .i64 y], false, fun v _ => v = .agg #[.int .i64 R, .int .i64 y]⟩, ⟨6, 16, .tuple #[.int .i64 a, .bool b], false, fun v _ => v = .tuple #[.int .i64 a, .bool b]⟩] [] rfl (by kernel_rfl) (by kernel_rfl) (by kernel_rfl) (by simp) (by kernel_rfl)
  case hstab =>
    intro c hc
    simp only [List.mem_cons, List.not_mem_nil, or_false] at hc
    rcases hc with rfl | rfl
    · intro v x y hxy hv; exact hv
    · intro v x y hxy hv; exact hv
  case hfix =>
    intro c hc
    simp only [List.mem_cons, List.not_mem_nil, or_false] at hc
    rcases hc with rfl | rfl
    · exact .inr fun u x h => h
    · exact .inr fun u x h => h
  case hlex =>
    intro U hU
    have q0 := own_row (any_own hU s0_w2)
    simp only [List.map_cons, List.map_nil, CA.act, actFrom, actOp, List.lookup, Nat.reduceBEq, Nat.reduceLeDiff, Nat.reduceAdd, if_false, if_true]
    repeat (go_big_quiet_step (fail))
    exact wpQuiet_nil rfl
  case hstep =>
    intro j hj o ho
    have hj2 : j = 0 ∨ j = 1 := by simp at hj; omega
    rcases hj2 with rfl | rfl
    · cases ho
      refine ⟨rfl, fun g x hx hp => ?_⟩
      clear hp
      simp only [fillAll, Act.put, List.setIfInBounds_toArray, List.set_cons_zero, List.set_cons_succ]
      refine chain_go ?_ (free_fix (HS.out x (a_w2.trans hx)))
      first | (simp [go_sem, execOp]; done) | simp [go_sem, execOp, hcf]
    · cases ho
      refine ⟨rfl, fun g x hx hp => ?_⟩
      clear hp
      simp only [fillAll, Act.put, List.setIfInBounds_toArray, List.set_cons_zero, List.set_cons_succ]
      refine chain_go ?_ (free_fix (HP.out x (a_w2.trans hx)))
      first | (simp [go_sem, execOp]; done) | simp [go_sem, execOp, hcf]
  case htail =>
    intro g u hst hne
    have b_w4 : AnyLater w2 (later u) := ⟨u, rfl⟩
    generalize later u = w4 at *
    clear u
    clear hst hne
    simp only [fillAll, Act.put, List.setIfInBounds_toArray, List.set_cons_zero, List.set_cons_succ, List.drop_succ_cons, List.drop_zero, List.drop_nil]
    have z_w4 := b_w4.below.size
    have a_w4 := a_w2.trans b_w4
    have s0_w4 := any_own b_w4 s0_w2
    have r0_w4 := own_row s0_w4
    have f0_w4 := own_free s0_w4
    have l0_w4 := own_lt s0_w4
    (try clear r0_w2); (try clear f0_w2)
    go_wp2_with fail
    refine bodyPost_ret (v := .tuple #[.int .i64 a, .bool b]) (by simp [results, Try.results22, go_sem, *]) rfl ⟨rfl, ?_⟩
    exact a_w4
end Go.Proofs.Ytjoadlfkdkeomaa
namespace Go.Proofs.Ytjoadlfkdkeomaa
set_option linter.unusedSimpArgs false
set_option linter.unusedVariables false
set_option linter.unusedSectionVars false
open Go.RowKit
variable {B : Nat}

/-! ### three chains, each apart from the others -/
structure Tri (B : Nat) (w : World) (hg : Nat) (v1 v2 v3 : Value) (c1 c2 c3 : Cw) (l1 l2 l3 : Qs) : Prop where
  blk : w.heap[hg]? = some (.cells #[v1, v2, v3] 70)
  i1 : IsCh B w v1 c1 l1
  i2 : IsCh B w v2 c2 l2
  i3 : IsCh B w v3 c3 l3
  d12 : ∀ b ∈ c1.bl, b ∉ c2.bl
  d13 : ∀ b ∈ c1.bl, b ∉ c3.bl
  d23 : ∀ b ∈ c2.bl, b ∉ c3.bl
/-- what a change of lines' heights may change -/
def HC (B : Nat) (w : World) (hg : Nat) (K : List Nat) (b : Nat) : Prop := b = hg ∨ (B ≤ b ∧ (b ∈ K ∨ ∃ cs, w.heap[b]? = some (.cells cs 119)))
/-- three chains that were changed -/
def TDone (B : Nat) (w : World) (hg : Nat) (K : List Nat) (l1 l2 l3 : Qs) (w' : World) : Prop := ∃ v1 v2 v3 c1 c2 c3, Tri B w' hg v1 v2 v3 c1 c2 c3 l1 l2 l3 ∧ (∀ b ∈ c1.bl ++ c2.bl ++ c3.bl, b ∈ K ∨ w.heap.size ≤ b) ∧ Stays (HC B w hg K) w w'
/-- lines' heights that were changed -/
def HDone (B : Nat) (w : World) (hg : Nat) (K : List Nat) (L : Qs) (H : List Bool) (w' : World) : Prop := ∃ K', HAt B w' hg K' L H ∧ (∀ b ∈ K', b ∈ K ∨ w.heap.size ≤ b) ∧ Stays (HC B w hg K) w w'
theorem HAt.tri {w : World} {hg : Nat} {K : List Nat} {L : Qs} {H : List Bool} (h : HAt B w hg K L H) : TDone B w hg K L (shwL L H) (opnL H) w := by
  obtain ⟨v1, v2, v3, c1, c2, c3, h0, h1, h2, h3, d1, d2, d3, rfl⟩ := h.ex
  exact ⟨v1, v2, v3, c1, c2, c3, ⟨h0, h1, h2, h3, d1, d2, d3⟩, fun b hb => .inl hb, Stays.refl _ _⟩
theorem TDone.done {w w' : World} {hg : Nat} {K : List Nat} {L l2 l3 : Qs} {H : List Bool} (h : TDone B w hg K L l2 l3 w') (hB : B ≤ hg) (hl : H.length = L.length) (e2 : l2 = shwL L H) (e3 : l3 = opnL H) : HDone B w hg K L H w' := by
  obtain ⟨v1, v2, v3, c1, c2, c3, t, hk, hs⟩ := h
  subst e2
  subst e3
  exact ⟨_, ⟨⟨v1, v2, v3, c1, c2, c3, t.blk, t.i1, t.i2, t.i3, t.d12, t.d13, t.d23, rfl⟩, hB, hl⟩, hk, hs⟩
theorem HDone.same {w w' : World} {hg : Nat} {K : List Nat} {L : Qs} {H : List Bool} (h : HAt B w hg K L H) (a : AnyLater w w') : HDone B w hg K L H w' := ⟨K, h.later a, fun b hb => .inl hb, .of a⟩
theorem TDone.later {w W W' : World} {hg : Nat} {K : List Nat} {l1 l2 l3 : Qs} (h : TDone B w hg K l1 l2 l3 W) (a : AnyLater W W') : TDone B w hg K l1 l2 l3 W' := by
  obtain ⟨v1, v2, v3, c1, c2, c3, t, hk, hs⟩ := h
  exact ⟨v1, v2, v3, c1, c2, c3, ⟨any_own a t.blk, t.i1.later a, t.i2.later a, t.i3.later a, t.d12, t.d13, t.d23⟩, hk, hs.later a⟩
/-- what a step changes that changes no more than this -/
theorem HC.more {w W : World} {hg : Nat} {K : List Nat} {Ks : List Nat} (hK : ∀ b ∈ Ks, b ∈ K ∨ w.heap.size ≤ b) (hs : Stays (HC B w hg K) w W) {b : Nat} (hb : b = hg ∨ (B ≤ b ∧ (b ∈ Ks ∨ ∃ cs, W.heap[b]? = some (.cells cs 119)))) : HC B w hg K b ∨ w.heap.size ≤ b := by
  rcases hb with hb | ⟨h1, hb | ⟨cs, hb⟩⟩
  · exact .inl (.inl hb)
  · exact (hK b hb).imp (fun q => .inr ⟨h1, .inl q⟩) id
  · rcases Nat.lt_or_ge b w.heap.size with q | q
    · refine .inl ?_
      by_cases hc : HC B w hg K b
      · exact hc
      · exact .inr ⟨h1, .inr ⟨cs, (hs.block b q hc).symm.trans hb⟩⟩
    · exact .inr q
/-- a chain that was spliced, among three -/
theorem TDone.step {w W w' : World} {hg : Nat} {K : List Nat} {l1 l2 l3 m1 m2 m3 : Qs} {v1 v2 v3 : Value} {c1 c2 c3 : Cw} {S : Nat → Prop} (t : Tri B W hg v1 v2 v3 c1 c2 c3 l1 l2 l3) (hK : ∀ b ∈ c1.bl ++ c2.bl ++ c3.bl, b ∈ K ∨ w.heap.size ≤ b) (hs : Stays (HC B w hg K) w W) (st : Stays S W w')
    (hS : ∀ b, S b → b = hg ∨ (B ≤ b ∧ (b ∈ c1.bl ++ c2.bl ++ c3.bl ∨ ∃ cs, W.heap[b]? = some (.cells cs 119))))
    (h : ∃ u1 u2 u3 d1 d2 d3, Tri B w' hg u1 u2 u3 d1 d2 d3 m1 m2 m3 ∧ ∀ b ∈ d1.bl ++ d2.bl ++ d3.bl, b ∈ c1.bl ++ c2.bl ++ c3.bl ∨ W.heap.size ≤ b) : TDone B w hg K m1 m2 m3 w' := by
  obtain ⟨u1, u2, u3, d1, d2, d3, t', h2⟩ := h
  refine ⟨u1, u2, u3, d1, d2, d3, t', fun b hb => ?_, hs.more st (fun b hb => HC.more hK hs (hS b hb))⟩
  rcases h2 b hb with q | q
  · exact hK b q
  · exact .inr (Nat.le_trans hs.size q)
theorem bl_apart {w : World} {v : Value} {c c' d : Cw} {l : Qs} (hd : ∀ b ∈ c.bl, b ∉ d.bl) (h : ∀ b ∈ c'.bl, b ∈ c.bl ∨ w.heap.size ≤ b) (i : IsCh B w v d l) : ∀ b ∈ c'.bl, b ∉ d.bl := fun b hb k => by
  rcases h b hb with q | q
  · exact hd b q k
  · have := (i.bl_in k).2; omega
theorem apart_symm {c d : Cw} (h : ∀ b ∈ c.bl, b ∉ d.bl) : ∀ b ∈ d.bl, b ∉ c.bl := fun b hb k => h b k hb
/-- a chain stays where another one, or the block of the three, has changed -/
theorem IsCh.beside {w w' : World} {v v' : Value} {c d : Cw} {l l' : Qs} {hg : Nat} {cs : Array Value} {S : Nat → Prop} (i : IsCh B w v d l) (j : IsCh B w v' c l') (hd : ∀ b ∈ c.bl, b ∉ d.bl) (hh : w.heap[hg]? = some (.cells cs 70)) (st : Stays S w w') (hS : ∀ b, S b → b = hg ∨ InC w c b) : IsCh B w' v d l := i.stays st (fun b hb e => by
  rcases hS b e with q | q
  · exact heights_blk i hh (q ▸ hb)
  · exact InC.apart j i hd q hb)
theorem mem3_1 {a b c : List Nat} {x : Nat} (h : x ∈ a) : x ∈ a ++ b ++ c := by simp [h]
theorem mem3_2 {a b c : List Nat} {x : Nat} (h : x ∈ b) : x ∈ a ++ b ++ c := by simp [h]
theorem mem3_3 {a b c : List Nat} {x : Nat} (h : x ∈ c) : x ∈ a ++ b ++ c := by simp [h]
theorem mem3 {a b c : List Nat} {x : Nat} (h : x ∈ a ++ b ++ c) : x ∈ a ∨ x ∈ b ∨ x ∈ c := by simpa [or_assoc] using h
section
variable {w W W' : World} {hg : Nat} {K : List Nat} {l1 l2 l3 l : Qs} {v1 v2 v3 : Value} {c1 c2 c3 : Cw}
theorem Tri.splice1 (t : Tri B W hg v1 v2 v3 c1 c2 c3 l1 l2 l3) (hK : ∀ b ∈ c1.bl ++ c2.bl ++ c3.bl, b ∈ K ∨ w.heap.size ≤ b) (hs : Stays (HC B w hg K) w W) (p : PDone B W hg 0 #[v1, v2, v3] c1 l W') : TDone B w hg K l l2 l3 W' := by
  obtain ⟨v', c', q1, q2, q3, q4, q5⟩ := p
  have hn : ∀ b, (b = hg ∨ InR c1 b) → b = hg ∨ InC W c1 b := fun b hb => hb.imp id InR.inC
  refine TDone.step t hK hs q5 (fun b hb => ?_) ⟨v', v2, v3, c', c2, c3, ⟨q1, q2, t.i2.beside t.i1 t.d12 t.blk q5 hn, t.i3.beside t.i1 t.d13 t.blk q5 hn, bl_apart t.d12 q3 t.i2, bl_apart t.d13 q3 t.i3, t.d23⟩, fun b hb => ?_⟩
  · rcases hb with hb | hb
    · exact .inl hb
    · have k := (InR.inC (w := W) hb).kinds t.i1
      exact .inr ⟨k.1, k.2.imp mem3_1 id⟩
  · rcases mem3 hb with q | q | q
    · exact (q3 b q).imp mem3_1 id
    · exact .inl (mem3_2 q)
    · exact .inl (mem3_3 q)
theorem Tri.splice2 (t : Tri B W hg v1 v2 v3 c1 c2 c3 l1 l2 l3) (hK : ∀ b ∈ c1.bl ++ c2.bl ++ c3.bl, b ∈ K ∨ w.heap.size ≤ b) (hs : Stays (HC B w hg K) w W) (p : PDone B W hg 1 #[v1, v2, v3] c2 l W') : TDone B w hg K l1 l l3 W' := by
  obtain ⟨v', c', q1, q2, q3, q4, q5⟩ := p
  have hn : ∀ b, (b = hg ∨ InR c2 b) → b = hg ∨ InC W c2 b := fun b hb => hb.imp id InR.inC
  refine TDone.step t hK hs q5 (fun b hb => ?_) ⟨v1, v', v3, c1, c', c3, ⟨q1, t.i1.beside t.i2 (apart_symm t.d12) t.blk q5 hn, q2, t.i3.beside t.i2 t.d23 t.blk q5 hn, apart_symm (bl_apart (apart_symm t.d12) q3 t.i1), t.d13, bl_apart t.d23 q3 t.i3⟩, fun b hb => ?_⟩
  · rcases hb with hb | hb
    · exact .inl hb
    · have k := (InR.inC (w := W) hb).kinds t.i2
      exact .inr ⟨k.1, k.2.imp mem3_2 id⟩
  · rcases mem3 hb with q | q | q
    · exact .inl (mem3_1 q)
    · exact (q3 b q).imp mem3_2 id
    · exact .inl (mem3_3 q)
theorem Tri.splice3 (t : Tri B W hg v1 v2 v3 c1 c2 c3 l1 l2 l3) (hK : ∀ b ∈ c1.bl ++ c2.bl ++ c3.bl, b ∈ K ∨ w.heap.size ≤ b) (hs : Stays (HC B w hg K) w W) (p : PDone B W hg 2 #[v1, v2, v3] c3 l W') : TDone B w hg K l1 l2 l W' := by
  obtain ⟨v', c', q1, q2, q3, q4, q5⟩ := p
  have hn : ∀ b, (b = hg ∨ InR c3 b) → b = hg ∨ InC W c3 b := fun b hb => hb.imp id InR.inC
  refine TDone.step t hK hs q5 (fun b hb => ?_) ⟨v1, v2, v', c1, c2, c', ⟨q1, t.i1.beside t.i3 (apart_symm t.d13) t.blk q5 hn, t.i2.beside t.i3 (apart_symm t.d23) t.blk q5 hn, q2, t.d12, apart_symm (bl_apart (apart_symm t.d13) q3 t.i1), apart_symm (bl_apart (apart_symm t.d23) q3 t.i2)⟩, fun b hb => ?_⟩
  · rcases hb with hb | hb
    · exact .inl hb
    · have k := (InR.inC (w := W) hb).kinds t.i3
      exact .inr ⟨k.1, k.2.imp mem3_3 id⟩
  · rcases mem3 hb with q | q | q
    · exact .inl (mem3_1 q)
    · exact .inl (mem3_2 q)
    · exact (q3 b q).imp mem3_3 id
theorem Tri.set1 (t : Tri B W hg v1 v2 v3 c1 c2 c3 l1 l2 l3) (hK : ∀ b ∈ c1.bl ++ c2.bl ++ c3.bl, b ∈ K ∨ w.heap.size ≤ b) (hs : Stays (HC B w hg K) w W) (p : CSet B W v1 c1 l W') : TDone B w hg K l l2 l3 W' := by
  obtain ⟨c', q1, q2, q3⟩ := p
  have hn : ∀ b, InC W c1 b → b = hg ∨ InC W c1 b := fun b hb => .inr hb
  refine TDone.step t hK hs q3 (fun b hb => ?_) ⟨v1, v2, v3, c', c2, c3, ⟨q3.own t.blk (heights_blk t.i1 t.blk), q1, t.i2.beside t.i1 t.d12 t.blk q3 hn, t.i3.beside t.i1 t.d13 t.blk q3 hn, by rw [q2]; exact t.d12, by rw [q2]; exact t.d13, t.d23⟩, fun b hb => .inl (by rw [q2] at hb; exact hb)⟩
  have k := hb.kinds t.i1
  exact .inr ⟨k.1, k.2.imp mem3_1 id⟩
theorem Tri.set2 (t : Tri B W hg v1 v2 v3 c1 c2 c3 l1 l2 l3) (hK : ∀ b ∈ c1.bl ++ c2.bl ++ c3.bl, b ∈ K ∨ w.heap.size ≤ b) (hs : Stays (HC B w hg K) w W) (p : CSet B W v2 c2 l W') : TDone B w hg K l1 l l3 W' := by
  obtain ⟨c', q1, q2, q3⟩ := p
  have hn : ∀ b, InC W c2 b → b = hg ∨ InC W c2 b := fun b hb => .inr hb
  refine TDone.step t hK hs q3 (fun b hb => ?_) ⟨v1, v2, v3, c1, c', c3, ⟨q3.own t.blk (heights_blk t.i2 t.blk), t.i1.beside t.i2 (apart_symm t.d12) t.blk q3 hn, q1, t.i3.beside t.i2 t.d23 t.blk q3 hn, by rw [q2]; exact t.d12, t.d13, by rw [q2]; exact t.d23⟩, fun b hb => .inl (by rw [q2] at hb; exact hb)⟩
  have k := hb.kinds t.i2
  exact .inr ⟨k.1, k.2.imp mem3_2 id⟩
theorem Tri.set3 (t : Tri B W hg v1 v2 v3 c1 c2 c3 l1 l2 l3) (hK : ∀ b ∈ c1.bl ++ c2.bl ++ c3.bl, b ∈ K ∨ w.heap.size ≤ b) (hs : Stays (HC B w hg K) w W) (p : CSet B W v3 c3 l W') : TDone B w hg K l1 l2 l W' := by
  obtain ⟨c', q1, q2, q3⟩ := p
  have hn : ∀ b, InC W c3 b → b = hg ∨ InC W c3 b := fun b hb => .inr hb
  refine TDone.step t hK hs q3 (fun b hb => ?_) ⟨v1, v2, v3, c1, c2, c', ⟨q3.own t.blk (heights_blk t.i3 t.blk), t.i1.beside t.i3 (apart_symm t.d13) t.blk q3 hn, t.i2.beside t.i3 (apart_symm t.d23) t.blk q3 hn, q1, t.d12, by rw [q2]; exact t.d13, by rw [q2]; exact t.d23⟩, fun b hb => .inl (by rw [q2] at hb; exact hb)⟩
  have k := hb.kinds t.i3
  exact .inr ⟨k.1, k.2.imp mem3_3 id⟩
end

/-! ### the three, spliced and set -/
/-- rows of heights that are no part of what is changed stay -/
def Kpt (W W' : World) : Prop := ∀ C u m, OQ 33 W C u m → OQ 33 W' C u m
theorem Kpt.of {W W' : World} {hg k : Nat} {cs : Array Value} {v : Value} {c : Cw} {l l2 : Qs} (h : IsCh B W v c l) (hh : W.heap[hg]? = some (.cells cs 70)) (p : PDone B W hg k cs c l2 W') : Kpt W W' := fun C u m hu => by
  obtain ⟨_, _, _, _, _, _, q5⟩ := p
  exact own_row_stays hu q5 (fun b hb => tall_apart hu h hh hb)
def spL (l m : Qs) (i n : Nat) : Qs := l.take i ++ m ++ l.drop (i + n)
theorem tsplice1 (hg : Nat) (K : List Nat) (l1 l2 l3 m : Qs) (u : Value) (i n C : Nat) (tt : Int) (w W : World) (h : TDone B w hg K l1 l2 l3 W) (hB : B ≤ w.heap.size) (htt : tt - (i : Int) = (n : Int)) (hi : i + n ≤ l1.length) (hu : OQ 33 W C u m) (hm : l1.length + m.length ≤ 45000) (hb : m.any tlBad = false) :
    Calls Try.prog 42 #[.pointer (some ⟨hg, 0, none⟩), .int .i64 (i : Int), .int .i64 tt, u, .int .i64 16777216] W fun e w' => e = .returned (.tuple #[]) ∧ TDone B w hg K (spL l1 m i n) l2 l3 w' ∧ Kpt W w' := by
  obtain ⟨v1, v2, v3, c1, c2, c3, t, hK, hs⟩ := h
  refine (hgsplice_any hg 0 #[v1, v2, v3] v1 u l1 m c1 i n C tt W t.blk rfl t.i1 (Nat.le_trans hB hs.size) htt hi hu hm hb).mono ?_
  rintro e w' ⟨rfl, p⟩
  exact ⟨rfl, t.splice1 hK hs p, Kpt.of t.i1 t.blk p⟩
theorem tsplice2 (hg : Nat) (K : List Nat) (l1 l2 l3 m : Qs) (u : Value) (i n C : Nat) (tt : Int) (w W : World) (h : TDone B w hg K l1 l2 l3 W) (hB : B ≤ w.heap.size) (htt : tt - (i : Int) = (n : Int)) (hi : i + n ≤ l2.length) (hu : OQ 33 W C u m) (hm : l2.length + m.length ≤ 45000) (hb : m.any tlBad = false) :
    Calls Try.prog 42 #[.pointer (some ⟨hg, 1, none⟩), .int .i64 (i : Int), .int .i64 tt, u, .int .i64 16777216] W fun e w' => e = .returned (.tuple #[]) ∧ TDone B w hg K l1 (spL l2 m i n) l3 w' ∧ Kpt W w' := by
  obtain ⟨v1, v2, v3, c1, c2, c3, t, hK, hs⟩ := h
  refine (hgsplice_any hg 1 #[v1, v2, v3] v2 u l2 m c2 i n C tt W t.blk rfl t.i2 (Nat.le_trans hB hs.size) htt hi hu hm hb).mono ?_
  rintro e w' ⟨rfl, p⟩
  exact ⟨rfl, t.splice2 hK hs p, Kpt.of t.i2 t.blk p⟩
theorem tsplice3 (hg : Nat) (K : List Nat) (l1 l2 l3 m : Qs) (u : Value) (i n C : Nat) (tt : Int) (w W : World) (h : TDone B w hg K l1 l2 l3 W) (hB : B ≤ w.heap.size) (htt : tt - (i : Int) = (n : Int)) (hi : i + n ≤ l3.length) (hu : OQ 33 W C u m) (hm : l3.length + m.length ≤ 45000) (hb : m.any tlBad = false) :
    Calls Try.prog 42 #[.pointer (some ⟨hg, 2, none⟩), .int .i64 (i : Int), .int .i64 tt, u, .int .i64 16777216] W fun e w' => e = .returned (.tuple #[]) ∧ TDone B w hg K l1 l2 (spL l3 m i n) w' ∧ Kpt W w' := by
  obtain ⟨v1, v2, v3, c1, c2, c3, t, hK, hs⟩ := h
  refine (hgsplice_any hg 2 #[v1, v2, v3] v3 u l3 m c3 i n C tt W t.blk rfl t.i3 (Nat.le_trans hB hs.size) htt hi hu hm hb).mono ?_
  rintro e w' ⟨rfl, p⟩
  exact ⟨rfl, t.splice3 hK hs p, Kpt.of t.i3 t.blk p⟩
end Go.Proofs.Ytjoadlfkdkeomaa
namespace Go.Proofs.Ytjoadlfkdkeomaa
set_option linter.unusedSimpArgs false
set_option linter.unusedVariables false
set_option linter.unusedSectionVars false
open Go.RowKit
variable {B : Nat}

/-! ### Splice -/
instance (i k n : Int) : Decidable (ClcSpan i k n) := by unfold ClcSpan; infer_instance
/-- what Splice tells -/
def hspC (n : Nat) (i k : Int) (m : Qs) : Int := if ¬ ClcSpan i k n then 1 else if m.any tlBad = true then 5 else 0
theorem any_nil_bad : ([] : Qs).any tlBad = false := rfl
theorem rep_good (n : Nat) : (List.replicate n ((0, 1) : Int × Int)).any tlBad = false := by
  rw [List.any_eq_false]
  intro x hx
  rw [List.eq_of_mem_replicate hx]
  decide
theorem opn_len (H : List Bool) : (opnL H).length = H.length := by unfold opnL; rw [List.length_map]
set_option maxRecDepth 100000 in
theorem hghsp_nil (i n : Int) (u : Value) (w : World) (hu : ∃ A k cap, u = .slice A k cap) : Calls Try.prog 26 #[.pointer none, .int .i64 i, .int .i64 n, u] w fun e w' => e = .returned (.int .i64 1) ∧ AnyLater w w' := by
  have HL := Lib.hid (fun (w' : World) => hglen_any (B := 0) (.pointer none) [] [] w' (.inl ⟨rfl, rfl, rfl⟩))
  obtain ⟨A, k, cap, rfl⟩ := hu
  by_cases h : ClcSpan i n 0
  · have HS := Lib.hid (fun (w' : World) => same_later (clcSpan_yes i n 0 w' h (by decide)))
    clear h
    go_enter Try.func26, Try.ntmps26
    go_wp2_with fail
    refine (HL.out _).mono ?_
    rintro e w1 ⟨rfl, b_w1⟩
    have z_w1 := b_w1.below.size
    have a_w1 := b_w1
    go_wp2_with fail
    refine (HS.out _).mono ?_
    rintro e w2 ⟨rfl, b_w2⟩
    have z_w2 := b_w2.below.size
    have a_w2 := a_w1.trans b_w2
    go_wp2_with fail
    go_ret
    exact ⟨rfl, a_w2⟩
  · have HS := Lib.hid (fun (w' : World) => same_later (clcSpan_no i n 0 w' h (by decide) (by decide)))
    clear h
    go_enter Try.func26, Try.ntmps26
    go_wp2_with fail
    refine (HL.out _).mono ?_
    rintro e w1 ⟨rfl, b_w1⟩
    have z_w1 := b_w1.below.size
    have a_w1 := b_w1
    go_wp2_with fail
    refine (HS.out _).mono ?_
    rintro e w2 ⟨rfl, b_w2⟩
    have z_w2 := b_w2.below.size
    have a_w2 := a_w1.trans b_w2
    go_wp2_with fail
    go_ret
    exact ⟨rfl, a_w2⟩
set_option maxRecDepth 100000 in
theorem hghsp_range (hg : Nat) (L : Qs) (H : List Bool) (i n : Int) (u : Value) (w : World) (h : HV B w (.pointer (some ⟨hg, 0, none⟩)) L H) (hu : ∃ A k cap, u = .slice A k cap) (hi : ¬ ClcSpan i n L.length) : Calls Try.prog 26 #[.pointer (some ⟨hg, 0, none⟩), .int .i64 i, .int .i64 n, u] w fun e w' => e = .returned (.int .i64 1) ∧ AnyLater w w' := by
  have HL := Lib.hid (fun (w' : World) (a : AnyLater w w') => hglen_any _ L H w' (h.later a))
  have hlen := h.len.2.1
  have HS := Lib.hid (fun (w' : World) => same_later (clcSpan_no i n L.length w' hi (by omega) (by omega)))
  obtain ⟨A, k, cap, rfl⟩ := hu
  clear h hi
  generalize L.length = m at *
  go_enter Try.func26, Try.ntmps26
  go_wp2_with fail
  refine (HL.out _ (AnyLater.refl w)).mono ?_
  rintro e w1 ⟨rfl, b_w1⟩
  have z_w1 := b_w1.below.size
  have a_w1 := b_w1
  go_wp2_with fail
  refine (HS.out _).mono ?_
  rintro e w2 ⟨rfl, b_w2⟩
  have z_w2 := b_w2.below.size
  have a_w2 := a_w1.trans b_w2
  go_wp2_with fail
  go_ret
  exact ⟨rfl, a_w2⟩
set_option maxRecDepth 100000 in
theorem hghsp_kind (hg : Nat) (L m : Qs) (H : List Bool) (i n : Int) (C : Nat) (u : Value) (w : World) (h : HV B w (.pointer (some ⟨hg, 0, none⟩)) L H) (hu : OQ 33 w C u m) (hi : ClcSpan i n L.length) (hm : m.length ≤ 45000) (hb : m.any tlBad = true) : Calls Try.prog 26 #[.pointer (some ⟨hg, 0, none⟩), .int .i64 i, .int .i64 n, u] w fun e w' => e = .returned (.int .i64 5) ∧ AnyLater w w' := by
  have HL := Lib.hid (fun (w' : World) (a : AnyLater w w') => hglen_any _ L H w' (h.later a))
  have hlen := h.len.2.1
  have HS := Lib.hid (fun (w' : World) => same_later (clcSpan_yes i n L.length w' hi (by omega)))
  have HN := Lib.hid (fun (w' : World) (a : AnyLater w w') => sqnew_bad u m w' ((OQ.rq hu).later a) hm hb)
  obtain ⟨A, cap, rfl, -⟩ := (OQ.rq hu).form
  clear h hi hu hb
  generalize L.length = k at *
  go_enter Try.func26, Try.ntmps26
  go_wp2_with fail
  refine (HL.out _ (AnyLater.refl w)).mono ?_
  rintro e w1 ⟨rfl, b_w1⟩
  have z_w1 := b_w1.below.size
  have a_w1 := b_w1
  go_wp2_with fail
  refine (HS.out _).mono ?_
  rintro e w2 ⟨rfl, b_w2⟩
  have z_w2 := b_w2.below.size
  have a_w2 := a_w1.trans b_w2
  go_wp2_with fail
  refine (HN.out _ a_w2).mono ?_
  rintro e w3 ⟨rfl, b_w3⟩
  have z_w3 := b_w3.below.size
  have a_w3 := a_w2.trans b_w3
  go_wp2_with fail
  go_ret
  exact ⟨rfl, a_w3⟩
def spH (H : List Bool) (m i n : Nat) : List Bool := H.take i ++ List.replicate m false ++ H.drop (i + n)
theorem spH_len {L m : Qs} {H : List Bool} {i n : Nat} (h : H.length = L.length) : (spH H m.length i n).length = (spL L m i n).length := by
  unfold spH spL
  simp only [List.length_append, List.length_take, List.length_drop, List.length_replicate, h]
theorem shw_sp {L m : Qs} {H : List Bool} {i n : Nat} (h : H.length = L.length) : spL (shwL L H) m i n = shwL (spL L m i n) (spH H m.length i n) := by
  have e : shwL m (List.replicate m.length false) = m := by
    unfold shwL
    apply List.ext_getElem?
    intro j
    rw [List.getElem?_zipWith]
    by_cases hj : j < m.length
    · simp [hj]
    · simp [hj]
  unfold spL spH
  rw [show shwL (L.take i ++ m ++ L.drop (i + n)) (H.take i ++ List.replicate m.length false ++ H.drop (i + n)) = shwL (L.take i) (H.take i) ++ shwL m (List.replicate m.length false) ++ shwL (L.drop (i + n)) (H.drop (i + n)) from by
    unfold shwL
    rw [List.zipWith_append (by simp [h]), List.zipWith_append (by simp [h])], e]
  unfold shwL
  rw [List.take_zipWith, List.drop_zipWith]
theorem opn_sp {H : List Bool} {m i n : Nat} : spL (opnL H) (List.replicate m (0, 1)) i n = opnL (spH H m i n) := by
  unfold spL spH opnL
  simp only [List.map_append, List.map_take, List.map_drop, List.map_replicate]
  rfl
set_option maxRecDepth 100000 in
set_option maxHeartbeats 1600000 in
theorem hghsp_yes (hg : Nat) (K : List Nat) (L m : Qs) (H : List Bool) (i n C : Nat) (u : Value) (w : World) (h : HAt B w hg K L H) (hB : B ≤ w.heap.size) (hu : OQ 33 w C u m) (hi : i + n ≤ L.length) (hm : L.length + m.length ≤ 45000) (hb : m.any tlBad = false) : Calls Try.prog 26 #[.pointer (some ⟨hg, 0, none⟩), .int .i64 (i : Int), .int .i64 (n : Int), u] w fun e w' => e = .returned (.int .i64 0) ∧ HDone B w hg K (spL L m i n) (spH H m.length i n) w' := by
  have HL := Lib.hid (fun (w' : World) (a : AnyLater w w') => hglen_any _ L H w' (h.v.later a))
  have HS := Lib.hid (fun (w' : World) => same_later (clcSpan_yes (i : Int) (n : Int) L.length w' ⟨by omega, by omega, by omega, by omega⟩ (by omega)))
  have HN := Lib.hid (fun (w' : World) (a : AnyLater w w') => sqnew_any u m w' ((OQ.rq hu).later a) (by omega) hb)
  have hs2 : (shwL L H).length = L.length := shw_len h.len
  have hs3 : (opnL H).length = L.length := by rw [opn_len, h.len]
  have H1 := Lib.hid (fun (W : World) (a : AnyLater w W) => (tsplice1 hg K L (shwL L H) (opnL H) m u i n C ((i : Int) + (n : Int)) w W (h.tri.later a) hB (by omega) hi (OQ.later a hu) hm hb).mono fun e w' ⟨k1, k2, k3⟩ => (⟨k1, k2, k3 _ _ _ (OQ.later a hu)⟩ : _ ∧ TDone B w hg K (spL L m i n) (shwL L H) (opnL H) w' ∧ OQ 33 w' C u m))
  have H2 := Lib.hid (fun (W : World) (t : TDone B w hg K (spL L m i n) (shwL L H) (opnL H) W) (o : OQ 33 W C u m) => tsplice2 hg K _ (shwL L H) (opnL H) m u i n C ((i : Int) + (n : Int)) w W t hB (by omega) (by rw [hs2]; exact hi) o (by rw [hs2]; exact hm) hb)
  have H3 := Lib.hid (fun (W : World) (z : Value) (t : TDone B w hg K (spL L m i n) (spL (shwL L H) m i n) (opnL H) W) (o : OQ 33 W 0 z (List.replicate m.length (0, 1))) => tsplice3 hg K _ _ (opnL H) (List.replicate m.length (0, 1)) z i n 0 ((i : Int) + (n : Int)) w W t hB (by omega) (by rw [hs3]; exact hi) o (by rw [hs3, List.length_replicate]; exact hm) (rep_good _))
  have HR : Hid (∀ (x : World) (v : Value), QR x v [(0, 1)] → Calls Try.prog 43 #[v, .int .i64 (m.length : Int)] x fun e w' => ∃ z, e = .returned z ∧ AnyLater x w' ∧ OQ 33 w' 0 z (List.replicate m.length (0, 1))) := Lib.hid (fun x v hv => by
    obtain ⟨A, cap, rfl, -⟩ := hv.form
    refine (hgrep_any A cap (0, 1) m.length x hv (by omega)).mono ?_
    rintro e w' ⟨z, k1, k2, k3⟩
    exact ⟨z, k1, k2, OQ.wide (Nat.zero_le _) k3⟩)
  have HZ : Hid (∀ (W : World), TDone B w hg K (spL L m i n) (spL (shwL L H) m i n) (spL (opnL H) (List.replicate m.length (0, 1)) i n) W → HDone B w hg K (spL L m i n) (spH H m.length i n) W) := Lib.hid (fun W t => t.done h.base (spH_len h.len) (shw_sp h.len) opn_sp)
  obtain ⟨A, cap, rfl, -⟩ := (OQ.rq hu).form
  clear h hu hi hm hb hB hs2 hs3
  generalize spL L m i n = l1 at *
  generalize spL (shwL L H) m i n = l2 at *
  generalize spL (opnL H) (List.replicate m.length (0, 1)) i n = l3 at *
  generalize spH H m.length i n = h2 at *
  generalize List.replicate m.length ((0, 1) : Int × Int) = rp at *
  generalize m.length = M at *
  generalize L.length = k at *
  go_enter Try.func26, Try.ntmps26
  go_wp2_with fail
  refine (HL.out _ (AnyLater.refl w)).mono ?_
  rintro e w1 ⟨rfl, b_w1⟩
  have z_w1 := b_w1.below.size
  have a_w1 := b_w1
  go_wp2_with fail
  refine (HS.out _).mono ?_
  rintro e w2 ⟨rfl, b_w2⟩
  have z_w2 := b_w2.below.size
  have a_w2 := a_w1.trans b_w2
  go_wp2_with fail
  refine (HN.out _ a_w2).mono ?_
  rintro e w3 ⟨g, t, rfl, b_w3, -, -⟩
  have HA3 := Lib.hid (a_w2.trans b_w3)
  clear b_w3
  go_wp2_with fail
  refine (H1.out w3 HA3.out).mono ?_
  rintro e w4 ⟨rfl, t1, o1⟩
  have HT1 := Lib.hid (And.intro t1 o1)
  clear t1 o1
  go_wp2_with fail
  refine (H2.out w4 HT1.out.1 HT1.out.2).mono ?_
  rintro e w5 ⟨rfl, t2, -⟩
  have HT2 := Lib.hid t2
  have a_w5 := AnyLater.refl w5
  clear t2
  go_wp2_with fail
  apply Wild.wp_region_free (10) [⟨6, 56, undef, true, fun u w => QR w u [(0, 1)]⟩, ⟨9, 59, undef, true, fun u w => OQ 33 w 0 u rp⟩] [⟨6, 56, fun u w => QR w u [(0, 1)]⟩, ⟨9, 59, fun u w => OQ 33 w 0 u rp⟩] rfl (by kernel_rfl) (by kernel_rfl) (by kernel_rfl) (by simp) (by kernel_rfl)
  case hstab =>
    intro c hc
    simp only [List.mem_cons, List.not_mem_nil, or_false] at hc
    rcases hc with rfl | rfl
    · intro v x y hxy hv; exact (fun h k => QR.later k h) hxy hv
    · intro v x y hxy hv; exact (fun h k => OQ.later h k) hxy hv
  case hfix =>
    intro c hc
    simp only [List.mem_cons, List.not_mem_nil, or_false] at hc
    rcases hc with rfl | rfl
    · exact .inl rfl
    · exact .inl rfl
  case hlex =>
    intro U hU
    simp only [List.map_cons, List.map_nil, CA.act, actFrom, actOp, List.lookup, Nat.reduceBEq, Nat.reduceLeDiff, Nat.reduceAdd, if_false, if_true]
    repeat (go_big_quiet_step (fail))
    exact wpQuiet_nil rfl
  case hstep =>
    intro j hj o ho
    have hj2 : j = 0 ∨ j = 1 := by simp at hj; omega
    rcases hj2 with rfl | rfl
    · cases ho
      refine ⟨rfl, fun g x hx hp => ?_⟩
      clear hp
      simp only [fillAll, Act.put, List.setIfInBounds_toArray, List.set_cons_zero, List.set_cons_succ]
      refine Wild.free_make (v := .slice (some ⟨x.heap.size, 0, none⟩) 1 1) (w' := x.alloc (.cells #[.int .i64 0, .int .i64 1] 33)) (by simp [go_sem, execOp]) ((AnyLater.refl x).alloc _) (OQ.rq (OQ.one (B := 0) (r := (0, 1)) (Nat.zero_le _) (heap_new rfl)))
    · cases ho
      refine ⟨rfl, fun g x hx hp => ?_⟩
      have p56 : (fun u w => QR w u [(0, 1)]) (g 6) x := hp _ (List.mem_of_getElem? (i := 0) rfl) (List.contains_iff_mem.1 (by kernel_rfl))
      clear hp
      simp only [fillAll, Act.put, List.setIfInBounds_toArray, List.set_cons_zero, List.set_cons_succ]
      refine chain_go ?_ (Wild.free_tells (HR.out x _ p56))
      first | (simp [go_sem, execOp]; done) | simp [go_sem, execOp, hcf]
  case htail =>
    intro g u hst hne
    have b_w6 : AnyLater w5 (later u) := ⟨u, rfl⟩
    generalize later u = w6 at *
    clear u hne
    obtain ⟨p56_w6, -⟩ := hst _ (List.mem_of_getElem? (i := 0) rfl)
    (try dsimp only at p56_w6)
    obtain ⟨p59_w6, -⟩ := hst _ (List.mem_of_getElem? (i := 1) rfl)
    (try dsimp only at p59_w6)
    clear hst
    simp only [fillAll, Act.put, List.setIfInBounds_toArray, List.set_cons_zero, List.set_cons_succ, List.drop_succ_cons, List.drop_zero, List.drop_nil]
    generalize g 6 = v56 at *
    generalize g 9 = v59 at *
    have z_w6 := b_w6.below.size
    have a_w6 := a_w5.trans b_w6
    have HT3 := Lib.hid (And.intro (HT2.out.later b_w6) p59_w6)
    clear p56_w6 p59_w6
    go_wp2_with fail
    refine (H3.out w6 _ HT3.out.1 HT3.out.2).mono ?_
    rintro e w7 ⟨rfl, t3, -⟩
    have HF := Lib.hid (HZ.out w7 t3)
    clear t3
    go_wp2_with fail
    go_ret
    exact ⟨rfl, HF.out⟩
/-- what Splice leaves -/
def hspO (L : Qs) (H : List Bool) (i k : Int) (m : Qs) : Qs × List Bool := if hspC L.length i k m = 0 then (spL L m i.toNat k.toNat, spH H m.length i.toNat k.toNat) else (L, H)
/-- Splice, whatever is asked -/
theorem hghsp_any (hg : Nat) (K : List Nat) (L m : Qs) (H : List Bool) (i n : Int) (C : Nat) (u : Value) (w : World) (h : HAt B w hg K L H) (hB : B ≤ w.heap.size) (hu : OQ 33 w C u m) (hm : L.length + m.length ≤ 45000) : Calls Try.prog 26 #[.pointer (some ⟨hg, 0, none⟩), .int .i64 i, .int .i64 n, u] w fun e w' => e = .returned (.int .i64 (hspC L.length i n m)) ∧ HDone B w hg K (hspO L H i n m).1 (hspO L H i n m).2 w' := by
  have hu2 : ∃ A k cap, u = .slice A k cap := by
    obtain ⟨A, cap, e, _⟩ := (OQ.rq hu).form
    exact ⟨_, _, _, e⟩
  by_cases h1 : ClcSpan i n L.length
  · cases h2 : m.any tlBad
    · have e1 : hspC L.length i n m = 0 := by unfold hspC; rw [if_neg (fun c => c h1), h2]; rfl
      have e2 : hspO L H i n m = (spL L m i.toNat n.toNat, spH H m.length i.toNat n.toNat) := by unfold hspO; rw [if_pos e1]
      rw [e1, e2]
      obtain ⟨k1, k2, k3, k4⟩ := h1
      obtain ⟨a, rfl⟩ := Int.eq_ofNat_of_zero_le k1
      obtain ⟨b, rfl⟩ := Int.eq_ofNat_of_zero_le k3
      exact hghsp_yes hg K L m H a b C u w h hB hu (by omega) hm h2
    · have e1 : hspC L.length i n m = 5 := by unfold hspC; rw [if_neg (fun c => c h1), h2]; rfl
      have e2 : hspO L H i n m = (L, H) := by unfold hspO; rw [if_neg (by rw [e1]; decide)]
      rw [e1, e2]
      refine (hghsp_kind hg L m H i n C u w h.v hu h1 (by omega) h2).mono ?_
      rintro e w' ⟨rfl, a⟩
      exact ⟨rfl, HDone.same h a⟩
  · have e1 : hspC L.length i n m = 1 := by unfold hspC; rw [if_pos h1]
    have e2 : hspO L H i n m = (L, H) := by unfold hspO; rw [if_neg (by rw [e1]; decide)]
    rw [e1, e2]
    refine (hghsp_range hg L H i n u w h.v hu2 h1).mono ?_
    rintro e w' ⟨rfl, a⟩
    exact ⟨rfl, HDone.same h a⟩
end Go.Proofs.Ytjoadlfkdkeomaa
namespace Go.Proofs.Ytjoadlfkdkeomaa
set_option linter.unusedSimpArgs false
set_option linter.unusedVariables false
set_option linter.unusedSectionVars false
open Go.RowKit
variable {B : Nat}

set_option maxRecDepth 100000 in
theorem hghid_tri (hg : Nat) (v1 v2 v3 : Value) (c1 c2 c3 : Cw) (l1 l2 : Qs) (H : List Bool) (i : Int) (w : World) (t : Tri B w hg v1 v2 v3 c1 c2 c3 l1 l2 (opnL H)) : Calls Try.prog 14 #[.pointer (some ⟨hg, 0, none⟩), .int .i64 i] w fun e w' => e = .returned (.bool (hidB H i)) ∧ AnyLater w w' := by
  obtain ⟨A1, n1, k1, rfl⟩ := t.i1.slc
  obtain ⟨A2, n2, k2, rfl⟩ := t.i2.slc
  obtain ⟨A3, n3, k3, rfl⟩ := t.i3.slc
  have HL := Lib.hid (fun (w' : World) (a : AnyLater w w') => hglines_at hg A1 A2 A3 n1 n2 n3 k1 k2 k3 w' (any_own a t.blk))
  have i3 := t.i3
  have hf := hfield_2
  rcases opn_get H i with ⟨e, e2⟩ | ⟨e, e2⟩
  · have HS := Lib.hid (fun (w' : World) (a : AnyLater w w') => hgget_any _ c3 (opnL H) i w' _ e (i3.later a))
    clear t i3 e e2
    cases hb : hidB H i with
    | false =>
      rw [hb] at HS
      clear hb
      go_enter Try.func14, Try.ntmps14
      go_wp2_with fail
      refine (HL.out _ (AnyLater.refl w)).mono ?_
      rintro e w2 ⟨rfl, b_w2⟩
      have z_w2 := b_w2.below.size
      have a_w2 := b_w2
      go_wp2_with fail
      refine (HS.out _ a_w2).mono ?_
      rintro e w3 ⟨rfl, b_w3⟩
      have z_w3 := b_w3.below.size
      have a_w3 := a_w2.trans b_w3
      go_wp2_with fail
      go_ret
      exact ⟨rfl, by repeat' (first | with_reducible assumption | with_reducible exact AnyLater.refl _ | with_reducible apply AnyLater.setCell | with_reducible apply AnyLater.later | with_reducible apply AnyLater.drewN | with_reducible apply AnyLater.drew | with_reducible apply AnyLater.alloc | ((try simp only [World.size_alloc, World.size_setCell, World.size_drew]); (try dsimp only); omega))⟩
    | true =>
      rw [hb] at HS
      clear hb
      go_enter Try.func14, Try.ntmps14
      go_wp2_with fail
      refine (HL.out _ (AnyLater.refl w)).mono ?_
      rintro e w2 ⟨rfl, b_w2⟩
      have z_w2 := b_w2.below.size
      have a_w2 := b_w2
      go_wp2_with fail
      refine (HS.out _ a_w2).mono ?_
      rintro e w3 ⟨rfl, b_w3⟩
      have z_w3 := b_w3.below.size
      have a_w3 := a_w2.trans b_w3
      go_wp2_with fail
      go_ret
      exact ⟨rfl, by repeat' (first | with_reducible assumption | with_reducible exact AnyLater.refl _ | with_reducible apply AnyLater.setCell | with_reducible apply AnyLater.later | with_reducible apply AnyLater.drewN | with_reducible apply AnyLater.drew | with_reducible apply AnyLater.alloc | ((try simp only [World.size_alloc, World.size_setCell, World.size_drew]); (try dsimp only); omega))⟩
  · have HS := Lib.hid (fun (w' : World) (a : AnyLater w w') => hgget_any _ c3 (opnL H) i w' _ e (i3.later a))
    rw [e2]
    clear t i3 e e2
    go_enter Try.func14, Try.ntmps14
    go_wp2_with fail
    refine (HL.out _ (AnyLater.refl w)).mono ?_
    rintro e w2 ⟨rfl, b_w2⟩
    have z_w2 := b_w2.below.size
    have a_w2 := b_w2
    go_wp2_with fail
    refine (HS.out _ a_w2).mono ?_
    rintro e w3 ⟨rfl, b_w3⟩
    have z_w3 := b_w3.below.size
    have a_w3 := a_w2.trans b_w3
    go_wp2_with fail
    go_ret
    exact ⟨rfl, by repeat' (first | with_reducible assumption | with_reducible exact AnyLater.refl _ | with_reducible apply AnyLater.setCell | with_reducible apply AnyLater.later | with_reducible apply AnyLater.drewN | with_reducible apply AnyLater.drew | with_reducible apply AnyLater.alloc | ((try simp only [World.size_alloc, World.size_setCell, World.size_drew]); (try dsimp only); omega))⟩
theorem TDone.from {w w1 w' : World} {hg : Nat} {K : List Nat} {l1 l2 l3 : Qs} (a : AnyLater w w1) (h : TDone B w1 hg K l1 l2 l3 w') : TDone B w hg K l1 l2 l3 w' := by
  obtain ⟨v1, v2, v3, c1, c2, c3, t, hk, hs⟩ := h
  refine ⟨v1, v2, v3, c1, c2, c3, t, fun b hb => (hk b hb).imp id (fun q => Nat.le_trans a.below.size q), (Stays.of a).more hs (fun b hb => ?_)⟩
  rcases hb with hb | ⟨h1, hb | ⟨cs, hb⟩⟩
  · exact .inl (.inl hb)
  · exact .inl (.inr ⟨h1, .inl hb⟩)
  · rcases Nat.lt_or_ge b w.heap.size with q | q
    · exact .inl (.inr ⟨h1, .inr ⟨cs, (a.below.block b q).symm.trans hb⟩⟩)
    · exact .inr q
/-- a height in a box of the call's own stays -/
theorem TDone.box {w w' : World} {hg s : Nat} {K : List Nat} {l1 l2 l3 : Qs} {cs : Array Value} (h : TDone B w hg K l1 l2 l3 w') (hs : w.heap[s]? = some (.cells cs 33)) (h1 : s ≠ hg) (h2 : s ∉ K) : w'.heap[s]? = some (.cells cs 33) := by
  obtain ⟨v1, v2, v3, c1, c2, c3, t, hk, st⟩ := h
  refine st.own hs (fun c => ?_)
  rcases c with c | ⟨_, c | ⟨cs', c⟩⟩
  · exact h1 c
  · exact h2 c
  · exact node_tall c hs
/-- one step behind another -/
theorem TDone.then {w W W' : World} {hg : Nat} {K : List Nat} {l1 l2 l3 m1 m2 m3 : Qs} (h : TDone B w hg K l1 l2 l3 W) (h2 : ∀ v1 v2 v3 c1 c2 c3, Tri B W hg v1 v2 v3 c1 c2 c3 l1 l2 l3 → (∀ b ∈ c1.bl ++ c2.bl ++ c3.bl, b ∈ K ∨ w.heap.size ≤ b) → Stays (HC B w hg K) w W → TDone B w hg K m1 m2 m3 W') : TDone B w hg K m1 m2 m3 W' := by
  obtain ⟨v1, v2, v3, c1, c2, c3, t, hk, hs⟩ := h
  exact h2 v1 v2 v3 c1 c2 c3 t hk hs

/-! ### Set -/
theorem shw_get {L : Qs} {H : List Bool} {j : Nat} : (shwL L H)[j]? = match L[j]?, H[j]? with | some x, some h => some (if h then (0, 0) else x) | _, _ => none := by
  unfold shwL
  rw [List.getElem?_zipWith]
  cases L[j]? <;> cases H[j]? <;> rfl
theorem shw_set_hid {L : Qs} {H : List Bool} {j : Nat} {x : Int × Int} (h : H[j]? = some true) : shwL (L.set j x) H = shwL L H := by
  apply List.ext_getElem?
  intro k
  rw [shw_get, shw_get, List.getElem?_set]
  by_cases e : j = k
  · subst e
    rw [h]
    by_cases hj : j < L.length
    · simp [hj]
    · simp [hj]
  · simp [e]
theorem shw_set_open {L : Qs} {H : List Bool} {j : Nat} {x : Int × Int} (h : H[j]? = some false) : shwL (L.set j x) H = (shwL L H).set j x := by
  apply List.ext_getElem?
  intro k
  rw [shw_get, List.getElem?_set, List.getElem?_set, shw_get]
  by_cases e : j = k
  · subst e
    have hl : (shwL L H).length = min L.length H.length := by unfold shwL; rw [List.length_zipWith]
    have hH : j < H.length := (List.getElem?_eq_some_iff.1 h).1
    rw [h]
    by_cases hj : j < L.length
    · have : j < (shwL L H).length := by rw [hl]; omega
      simp [hj, this]
    · have : ¬ j < (shwL L H).length := by rw [hl]; omega
      simp [hj, this]
  · simp [e]
theorem hidB_get {H : List Bool} {j : Nat} (h : j < H.length) : H[j]? = some (hidB H (j : Int)) := by
  unfold hidB
  rw [dif_pos ⟨by omega, by omega⟩]
  simp [h]
theorem setC_zero {l : Qs} {i : Int} {x : Int × Int} (h : setC l i x = 0) : 0 ≤ i ∧ i < l.length ∧ tlBad x = false ∧ setO l i x = l.set i.toNat x := by
  have e : setO l i x = l.set i.toNat x := by unfold setO; rw [if_pos h]
  unfold setC at h
  split at h
  · cases h
  · rename_i k
    have k := Decidable.not_not.1 k
    split at h
    · cases h
    · rename_i q
      exact ⟨k.1, k.2, by simpa using q, e⟩
theorem setC_of {l : Qs} {i : Int} {x : Int × Int} (h : 0 ≤ i ∧ i < l.length) (hx : tlBad x = false) : setC l i x = 0 ∧ setO l i x = l.set i.toNat x := by
  have e : setC l i x = 0 := by unfold setC; rw [if_neg (fun c => c h), hx]; rfl
  exact ⟨e, by unfold setO; rw [if_pos e]⟩
set_option maxRecDepth 100000 in
set_option maxHeartbeats 1600000 in
theorem hghset_any (hg : Nat) (K : List Nat) (L : Qs) (H : List Bool) (i x y : Int) (w : World) (h : HAt B w hg K L H) : Calls Try.prog 27 #[.pointer (some ⟨hg, 0, none⟩), .int .i64 i, .agg #[.int .i64 x, .int .i64 y]] w fun e w' => e = .returned (.int .i64 (setC L i (x, y))) ∧ HDone B w hg K (setO L i (x, y)) H w' := by
  have hKw := h.in_
  have hgw := h.lt
  obtain ⟨v1, v2, v3, c1, c2, c3, t, hK, -⟩ := h.tri
  have hlen := h.len
  have hbase := h.base
  obtain ⟨A1, n1, k1, rfl⟩ := t.i1.slc
  obtain ⟨A2, n2, k2, rfl⟩ := t.i2.slc
  obtain ⟨A3, n3, k3, rfl⟩ := t.i3.slc
  have hK' : ∀ b ∈ c1.bl ++ c2.bl ++ c3.bl, b ∈ K := fun b hb => (hK b hb).resolve_right (fun q => by
    have : b < w.heap.size := by
      rcases mem3 hb with k | k | k
      · exact (t.i1.bl_in k).2
      · exact (t.i2.bl_in k).2
      · exact (t.i3.bl_in k).2
    omega)
  have H1 := Lib.hid (fun (W : World) (a : AnyLater w W) => (hgset_any _ c1 L i x y W (t.i1.later a)).mono fun e W' ⟨q1, q2⟩ => (⟨q1, Tri.set1 (w := W) ⟨any_own a t.blk, t.i1.later a, t.i2.later a, t.i3.later a, t.d12, t.d13, t.d23⟩ (fun b hb => .inl (hK' b hb)) (Stays.refl _ _) q2⟩ : _ ∧ TDone B W hg K (setO L i (x, y)) (shwL L H) (opnL H) W'))
  have HD : Hid (∀ (W W' : World) (m2 : Qs), AnyLater w W → TDone B W hg K (setO L i (x, y)) m2 (opnL H) W' → m2 = shwL (setO L i (x, y)) H → HDone B w hg K (setO L i (x, y)) H W') := Lib.hid (fun W W' m2 a q e => (TDone.from a q).done hbase (by rw [hlen]; unfold setO; split <;> simp) e rfl)
  have HBox : Hid (∀ (W W' : World) (l1 l2 l3 : Qs), AnyLater w W → W.heap[w.heap.size]? = some (.cells #[.int .i64 x, .int .i64 y] 33) → TDone B W hg K l1 l2 l3 W' → W'.heap[w.heap.size]? = some (.cells #[.int .i64 x, .int .i64 y] 33)) := Lib.hid (fun W W' l1 l2 l3 a hb q => q.box hb (by omega) (fun c => by have := (hKw _ c).2; omega))
  have HC0 : Hid (setC L i (x, y) ≠ 0 → shwL L H = shwL (setO L i (x, y)) H) := Lib.hid (fun e => by unfold setO; rw [if_neg e])
  have HCH : Hid (setC L i (x, y) = 0 → hidB H i = true → shwL L H = shwL (setO L i (x, y)) H) := Lib.hid (fun e k => by
    obtain ⟨a, b, _, e2⟩ := setC_zero e
    obtain ⟨j, rfl⟩ := Int.eq_ofNat_of_zero_le a
    rw [e2, Int.toNat_natCast, shw_set_hid (by rw [hidB_get (by omega), k])])
  have HCO : Hid (setC L i (x, y) = 0 → hidB H i = false → setO (shwL L H) i (x, y) = shwL (setO L i (x, y)) H) := Lib.hid (fun e k => by
    obtain ⟨a, b, c, e2⟩ := setC_zero e
    rw [(setC_of (l := shwL L H) ⟨a, by rw [shw_len hlen]; exact b⟩ c).2]
    obtain ⟨j, rfl⟩ := Int.eq_ofNat_of_zero_le a
    rw [e2, Int.toNat_natCast, shw_set_open (by rw [hidB_get (by omega), k])])
  have s0_w := t.blk
  have r0_w := own_row s0_w
  have f0_w := own_free s0_w
  have l0_w := own_lt s0_w
  clear h t hK hK' hKw hlen hbase
  generalize setO L i (x, y) = L2 at *
  generalize hcc : setC L i (x, y) = cc at *
  clear hcc
  go_enter Try.func27, Try.ntmps27
  go_wp2_with fail
  first | refine settle_wp (fun wS => AnyLater w wS ∧ wS.heap[w.heap.size]? = some (.cells #[.int .i64 x, .int .i64 y] 33)) ?_ ?_ | refine settle_calls (fun wS => AnyLater w wS ∧ wS.heap[w.heap.size]? = some (.cells #[.int .i64 x, .int .i64 y] 33)) ?_ ?_
  · refine ⟨?_, ?_⟩
    · repeat' (first | with_reducible assumption | with_reducible exact AnyLater.refl _ | with_reducible apply AnyLater.setCell | with_reducible apply AnyLater.later | with_reducible apply AnyLater.drewN | with_reducible apply AnyLater.drew | with_reducible apply AnyLater.alloc | ((try simp only [World.size_alloc, World.size_setCell, World.size_drew]); (try dsimp only); omega))
    · ((repeat (first | with_reducible assumption | ((with_reducible apply heap_new); (try simp only [World.size_alloc, World.size_setCell, World.size_drew, World.heap_drewN]); done) | ((with_reducible apply heap_new); (try simp only [World.size_alloc, World.size_setCell, World.size_drew, World.heap_drewN]); omega) | (with_reducible refine heap_old (by (try simp only [World.size_alloc, World.size_setCell, World.size_drew, World.heap_drewN]); omega) ?_) | (with_reducible refine heap_drew ?_) | (with_reducible refine heap_far (by omega) ?_) | (with_reducible apply heap_at))); all_goals rfl)
  rintro w1 ⟨b_w1, s1_w1⟩
  have a_w1 := b_w1
  have s0_w1 := any_own b_w1 s0_w
  have r0_w1 := own_row s0_w1
  have f0_w1 := own_free s0_w1
  have l0_w1 := own_lt s0_w1
  (try clear r0_w); (try clear f0_w)
  have r1_w1 := own_row s1_w1
  have f1_w1 := own_free s1_w1
  have l1_w1 := own_lt s1_w1
  have z_w1 := b_w1.below.size
  apply wp_region_mem (6) [] (by kernel_rfl) (by kernel_rfl) (by simp)
  case hstab =>
    intro e he v x y hxy hv
    simp only [List.mem_cons, List.not_mem_nil, or_false] at he
  case hlex =>
    intro U
    have q0 := fun (v : Later (later U)) => own_row (any_own ⟨v, rfl⟩ (any_own ⟨U, rfl⟩ s0_w1))
    have q1 := fun (v : Later (later U)) => own_row (any_own ⟨v, rfl⟩ (any_own ⟨U, rfl⟩ s1_w1))
    simp only [absFrom, absOp, idx, List.map_cons, List.map_nil, List.contains_cons, List.contains_nil, Nat.reduceBEq, Bool.or_false, Bool.false_or, Bool.true_or, Bool.or_true, Bool.false_eq_true, Nat.reduceLeDiff, Nat.reduceAdd, if_false, if_true]
    repeat (go_big_quiet_step (fail))
    exact wpQuiet_nil rfl
  case hown =>
    intro e he o ho
    simp only [List.mem_cons, List.not_mem_nil, or_false] at he
  case htail =>
    intro g u hst hne
    have b_w2 : AnyLater w1 (later u) := ⟨u, rfl⟩
    generalize later u = w2 at *
    clear u
    clear hst hne
    simp only [fillAll, Act.put, List.setIfInBounds_toArray, List.set_cons_zero, List.set_cons_succ, List.drop_succ_cons, List.drop_zero]
    have z_w2 := b_w2.below.size
    have a_w2 := a_w1.trans b_w2
    have s0_w2 := any_own b_w2 s0_w1
    have s1_w2 := any_own b_w2 s1_w1
    have r0_w2 := own_row s0_w2
    have f0_w2 := own_free s0_w2
    have l0_w2 := own_lt s0_w2
    have r1_w2 := own_row s1_w2
    have f1_w2 := own_free s1_w2
    have l1_w2 := own_lt s1_w2
    (try clear r0_w1); (try clear f0_w1)
    (try clear r1_w1); (try clear f1_w1)
    go_wp2_with fail
    refine (H1.out w2 a_w2).mono ?_
    rintro e w3 ⟨rfl, t3⟩
    have s1_w3 := HBox.out w2 w3 _ _ _ a_w2 s1_w2 t3
    have HA2 := Lib.hid a_w2
    have HT3 := Lib.hid t3
    clear t3
    by_cases hc : cc = 0
    · subst hc
      obtain ⟨u1, u2, u3, d1, d2, d3, t, hk3, hs3⟩ := HT3.out
      have HH := Lib.hid (fun (W : World) (a : AnyLater w3 W) => hghid_tri hg u1 u2 u3 d1 d2 d3 _ _ H i W ⟨any_own a t.blk, t.i1.later a, t.i2.later a, t.i3.later a, t.d12, t.d13, t.d23⟩)
      have H2 := Lib.hid (fun (W : World) (a : AnyLater w3 W) => (hgset_any u2 d2 (shwL L H) i x y W (t.i2.later a)).mono fun e W' ⟨q1, q2⟩ => (⟨q1, Tri.set2 (w := w2) ⟨any_own a t.blk, t.i1.later a, t.i2.later a, t.i3.later a, t.d12, t.d13, t.d23⟩ hk3 (hs3.later a) q2⟩ : _ ∧ TDone B w2 hg K L2 (setO (shwL L H) i (x, y)) (opnL H) W'))
      have s0_w3 := t.blk
      obtain ⟨A1, n1, k1, rfl⟩ := t.i1.slc
      obtain ⟨A2, n2, k2, rfl⟩ := t.i2.slc
      obtain ⟨A3, n3, k3, rfl⟩ := t.i3.slc
      have r0_w3 := own_row s0_w3
      have r1_w3 := own_row s1_w3
      have l0_w3 := own_lt s0_w3
      have l1_w3 := own_lt s1_w3
      have f0_w3 := own_free s0_w3
      have f1_w3 := own_free s1_w3
      have a_w3 := AnyLater.refl w3
      clear t hk3 hs3 s0_w2 s1_w2 r0_w2 r1_w2 f0_w2 f1_w2 l0_w2 l1_w2 s0_w1 s1_w1
      cases hb : hidB H i with
      | true =>
        have HZ := Lib.hid (HD.out _ _ _ HA2.out HT3.out (HCH.out rfl hb))
        rw [hb] at HH
        clear hb
        go_wp2_with fail
        refine (HH.out _ a_w3).mono ?_
        rintro e w4 ⟨rfl, b_w4⟩
        have z_w4 := b_w4.below.size
        have a_w4 := a_w3.trans b_w4
        have s0_w4 := any_own b_w4 s0_w3
        have s1_w4 := any_own b_w4 s1_w3
        have r0_w4 := own_row s0_w4
        have f0_w4 := own_free s0_w4
        have l0_w4 := own_lt s0_w4
        have r1_w4 := own_row s1_w4
        have f1_w4 := own_free s1_w4
        have l1_w4 := own_lt s1_w4
        (try clear r0_w3); (try clear f0_w3)
        (try clear r1_w3); (try clear f1_w3)
        go_wp2_with fail
        go_ret
        refine ⟨rfl, ?_⟩
        obtain ⟨K', k1, k2, k3⟩ := HZ.out
        exact ⟨K', k1.later a_w4, k2, k3.later a_w4⟩
      | false =>
        have HE := Lib.hid (HCO.out rfl hb)
        rw [hb] at HH
        clear hb
        go_wp2_with fail
        refine (HH.out _ a_w3).mono ?_
        rintro e w4 ⟨rfl, b_w4⟩
        have z_w4 := b_w4.below.size
        have a_w4 := a_w3.trans b_w4
        have s0_w4 := any_own b_w4 s0_w3
        have s1_w4 := any_own b_w4 s1_w3
        have r0_w4 := own_row s0_w4
        have f0_w4 := own_free s0_w4
        have l0_w4 := own_lt s0_w4
        have r1_w4 := own_row s1_w4
        have f1_w4 := own_free s1_w4
        have l1_w4 := own_lt s1_w4
        (try clear r0_w3); (try clear f0_w3)
        (try clear r1_w3); (try clear f1_w3)
        go_wp2_with fail
        apply wp_region_mem (6) [] (by kernel_rfl) (by kernel_rfl) (by simp)
        case hstab =>
          intro e he v x y hxy hv
          simp only [List.mem_cons, List.not_mem_nil, or_false] at he
        case hlex =>
          intro U
          have q0 := fun (v : Later (later U)) => own_row (any_own ⟨v, rfl⟩ (any_own ⟨U, rfl⟩ s0_w4))
          have q1 := fun (v : Later (later U)) => own_row (any_own ⟨v, rfl⟩ (any_own ⟨U, rfl⟩ s1_w4))
          simp only [absFrom, absOp, idx, List.map_cons, List.map_nil, List.contains_cons, List.contains_nil, Nat.reduceBEq, Bool.or_false, Bool.false_or, Bool.true_or, Bool.or_true, Bool.false_eq_true, Nat.reduceLeDiff, Nat.reduceAdd, if_false, if_true]
          repeat (go_big_quiet_step (fail))
          exact wpQuiet_nil rfl
        case hown =>
          intro e he o ho
          simp only [List.mem_cons, List.not_mem_nil, or_false] at he
        case htail =>
          intro g u hst hne
          have b_w5 : AnyLater w4 (later u) := ⟨u, rfl⟩
          generalize later u = w5 at *
          clear u
          clear hst hne
          simp only [fillAll, Act.put, List.setIfInBounds_toArray, List.set_cons_zero, List.set_cons_succ, List.drop_succ_cons, List.drop_zero]
          have z_w5 := b_w5.below.size
          have a_w5 := a_w4.trans b_w5
          have s0_w5 := any_own b_w5 s0_w4
          have s1_w5 := any_own b_w5 s1_w4
          have r0_w5 := own_row s0_w5
          have f0_w5 := own_free s0_w5
          have l0_w5 := own_lt s0_w5
          have r1_w5 := own_row s1_w5
          have f1_w5 := own_free s1_w5
          have l1_w5 := own_lt s1_w5
          (try clear r0_w4); (try clear f0_w4)
          (try clear r1_w4); (try clear f1_w4)
          go_wp2_with fail
          refine (H2.out w5 a_w5).mono ?_
          rintro e w6 ⟨rfl, t6⟩
          have HZ := Lib.hid (HD.out _ _ _ HA2.out t6 HE.out)
          clear t6
          go_wp2_with fail
          go_ret
          exact ⟨rfl, HZ.out⟩
    · have HZ := Lib.hid (HD.out _ _ _ HA2.out HT3.out (HC0.out hc))
      have hcb : (cc == 0) = false := by simpa using hc
      clear s0_w2 s1_w2 r0_w2 r1_w2 f0_w2 f1_w2 l0_w2 l1_w2 s0_w1 s1_w1
      go_wp2_with fail
      go_ret
      exact ⟨rfl, HZ.out⟩
end Go.Proofs.Ytjoadlfkdkeomaa
namespace Go.Proofs.Ytjoadlfkdkeomaa
set_option linter.unusedSimpArgs false
set_option linter.unusedVariables false
set_option linter.unusedSectionVars false
open Go.RowKit
variable {B : Nat}

/-! ### Hide -/
theorem HAt.parts {w : World} {hg : Nat} {K : List Nat} {L : Qs} {H : List Bool} (h : HAt B w hg K L H) : ∃ A1 A2 A3 n1 n2 n3 k1 k2 k3 c1 c2 c3, Tri B w hg (.slice A1 n1 k1) (.slice A2 n2 k2) (.slice A3 n3 k3) c1 c2 c3 L (shwL L H) (opnL H) ∧ ∀ b ∈ c1.bl ++ c2.bl ++ c3.bl, b ∈ K := by
  obtain ⟨v1, v2, v3, c1, c2, c3, h0, h1, h2, h3, d1, d2, d3, rfl⟩ := h.ex
  obtain ⟨A1, n1, k1, rfl⟩ := h1.slc
  obtain ⟨A2, n2, k2, rfl⟩ := h2.slc
  obtain ⟨A3, n3, k3, rfl⟩ := h3.slc
  exact ⟨A1, A2, A3, n1, n2, n3, k1, k2, k3, c1, c2, c3, ⟨h0, h1, h2, h3, d1, d2, d3⟩, fun b hb => hb⟩
theorem Tri.later {w w' : World} {hg : Nat} {v1 v2 v3 : Value} {c1 c2 c3 : Cw} {l1 l2 l3 : Qs} (t : Tri B w hg v1 v2 v3 c1 c2 c3 l1 l2 l3) (a : AnyLater w w') : Tri B w' hg v1 v2 v3 c1 c2 c3 l1 l2 l3 := ⟨any_own a t.blk, t.i1.later a, t.i2.later a, t.i3.later a, t.d12, t.d13, t.d23⟩
theorem shw_hide {L : Qs} {H : List Bool} {j : Nat} (hj : j < L.length) (on : Bool) : shwL L (H.set j on) = (shwL L H).set j (if on then (0, 0) else L[j]) := by
  apply List.ext_getElem?
  intro k
  rw [shw_get, List.getElem?_set, List.getElem?_set, shw_get]
  by_cases e : j = k
  · subst e
    have hl : (shwL L H).length = min L.length H.length := by unfold shwL; rw [List.length_zipWith]
    by_cases hH : j < H.length
    · have : j < (shwL L H).length := by rw [hl]; omega
      simp [hj, this, hH]
    · have : ¬ j < (shwL L H).length := by rw [hl]; omega
      simp [hj, this, hH]
  · simp [e]
theorem opn_hide {H : List Bool} {j : Nat} (on : Bool) : opnL (H.set j on) = (opnL H).set j (if on then (0, 0) else (0, 1)) := by
  unfold opnL
  rw [List.map_set]
/-- what Hide tells, and what it leaves -/
def hdC (n : Nat) (i : Int) : Int := if 0 ≤ i ∧ i < n then 0 else 1
def hdO (H : List Bool) (i : Int) (on : Bool) : List Bool := if 0 ≤ i ∧ i < H.length then H.set i.toNat on else H
set_option maxRecDepth 100000 in
theorem hghide_out (hv : Value) (L : Qs) (H : List Bool) (i : Int) (on : Bool) (w : World) (h : HV B w hv L H) (hi : ¬ (0 ≤ i ∧ i < L.length)) : Calls Try.prog 25 #[hv, .int .i64 i, .bool on] w fun e w' => e = .returned (.int .i64 1) ∧ AnyLater w w' := by
  have HF := Lib.hid (fun (w' : World) (a : AnyLater w w') => hgfull_any hv L H i w' _ (getV_none hi) (h.later a))
  obtain ⟨q, rfl⟩ := h.ptr
  clear h hi
  go_enter Try.func25, Try.ntmps25
  go_wp2_with fail
  refine (HF.out _ (AnyLater.refl w)).mono ?_
  rintro e w1 ⟨rfl, b_w1⟩
  have z_w1 := b_w1.below.size
  have a_w1 := b_w1
  go_wp2_with fail
  go_ret
  exact ⟨rfl, by repeat' (first | with_reducible assumption | with_reducible exact AnyLater.refl _ | with_reducible apply AnyLater.setCell | with_reducible apply AnyLater.later | with_reducible apply AnyLater.drewN | with_reducible apply AnyLater.drew | with_reducible apply AnyLater.alloc | ((try simp only [World.size_alloc, World.size_setCell, World.size_drew]); (try dsimp only); omega))⟩
theorem getV_in {l : Qs} {j : Nat} (h : j < l.length) : getV l (j : Int) = .tuple #[.agg #[.int .i64 l[j].1, .int .i64 l[j].2], .bool true] := by
  unfold getV
  rw [dif_pos ⟨by omega, by omega⟩]
  simp
set_option maxRecDepth 100000 in
set_option maxHeartbeats 1600000 in
theorem hghide_in (hg : Nat) (K : List Nat) (L : Qs) (H : List Bool) (j : Nat) (on : Bool) (w : World) (h : HAt B w hg K L H) (hj : j < L.length) : Calls Try.prog 25 #[.pointer (some ⟨hg, 0, none⟩), .int .i64 (j : Int), .bool on] w fun e w' => e = .returned (.int .i64 0) ∧ HDone B w hg K L (H.set j on) w' := by
  have hKw := h.in_
  have hgw := h.lt
  have HF := Lib.hid (fun (w' : World) (a : AnyLater w w') => hgfull_any (.pointer (some ⟨hg, 0, none⟩)) L H (j : Int) w' _ (getV_in hj) (h.v.later a))
  have hx : tlBad L[j] = false := (tlBad_iff _).2 (h.few.1 _ (List.getElem_mem hj))
  obtain ⟨A1, A2, A3, n1, n2, n3, k1, k2, k3, c1, c2, c3, t, hK⟩ := h.parts
  have hlen := h.len
  have hbase := h.base
  have hs2 : (shwL L H).length = L.length := shw_len hlen
  have hs3 : (opnL H).length = L.length := by rw [opn_len, hlen]
  have H1 := Lib.hid (fun (W : World) (a : AnyLater w W) (x y : Int) (hb : tlBad (x, y) = false) => (hgset_any _ c2 (shwL L H) (j : Int) x y W (t.i2.later a)).mono fun e W' ⟨q1, q2⟩ => (⟨by rw [(setC_of (l := shwL L H) (i := (j : Int)) ⟨by omega, by omega⟩ hb).1] at q1; exact q1, by
    have := Tri.set2 (w := W) (t.later a) (fun b hb => .inl (hK b hb)) (Stays.refl _ _) q2
    rw [(setC_of (l := shwL L H) (i := (j : Int)) ⟨by omega, by omega⟩ hb).2, Int.toNat_natCast] at this
    exact this⟩ : e = Ending.returned (.int .i64 0) ∧ TDone B W hg K L ((shwL L H).set j (x, y)) (opnL H) W'))
  have H2 := Lib.hid (fun (W0 W : World) (x y : Int) (l2 : Qs) (u1 u2 u3 : Value) (d1 d2 d3 : Cw) (hb : tlBad (x, y) = false) (t' : Tri B W hg u1 u2 u3 d1 d2 d3 L l2 (opnL H)) (hk : ∀ b ∈ d1.bl ++ d2.bl ++ d3.bl, b ∈ K ∨ W0.heap.size ≤ b) (hs : Stays (HC B W0 hg K) W0 W) => (hgset_any u3 d3 (opnL H) (j : Int) x y W t'.i3).mono fun e W' ⟨q1, q2⟩ => (⟨by rw [(setC_of (l := opnL H) (i := (j : Int)) ⟨by omega, by omega⟩ hb).1] at q1; exact q1, by
    have := Tri.set3 (w := W0) t' hk hs q2
    rw [(setC_of (l := opnL H) (i := (j : Int)) ⟨by omega, by omega⟩ hb).2, Int.toNat_natCast] at this
    exact this⟩ : e = Ending.returned (.int .i64 0) ∧ TDone B W0 hg K L l2 ((opnL H).set j (x, y)) W'))
  have HD : Hid (∀ (W W' : World), AnyLater w W → TDone B W hg K L ((shwL L H).set j (if on then (0, 0) else L[j])) ((opnL H).set j (if on then (0, 0) else (0, 1))) W' → HDone B w hg K L (H.set j on) W') := Lib.hid (fun W W' a q => (TDone.from a q).done hbase (by rw [List.length_set]; exact hlen) (shw_hide hj on).symm (opn_hide on).symm)
  have HBox : Hid (∀ (W W' : World) (s : Nat) (cs : Array Value) (l1 l2 l3 : Qs), w.heap.size ≤ s → W.heap[s]? = some (.cells cs 33) → TDone B W hg K l1 l2 l3 W' → W'.heap[s]? = some (.cells cs 33)) := Lib.hid (fun W W' s cs l1 l2 l3 a hb q => q.box hb (by omega) (fun c => by have := (hKw _ c).2; omega))
  have s0_w := t.blk
  have r0_w := own_row s0_w
  have f0_w := own_free s0_w
  have l0_w := own_lt s0_w
  obtain ⟨x, y⟩ : ∃ x : Int × Int, x = L[j] := ⟨_, rfl⟩
  generalize hxy : L[j] = xy at *
  obtain ⟨x0, y0⟩ := xy
  clear h t hK hKw hlen hbase hs2 hs3 hj y x hxy
  generalize shwL L H = l2 at *
  generalize opnL H = l3 at *
  generalize H.set j on = H2' at *
  cases on with
  | true =>
    simp only [if_true] at HD
    have hg0 : tlBad (0, 0) = false := by decide
    go_enter Try.func25, Try.ntmps25
    go_wp2_with fail
    refine (HF.out _ (AnyLater.refl w)).mono ?_
    rintro e w1 ⟨rfl, b_w1⟩
    have z_w1 := b_w1.below.size
    have a_w1 := b_w1
    have s0_w1 := any_own b_w1 s0_w
    have r0_w1 := own_row s0_w1
    have f0_w1 := own_free s0_w1
    have l0_w1 := own_lt s0_w1
    (try clear r0_w); (try clear f0_w)
    go_wp2_with fail
    first | refine settle_wp (fun wS => AnyLater w1 wS ∧ wS.heap[w1.heap.size]? = some (.cells #[.int .i64 0, .int .i64 0] 33) ∧ wS.heap[w1.heap.size + 1]? = some (.cells #[.int .i64 0, .int .i64 0] 33)) ?_ ?_ | refine settle_calls (fun wS => AnyLater w1 wS ∧ wS.heap[w1.heap.size]? = some (.cells #[.int .i64 0, .int .i64 0] 33) ∧ wS.heap[w1.heap.size + 1]? = some (.cells #[.int .i64 0, .int .i64 0] 33)) ?_ ?_
    · refine ⟨?_, ?_, ?_⟩
      · repeat' (first | with_reducible assumption | with_reducible exact AnyLater.refl _ | with_reducible apply AnyLater.setCell | with_reducible apply AnyLater.later | with_reducible apply AnyLater.drewN | with_reducible apply AnyLater.drew | with_reducible apply AnyLater.alloc | ((try simp only [World.size_alloc, World.size_setCell, World.size_drew]); (try dsimp only); omega))
      · ((repeat (first | with_reducible assumption | ((with_reducible apply heap_new); (try simp only [World.size_alloc, World.size_setCell, World.size_drew, World.heap_drewN]); done) | ((with_reducible apply heap_new); (try simp only [World.size_alloc, World.size_setCell, World.size_drew, World.heap_drewN]); omega) | (with_reducible refine heap_old (by (try simp only [World.size_alloc, World.size_setCell, World.size_drew, World.heap_drewN]); omega) ?_) | (with_reducible refine heap_drew ?_) | (with_reducible refine heap_far (by omega) ?_) | (with_reducible apply heap_at))); all_goals rfl)
      · ((repeat (first | with_reducible assumption | ((with_reducible apply heap_new); (try simp only [World.size_alloc, World.size_setCell, World.size_drew, World.heap_drewN]); done) | ((with_reducible apply heap_new); (try simp only [World.size_alloc, World.size_setCell, World.size_drew, World.heap_drewN]); omega) | (with_reducible refine heap_old (by (try simp only [World.size_alloc, World.size_setCell, World.size_drew, World.heap_drewN]); omega) ?_) | (with_reducible refine heap_drew ?_) | (with_reducible refine heap_far (by omega) ?_) | (with_reducible apply heap_at))); all_goals rfl)
    rintro w2 ⟨b_w2, s1_w2, s2_w2⟩
    have a_w2 := a_w1.trans b_w2
    have s0_w2 := any_own b_w2 s0_w1
    have r0_w2 := own_row s0_w2
    have f0_w2 := own_free s0_w2
    have l0_w2 := own_lt s0_w2
    (try clear r0_w1); (try clear f0_w1)
    have r1_w2 := own_row s1_w2
    have f1_w2 := own_free s1_w2
    have l1_w2 := own_lt s1_w2
    have r2_w2 := own_row s2_w2
    have f2_w2 := own_free s2_w2
    have l2_w2 := own_lt s2_w2
    have z_w2 := b_w2.below.size
    apply wp_region_mem (6) [] (by kernel_rfl) (by kernel_rfl) (by simp)
    case hstab =>
      intro e he v x y hxy hv
      simp only [List.mem_cons, List.not_mem_nil, or_false] at he
    case hlex =>
      intro U
      have q0 := fun (v : Later (later U)) => own_row (any_own ⟨v, rfl⟩ (any_own ⟨U, rfl⟩ s0_w2))
      have q1 := fun (v : Later (later U)) => own_row (any_own ⟨v, rfl⟩ (any_own ⟨U, rfl⟩ s1_w2))
      have q2 := fun (v : Later (later U)) => own_row (any_own ⟨v, rfl⟩ (any_own ⟨U, rfl⟩ s2_w2))
      simp only [absFrom, absOp, idx, List.map_cons, List.map_nil, List.contains_cons, List.contains_nil, Nat.reduceBEq, Bool.or_false, Bool.false_or, Bool.true_or, Bool.or_true, Bool.false_eq_true, Nat.reduceLeDiff, Nat.reduceAdd, if_false, if_true]
      repeat (go_big_quiet_step (fail))
      exact wpQuiet_nil rfl
    case hown =>
      intro e he o ho
      simp only [List.mem_cons, List.not_mem_nil, or_false] at he
    case htail =>
      intro g u hst hne
      have b_w3 : AnyLater w2 (later u) := ⟨u, rfl⟩
      generalize later u = w3 at *
      clear u
      clear hst hne
      simp only [fillAll, Act.put, List.setIfInBounds_toArray, List.set_cons_zero, List.set_cons_succ, List.drop_succ_cons, List.drop_zero]
      have z_w3 := b_w3.below.size
      have a_w3 := a_w2.trans b_w3
      have s0_w3 := any_own b_w3 s0_w2
      have s1_w3 := any_own b_w3 s1_w2
      have s2_w3 := any_own b_w3 s2_w2
      have r0_w3 := own_row s0_w3
      have f0_w3 := own_free s0_w3
      have l0_w3 := own_lt s0_w3
      have r1_w3 := own_row s1_w3
      have f1_w3 := own_free s1_w3
      have l1_w3 := own_lt s1_w3
      have r2_w3 := own_row s2_w3
      have f2_w3 := own_free s2_w3
      have l2_w3 := own_lt s2_w3
      (try clear r0_w2); (try clear f0_w2)
      (try clear r1_w2); (try clear f1_w2)
      (try clear r2_w2); (try clear f2_w2)
      go_wp2_with fail
      refine (H1.out w3 a_w3 0 0 hg0).mono ?_
      rintro e w4 ⟨rfl, t4⟩
      have s1_w4 := HBox.out w3 w4 _ _ _ _ _ (by have := a_w1.below.size; omega) s2_w3 t4
      have HA3 := Lib.hid a_w3
      obtain ⟨u1, u2, u3, d1, d2, d3, t, hk3, hs3⟩ := t4
      have H3 := Lib.hid (fun (W : World) (a : AnyLater w4 W) => H2.out w3 W 0 0 _ u1 u2 u3 d1 d2 d3 hg0 (t.later a) hk3 (hs3.later a))
      have s0_w4 := t.blk
      obtain ⟨A1, n1, k1, rfl⟩ := t.i1.slc
      obtain ⟨A2, n2, k2, rfl⟩ := t.i2.slc
      obtain ⟨A3, n3, k3, rfl⟩ := t.i3.slc
      have r0_w4 := own_row s0_w4
      have r1_w4 := own_row s1_w4
      have l0_w4 := own_lt s0_w4
      have l1_w4 := own_lt s1_w4
      have f0_w4 := own_free s0_w4
      have f1_w4 := own_free s1_w4
      have a_w4 := AnyLater.refl w4
      clear t hk3 hs3 s0_w2 s1_w2 s2_w2 s0_w3 s1_w3 s2_w3 r0_w3 r1_w3 r2_w3 f0_w3 f1_w3 f2_w3 l0_w3 l1_w3 l2_w3
      go_wp2_with fail
      apply wp_region_mem (6) [] (by kernel_rfl) (by kernel_rfl) (by simp)
      case hstab =>
        intro e he v x y hxy hv
        simp only [List.mem_cons, List.not_mem_nil, or_false] at he
      case hlex =>
        intro U
        have q0 := fun (v : Later (later U)) => own_row (any_own ⟨v, rfl⟩ (any_own ⟨U, rfl⟩ s0_w4))
        have q1 := fun (v : Later (later U)) => own_row (any_own ⟨v, rfl⟩ (any_own ⟨U, rfl⟩ s1_w4))
        simp only [absFrom, absOp, idx, List.map_cons, List.map_nil, List.contains_cons, List.contains_nil, Nat.reduceBEq, Bool.or_false, Bool.false_or, Bool.true_or, Bool.or_true, Bool.false_eq_true, Nat.reduceLeDiff, Nat.reduceAdd, if_false, if_true]
        repeat (go_big_quiet_step (fail))
        exact wpQuiet_nil rfl
      case hown =>
        intro e he o ho
        simp only [List.mem_cons, List.not_mem_nil, or_false] at he
      case htail =>
        intro g u hst hne
        have b_w5 : AnyLater w4 (later u) := ⟨u, rfl⟩
        generalize later u = w5 at *
        clear u
        clear hst hne
        simp only [fillAll, Act.put, List.setIfInBounds_toArray, List.set_cons_zero, List.set_cons_succ, List.drop_succ_cons, List.drop_zero]
        have z_w5 := b_w5.below.size
        have a_w5 := a_w4.trans b_w5
        have s0_w5 := any_own b_w5 s0_w4
        have s1_w5 := any_own b_w5 s1_w4
        have r0_w5 := own_row s0_w5
        have f0_w5 := own_free s0_w5
        have l0_w5 := own_lt s0_w5
        have r1_w5 := own_row s1_w5
        have f1_w5 := own_free s1_w5
        have l1_w5 := own_lt s1_w5
        (try clear r0_w4); (try clear f0_w4)
        (try clear r1_w4); (try clear f1_w4)
        go_wp2_with fail
        refine (H3.out w5 a_w5).mono ?_
        rintro e w6 ⟨rfl, t6⟩
        have HZ := Lib.hid (HD.out _ _ HA3.out t6)
        clear t6
        go_wp2_with fail
        go_ret
        exact ⟨rfl, HZ.out⟩
  | false =>
    simp only [Bool.false_eq_true, if_false] at HD
    have hg0 : tlBad (0, 1) = false := by decide
    go_enter Try.func25, Try.ntmps25
    go_wp2_with fail
    refine (HF.out _ (AnyLater.refl w)).mono ?_
    rintro e w1 ⟨rfl, b_w1⟩
    have z_w1 := b_w1.below.size
    have a_w1 := b_w1
    have s0_w1 := any_own b_w1 s0_w
    have r0_w1 := own_row s0_w1
    have f0_w1 := own_free s0_w1
    have l0_w1 := own_lt s0_w1
    (try clear r0_w); (try clear f0_w)
    go_wp2_with fail
    first | refine settle_wp (fun wS => AnyLater w1 wS ∧ wS.heap[w1.heap.size]? = some (.cells #[.int .i64 x0, .int .i64 y0] 33) ∧ wS.heap[w1.heap.size + 1]? = some (.cells #[.int .i64 0, .int .i64 1] 33)) ?_ ?_ | refine settle_calls (fun wS => AnyLater w1 wS ∧ wS.heap[w1.heap.size]? = some (.cells #[.int .i64 x0, .int .i64 y0] 33) ∧ wS.heap[w1.heap.size + 1]? = some (.cells #[.int .i64 0, .int .i64 1] 33)) ?_ ?_
    · refine ⟨?_, ?_, ?_⟩
      · repeat' (first | with_reducible assumption | with_reducible exact AnyLater.refl _ | with_reducible apply AnyLater.setCell | with_reducible apply AnyLater.later | with_reducible apply AnyLater.drewN | with_reducible apply AnyLater.drew | with_reducible apply AnyLater.alloc | ((try simp only [World.size_alloc, World.size_setCell, World.size_drew]); (try dsimp only); omega))
      · ((repeat (first | with_reducible assumption | ((with_reducible apply heap_new); (try simp only [World.size_alloc, World.size_setCell, World.size_drew, World.heap_drewN]); done) | ((with_reducible apply heap_new); (try simp only [World.size_alloc, World.size_setCell, World.size_drew, World.heap_drewN]); omega) | (with_reducible refine heap_old (by (try simp only [World.size_alloc, World.size_setCell, World.size_drew, World.heap_drewN]); omega) ?_) | (with_reducible refine heap_drew ?_) | (with_reducible refine heap_far (by omega) ?_) | (with_reducible apply heap_at))); all_goals rfl)
      · ((repeat (first | with_reducible assumption | ((with_reducible apply heap_new); (try simp only [World.size_alloc, World.size_setCell, World.size_drew, World.heap_drewN]); done) | ((with_reducible apply heap_new); (try simp only [World.size_alloc, World.size_setCell, World.size_drew, World.heap_drewN]); omega) | (with_reducible refine heap_old (by (try simp only [World.size_alloc, World.size_setCell, World.size_drew, World.heap_drewN]); omega) ?_) | (with_reducible refine heap_drew ?_) | (with_reducible refine heap_far (by omega) ?_) | (with_reducible apply heap_at))); all_goals rfl)
    rintro w2 ⟨b_w2, s1_w2, s2_w2⟩
    have a_w2 := a_w1.trans b_w2
    have s0_w2 := any_own b_w2 s0_w1
    have r0_w2 := own_row s0_w2
    have f0_w2 := own_free s0_w2
    have l0_w2 := own_lt s0_w2
    (try clear r0_w1); (try clear f0_w1)
    have r1_w2 := own_row s1_w2
    have f1_w2 := own_free s1_w2
    have l1_w2 := own_lt s1_w2
    have r2_w2 := own_row s2_w2
    have f2_w2 := own_free s2_w2
    have l2_w2 := own_lt s2_w2
    have z_w2 := b_w2.below.size
    apply wp_region_mem (6) [] (by kernel_rfl) (by kernel_rfl) (by simp)
    case hstab =>
      intro e he v x y hxy hv
      simp only [List.mem_cons, List.not_mem_nil, or_false] at he
    case hlex =>
      intro U
      have q0 := fun (v : Later (later U)) => own_row (any_own ⟨v, rfl⟩ (any_own ⟨U, rfl⟩ s0_w2))
      have q1 := fun (v : Later (later U)) => own_row (any_own ⟨v, rfl⟩ (any_own ⟨U, rfl⟩ s1_w2))
      have q2 := fun (v : Later (later U)) => own_row (any_own ⟨v, rfl⟩ (any_own ⟨U, rfl⟩ s2_w2))
      simp only [absFrom, absOp, idx, List.map_cons, List.map_nil, List.contains_cons, List.contains_nil, Nat.reduceBEq, Bool.or_false, Bool.false_or, Bool.true_or, Bool.or_true, Bool.false_eq_true, Nat.reduceLeDiff, Nat.reduceAdd, if_false, if_true]
      repeat (go_big_quiet_step (fail))
      exact wpQuiet_nil rfl
    case hown =>
      intro e he o ho
      simp only [List.mem_cons, List.not_mem_nil, or_false] at he
    case htail =>
      intro g u hst hne
      have b_w3 : AnyLater w2 (later u) := ⟨u, rfl⟩
      generalize later u = w3 at *
      clear u
      clear hst hne
      simp only [fillAll, Act.put, List.setIfInBounds_toArray, List.set_cons_zero, List.set_cons_succ, List.drop_succ_cons, List.drop_zero]
      have z_w3 := b_w3.below.size
      have a_w3 := a_w2.trans b_w3
      have s0_w3 := any_own b_w3 s0_w2
      have s1_w3 := any_own b_w3 s1_w2
      have s2_w3 := any_own b_w3 s2_w2
      have r0_w3 := own_row s0_w3
      have f0_w3 := own_free s0_w3
      have l0_w3 := own_lt s0_w3
      have r1_w3 := own_row s1_w3
      have f1_w3 := own_free s1_w3
      have l1_w3 := own_lt s1_w3
      have r2_w3 := own_row s2_w3
      have f2_w3 := own_free s2_w3
      have l2_w3 := own_lt s2_w3
      (try clear r0_w2); (try clear f0_w2)
      (try clear r1_w2); (try clear f1_w2)
      (try clear r2_w2); (try clear f2_w2)
      go_wp2_with fail
      refine (H1.out w3 a_w3 x0 y0 hx).mono ?_
      rintro e w4 ⟨rfl, t4⟩
      have s1_w4 := HBox.out w3 w4 _ _ _ _ _ (by have := a_w1.below.size; omega) s2_w3 t4
      have HA3 := Lib.hid a_w3
      obtain ⟨u1, u2, u3, d1, d2, d3, t, hk3, hs3⟩ := t4
      have H3 := Lib.hid (fun (W : World) (a : AnyLater w4 W) => H2.out w3 W 0 1 _ u1 u2 u3 d1 d2 d3 hg0 (t.later a) hk3 (hs3.later a))
      have s0_w4 := t.blk
      obtain ⟨A1, n1, k1, rfl⟩ := t.i1.slc
      obtain ⟨A2, n2, k2, rfl⟩ := t.i2.slc
      obtain ⟨A3, n3, k3, rfl⟩ := t.i3.slc
      have r0_w4 := own_row s0_w4
      have r1_w4 := own_row s1_w4
      have l0_w4 := own_lt s0_w4
      have l1_w4 := own_lt s1_w4
      have f0_w4 := own_free s0_w4
      have f1_w4 := own_free s1_w4
      have a_w4 := AnyLater.refl w4
      clear t hk3 hs3 s0_w2 s1_w2 s2_w2 s0_w3 s1_w3 s2_w3 r0_w3 r1_w3 r2_w3 f0_w3 f1_w3 f2_w3 l0_w3 l1_w3 l2_w3
      go_wp2_with fail
      apply wp_region_mem (6) [] (by kernel_rfl) (by kernel_rfl) (by simp)
      case hstab =>
        intro e he v x y hxy hv
        simp only [List.mem_cons, List.not_mem_nil, or_false] at he
      case hlex =>
        intro U
        have q0 := fun (v : Later (later U)) => own_row (any_own ⟨v, rfl⟩ (any_own ⟨U, rfl⟩ s0_w4))
        have q1 := fun (v : Later (later U)) => own_row (any_own ⟨v, rfl⟩ (any_own ⟨U, rfl⟩ s1_w4))
        simp only [absFrom, absOp, idx, List.map_cons, List.map_nil, List.contains_cons, List.contains_nil, Nat.reduceBEq, Bool.or_false, Bool.false_or, Bool.true_or, Bool.or_true, Bool.false_eq_true, Nat.reduceLeDiff, Nat.reduceAdd, if_false, if_true]
        repeat (go_big_quiet_step (fail))
        exact wpQuiet_nil rfl
      case hown =>
        intro e he o ho
        simp only [List.mem_cons, List.not_mem_nil, or_false] at he
      case htail =>
        intro g u hst hne
        have b_w5 : AnyLater w4 (later u) := ⟨u, rfl⟩
        generalize later u = w5 at *
        clear u
        clear hst hne
        simp only [fillAll, Act.put, List.setIfInBounds_toArray, List.set_cons_zero, List.set_cons_succ, List.drop_succ_cons, List.drop_zero]
        have z_w5 := b_w5.below.size
        have a_w5 := a_w4.trans b_w5
        have s0_w5 := any_own b_w5 s0_w4
        have s1_w5 := any_own b_w5 s1_w4
        have r0_w5 := own_row s0_w5
        have f0_w5 := own_free s0_w5
        have l0_w5 := own_lt s0_w5
        have r1_w5 := own_row s1_w5
        have f1_w5 := own_free s1_w5
        have l1_w5 := own_lt s1_w5
        (try clear r0_w4); (try clear f0_w4)
        (try clear r1_w4); (try clear f1_w4)
        go_wp2_with fail
        refine (H3.out w5 a_w5).mono ?_
        rintro e w6 ⟨rfl, t6⟩
        have HZ := Lib.hid (HD.out _ _ HA3.out t6)
        clear t6
        go_wp2_with fail
        go_ret
        exact ⟨rfl, HZ.out⟩
theorem hghide_any (hg : Nat) (K : List Nat) (L : Qs) (H : List Bool) (i : Int) (on : Bool) (w : World) (h : HAt B w hg K L H) : Calls Try.prog 25 #[.pointer (some ⟨hg, 0, none⟩), .int .i64 i, .bool on] w fun e w' => e = .returned (.int .i64 (hdC L.length i)) ∧ HDone B w hg K L (hdO H i on) w' := by
  unfold hdC hdO
  by_cases hi : 0 ≤ i ∧ i < L.length
  · rw [if_pos hi, if_pos (by rw [h.len]; exact hi)]
    obtain ⟨j, rfl⟩ := Int.eq_ofNat_of_zero_le hi.1
    exact hghide_in hg K L H j on w h (by omega)
  · rw [if_neg hi, if_neg (by rw [h.len]; exact hi)]
    refine (hghide_out _ L H i on w h.v hi).mono ?_
    rintro e w' ⟨rfl, a⟩
    exact ⟨rfl, HDone.same h a⟩

/-! ### New -/
theorem HAt.void {w w' : World} (h : w'.heap[w.heap.size]? = some (.cells #[.slice none 0 0, .slice none 0 0, .slice none 0 0] 70)) : HAt w.heap.size w' w.heap.size [] [] [] :=
  ⟨⟨_, _, _, ⟨none, none⟩, ⟨none, none⟩, ⟨none, none⟩, h, IsCh.void _, IsCh.void _, IsCh.void _, fun b hb => absurd hb List.not_mem_nil, fun b hb => absurd hb List.not_mem_nil, fun b hb => absurd hb List.not_mem_nil, rfl⟩, Nat.le_refl _, rfl⟩
theorem HDone.any {w w1 w' : World} {hg : Nat} {K : List Nat} {L : Qs} {H : List Bool} (h : HDone B w1 hg K L H w') (a : AnyLater w w1) (hB : w.heap.size ≤ B) (hg0 : B ≤ hg) : AnyLater w w' := by
  obtain ⟨_, _, _, st⟩ := h
  refine st.any a (fun b hb => ?_)
  rcases hb with rfl | ⟨q, _⟩
  · omega
  · omega
set_option maxRecDepth 100000 in
theorem hgnew_bad (u : Value) (m : Qs) (C : Nat) (w : World) (hu : OQ 33 w C u m) (hm : m.length ≤ 45000) (hb : m.any tlBad = true) : Calls Try.prog 28 #[u] w fun e w' => e = .returned (.tuple #[.pointer none, .int .i64 5]) ∧ AnyLater w w' := by
  have HS : Hid (∀ (w' : World), AnyLater w w' → w'.heap[w.heap.size]? = some (.cells #[.slice none 0 0, .slice none 0 0, .slice none 0 0] 70) → Calls Try.prog 26 #[.pointer (some ⟨w.heap.size, 0, none⟩), .int .i64 0, .int .i64 0, u] w' fun e w'' => e = .returned (.int .i64 5) ∧ AnyLater w' w'') := Lib.hid (fun w' a h0 => hghsp_kind w.heap.size [] m [] 0 0 C u w' (HAt.void h0).v (OQ.later a hu) (by unfold ClcSpan; decide) hm hb)
  obtain ⟨A, cap, rfl, -⟩ := (OQ.rq hu).form
  clear hu hm hb
  go_enter Try.func28, Try.ntmps28
  go_wp2_with fail
  first | refine settle_wp (fun wS => AnyLater w wS ∧ wS.heap[w.heap.size]? = some (.cells #[.slice none 0 0, .slice none 0 0, .slice none 0 0] 70)) ?_ ?_ | refine settle_calls (fun wS => AnyLater w wS ∧ wS.heap[w.heap.size]? = some (.cells #[.slice none 0 0, .slice none 0 0, .slice none 0 0] 70)) ?_ ?_
  · refine ⟨?_, ?_⟩
    · repeat' (first | with_reducible assumption | with_reducible exact AnyLater.refl _ | with_reducible apply AnyLater.setCell | with_reducible apply AnyLater.later | with_reducible apply AnyLater.drewN | with_reducible apply AnyLater.drew | with_reducible apply AnyLater.alloc | ((try simp only [World.size_alloc, World.size_setCell, World.size_drew]); (try dsimp only); omega))
    · ((repeat (first | with_reducible assumption | ((with_reducible apply heap_new); (try simp only [World.size_alloc, World.size_setCell, World.size_drew, World.heap_drewN]); done) | ((with_reducible apply heap_new); (try simp only [World.size_alloc, World.size_setCell, World.size_drew, World.heap_drewN]); omega) | (with_reducible refine heap_old (by (try simp only [World.size_alloc, World.size_setCell, World.size_drew, World.heap_drewN]); omega) ?_) | (with_reducible refine heap_drew ?_) | (with_reducible refine heap_far (by omega) ?_) | (with_reducible apply heap_at))); all_goals rfl)
  rintro w1 ⟨b_w1, s0_w1⟩
  have a_w1 := b_w1
  have r0_w1 := own_row s0_w1
  have f0_w1 := own_free s0_w1
  have l0_w1 := own_lt s0_w1
  have z_w1 := b_w1.below.size
  refine (HS.out _ a_w1 s0_w1).mono ?_
  rintro e w2 ⟨rfl, b_w2⟩
  have z_w2 := b_w2.below.size
  have a_w2 := a_w1.trans b_w2
  have s0_w2 := any_own b_w2 s0_w1
  have r0_w2 := own_row s0_w2
  have f0_w2 := own_free s0_w2
  have l0_w2 := own_lt s0_w2
  (try clear r0_w1); (try clear f0_w1)
  go_wp2_with fail
  refine bodyPost_ret (v := .tuple #[.pointer none, .int .i64 5]) (by simp [results, Try.results28, go_sem]) rfl ⟨rfl, ?_⟩
  exact a_w2
set_option maxRecDepth 100000 in
theorem hgnew_yes (u : Value) (m : Qs) (C : Nat) (w : World) (hu : OQ 33 w C u m) (hm : m.length ≤ 45000) (hb : m.any tlBad = false) : Calls Try.prog 28 #[u] w fun e w' => ∃ hg K, e = .returned (.tuple #[.pointer (some ⟨hg, 0, none⟩), .int .i64 0]) ∧ AnyLater w w' ∧ HAt w.heap.size w' hg K m (List.replicate m.length false) := by
  have HS : Hid (∀ (w' : World), AnyLater w w' → w'.heap[w.heap.size]? = some (.cells #[.slice none 0 0, .slice none 0 0, .slice none 0 0] 70) → Calls Try.prog 26 #[.pointer (some ⟨w.heap.size, 0, none⟩), .int .i64 0, .int .i64 0, u] w' fun e w'' => e = .returned (.int .i64 0) ∧ AnyLater w w'' ∧ ∃ K, HAt w.heap.size w'' w.heap.size K m (List.replicate m.length false)) := Lib.hid (fun w' a h0 => by
    refine (hghsp_yes w.heap.size [] [] m [] 0 0 C u w' (HAt.void h0) a.below.size (OQ.later a hu) (by simp) (by simpa using hm) hb).mono ?_
    rintro e w'' ⟨rfl, q⟩
    refine ⟨rfl, q.any a (Nat.le_refl _) (Nat.le_refl _), ?_⟩
    obtain ⟨K', k1, _⟩ := q
    have e1 : spL [] m 0 0 = m := by unfold spL; simp
    have e2 : spH [] m.length 0 0 = List.replicate m.length false := by unfold spH; simp
    rw [e1, e2] at k1
    exact ⟨K', k1⟩)
  obtain ⟨A, cap, rfl, -⟩ := (OQ.rq hu).form
  clear hu hm hb
  generalize m.length = M at *
  go_enter Try.func28, Try.ntmps28
  go_wp2_with fail
  first | refine settle_wp (fun wS => AnyLater w wS ∧ wS.heap[w.heap.size]? = some (.cells #[.slice none 0 0, .slice none 0 0, .slice none 0 0] 70)) ?_ ?_ | refine settle_calls (fun wS => AnyLater w wS ∧ wS.heap[w.heap.size]? = some (.cells #[.slice none 0 0, .slice none 0 0, .slice none 0 0] 70)) ?_ ?_
  · refine ⟨?_, ?_⟩
    · repeat' (first | with_reducible assumption | with_reducible exact AnyLater.refl _ | with_reducible apply AnyLater.setCell | with_reducible apply AnyLater.later | with_reducible apply AnyLater.drewN | with_reducible apply AnyLater.drew | with_reducible apply AnyLater.alloc | ((try simp only [World.size_alloc, World.size_setCell, World.size_drew]); (try dsimp only); omega))
    · ((repeat (first | with_reducible assumption | ((with_reducible apply heap_new); (try simp only [World.size_alloc, World.size_setCell, World.size_drew, World.heap_drewN]); done) | ((with_reducible apply heap_new); (try simp only [World.size_alloc, World.size_setCell, World.size_drew, World.heap_drewN]); omega) | (with_reducible refine heap_old (by (try simp only [World.size_alloc, World.size_setCell, World.size_drew, World.heap_drewN]); omega) ?_) | (with_reducible refine heap_drew ?_) | (with_reducible refine heap_far (by omega) ?_) | (with_reducible apply heap_at))); all_goals rfl)
  rintro w1 ⟨b_w1, s0_w1⟩
  have a_w1 := b_w1
  have r0_w1 := own_row s0_w1
  have f0_w1 := own_free s0_w1
  have l0_w1 := own_lt s0_w1
  have z_w1 := b_w1.below.size
  refine (HS.out _ a_w1 s0_w1).mono ?_
  rintro e w2 ⟨rfl, b2, K, q⟩
  have HZ := Lib.hid (And.intro b2 q)
  clear b2 q
  go_wp2_with fail
  refine bodyPost_ret (v := .tuple #[.pointer (some ⟨w.heap.size, 0, none⟩), .int .i64 0]) (by simp [results, Try.results28, go_sem]) rfl ?_
  exact ⟨_, K, rfl, HZ.out.1, HZ.out.2⟩
end Go.Proofs.Ytjoadlfkdkeomaa
