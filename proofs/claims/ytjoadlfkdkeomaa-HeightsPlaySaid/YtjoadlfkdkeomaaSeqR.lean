/- seq: the document's Find, Insert, Delete, Set: by contract. -/
import Derived.Test.YtjoadlfkdkeomaaSeqQ
import Derived.Test.YtjoadlfkdkeomaaFree
import Derived.Test.YtjoadlfkdkeomaaClc
import Derived.Test.YtjoadlfkdkeomaaStor
import Derived.Lib.AppendZeros
import Derived.LoopN
import Derived.Deep.LoopGhost
import Derived.BigRegion
import Derived.RegionTactic
import Derived.Shelf.Abstract
import Derived.ChangeKeysEq
import Derived.Deep.DeepCutAuto
import Derived.Deep.CutBlock
namespace Go.Proofs.Ytjoadlfkdkeomaa
set_option linter.unusedSimpArgs false
set_option linter.unusedVariables false
set_option linter.unusedSectionVars false
open Go.RowKit


set_option maxRecDepth 100000 in
set_option maxHeartbeats 1600000 in
theorem rfind_any1 (v : Value) (l : Qs) (y : Int) (w : World) (r : Int × Int) (hr : fdL 1 y l 0 (-1) 0 0 = r) (hv : QR w v l) (hl : l.length ≤ 90000) (hT : Tls l) : Calls Try.prog 17 #[v, .int .i64 y, .bool true] w fun e w' => e = .returned (.tuple #[.int .i64 r.1, .int .i64 r.2]) ∧ AnyLater w w' := by
  obtain ⟨A, cap, rfl, h2, h3⟩ := hv
  have HCC : Hid (∀ (j : Nat) (h : j < l.length), ∃ b off, A = some ⟨b, off, none⟩ ∧ b < w.heap.size ∧ w.cell? ⟨b, off + j * 2, none⟩ = some (.int .i64 l[j].1) ∧ w.cell? ⟨b, off + j * 2 + 1, none⟩ = some (.int .i64 l[j].2)) := Lib.hid (fun j hj => by
    obtain ⟨b, off, e, hb, hc⟩ := h3 (by omega)
    exact ⟨b, off, e, hb, hc j hj⟩)
  have HB : Hid (∀ j, (0 ≤ tlR (l.take j) ∧ tlR (l.take j) ≤ 2000000000000) ∧ 0 ≤ tlH (l.take j) ∧ tlH (l.take j) ≤ 2000000000000) := Lib.hid (hT.bound hl)
  have HTk : Hid (∀ (j : Nat) (h : j < l.length), tlR (l.take (j + 1)) = tlR (l.take j) + l[j].1) := Lib.hid (fun j h => (tl_take h).1)
  have HD : Hid (∀ (j : Nat) (h : j < l.length) (b t s : Int), fdL 1 y (l.drop j) j b t s = if 0 < l[j].1 ∧ (b < 0 ∨ s ≤ y) then fdL 1 y (l.drop (j + 1)) ((j : Int) + 1) j s (s + l[j].1) else fdL 1 y (l.drop (j + 1)) ((j : Int) + 1) b t (s + l[j].1)) := Lib.hid (fun j h b t s => by
    rw [List.drop_eq_getElem_cons h]; rfl)
  have HR := Lib.hid hr
  obtain ⟨n, hnn⟩ : ∃ n, l.length = n := ⟨_, rfl⟩
  have HN := Lib.hid hnn
  rw [hnn] at h2 hl ⊢
  clear h3 hnn hT hr
  go_enter Try.func17, Try.ntmps17
  go_wp2_with fail
  go_loopg [8, 9, 10, 11] n (fun kk bv tv sv iv wr => ∃ (j : Nat) (b t : Int), kk = n - j ∧ j ≤ n ∧ iv = .int .i64 j ∧ bv = .int .i64 b ∧ tv = .int .i64 t ∧ sv = .int .i64 (tlR (l.take j)) ∧ AnyLater w wr ∧ fdL 1 y (l.drop j) j b t (tlR (l.take j)) = r)
  case atStart => exact ⟨0, -1, 0, by omega, by omega, rfl, rfl, rfl, by simp [tlR, tlH], AnyLater.refl _, by simpa [tlR, tlH] using HR.out⟩
  case round =>
    obtain ⟨j, b, t, hk, hj, rfl, rfl, rfl, rfl, a_wr, hf⟩ := hrel
    by_cases hlt : j < n
    · have lj : j < l.length := by rw [HN.out]; omega
      obtain ⟨bb, off, rfl, hb, k0, k1⟩ := HCC.out j lj
      have c0 : wr.cell? ⟨bb, off + j * 2, none⟩ = some (.int .i64 l[j].1) := (a_wr.below.cell hb).trans k0
      have c1 : wr.cell? ⟨bb, off + j * 2 + 1, none⟩ = some (.int .i64 l[j].2) := (a_wr.below.cell hb).trans k1
      have t1 := HTk.out j lj
      obtain ⟨⟨p1, p2⟩, p3, p4⟩ := HB.out (j + 1)
      obtain ⟨S1, e1⟩ : ∃ S1, tlR (l.take (j + 1)) = S1 := ⟨_, rfl⟩
      have HS1 := Lib.hid e1
      rw [e1] at t1 p1 p2
      have hd := HD.out j lj b t (tlR (l.take j))
      rw [hf] at hd
      clear e1 k0 k1 hf p3 p4
      generalize tlR (l.take j) = S0 at *
      generalize l[j] = x at *
      obtain ⟨f, g⟩ := x
      simp only at c0 c1 t1 hd
      have t1' : S0 + f = S1 := t1.symm
      rw [t1'] at hd
      clear t1
      by_cases q1 : 0 < f
      · by_cases q2 : b < 0
        · rw [if_pos ⟨q1, .inl q2⟩] at hd
          have HZ := Lib.hid hd
          clear hd
          go_wp2_with fail
          go_roundg (n - (j + 1))
          case measure => omega
          case rel => exact ⟨j + 1, (j : Int), S0, rfl, hlt, by go_num, rfl, rfl, by rw [HS1.out], a_wr, by rw [HS1.out]; exact HZ.out.symm⟩
        · have d2 : decide (b < 0) = false := decide_eq_false q2
          by_cases q3 : S0 ≤ y
          · rw [if_pos ⟨q1, .inr q3⟩] at hd
            have HZ := Lib.hid hd
            clear hd
            go_wp2_with fail
            go_roundg (n - (j + 1))
            case measure => omega
            case rel => exact ⟨j + 1, (j : Int), S0, rfl, hlt, by go_num, rfl, rfl, by rw [HS1.out], a_wr, by rw [HS1.out]; exact HZ.out.symm⟩
          · rw [if_neg (fun h => h.2.elim q2 q3)] at hd
            have HZ := Lib.hid hd
            have d3 : decide (S0 ≤ y) = false := decide_eq_false q3
            clear hd
            go_wp2_with fail
            go_roundg (n - (j + 1))
            case measure => omega
            case rel => exact ⟨j + 1, b, t, rfl, hlt, by go_num, rfl, rfl, by rw [HS1.out], a_wr, by rw [HS1.out]; exact HZ.out.symm⟩
      · rw [if_neg (fun h => q1 h.1)] at hd
        have HZ := Lib.hid hd
        have d1 : decide (0 < f) = false := decide_eq_false q1
        clear hd
        go_wp2_with fail
        go_roundg (n - (j + 1))
        case measure => omega
        case rel => exact ⟨j + 1, b, t, rfl, hlt, by go_num, rfl, rfl, by rw [HS1.out], a_wr, by rw [HS1.out]; exact HZ.out.symm⟩
    · obtain rfl : j = n := by omega
      rw [List.drop_of_length_le (Nat.le_of_eq HN.out)] at hf
      have HF := Lib.hid hf
      clear hf
      go_wp2_with fail
      refine bodyPost_ret (v := .tuple #[.int .i64 b, .int .i64 t]) (by simp [results, Try.results17, go_sem]) rfl ?_
      have := HF.out
      unfold fdL at this
      rw [← this]
      exact ⟨rfl, a_wr⟩
set_option maxRecDepth 100000 in
set_option maxHeartbeats 1600000 in
theorem rfind_any2 (v : Value) (l : Qs) (y : Int) (w : World) (r : Int × Int) (hr : fdL 2 y l 0 (-1) 0 0 = r) (hv : QR w v l) (hl : l.length ≤ 90000) (hT : Tls l) : Calls Try.prog 17 #[v, .int .i64 y, .bool false] w fun e w' => e = .returned (.tuple #[.int .i64 r.1, .int .i64 r.2]) ∧ AnyLater w w' := by
  obtain ⟨A, cap, rfl, h2, h3⟩ := hv
  have HCC : Hid (∀ (j : Nat) (h : j < l.length), ∃ b off, A = some ⟨b, off, none⟩ ∧ b < w.heap.size ∧ w.cell? ⟨b, off + j * 2, none⟩ = some (.int .i64 l[j].1) ∧ w.cell? ⟨b, off + j * 2 + 1, none⟩ = some (.int .i64 l[j].2)) := Lib.hid (fun j hj => by
    obtain ⟨b, off, e, hb, hc⟩ := h3 (by omega)
    exact ⟨b, off, e, hb, hc j hj⟩)
  have HB : Hid (∀ j, (0 ≤ tlR (l.take j) ∧ tlR (l.take j) ≤ 2000000000000) ∧ 0 ≤ tlH (l.take j) ∧ tlH (l.take j) ≤ 2000000000000) := Lib.hid (hT.bound hl)
  have HTk : Hid (∀ (j : Nat) (h : j < l.length), tlH (l.take (j + 1)) = tlH (l.take j) + l[j].2) := Lib.hid (fun j h => (tl_take h).2)
  have HD : Hid (∀ (j : Nat) (h : j < l.length) (b t s : Int), fdL 2 y (l.drop j) j b t s = if 0 < l[j].2 ∧ (b < 0 ∨ s ≤ y) then fdL 2 y (l.drop (j + 1)) ((j : Int) + 1) j s (s + l[j].2) else fdL 2 y (l.drop (j + 1)) ((j : Int) + 1) b t (s + l[j].2)) := Lib.hid (fun j h b t s => by
    rw [List.drop_eq_getElem_cons h]; rfl)
  have HR := Lib.hid hr
  obtain ⟨n, hnn⟩ : ∃ n, l.length = n := ⟨_, rfl⟩
  have HN := Lib.hid hnn
  rw [hnn] at h2 hl ⊢
  clear h3 hnn hT hr
  go_enter Try.func17, Try.ntmps17
  go_wp2_with fail
  go_loopg [8, 9, 10, 11] n (fun kk bv tv sv iv wr => ∃ (j : Nat) (b t : Int), kk = n - j ∧ j ≤ n ∧ iv = .int .i64 j ∧ bv = .int .i64 b ∧ tv = .int .i64 t ∧ sv = .int .i64 (tlH (l.take j)) ∧ AnyLater w wr ∧ fdL 2 y (l.drop j) j b t (tlH (l.take j)) = r)
  case atStart => exact ⟨0, -1, 0, by omega, by omega, rfl, rfl, rfl, by simp [tlR, tlH], AnyLater.refl _, by simpa [tlR, tlH] using HR.out⟩
  case round =>
    obtain ⟨j, b, t, hk, hj, rfl, rfl, rfl, rfl, a_wr, hf⟩ := hrel
    by_cases hlt : j < n
    · have lj : j < l.length := by rw [HN.out]; omega
      obtain ⟨bb, off, rfl, hb, k0, k1⟩ := HCC.out j lj
      have c0 : wr.cell? ⟨bb, off + j * 2, none⟩ = some (.int .i64 l[j].1) := (a_wr.below.cell hb).trans k0
      have c1 : wr.cell? ⟨bb, off + j * 2 + 1, none⟩ = some (.int .i64 l[j].2) := (a_wr.below.cell hb).trans k1
      have t1 := HTk.out j lj
      obtain ⟨⟨p1, p2⟩, p3, p4⟩ := HB.out (j + 1)
      obtain ⟨S1, e1⟩ : ∃ S1, tlH (l.take (j + 1)) = S1 := ⟨_, rfl⟩
      have HS1 := Lib.hid e1
      rw [e1] at t1 p3 p4
      have hd := HD.out j lj b t (tlH (l.take j))
      rw [hf] at hd
      clear e1 k0 k1 hf p1 p2
      generalize tlH (l.take j) = S0 at *
      generalize l[j] = x at *
      obtain ⟨f, g⟩ := x
      simp only at c0 c1 t1 hd
      have t1' : S0 + g = S1 := t1.symm
      rw [t1'] at hd
      clear t1
      by_cases q1 : 0 < g
      · by_cases q2 : b < 0
        · rw [if_pos ⟨q1, .inl q2⟩] at hd
          have HZ := Lib.hid hd
          clear hd
          go_wp2_with fail
          go_roundg (n - (j + 1))
          case measure => omega
          case rel => exact ⟨j + 1, (j : Int), S0, rfl, hlt, by go_num, rfl, rfl, by rw [HS1.out], a_wr, by rw [HS1.out]; exact HZ.out.symm⟩
        · have d2 : decide (b < 0) = false := decide_eq_false q2
          by_cases q3 : S0 ≤ y
          · rw [if_pos ⟨q1, .inr q3⟩] at hd
            have HZ := Lib.hid hd
            clear hd
            go_wp2_with fail
            go_roundg (n - (j + 1))
            case measure => omega
            case rel => exact ⟨j + 1, (j : Int), S0, rfl, hlt, by go_num, rfl, rfl, by rw [HS1.out], a_wr, by rw [HS1.out]; exact HZ.out.symm⟩
          · rw [if_neg (fun h => h.2.elim q2 q3)] at hd
            have HZ := Lib.hid hd
            have d3 : decide (S0 ≤ y) = false := decide_eq_false q3
            clear hd
            go_wp2_with fail
            go_roundg (n - (j + 1))
            case measure => omega
            case rel => exact ⟨j + 1, b, t, rfl, hlt, by go_num, rfl, rfl, by rw [HS1.out], a_wr, by rw [HS1.out]; exact HZ.out.symm⟩
      · rw [if_neg (fun h => q1 h.1)] at hd
        have HZ := Lib.hid hd
        have d1 : decide (0 < g) = false := decide_eq_false q1
        clear hd
        go_wp2_with fail
        go_roundg (n - (j + 1))
        case measure => omega
        case rel => exact ⟨j + 1, b, t, rfl, hlt, by go_num, rfl, rfl, by rw [HS1.out], a_wr, by rw [HS1.out]; exact HZ.out.symm⟩
    · obtain rfl : j = n := by omega
      rw [List.drop_of_length_le (Nat.le_of_eq HN.out)] at hf
      have HF := Lib.hid hf
      clear hf
      go_wp2_with fail
      refine bodyPost_ret (v := .tuple #[.int .i64 b, .int .i64 t]) (by simp [results, Try.results17, go_sem]) rfl ?_
      have := HF.out
      unfold fdL at this
      rw [← this]
      exact ⟨rfl, a_wr⟩
/-! ### heights put in and taken away, one set: rows of the call's own, or what came in -/
/-- what the document's calls answer: a list, and a code -/
def RDone (W : World) (v : Value) (l : Qs) (c : Int) (e : Ending) (w' : World) : Prop := ∃ u, e = .returned (.tuple #[u, .int .i64 c]) ∧ AnyLater W w' ∧ ((u = v ∧ QR w' u l) ∨ OQ 33 w' W.heap.size u l)
/-- worlds in a row, as appends make them -/
def stQ (x0 x1 x2 x3 x4 : World) : Nat → (Nat → Value) → World → Prop
  | 0, _, x => x = x0
  | 1, _, x => x = x1
  | 2, _, x => x = x2
  | 3, _, x => x = x3
  | _, _, x => x = x4
end Go.Proofs.Ytjoadlfkdkeomaa
