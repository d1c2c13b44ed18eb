/- undo: UndoMost. -/
import Derived.Test.YtnbchaigbkblfaaUndL
import Derived.Deep.LoopGhost
import Derived.Deep.DeepCutAuto
namespace Go.Proofs.Ytnbchaigbkblfaa
set_option linter.unusedSimpArgs false
set_option linter.unusedVariables false
set_option linter.unusedSectionVars false
open Go.RowKit

/-! ### maths: what is left of many pushes, and of steps back -/
/-- behind Push(0) .. Push(j - 1), n at most -/
def mostM (n j : Nat) : UM := ⟨(List.range' (j - min j n) (min j n)).map Int.ofNat, min j n⟩
theorem mostM_push {n : Nat} (j : Nat) (hn : 1 ≤ n) : pushU n (mostM n j) (j : Int) = mostM n (j + 1) := by
  have ht : (mostM n j).l.take (mostM n j).now = (mostM n j).l := List.take_of_length_le (by simp [mostM])
  have ha : (mostM n j).l ++ [(j : Int)] = (List.range' (j - min j n) (min j n + 1)).map Int.ofNat := by
    show (List.range' (j - min j n) (min j n)).map Int.ofNat ++ [(j : Int)] = _
    rw [List.range'_1_concat, List.map_append, show j - min j n + min j n = j by omega]
    rfl
  unfold pushU
  rw [ht, ha]
  simp only [List.length_map, List.length_range']
  split
  · rename_i h
    have e : min j n = n := by omega
    have e2 : min (j + 1) n = n := by omega
    unfold mostM
    rw [e, e2, List.range'_succ, List.map_cons, List.drop_one, List.tail_cons, show j - n + 1 = j + 1 - n by omega]
    rfl
  · rename_i h
    have e : min j n = j := by omega
    have e2 : min (j + 1) n = j + 1 := by omega
    unfold mostM
    rw [e, e2, Nat.sub_self, Nat.sub_self]
/-- what is known behind i steps back of a stack of want, whose first is f -/
structure BackM (want : Nat) (f : Int) (i : Nat) (m : UM) : Prop where
  now : m.now = want - i
  len : m.l.length = want
  get : ∀ p, p < want - i → m.l.getD p 0 = f + p
theorem mostM_back (n j : Nat) : BackM (min j n) ((j - min j n : Nat) : Int) 0 (mostM n j) :=
  ⟨rfl, by simp [mostM], fun p hp => by
    have h : p < min j n := by omega
    simp [mostM, List.getD_eq_getElem?_getD, h]⟩
theorem BackM.back {want i : Nat} {f x : Int} {m : UM} (h : BackM want f i m) (hi : i < want) : backV m x = f + ((want - 1 - i : Nat) : Int) ∧ backB m = true ∧ BackM want f (i + 1) (backU m x) := by
  obtain ⟨h1, h2, h3⟩ := h
  have h0 : ¬ m.now = 0 := by omega
  refine ⟨?_, by unfold backB; simpa using h0, ?_, ?_, fun p hp => ?_⟩
  · unfold backV
    rw [if_neg h0, h3 _ (by omega), h1, show want - i - 1 = want - 1 - i by omega]
  · unfold backU
    rw [if_neg h0]
    show m.now - 1 = _
    omega
  · unfold backU
    rw [if_neg h0]
    show (m.l.set _ x).length = _
    rw [List.length_set, h2]
  · unfold backU
    rw [if_neg h0]
    show (m.l.set _ x).getD p 0 = _
    rw [← h3 p (by omega), List.getD_eq_getElem?_getD, List.getD_eq_getElem?_getD, List.getElem?_set_ne (by omega)]

set_option maxRecDepth 100000 in
set_option maxHeartbeats 3200000 in
theorem undoMost_any (W : World) (a b : Int) (ha : 0 ≤ a ∧ a ≤ 255) (hb : 0 ≤ b ∧ b ≤ 255) : Calls Try.prog 5 #[.int .u8 a, .int .u8 b] W fun e w' => e = .returned (.bool true) ∧ AnyLater W w' := by
  obtain ⟨q, rfl⟩ : ∃ q : Nat, a = (q : Int) := ⟨a.toNat, by omega⟩
  obtain ⟨J, rfl⟩ : ∃ J : Nat, b = (J : Int) := ⟨b.toNat, by omega⟩
  have e0 : (q : Int).tmod 40 = ((q % 40 : Nat) : Int) := by rw [Int.tmod_eq_emod_of_nonneg (by omega)]; rfl
  obtain ⟨r, hr⟩ : ∃ r, q % 40 = r := ⟨_, rfl⟩
  have hr2 : r < 40 := by omega
  rw [hr] at e0
  clear hr
  obtain ⟨n, hn⟩ : ∃ n, 1 + r = n := ⟨_, rfl⟩
  have e1 : (1 : Int) + (r : Int) = (n : Int) := by omega
  have hn1 : 1 ≤ n ∧ n ≤ 40 := by omega
  have H0 : Hid (Calls Try.prog 7 #[.int .i64 (n : Int)] W fun e w' => e = .returned (.tuple #[sptr W.heap.size, .int .i64 0]) ∧ At1 W w' [] W.heap.size n UM.none) := Lib.hid (at_new W W n (.refl W) hn1.1 (by omega))
  have HP : Hid (∀ (w' : World) (i : Nat), At1 W w' [] W.heap.size n (mostM n i) → Calls Try.prog 14 #[sptr W.heap.size, .int .i64 (i : Int)] w' fun e w'' => e = .returned (.tuple #[]) ∧ At1 W w'' [] W.heap.size n (mostM n (i + 1))) := Lib.hid (fun w' i h => by rw [← mostM_push i hn1.1]; exact h.push _)
  have HQ : Hid (∀ (w' : World) (m : UM), At1 W w' [] W.heap.size n m → Calls Try.prog 16 #[sptr W.heap.size] w' fun e w'' => e = .returned (.int .i64 (m.now : Int)) ∧ w' = w'') := Lib.hid (fun w' m h => h.past)
  have HF : Hid (∀ (w' : World) (m : UM), At1 W w' [] W.heap.size n m → Calls Try.prog 17 #[sptr W.heap.size] w' fun e w'' => e = .returned (.int .i64 ((m.l.length - m.now : Nat) : Int)) ∧ AnyLater w' w'') := Lib.hid (fun w' m h => h.future)
  have HB : Hid (∀ (w' : World) (m : UM) (want i : Nat) (f : Int), At1 W w' [] W.heap.size n m → BackM want f i m → i < want → Calls Try.prog 9 #[sptr W.heap.size, .int .i64 0] w' fun e w'' => e = .returned (.tuple #[.int .i64 (f + ((want - 1 - i : Nat) : Int)), .bool true]) ∧ ∃ m', At1 W w'' [] W.heap.size n m' ∧ BackM want f (i + 1) m') := Lib.hid (fun w' m want i f h hm hi => by
    obtain ⟨b1, b2, b3⟩ := hm.back (x := 0) hi
    have := h.back 0
    rw [b1, b2] at this
    exact this.mono fun e w'' ⟨h1, h2⟩ => ⟨h1, _, h2, b3⟩)
  have HL := Lib.hid undlives_any
  have HN : Hid (UM.none = mostM n 0) := Lib.hid (by unfold mostM; simp; rfl)
  obtain ⟨s, hs⟩ : ∃ s, W.heap.size = s := ⟨_, rfl⟩
  rw [hs] at H0 HP HQ HF HB
  clear hs
  unfold sptr at *
  go_enter Try.func5, Try.ntmps5
  go_wp2_with fail
  refine H0.out.mono ?_
  rintro e w0 ⟨rfl, h0⟩
  have HA0 := Lib.hid h0
  clear h0 H0
  go_wp2_with fail
  go_loopg [8] J (fun kk iv wr => ∃ i : Nat, kk = J - i ∧ i ≤ J ∧ iv = .int .i64 (i : Int) ∧ At1 W wr [] s n (mostM n i))
  case atStart => exact ⟨0, rfl, Nat.zero_le _, rfl, HN.out ▸ HA0.out⟩
  case round =>
    obtain ⟨i, hk, hi, rfl, h⟩ := hrel
    have HI := Lib.hid h
    clear h
    by_cases hlt : i < J
    · have d0 : (i : Int) < (J : Int) := by omega
      go_wp2_with fail
      refine (HP.out _ _ HI.out).mono ?_
      rintro e w1 ⟨rfl, h1⟩
      have HI1 := Lib.hid h1
      clear h1
      go_wp2_with fail
      go_roundg (J - (i + 1))
      case measure => omega
      case rel => exact ⟨i + 1, rfl, hlt, by go_num, HI1.out⟩
    · obtain rfl : i = J := by omega
      have d0 : decide ((i : Int) < (i : Int)) = false := by simp
      obtain ⟨want, hw⟩ : ∃ want, min i n = want := ⟨_, rfl⟩
      have hw2 : want ≤ i ∧ want ≤ n := by omega
      have HW := Lib.hid hw
      have HM : Hid (BackM want ((i - want : Nat) : Int) 0 (mostM n i)) := Lib.hid (hw ▸ mostM_back n i)
      clear hw
      go_upto_if 41 with fail
      go_cut [9] (fun v wx => v = .int .i64 (want : Int) ∧ wx = wr)
      case first =>
        by_cases hc : n < i
        · have Q : Hid (n = want) := Lib.hid (by have := HW.out; omega)
          go_wp2_with fail
          go_meet
          case rel => exact ⟨by rw [Q.out], rfl⟩
        · have Q : Hid (i = want) := Lib.hid (by have := HW.out; omega)
          go_wp2_with fail
          go_meet
          case rel => exact ⟨by rw [Q.out], rfl⟩
      case rest =>
        obtain ⟨rfl, ec⟩ := hcut
        have HI2 : Hid (At1 W wc [] s n (mostM n i)) := Lib.hid (by rw [ec]; exact HI.out)
        have HQ1 := Lib.hid (HQ.out _ _ HI2.out)
        rw [HM.out.now, Nat.sub_zero] at HQ1
        obtain ⟨f, hf⟩ : ∃ f, ((i - want : Nat) : Int) = f := ⟨_, rfl⟩
        have Hf : Hid (f = (i : Int) - (want : Int)) := Lib.hid (by omega)
        rw [hf] at HM
        clear hf HI ec HP HN HW
        go_wp2_with fail
        refine HQ1.out.mono ?_
        rintro e w1 ⟨rfl, rfl⟩
        go_wp2_with fail
        go_loopg [10] want (fun kk jv wx => ∃ (j : Nat) (m : UM), kk = want - j ∧ j ≤ want ∧ jv = .int .i64 (j : Int) ∧ At1 W wx [] s n m ∧ BackM want f j m)
        case atStart => exact ⟨0, _, rfl, Nat.zero_le _, rfl, HI2.out, HM.out⟩
        case round =>
          obtain ⟨j, m, hk, hj, rfl, h, hm⟩ := hrel
          have HJ := Lib.hid (And.intro h hm)
          clear h hm
          by_cases hlt : j < want
          · have HC := Lib.hid (HB.out _ _ _ _ _ HJ.out.1 HJ.out.2 hlt)
            rw [Hf.out, show (i : Int) - (want : Int) + ((want - 1 - j : Nat) : Int) = (i : Int) - 1 - (j : Int) by omega] at HC
            clear HJ
            go_wp2_with fail
            refine HC.out.mono ?_
            rintro e w2 ⟨rfl, m2, h2, hm2⟩
            rw [← Hf.out] at hm2
            have HC2 := Lib.hid (And.intro h2 hm2)
            clear h2 hm2 HC
            go_wp2_with fail
            go_roundg (want - (j + 1))
            case measure => omega
            case rel => exact ⟨j + 1, m2, rfl, hlt, by go_num, HC2.out.1, HC2.out.2⟩
          · obtain rfl : j = want := by omega
            have d0 : decide ((j : Int) < (j : Int)) = false := by simp
            have HQ2 := Lib.hid (HQ.out _ _ HJ.out.1)
            rw [HJ.out.2.now, Nat.sub_self] at HQ2
            have HF2 := Lib.hid (HF.out _ _ HJ.out.1)
            rw [HJ.out.2.now, HJ.out.2.len, Nat.sub_self, Nat.sub_zero] at HF2
            have HAn := Lib.hid HJ.out.1.any
            clear HJ HQ HF HB HM
            go_wp2_with fail
            refine HQ2.out.mono ?_
            rintro e w2 ⟨rfl, rfl⟩
            go_wp2_with fail
            refine HF2.out.mono ?_
            rintro e w3 ⟨rfl, b3⟩
            have HB3 := Lib.hid b3
            clear b3
            go_wp2_with fail
            refine (HL.out _).mono ?_
            rintro e w4 ⟨rfl, b4⟩
            have HB4 := Lib.hid b4
            clear b4
            go_wp2_with fail
            go_ret
            exact ⟨rfl, HAn.out.trans (HB3.out.trans HB4.out)⟩
end Go.Proofs.Ytnbchaigbkblfaa
