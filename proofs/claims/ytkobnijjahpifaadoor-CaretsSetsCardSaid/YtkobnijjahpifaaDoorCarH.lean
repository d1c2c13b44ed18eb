/- carets, the library's stable sort: symMerge by contract. -/
import Derived.Test.YtkobnijjahpifaaDoorCarF
import Derived.Test.YtkobnijjahpifaaDoorCarG
import Derived.Deep.DeepCutAuto
import Derived.Deep.CutBlock
namespace Go.Proofs.YtkobnijjahpifaaDoor
set_option linter.unusedSimpArgs false
set_option linter.unusedVariables false
set_option linter.unusedSectionVars false
open Go.RowKit

/-- symMerge of two sorted parts that hold f carets together at most -/
def SymOk (f : Nat) : Prop := ∀ (g cap N : Nat) (P A B S L L' : Qs) (W w : World) (az mz bz : Int), A.length + B.length ≤ f → AnyLater W w → W.heap.size ≤ g → RowC w g cap L → L = P ++ (A ++ (B ++ S)) → L' = P ++ (sortC (A ++ B) ++ S) → SortedC A → SortedC B → 0 < A.length → 0 < B.length → L.length = N →
  az = (P.length : Int) → mz = (P.length : Int) + A.length → bz = (P.length : Int) + A.length + B.length → N ≤ 100000 → N ≤ cap →
  Calls Tryd.prog 65 #[.slice (some ⟨g, 0, none⟩) N cap, .int .i64 az, .int .i64 mz, .int .i64 bz, .func (.func 36) #[] #[]] w (Wrote W g cap L')
/-- what the calls at the end of symMerge do, by the numbers that it asks -/
structure PlanC (W : World) (g cap N p r m en mid b : Nat) (L l1 l2 L' : Qs) : Prop where
  rot : r < m → m < en → ∀ (x : World) (az mz bz : Int), AnyLater W x → RowC x g cap L → az = (r : Int) → mz = (m : Int) → bz = (en : Int) → Calls Tryd.prog 73 #[.slice (some ⟨g, 0, none⟩) N cap, .int .i64 az, .int .i64 mz, .int .i64 bz, .func (.func 36) #[] #[]] x (Wrote W g cap l1)
  norot : ¬ r < m ∨ ¬ m < en → L = l1
  fst : p < r → r < mid → ∀ (x : World) (az mz bz : Int), AnyLater W x → RowC x g cap l1 → az = (p : Int) → mz = (r : Int) → bz = (mid : Int) → Calls Tryd.prog 65 #[.slice (some ⟨g, 0, none⟩) N cap, .int .i64 az, .int .i64 mz, .int .i64 bz, .func (.func 36) #[] #[]] x (Wrote W g cap l2)
  nofst : ¬ p < r ∨ ¬ r < mid → l1 = l2
  snd : mid < en → en < b → ∀ (x : World) (az mz bz : Int), AnyLater W x → RowC x g cap l2 → az = (mid : Int) → mz = (en : Int) → bz = (b : Int) → Calls Tryd.prog 65 #[.slice (some ⟨g, 0, none⟩) N cap, .int .i64 az, .int .i64 mz, .int .i64 bz, .func (.func 36) #[] #[]] x (Wrote W g cap L')
  nosnd : ¬ mid < en ∨ ¬ en < b → l2 = L'
theorem symM_plan (f : Nat) (REC : SymOk f) (g cap N : Nat) (P A B S : Qs) (W : World) (p n k u q r m en mid b : Nat) (hf : A.length + B.length ≤ f + 1) (hWg : W.heap.size ≤ g) (hA : SortedC A) (hB : SortedC B) (hp : P.length = p) (hn : A.length = n) (hk : B.length = k) (hN : p + (n + (k + S.length)) = N) (hNN : N ≤ 100000) (hNc : N ≤ cap) (hu : u ≤ n) (hq : q ≤ k) (hr : r = p + u) (hm : m = p + n) (hen : en = m + q) (hmid : mid = p + u + q) (hb : b = m + k) (h0 : 0 < u + q) (h9 : u + q < n + k)
    (h1 : ∀ (h : 0 < u) (k1 : u - 1 < A.length) (k2 : q < B.length), leC A[u - 1] B[q] = true) (h2 : ∀ (h : 0 < q) (k1 : u < A.length) (k2 : q - 1 < B.length), leC A[u] B[q - 1] = false) :
    ∃ l1 l2, PlanC W g cap N p r m en mid b (P ++ (A ++ (B ++ S))) l1 l2 (P ++ (sortC (A ++ B) ++ S)) := by
  have hMG := merge_at (u := u) (q := q) hA hB (by omega) (by omega) (fun a c => h1 a (by omega) c) (fun a c => h2 c a (by omega))
  have hAB : P ++ (A ++ (B ++ S)) = P ++ (A.take u ++ (A.drop u ++ (B.take q ++ (B.drop q ++ S)))) := by
    conv => lhs; rw [← List.take_append_drop u A, ← List.take_append_drop q B]
    simp only [List.append_assoc]
  have s1 := sorted_take hA u
  have s2 := sorted_drop hA u
  have s3 := sorted_take hB q
  have s4 := sorted_drop hB q
  have e1 : (A.take u).length = u := by rw [List.length_take]; omega
  have e2 : (A.drop u).length = n - u := by rw [List.length_drop]; omega
  have e3 : (B.take q).length = q := by rw [List.length_take]; omega
  have e4 : (B.drop q).length = k - q := by rw [List.length_drop]; omega
  rw [hAB, ← hMG]
  generalize A.take u = A1 at *
  generalize A.drop u = A2 at *
  generalize B.take q = B1 at *
  generalize B.drop q = B2 at *
  refine ⟨P ++ (A1 ++ (B1 ++ (A2 ++ (B2 ++ S)))), P ++ (sortC (A1 ++ B1) ++ (A2 ++ (B2 ++ S))), ⟨?_, ?_, ?_, ?_, ?_, ?_⟩⟩
  · intro c1 c2 x az mz bz hx hrow ha hm2 hb2
    exact rotate_any g cap N (.func (.func 36) #[] #[]) (P ++ A1) A2 B1 (B2 ++ S) _ _ W x az mz bz hx hWg hrow (by simp only [List.append_assoc]) (by simp only [List.append_assoc]) (by simp only [List.length_append]; omega) (by omega) (by omega) (by rw [List.length_append]; omega) (by rw [List.length_append]; omega) (by rw [List.length_append]; omega) hNN hNc
  · rintro (c | c)
    · have hz : A2 = [] := List.eq_nil_of_length_eq_zero (by omega)
      rw [hz]; rfl
    · have hz : B1 = [] := List.eq_nil_of_length_eq_zero (by omega)
      rw [hz]; rfl
  · intro c1 c2 x az mz bz hx hrow ha hm2 hb2
    exact REC g cap N P A1 B1 (A2 ++ (B2 ++ S)) _ _ W x az mz bz (by omega) hx hWg hrow rfl rfl s1 s3 (by omega) (by omega) (by simp only [List.length_append]; omega) (by omega) (by omega) (by omega) hNN hNc
  · rintro (c | c)
    · have hz : A1 = [] := List.eq_nil_of_length_eq_zero (by omega)
      rw [hz, List.nil_append, List.nil_append, sortC_self s3]
    · have hz : B1 = [] := List.eq_nil_of_length_eq_zero (by omega)
      rw [hz, List.append_nil, List.nil_append, sortC_self s1]
  · intro c1 c2 x az mz bz hx hrow ha hm2 hb2
    exact REC g cap N (P ++ sortC (A1 ++ B1)) A2 B2 S _ _ W x az mz bz (by omega) hx hWg hrow (by simp only [List.append_assoc]) (by simp only [List.append_assoc]) s2 s4 (by omega) (by omega) (by simp only [List.length_append, sortC_len]; omega) (by simp only [List.length_append, sortC_len]; omega) (by simp only [List.length_append, sortC_len]; omega) (by simp only [List.length_append, sortC_len]; omega) hNN hNc
  · rintro (c | c)
    · have hz : A2 = [] := List.eq_nil_of_length_eq_zero (by omega)
      rw [hz, List.nil_append, List.nil_append, sortC_self s4]; simp only [List.append_assoc]
    · have hz : B2 = [] := List.eq_nil_of_length_eq_zero (by omega)
      rw [hz, List.append_nil, List.nil_append, sortC_self s2]; simp only [List.append_assoc]
set_option maxRecDepth 100000 in
set_option maxHeartbeats 12800000 in
theorem symM_step (f : Nat) (REC : SymOk f) (g cap N : Nat) (P A B S L L' : Qs) (W w : World) (az mz bz : Int) (hf : A.length + B.length ≤ f + 1) (hW : AnyLater W w) (hWg : W.heap.size ≤ g) (hr : RowC w g cap L) (hL : L = P ++ (A ++ (B ++ S))) (hL' : L' = P ++ (sortC (A ++ B) ++ S)) (hA : SortedC A) (hB : SortedC B) (hA0 : 1 < A.length) (hB0 : 1 < B.length) (hN : L.length = N) (ha : az = (P.length : Int)) (hm : mz = (P.length : Int) + A.length) (hb : bz = (P.length : Int) + A.length + B.length) (hNN : N ≤ 100000) (hNc : N ≤ cap) :
    Calls Tryd.prog 65 #[.slice (some ⟨g, 0, none⟩) N cap, .int .i64 az, .int .i64 mz, .int .i64 bz, .func (.func 36) #[] #[]] w (Wrote W g cap L') := by
  subst hL
  obtain ⟨p, hp⟩ : ∃ p, P.length = p := ⟨_, rfl⟩
  obtain ⟨n, hn⟩ : ∃ n, A.length = n := ⟨_, rfl⟩
  obtain ⟨k, hk⟩ : ∃ k, B.length = k := ⟨_, rfl⟩
  have hl : p + (n + (k + S.length)) = N := by rw [← hN]; simp only [List.length_append, hp, hn, hk]
  have HI := Lib.hid (And.intro hp (And.intro hn hk))
  have HS := Lib.hid (And.intro hW (And.intro hr hL'))
  have HB := Lib.hid (And.intro hA hB)
  have HREC := Lib.hid REC
  have HF := Lib.hid hf
  have HN := Lib.hid hN
  rw [hp] at ha hm hb
  rw [hn] at hm hb hA0
  rw [hk] at hb hB0
  obtain ⟨m, hmn⟩ : ∃ m, p + n = m := ⟨_, rfl⟩
  obtain ⟨b, hbn⟩ : ∃ b, m + k = b := ⟨_, rfl⟩
  obtain ⟨h, hh⟩ : ∃ h, (n + k) / 2 = h := ⟨_, rfl⟩
  obtain ⟨mid, hmid⟩ : ∃ mid, p + h = mid := ⟨_, rfl⟩
  obtain rfl : mz = (m : Int) := by omega
  obtain rfl : bz = (b : Int) := by omega
  subst ha
  have hpb : ((p : Int) + (b : Int)) / 2 = (mid : Int) := by omega
  have hbN : b ≤ N := by omega
  have hmN : mid ≤ N := by omega
  have hmm : m ≤ N := by omega
  have HL := Lib.hid hl
  have HM := Lib.hid (And.intro hmn (And.intro hbn (And.intro hmid hh)))
  have HNK := Lib.hid (And.intro hA0 hB0)
  have gA : ∀ (t : Nat) (h : t < A.length), (P ++ (A ++ (B ++ S)))[p + t]? = some A[t] := fun t h => by
    rw [List.getElem?_append_right (by omega), hp, show p + t - p = t by omega, List.getElem?_append_left h, List.getElem?_eq_getElem h]
  have gB : ∀ (t : Nat) (h : t < B.length), (P ++ (A ++ (B ++ S)))[m + t]? = some B[t] := fun t h => by
    rw [List.getElem?_append_right (by omega), hp, List.getElem?_append_right (by omega), hn, show m + t - p - n = t by omega, List.getElem?_append_left h, List.getElem?_eq_getElem h]
  have HG := Lib.hid (And.intro gA gB)
  have e1 : (m : Int) - (p : Int) = (n : Int) := by omega
  have d1 : ((n : Int) == 1) = false := by simp; omega
  have d1' : (n == 1) = false := by simp; omega
  have e2 : (b : Int) - (m : Int) = (k : Int) := by omega
  have d2 : ((k : Int) == 1) = false := by simp; omega
  have d2' : (k == 1) = false := by simp; omega
  clear hW hr hN hp hn hk hL' hA hB gA gB hmn hbn hm hb hh hmid hA0 hB0 hf REC hl
  have eg : ∀ args w, (callFunc 36 args).run Tryd.prog w = .ok (.enter 36 args) w := enters_of Tryd.func36 (by kernel_rfl) rfl
  obtain ⟨lo, hlo⟩ : ∃ lo, h - k = lo := ⟨_, rfl⟩
  obtain ⟨hi, hhi⟩ : ∃ hi, min h n = hi := ⟨_, rfl⟩
  have HLo := Lib.hid (And.intro hlo hhi)
  obtain ⟨s0, hs0⟩ : ∃ s0, p + lo = s0 := ⟨_, rfl⟩
  obtain ⟨r0, hr0⟩ : ∃ r0, p + hi = r0 := ⟨_, rfl⟩
  have HSR := Lib.hid (And.intro hs0 hr0)
  have hc1 : Hid (mid < m → (mid : Int) + (m : Int) - (b : Int) = (s0 : Int) ∧ mid = r0) := Lib.hid (fun q => by have := HM.out; omega)
  have hc2 : Hid (¬ mid < m → p = s0 ∧ m = r0) := Lib.hid (fun q => by have := HM.out; omega)
  clear hlo hhi hs0 hr0
  go_enter Tryd.func65, Tryd.ntmps65
  go_upto_if 140 with fail
  go_cut [20, 21] (fun sv rv wx => sv = .int .i64 (s0 : Int) ∧ rv = .int .i64 (r0 : Int) ∧ wx = w)
  case first =>
    by_cases hcase : mid < m
    · obtain ⟨q1, q2⟩ := hc1.out hcase
      have q2' : (mid : Int) = (r0 : Int) := by omega
      have Q := Lib.hid q2'
      clear q2 q2'
      go_wp2_with fail
      go_meet
      case rel => exact ⟨rfl, by rw [Q.out], rfl⟩
    · obtain ⟨q1, q2⟩ := hc2.out hcase
      have Q := Lib.hid (And.intro q1 q2)
      clear q1 q2
      go_wp2_with fail
      go_meet
      case rel => exact ⟨by rw [Q.out.1], by rw [Q.out.2], rfl⟩
  case rest =>
    obtain ⟨rfl, rfl, hw1⟩ := hcut
    subst hw1
    have HS0 := Lib.hid (And.intro HS.out.1 HS.out.2.1)
    go_wp2_with fail
    go_loopg [20, 21] (hi - lo) (fun kk sv rv wr => ∃ (s r u t : Nat), kk = t - u ∧ lo ≤ u ∧ u ≤ t ∧ t ≤ hi ∧ s = p + u ∧ r = p + t ∧ sv = .int .i64 (s : Int) ∧ rv = .int .i64 (r : Int) ∧ AnyLater W wr ∧ RowC wr g cap (P ++ (A ++ (B ++ S))) ∧ (∀ (_ : lo < u) (k1 : u - 1 < A.length) (k2 : h - u < B.length), leC A[u - 1] B[h - u] = true) ∧ (∀ (_ : t < hi) (k1 : t < A.length) (k2 : h - 1 - t < B.length), leC A[t] B[h - 1 - t] = false))
    case atStart =>
      exact ⟨s0, r0, lo, hi, rfl, Nat.le_refl _, by have := HM.out; have := HLo.out; have := HNK.out; omega, Nat.le_refl _, HSR.out.1.symm, HSR.out.2.symm, rfl, rfl, HS0.out.1, HS0.out.2, (fun h1 => by omega), (fun h1 => by omega)⟩
    case round =>
      obtain ⟨s, r, u, t, hk, hlu, hut, hth, hs, hr, rfl, rfl, aW, hrw, h1, h2⟩ := hrel
      have HR := Lib.hid (And.intro aW (And.intro hrw (And.intro h1 h2)))
      have HU := Lib.hid (And.intro hs hr)
      have HQ := Lib.hid (And.intro hlu (And.intro hut hth))
      clear h1 h2
      by_cases hlt : u < t
      · have i0 : (s : Int) < (r : Int) := by omega
        obtain ⟨c, hc⟩ : ∃ c, (s + r) / 2 = c := ⟨_, rfl⟩
        have hci : s ≤ c ∧ c < r := by omega
        have hcz : ((s : Int) + (r : Int)) / 2 = (c : Int) := by omega
        clear hc
        obtain ⟨v, hv⟩ : ∃ v, c = p + v := ⟨c - p, by omega⟩
        have hm0 := HM.out
        have hlo0 := HLo.out
        have hvA : v < A.length := by have := HI.out.2.1; omega
        have hvB : h - 1 - v < B.length := by have := HI.out.2.2; have := HNK.out; omega
        obtain ⟨e, he⟩ : ∃ e, m + (h - 1 - v) = e := ⟨_, rfl⟩
        have hez : (mid : Int) + (m : Int) - 1 - (c : Int) = (e : Int) := by omega
        have heN : e < N := by have := HI.out.2.2; omega
        have hcN : c < N := by omega
        have HV := Lib.hid (And.intro hv (show u ≤ v ∧ v < t by omega))
        have g1 := HG.out.1 v hvA
        have g2 := HG.out.2 _ hvB
        rw [← hv] at g1
        rw [he] at g2
        obtain ⟨x, hx⟩ : ∃ x, A[v] = x := ⟨_, rfl⟩
        obtain ⟨y, hy⟩ : ∃ y, B[h - 1 - v] = y := ⟨_, rfl⟩
        rw [hx] at g1
        rw [hy] at g2
        have HXY := Lib.hid (And.intro hx hy)
        obtain ⟨x1, x2⟩ := x
        obtain ⟨y1, y2⟩ := y
        obtain ⟨c0, c1⟩ := hrw.cells g1
        obtain ⟨d0, d3⟩ := hrw.cells g2
        have a_wr := aW
        obtain ⟨z, hz⟩ : ∃ z, cmpC (y1, y2) (x1, x2) = z := ⟨_, rfl⟩
        have HC := Lib.hid (fun w => byEnds_any y1 y2 x1 x2 w z hz)
        have HCc : Hid (z < 0 ↔ leC (x1, x2) (y1, y2) = false) := Lib.hid (by rw [← hz]; exact cmpC_lt _ _)
        have i3 : (c : Int) < (N : Int) := by omega
        have i4 : (e : Int) < (N : Int) := by omega
        simp only at c0 c1 d0 d3
        clear hrw aW g1 g2 hz hx hy hv he hs hr hm0 hlo0 hlu hut hth
        by_cases hlv : z < 0
        · have hgt := Lib.hid (HCc.out.1 hlv)
          go_wp2_with fail
          apply wp_region_free (14) [⟨11, 169, .int .i64 z, false, fun v _ => v = .int .i64 z⟩] [] rfl (by kernel_rfl) (by kernel_rfl) (by kernel_rfl) (by simp) (by kernel_rfl)
          case hstab =>
            intro c hc
            simp only [List.mem_cons, List.not_mem_nil, or_false] at hc
            rcases hc with rfl
            · intro v x y hxy hv; exact hv
          case hfix =>
            intro c hc
            simp only [List.mem_cons, List.not_mem_nil, or_false] at hc
            rcases hc with rfl
            · exact .inr fun u x h => h
          case hlex =>
            intro U hU
            have q_c0 := cell_on hU c0
            have q_c1 := cell_on hU c1
            have q_d0 := cell_on hU d0
            have q_d3 := cell_on hU d3
            simp only [List.map_cons, List.map_nil, CA.act, actFrom, actOp, List.lookup, Nat.reduceBEq, Nat.reduceLeDiff, Nat.reduceAdd, if_false, if_true]
            repeat (go_big_quiet_step (first | fail))
            exact wpQuiet_nil rfl
          case hstep =>
            intro j hj o ho
            have hj2 : j = 0 := by simp at hj; omega
            rcases hj2 with rfl
            · cases ho
              refine ⟨rfl, fun g x hx hp => ?_⟩
              clear hp
              simp only [fillAll, Act.put, List.setIfInBounds_toArray, List.set_cons_zero, List.set_cons_succ]
              refine chain_go ?_ (free_fix (HC.out x))
              first | (simp [go_sem, execOp]; done) | simp [go_sem, execOp, hcf]
          case htail =>
            intro g u hst hne
            have b_w2 : AnyLater wr (later u) := ⟨u, rfl⟩
            generalize later u = w2 at *
            clear u
            clear hst hne
            simp only [fillAll, Act.put, List.setIfInBounds_toArray, List.set_cons_zero, List.set_cons_succ, List.drop_succ_cons, List.drop_zero, List.drop_nil]
            have z_w2 := b_w2.below.size
            have a_w2 := a_wr.trans b_w2
            have c0_w2 := cell_on b_w2 c0
            have c1_w2 := cell_on b_w2 c1
            have d0_w2 := cell_on b_w2 d0
            have d3_w2 := cell_on b_w2 d3
            go_wp2_with fail
            go_roundg (v - u)
            case measure => have := HV.out; omega
            case rel => exact ⟨s, c, u, v, rfl, HQ.out.1, HV.out.2.1, by have := HV.out; have := HQ.out; omega, HU.out.1, HV.out.1, rfl, by go_num, a_w2, HR.out.2.1.later b_w2, HR.out.2.2.1, (fun _ _ _ => by rw [HXY.out.1, HXY.out.2]; exact hgt.out)⟩
        · have hgt : Hid (leC (x1, x2) (y1, y2) = true) := Lib.hid (by
            cases h : leC (x1, x2) (y1, y2) with
            | true => rfl
            | false => exact absurd (HCc.out.2 h) hlv)
          have d4 : decide (z < 0) = false := decide_eq_false hlv
          have HXY2 : Hid (∀ (k1 : v + 1 - 1 < A.length) (k2 : h - (v + 1) < B.length), leC A[v + 1 - 1] B[h - (v + 1)] = true) := Lib.hid (fun k1 k2 => by
            have e3 : B[h - (v + 1)] = (y1, y2) := by
              have : h - (v + 1) = h - 1 - v := by omega
              rw [← HXY.out.2]; congr 1
            simp only [Nat.add_sub_cancel]
            rw [HXY.out.1, e3]; exact hgt.out)
          go_wp2_with fail
          apply wp_region_free (14) [⟨11, 169, .int .i64 z, false, fun v _ => v = .int .i64 z⟩] [] rfl (by kernel_rfl) (by kernel_rfl) (by kernel_rfl) (by simp) (by kernel_rfl)
          case hstab =>
            intro c hc
            simp only [List.mem_cons, List.not_mem_nil, or_false] at hc
            rcases hc with rfl
            · intro v x y hxy hv; exact hv
          case hfix =>
            intro c hc
            simp only [List.mem_cons, List.not_mem_nil, or_false] at hc
            rcases hc with rfl
            · exact .inr fun u x h => h
          case hlex =>
            intro U hU
            have q_c0 := cell_on hU c0
            have q_c1 := cell_on hU c1
            have q_d0 := cell_on hU d0
            have q_d3 := cell_on hU d3
            simp only [List.map_cons, List.map_nil, CA.act, actFrom, actOp, List.lookup, Nat.reduceBEq, Nat.reduceLeDiff, Nat.reduceAdd, if_false, if_true]
            repeat (go_big_quiet_step (first | fail))
            exact wpQuiet_nil rfl
          case hstep =>
            intro j hj o ho
            have hj2 : j = 0 := by simp at hj; omega
            rcases hj2 with rfl
            · cases ho
              refine ⟨rfl, fun g x hx hp => ?_⟩
              clear hp
              simp only [fillAll, Act.put, List.setIfInBounds_toArray, List.set_cons_zero, List.set_cons_succ]
              refine chain_go ?_ (free_fix (HC.out x))
              first | (simp [go_sem, execOp]; done) | simp [go_sem, execOp, hcf]
          case htail =>
            intro g u hst hne
            have b_w2 : AnyLater wr (later u) := ⟨u, rfl⟩
            generalize later u = w2 at *
            clear u
            clear hst hne
            simp only [fillAll, Act.put, List.setIfInBounds_toArray, List.set_cons_zero, List.set_cons_succ, List.drop_succ_cons, List.drop_zero, List.drop_nil]
            have z_w2 := b_w2.below.size
            have a_w2 := a_wr.trans b_w2
            have c0_w2 := cell_on b_w2 c0
            have c1_w2 := cell_on b_w2 c1
            have d0_w2 := cell_on b_w2 d0
            have d3_w2 := cell_on b_w2 d3
            go_wp2_with fail
            go_roundg (t - (v + 1))
            case measure => have := HV.out; omega
            case rel => exact ⟨c + 1, r, v + 1, t, rfl, by have := HV.out; have := HQ.out; omega, HV.out.2.2, HQ.out.2.2, by have := HV.out; omega, HU.out.2, by go_num, rfl, a_w2, HR.out.2.1.later b_w2, (fun _ k1 k2 => HXY2.out k1 k2), HR.out.2.2.2⟩
      · obtain rfl : u = t := by omega
        obtain rfl : r = s := by omega
        obtain ⟨q, hq⟩ : ∃ q, h - u = q := ⟨_, rfl⟩
        obtain ⟨en, hen⟩ : ∃ en, m + q = en := ⟨_, rfl⟩
        have hm0 := HM.out
        have hlo0 := HLo.out
        have hnk0 := HNK.out
        have hi0 := HI.out
        have hez : (mid : Int) + (m : Int) - (r : Int) = (en : Int) := by omega
        have HP := Lib.hid (symM_plan f HREC.out g cap N P A B S W p n k u q r m en mid b HF.out hWg HB.out.1 HB.out.2 hi0.1 hi0.2.1 hi0.2.2 HL.out hNN hNc (by omega) (by omega) hs hm0.1.symm hen.symm (by omega) hm0.2.1.symm (by omega) (by omega)
          (fun h1 k1 k2 => by
            have e3 : h - u < B.length := by omega
            have := HR.out.2.2.1 (by omega) k1 e3
            rw [show B[q] = B[h - u] by congr 1; omega]
            exact this)
          (fun h1 k1 k2 => by
            have e3 : h - 1 - u < B.length := by omega
            have := HR.out.2.2.2 (by omega) k1 e3
            rw [show B[q - 1]'(by omega) = B[h - 1 - u] by congr 1; omega]
            exact this))
        rw [← HS.out.2.2] at HP
        have HT : Hid (((p < r ∧ r < mid ∧ m < en) ∨ (p < r ∧ ¬ r < mid ∧ ¬ m < en) ∨ (¬ p < r ∧ r < mid ∧ m < en)) ∧ ((r < m ∧ mid < en ∧ en < b) ∨ (r < m ∧ mid < en ∧ ¬ en < b) ∨ (¬ r < m ∧ ¬ mid < en ∧ en < b))) := Lib.hid (by omega)
        have HR0 := Lib.hid (And.intro HR.out.1 HR.out.2.1)
        clear hrw aW hm0 hlo0 hnk0 hi0 hs hr hen hq hk hlu hut hth hlt HR HQ HU
        obtain ⟨l1, l2, hpl⟩ := HP.out
        have HPL := Lib.hid hpl
        clear hpl HP
        rcases HT.out.1 with ⟨t1, t2, t3⟩ | ⟨t1, t2, t3⟩ | ⟨t1, t2, t3⟩
        · rcases HT.out.2 with ⟨v1, v2, v3⟩ | ⟨v1, v2, v3⟩ | ⟨v1, v2, v3⟩
          · go_wp2_with fail
            refine (HPL.out.rot v1 t3 _ _ _ _ (HR0.out).1 (HR0.out).2 (by omega) (by omega) (by omega)).mono ?_
            rintro e w1 ⟨rfl, a_w1, r_w1⟩
            have Y1 := Lib.hid (And.intro a_w1 r_w1)
            clear a_w1 r_w1
            go_wp2_with fail
            refine (HPL.out.fst t1 t2 _ _ _ _ (Y1.out).1 (Y1.out).2 (by omega) (by omega) (by omega)).mono ?_
            rintro e w2 ⟨rfl, a_w2, r_w2⟩
            have Y2 := Lib.hid (And.intro a_w2 r_w2)
            clear a_w2 r_w2
            go_wp2_with fail
            refine (HPL.out.snd v2 v3 _ _ _ _ (Y2.out).1 (Y2.out).2 (by omega) (by omega) (by omega)).mono ?_
            rintro e w3 ⟨rfl, a_w3, r_w3⟩
            have Y3 := Lib.hid (And.intro a_w3 r_w3)
            clear a_w3 r_w3
            go_wp2_with fail
            exact bodyPost_ret (v := .tuple #[]) (by simp [results, Tryd.results65, go_sem]) rfl ⟨rfl, Y3.out⟩
          · have dv3 : decide (en < b) = false := decide_eq_false v3
            go_wp2_with fail
            refine (HPL.out.rot v1 t3 _ _ _ _ (HR0.out).1 (HR0.out).2 (by omega) (by omega) (by omega)).mono ?_
            rintro e w1 ⟨rfl, a_w1, r_w1⟩
            have Y1 := Lib.hid (And.intro a_w1 r_w1)
            clear a_w1 r_w1
            go_wp2_with fail
            refine (HPL.out.fst t1 t2 _ _ _ _ (Y1.out).1 (Y1.out).2 (by omega) (by omega) (by omega)).mono ?_
            rintro e w2 ⟨rfl, a_w2, r_w2⟩
            have Y2 := Lib.hid (And.intro a_w2 r_w2)
            clear a_w2 r_w2
            have Y3 : Hid (AnyLater W w2 ∧ RowC w2 g cap L') := Lib.hid ⟨(Y2.out).1, by rw [← HPL.out.nosnd (.inr v3)]; exact (Y2.out).2⟩
            go_wp2_with fail
            exact bodyPost_ret (v := .tuple #[]) (by simp [results, Tryd.results65, go_sem]) rfl ⟨rfl, Y3.out⟩
          · have dv1 : decide (r < m) = false := decide_eq_false v1
            have dv2 : decide (mid < en) = false := decide_eq_false v2
            have Y1 : Hid (AnyLater W wr ∧ RowC wr g cap l1) := Lib.hid ⟨(HR0.out).1, by rw [← HPL.out.norot (.inl v1)]; exact (HR0.out).2⟩
            go_wp2_with fail
            refine (HPL.out.fst t1 t2 _ _ _ _ (Y1.out).1 (Y1.out).2 (by omega) (by omega) (by omega)).mono ?_
            rintro e w2 ⟨rfl, a_w2, r_w2⟩
            have Y2 := Lib.hid (And.intro a_w2 r_w2)
            clear a_w2 r_w2
            have Y3 : Hid (AnyLater W w2 ∧ RowC w2 g cap L') := Lib.hid ⟨(Y2.out).1, by rw [← HPL.out.nosnd (.inl v2)]; exact (Y2.out).2⟩
            go_wp2_with fail
            exact bodyPost_ret (v := .tuple #[]) (by simp [results, Tryd.results65, go_sem]) rfl ⟨rfl, Y3.out⟩
        · rcases HT.out.2 with ⟨v1, v2, v3⟩ | ⟨v1, v2, v3⟩ | ⟨v1, v2, v3⟩
          · have dt2 : decide (r < mid) = false := decide_eq_false t2
            have dt3 : decide (m < en) = false := decide_eq_false t3
            have Y1 : Hid (AnyLater W wr ∧ RowC wr g cap l1) := Lib.hid ⟨(HR0.out).1, by rw [← HPL.out.norot (.inr t3)]; exact (HR0.out).2⟩
            have Y2 : Hid (AnyLater W wr ∧ RowC wr g cap l2) := Lib.hid ⟨(Y1.out).1, by rw [← HPL.out.nofst (.inr t2)]; exact (Y1.out).2⟩
            go_wp2_with fail
            refine (HPL.out.snd v2 v3 _ _ _ _ (Y2.out).1 (Y2.out).2 (by omega) (by omega) (by omega)).mono ?_
            rintro e w3 ⟨rfl, a_w3, r_w3⟩
            have Y3 := Lib.hid (And.intro a_w3 r_w3)
            clear a_w3 r_w3
            go_wp2_with fail
            exact bodyPost_ret (v := .tuple #[]) (by simp [results, Tryd.results65, go_sem]) rfl ⟨rfl, Y3.out⟩
          · have dt2 : decide (r < mid) = false := decide_eq_false t2
            have dt3 : decide (m < en) = false := decide_eq_false t3
            have dv3 : decide (en < b) = false := decide_eq_false v3
            have Y1 : Hid (AnyLater W wr ∧ RowC wr g cap l1) := Lib.hid ⟨(HR0.out).1, by rw [← HPL.out.norot (.inr t3)]; exact (HR0.out).2⟩
            have Y2 : Hid (AnyLater W wr ∧ RowC wr g cap l2) := Lib.hid ⟨(Y1.out).1, by rw [← HPL.out.nofst (.inr t2)]; exact (Y1.out).2⟩
            have Y3 : Hid (AnyLater W wr ∧ RowC wr g cap L') := Lib.hid ⟨(Y2.out).1, by rw [← HPL.out.nosnd (.inr v3)]; exact (Y2.out).2⟩
            go_wp2_with fail
            exact bodyPost_ret (v := .tuple #[]) (by simp [results, Tryd.results65, go_sem]) rfl ⟨rfl, Y3.out⟩
          · have dt2 : decide (r < mid) = false := decide_eq_false t2
            have dt3 : decide (m < en) = false := decide_eq_false t3
            have dv1 : decide (r < m) = false := decide_eq_false v1
            have dv2 : decide (mid < en) = false := decide_eq_false v2
            have Y1 : Hid (AnyLater W wr ∧ RowC wr g cap l1) := Lib.hid ⟨(HR0.out).1, by rw [← HPL.out.norot (.inl v1)]; exact (HR0.out).2⟩
            have Y2 : Hid (AnyLater W wr ∧ RowC wr g cap l2) := Lib.hid ⟨(Y1.out).1, by rw [← HPL.out.nofst (.inr t2)]; exact (Y1.out).2⟩
            have Y3 : Hid (AnyLater W wr ∧ RowC wr g cap L') := Lib.hid ⟨(Y2.out).1, by rw [← HPL.out.nosnd (.inl v2)]; exact (Y2.out).2⟩
            go_wp2_with fail
            exact bodyPost_ret (v := .tuple #[]) (by simp [results, Tryd.results65, go_sem]) rfl ⟨rfl, Y3.out⟩
        · rcases HT.out.2 with ⟨v1, v2, v3⟩ | ⟨v1, v2, v3⟩ | ⟨v1, v2, v3⟩
          · have dt1 : decide (p < r) = false := decide_eq_false t1
            go_wp2_with fail
            refine (HPL.out.rot v1 t3 _ _ _ _ (HR0.out).1 (HR0.out).2 (by omega) (by omega) (by omega)).mono ?_
            rintro e w1 ⟨rfl, a_w1, r_w1⟩
            have Y1 := Lib.hid (And.intro a_w1 r_w1)
            clear a_w1 r_w1
            have Y2 : Hid (AnyLater W w1 ∧ RowC w1 g cap l2) := Lib.hid ⟨(Y1.out).1, by rw [← HPL.out.nofst (.inl t1)]; exact (Y1.out).2⟩
            go_wp2_with fail
            refine (HPL.out.snd v2 v3 _ _ _ _ (Y2.out).1 (Y2.out).2 (by omega) (by omega) (by omega)).mono ?_
            rintro e w3 ⟨rfl, a_w3, r_w3⟩
            have Y3 := Lib.hid (And.intro a_w3 r_w3)
            clear a_w3 r_w3
            go_wp2_with fail
            exact bodyPost_ret (v := .tuple #[]) (by simp [results, Tryd.results65, go_sem]) rfl ⟨rfl, Y3.out⟩
          · have dt1 : decide (p < r) = false := decide_eq_false t1
            have dv3 : decide (en < b) = false := decide_eq_false v3
            go_wp2_with fail
            refine (HPL.out.rot v1 t3 _ _ _ _ (HR0.out).1 (HR0.out).2 (by omega) (by omega) (by omega)).mono ?_
            rintro e w1 ⟨rfl, a_w1, r_w1⟩
            have Y1 := Lib.hid (And.intro a_w1 r_w1)
            clear a_w1 r_w1
            have Y2 : Hid (AnyLater W w1 ∧ RowC w1 g cap l2) := Lib.hid ⟨(Y1.out).1, by rw [← HPL.out.nofst (.inl t1)]; exact (Y1.out).2⟩
            have Y3 : Hid (AnyLater W w1 ∧ RowC w1 g cap L') := Lib.hid ⟨(Y2.out).1, by rw [← HPL.out.nosnd (.inr v3)]; exact (Y2.out).2⟩
            go_wp2_with fail
            exact bodyPost_ret (v := .tuple #[]) (by simp [results, Tryd.results65, go_sem]) rfl ⟨rfl, Y3.out⟩
          · have dt1 : decide (p < r) = false := decide_eq_false t1
            have dv1 : decide (r < m) = false := decide_eq_false v1
            have dv2 : decide (mid < en) = false := decide_eq_false v2
            have Y1 : Hid (AnyLater W wr ∧ RowC wr g cap l1) := Lib.hid ⟨(HR0.out).1, by rw [← HPL.out.norot (.inl v1)]; exact (HR0.out).2⟩
            have Y2 : Hid (AnyLater W wr ∧ RowC wr g cap l2) := Lib.hid ⟨(Y1.out).1, by rw [← HPL.out.nofst (.inl t1)]; exact (Y1.out).2⟩
            have Y3 : Hid (AnyLater W wr ∧ RowC wr g cap L') := Lib.hid ⟨(Y2.out).1, by rw [← HPL.out.nosnd (.inl v2)]; exact (Y2.out).2⟩
            go_wp2_with fail
            exact bodyPost_ret (v := .tuple #[]) (by simp [results, Tryd.results65, go_sem]) rfl ⟨rfl, Y3.out⟩
theorem symM_ok : ∀ f, SymOk f
  | 0 => fun g cap N P A B S L L' W w az mz bz hf _ _ _ _ _ _ _ hA0 hB0 => by omega
  | f + 1 => by
    intro g cap N P A B S L L' W w az mz bz hf hW hWg hr hL hL' hA hB hA0 hB0 hN ha hm hb hNN hNc
    by_cases h1 : A.length = 1
    · obtain ⟨x, rfl⟩ := List.length_eq_one_iff.1 h1
      exact symL_any g cap N P B S L L' x W w az mz bz hW hWg hr hL hL' hB hB0 hN ha (by simpa using hm) (by simpa using hb) hNN hNc
    · by_cases h2 : B.length = 1
      · obtain ⟨y, rfl⟩ := List.length_eq_one_iff.1 h2
        exact symR_any g cap N P A S L L' y W w az mz bz hW hWg hr hL hL' hA (by omega) hN ha hm (by simpa using hb) hNN hNc
      · exact symM_step f (symM_ok f) g cap N P A B S L L' W w az mz bz hf hW hWg hr hL hL' hA hB (by omega) (by omega) hN ha hm hb hNN hNc
end Go.Proofs.YtkobnijjahpifaaDoor
