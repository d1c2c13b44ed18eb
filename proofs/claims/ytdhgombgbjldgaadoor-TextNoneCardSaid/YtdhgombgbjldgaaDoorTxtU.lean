/- text: where the runes around a place begin, as plain mathematics: a few bytes about the place tell as much as all do. -/
import Derived.Test.YtdhgombgbjldgaaDoorUtfK
import Derived.Test.YtdhgombgbjldgaaDoorRopK
namespace Go.Proofs.YtdhgombgbjldgaaDoor
set_option linter.unusedSimpArgs false
set_option linter.unusedVariables false
set_option linter.unusedSectionVars false
open Go.RowKit

theorem getD_take (l : List Int) (n i : Nat) (h : i < n) : (l.take n).getD i 0 = l.getD i 0 := by
  simp only [List.getD_eq_getElem?_getD]
  rw [List.getElem?_take_of_lt h]
/-- four bytes tell the rune -/
theorem decU_take (l : List Int) (n : Nat) (h : 4 ≤ n) : decU (l.take n) = decU l := by
  unfold decU
  rw [getD_take l n 0 (by omega), getD_take l n 1 (by omega), getD_take l n 2 (by omega), getD_take l n 3 (by omega), List.length_take]
  have e0 : (min n l.length = 0) = (l.length = 0) := propext ⟨fun h => by omega, fun h => by omega⟩
  have e2 : (2 ≤ min n l.length) = (2 ≤ l.length) := propext ⟨fun h => by omega, fun h => by omega⟩
  have e3 : (3 ≤ min n l.length) = (3 ≤ l.length) := propext ⟨fun h => by omega, fun h => by omega⟩
  have e4 : (4 ≤ min n l.length) = (4 ≤ l.length) := propext ⟨fun h => by omega, fun h => by omega⟩
  unfold dec4
  simp only [e0, e2, e3, e4]
/-- looking back from a place -/
theorem back_from (P : List Int) (n : Nat) (hn : n < P.length) : ∀ (c f : Nat), f ≤ n → n ≤ f + 3 → f + c = n + c - (n - f) → c + (n - f) = 3 → (∀ (q : Nat) (hq : q < P.length), f < q → q ≤ n → tl P[q] = true) →
    ∃ f', f' ≤ n ∧ n ≤ f' + 3 ∧ (∀ (q : Nat) (hq : q < P.length), f' < q → q ≤ n → tl P[q] = true) ∧ (f' = 0 ∨ n = f' + 3 ∨ ∀ (hq : f' < P.length), tl P[f'] = false)
  | 0, f, h1, h2, _, h4, h5 => ⟨f, h1, h2, h5, .inr (.inl (by omega))⟩
  | c + 1, f, h1, h2, _, h4, h5 => by
    by_cases f0 : f = 0
    · exact ⟨f, h1, h2, h5, .inl f0⟩
    · rcases ht : tl (P[f]'(by omega))
      · exact ⟨f, h1, h2, h5, .inr (.inr fun _ => ht)⟩
      · refine back_from P n hn c (f - 1) (by omega) (by omega) (by omega) (by omega) (fun q hq q1 q2 => ?_)
        by_cases e : q = f
        · subst e; exact ht
        · exact h5 q hq (by omega) q2
theorem back_ex (P : List Int) (n : Nat) (hn : n < P.length) : ∃ f, f ≤ n ∧ n ≤ f + 3 ∧ (∀ (q : Nat) (hq : q < P.length), f < q → q ≤ n → tl P[q] = true) ∧ (f = 0 ∨ n = f + 3 ∨ ∀ (hq : f < P.length), tl P[f] = false) :=
  back_from P n hn 3 n (Nat.le_refl _) (by omega) (by omega) (by omega) (fun q _ h1 h2 => by omega)
/-- the bytes about a place: from three ahead of it on, ahead of three behind it -/
def aboutP (L : List Int) (a : Nat) : List Int := (L.take (a + 3)).drop (a - 3)
theorem aboutP_len (L : List Int) (a : Nat) (h : a ≤ L.length) : (aboutP L a).length = min (a + 3) L.length - (a - 3) := by unfold aboutP; rw [List.length_drop, List.length_take]
theorem aboutP_le (L : List Int) (a : Nat) : (aboutP L a).length ≤ 6 := by unfold aboutP; rw [List.length_drop, List.length_take]; omega
theorem aboutP_bytes {L : List Int} {a : Nat} (h : Bytes L) : Bytes (aboutP L a) := (h.take _).drop _
theorem snap_near {L : List Int} (hb : Bytes L) (x : Int) (a : Nat) (ha : midZ x 0 (L.length : Int) = (a : Int)) :
    ∃ s, SnapP (aboutP L a) ((a - (a - 3) : Nat) : Int) s ∧ SnapP L x ((a - 3) + s) := by
  have hx : (x < 0 ∧ a = 0) ∨ (0 ≤ x ∧ (L.length : Int) < x ∧ a = L.length) ∨ (0 ≤ x ∧ x ≤ L.length ∧ x = a) := by
    unfold midZ at ha
    split at ha
    · left; omega
    · split at ha <;> omega
  have hal : a ≤ L.length := by omega
  have hlen := aboutP_len L a hal
  by_cases he : a = L.length
  · refine ⟨(aboutP L a).length, .inr (.inl ⟨by rw [hlen]; omega, rfl⟩), ?_⟩
    rcases hx with ⟨h1, h2⟩ | ⟨h1, h2, h3⟩ | ⟨h1, h2, h3⟩
    · exact .inl ⟨h1, by rw [hlen]; omega⟩
    · exact .inr (.inl ⟨by omega, by rw [hlen]; omega⟩)
    · exact .inr (.inl ⟨by omega, by rw [hlen]; omega⟩)
  · obtain ⟨P, hP⟩ : ∃ P, aboutP L a = P := ⟨_, rfl⟩
    obtain ⟨fr, hfr⟩ : ∃ fr, a - 3 = fr := ⟨_, rfl⟩
    obtain ⟨n, hn⟩ : ∃ n, a - fr = n := ⟨_, rfl⟩
    have hbP : Bytes P := by rw [← hP]; exact aboutP_bytes hb
    rw [hP] at hlen
    rw [hP, hfr, hn]
    rw [hfr] at hlen
    have hnP : n < P.length := by omega
    have hfa : fr ≤ a := by omega
    have eP0 : P = (L.take (a + 3)).drop fr := by rw [← hP, ← hfr]; rfl
    have get : ∀ (q : Nat) (hq : q < P.length), P[q] = L[fr + q]'(by omega) := fun q hq => by
      have e : P[q]? = L[fr + q]? := by rw [eP0, List.getElem?_drop, List.getElem?_take_of_lt (by omega)]
      rw [List.getElem?_eq_getElem hq, List.getElem?_eq_getElem (by omega)] at e
      exact Option.some.inj e
    obtain ⟨f, f1, f2, f3, f4⟩ := back_ex P n hnP
    obtain ⟨j, j1, j2⟩ := st_about hbP n hnP
    obtain ⟨i, i1, i2⟩ := st_about hb a (by omega)
    have eP := snap_back hbP hnP f1 f2 f3 f4 j1 j2
    have eL := snap_back hb (at_ := a) (from_ := fr + f) (by omega) (by omega) (by omega) (fun q hq q1 q2 => by
      have := f3 (q - fr) (by omega) (by omega) (by omega)
      rw [get] at this
      simpa only [show fr + (q - fr) = q by omega] using this) (by
      rcases f4 with h | h | h
      · by_cases h3 : n = 3
        · right; left; omega
        · left; omega
      · right; left; omega
      · refine .inr (.inr fun hq => ?_)
        have := h (by omega)
        rw [get] at this
        exact this) i1 i2
    have hcond : (n < f + (decU (P.drop f)).2) = (a < fr + f + (decU (L.drop (fr + f))).2) := by
      have e1 : P.drop f = (L.drop (fr + f)).take (a + 3 - (fr + f)) := by
        rw [eP0, List.drop_drop, List.drop_take]
      by_cases hd : f = n
      · have p1 := (dec_len (hbP.drop f)).2.1 (fun h => by have := congrArg List.length h; rw [List.length_drop] at this; simp at this; omega)
        have p2 := (dec_len (hb.drop (fr + f))).2.1 (fun h => by have := congrArg List.length h; rw [List.length_drop] at this; simp at this; omega)
        exact propext ⟨fun _ => by omega, fun _ => by omega⟩
      · rw [e1, decU_take _ _ (by omega)]
        exact propext ⟨fun _ => by omega, fun _ => by omega⟩
    have hit : fr + it P j = it L i := by
      rw [eP, eL]
      by_cases c : n < f + (decU (P.drop f)).2
      · rw [if_pos c, if_pos (by rw [← hcond]; exact c)]
      · rw [if_neg c, if_neg (by rw [← hcond]; exact c)]
        omega
    refine ⟨it P j, .inr (.inr ⟨j, by omega, by omega, rfl⟩), ?_⟩
    rw [hit]
    rcases hx with ⟨h1, h2⟩ | ⟨h1, h2, h3⟩ | ⟨h1, h2, h3⟩
    · exact .inl ⟨h1, by omega⟩
    · omega
    · exact .inr (.inr ⟨i, by omega, by omega, rfl⟩)
/-- the next one -/
theorem next_near {L : List Int} (x : Int) (s : Nat) (hx : 0 ≤ x) (hs : SnapP L x s) : NextP L x (s + (decU ((L.drop s).take 4)).2) := by
  rw [decU_take _ _ (Nat.le_refl _)]
  rcases hs with ⟨h, _⟩ | ⟨h, rfl⟩ | ⟨j, h1, h2, rfl⟩
  · omega
  · refine .inr (.inl ⟨h, ?_⟩)
    rw [List.drop_length]
    rfl
  · exact .inr (.inr ⟨j, h1, h2, rfl⟩)
theorem SnapP.le {L : List Int} (hb : Bytes L) {x : Int} {s : Nat} (h : SnapP L x s) : s ≤ L.length := by
  rcases h with ⟨_, rfl⟩ | ⟨_, rfl⟩ | ⟨j, _, _, rfl⟩
  · exact Nat.zero_le _
  · exact Nat.le_refl _
  · exact it_le hb j
theorem snapP_ex {L : List Int} (hb : Bytes L) (x : Int) : ∃ s, SnapP L x s := by
  by_cases h : x < 0
  · exact ⟨0, .inl ⟨h, rfl⟩⟩
  · by_cases h2 : (L.length : Int) ≤ x
    · exact ⟨_, .inr (.inl ⟨h2, rfl⟩)⟩
    · obtain ⟨a, rfl⟩ := Int.eq_ofNat_of_zero_le (show 0 ≤ x by omega)
      obtain ⟨j, h3, h4⟩ := st_about hb a (by omega)
      exact ⟨_, .inr (.inr ⟨j, by omega, by omega, rfl⟩)⟩
theorem SnapP.uniq {L : List Int} (hb : Bytes L) {x : Int} {s r : Nat} (h : SnapP L x s) (k : SnapP L x r) : s = r := by
  rcases h with ⟨h1, rfl⟩ | ⟨h1, rfl⟩ | ⟨i, h1, h2, rfl⟩ <;> rcases k with ⟨k1, rfl⟩ | ⟨k1, rfl⟩ | ⟨j, k1, k2, rfl⟩
  · rfl
  · omega
  · omega
  · omega
  · rfl
  · have := it_le hb (j + 1); omega
  · omega
  · have := it_le hb (i + 1); omega
  · rcases Nat.lt_trichotomy i j with q | q | q
    · have := it_mono (l := L) (show i + 1 ≤ j by omega); omega
    · rw [q]
    · have := it_mono (l := L) (show j + 1 ≤ i by omega); omega

/-! ### what looking along all beginnings has found -/
/-- the greatest of the t first places that is not above a -/
def UpT (m : List Int) (a : Int) (t sn : Nat) : Prop := (∃ q, q < t ∧ (it m q : Int) ≤ a ∧ (∀ q', q < q' → q' < t → a < it m q') ∧ sn = it m q) ∨ ((∀ q, q < t → a < it m q) ∧ sn = 0)
theorem UpT.yes {m : List Int} {a : Int} {t : Nat} (h : (it m t : Int) ≤ a) : UpT m a (t + 1) (it m t) := .inl ⟨t, by omega, h, fun q' h1 h2 => by omega, rfl⟩
theorem UpT.no {m : List Int} {a : Int} {t sn : Nat} (hd : UpT m a t sn) (h : a < it m t) : UpT m a (t + 1) sn := by
  rcases hd with ⟨q, h1, h2, h3, h4⟩ | ⟨h1, h2⟩
  · refine .inl ⟨q, by omega, h2, fun q' k1 k2 => ?_, h4⟩
    by_cases e : q' = t
    · subst e; exact h
    · exact h3 q' k1 (by omega)
  · refine .inr ⟨fun q k1 => ?_, h2⟩
    by_cases e : q = t
    · subst e; exact h
    · exact h1 q (by omega)
theorem UpT.snap {m : List Int} {c : Nat} {a : Int} {sn : Nat} (hc : Cnt m c) (hd : UpT m a (c + 1) sn) : SnapP m a sn := by
  rcases hd with ⟨q, h1, h2, h3, rfl⟩ | ⟨h1, rfl⟩
  · by_cases e : q = c
    · subst e
      rw [hc.fin] at h2 ⊢
      exact .inr (.inl ⟨h2, rfl⟩)
    · exact .inr (.inr ⟨q, h2, h3 (q + 1) (by omega) (by omega), rfl⟩)
  · exact .inl ⟨by have := h1 0 (by omega); simpa [it] using this, rfl⟩
/-- the first place that is above a -/
theorem next_first {m : List Int} {a : Int} {q : Nat} (h : a < it m q) (hb : ∀ q', q' < q → (it m q' : Int) ≤ a) : NextP m a (it m q) := by
  cases q with
  | zero => exact .inl ⟨by simpa [it] using h, rfl⟩
  | succ q => exact .inr (.inr ⟨q, hb q (by omega), h, rfl⟩)
theorem next_last {m : List Int} {c : Nat} {a : Int} (hc : Cnt m c) (hb : ∀ q', q' < c + 1 → (it m q' : Int) ≤ a) : NextP m a m.length := by
  have := hb c (by omega)
  rw [hc.fin] at this
  exact .inr (.inl ⟨this, rfl⟩)
theorem NextP.uniq {L : List Int} (hb : Bytes L) {x : Int} {s r : Nat} (h : NextP L x s) (k : NextP L x r) : s = r := by
  rcases h with ⟨h1, rfl⟩ | ⟨h1, rfl⟩ | ⟨i, h1, h2, rfl⟩ <;> rcases k with ⟨k1, rfl⟩ | ⟨k1, rfl⟩ | ⟨j, k1, k2, rfl⟩
  · rfl
  · omega
  · omega
  · omega
  · rfl
  · have := it_le hb (j + 1); omega
  · omega
  · have := it_le hb (i + 1); omega
  · rcases Nat.lt_trichotomy i j with q | q | q
    · have := it_mono (l := L) (show i + 1 ≤ j by omega); omega
    · rw [q]
    · have := it_mono (l := L) (show j + 1 ≤ i by omega); omega
end Go.Proofs.YtdhgombgbjldgaaDoor
