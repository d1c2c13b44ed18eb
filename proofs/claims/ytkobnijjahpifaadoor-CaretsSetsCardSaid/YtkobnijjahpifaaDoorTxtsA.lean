/- text: where the runes around a place begin, as plain mathematics: a few bytes about the place tell as much as all do. text: lines as plain mathematics: where each begins and ends, and in which a place lies. text: texts in memory; a rope and a text made, whatever is asked; how many bytes and lines there are: by contract. text: where a line begins and ends, its bytes; places and lines; all bytes; changes; a text made: by contract. text: lives; a text made by some edits, and its bytes: by contract. text: where the runes around a place begin: the program's and the document's answers by contract. -/
import Derived.Test.YtkobnijjahpifaaDoorUtfK
import Derived.Test.YtkobnijjahpifaaDoorRopsB
import Derived.Test.YtkobnijjahpifaaDoorRopsA
import Derived.Test.YtkobnijjahpifaaDoorChain
import Derived.Deep.DeepCutAuto
import Derived.Deep.CutBlock
import Derived.Deep.RegionWith
import Derived.Deep.QuietTactic
import Derived.Test.YtkobnijjahpifaaDoorUtfI
namespace Go.Proofs.YtkobnijjahpifaaDoor
set_option linter.unusedSimpArgs false
set_option linter.unusedVariables false
set_option linter.unusedSectionVars false
open Go.RowKit

theorem getD_take (l : List Int) (n i : Nat) (h : i < n) : (l.take n).getD i 0 = l.getD i 0 := by
  simp only [List.getD_eq_getElem?_getD]
  rw [List.getElem?_take_of_lt h]
/-- four bytes tell the rune -/
theorem decU_take (l : List Int) (n : Nat) (h : 4 ≤ n) : decU (l.take n) = decU l := by
  unfold decU
  rw [getD_take l n 0 (by omega), getD_take l n 1 (by omega), getD_take l n 2 (by omega), getD_take l n 3 (by omega), List.length_take]
  have e0 : (min n l.length = 0) = (l.length = 0) := propext ⟨fun h => by omega, fun h => by omega⟩
  have e2 : (2 ≤ min n l.length) = (2 ≤ l.length) := propext ⟨fun h => by omega, fun h => by omega⟩
  have e3 : (3 ≤ min n l.length) = (3 ≤ l.length) := propext ⟨fun h => by omega, fun h => by omega⟩
  have e4 : (4 ≤ min n l.length) = (4 ≤ l.length) := propext ⟨fun h => by omega, fun h => by omega⟩
  unfold dec4
  simp only [e0, e2, e3, e4]
/-- looking back from a place -/
theorem back_from (P : List Int) (n : Nat) (hn : n < P.length) : ∀ (c f : Nat), f ≤ n → n ≤ f + 3 → f + c = n + c - (n - f) → c + (n - f) = 3 → (∀ (q : Nat) (hq : q < P.length), f < q → q ≤ n → tl P[q] = true) →
    ∃ f', f' ≤ n ∧ n ≤ f' + 3 ∧ (∀ (q : Nat) (hq : q < P.length), f' < q → q ≤ n → tl P[q] = true) ∧ (f' = 0 ∨ n = f' + 3 ∨ ∀ (hq : f' < P.length), tl P[f'] = false)
  | 0, f, h1, h2, _, h4, h5 => ⟨f, h1, h2, h5, .inr (.inl (by omega))⟩
  | c + 1, f, h1, h2, _, h4, h5 => by
    by_cases f0 : f = 0
    · exact ⟨f, h1, h2, h5, .inl f0⟩
    · rcases ht : tl (P[f]'(by omega))
      · exact ⟨f, h1, h2, h5, .inr (.inr fun _ => ht)⟩
      · refine back_from P n hn c (f - 1) (by omega) (by omega) (by omega) (by omega) (fun q hq q1 q2 => ?_)
        by_cases e : q = f
        · subst e; exact ht
        · exact h5 q hq (by omega) q2
theorem back_ex (P : List Int) (n : Nat) (hn : n < P.length) : ∃ f, f ≤ n ∧ n ≤ f + 3 ∧ (∀ (q : Nat) (hq : q < P.length), f < q → q ≤ n → tl P[q] = true) ∧ (f = 0 ∨ n = f + 3 ∨ ∀ (hq : f < P.length), tl P[f] = false) :=
  back_from P n hn 3 n (Nat.le_refl _) (by omega) (by omega) (by omega) (fun q _ h1 h2 => by omega)
/-- the bytes about a place: from three ahead of it on, ahead of three behind it -/
def aboutP (L : List Int) (a : Nat) : List Int := (L.take (a + 3)).drop (a - 3)
theorem aboutP_len (L : List Int) (a : Nat) (h : a ≤ L.length) : (aboutP L a).length = min (a + 3) L.length - (a - 3) := by unfold aboutP; rw [List.length_drop, List.length_take]
theorem aboutP_le (L : List Int) (a : Nat) : (aboutP L a).length ≤ 6 := by unfold aboutP; rw [List.length_drop, List.length_take]; omega
theorem aboutP_bytes {L : List Int} {a : Nat} (h : Bytes L) : Bytes (aboutP L a) := (h.take _).drop _
theorem snap_near {L : List Int} (hb : Bytes L) (x : Int) (a : Nat) (ha : midZ x 0 (L.length : Int) = (a : Int)) :
    ∃ s, SnapP (aboutP L a) ((a - (a - 3) : Nat) : Int) s ∧ SnapP L x ((a - 3) + s) := by
  have hx : (x < 0 ∧ a = 0) ∨ (0 ≤ x ∧ (L.length : Int) < x ∧ a = L.length) ∨ (0 ≤ x ∧ x ≤ L.length ∧ x = a) := by
    unfold midZ at ha
    split at ha
    · left; omega
    · split at ha <;> omega
  have hal : a ≤ L.length := by omega
  have hlen := aboutP_len L a hal
  by_cases he : a = L.length
  · refine ⟨(aboutP L a).length, .inr (.inl ⟨by rw [hlen]; omega, rfl⟩), ?_⟩
    rcases hx with ⟨h1, h2⟩ | ⟨h1, h2, h3⟩ | ⟨h1, h2, h3⟩
    · exact .inl ⟨h1, by rw [hlen]; omega⟩
    · exact .inr (.inl ⟨by omega, by rw [hlen]; omega⟩)
    · exact .inr (.inl ⟨by omega, by rw [hlen]; omega⟩)
  · obtain ⟨P, hP⟩ : ∃ P, aboutP L a = P := ⟨_, rfl⟩
    obtain ⟨fr, hfr⟩ : ∃ fr, a - 3 = fr := ⟨_, rfl⟩
    obtain ⟨n, hn⟩ : ∃ n, a - fr = n := ⟨_, rfl⟩
    have hbP : Bytes P := by rw [← hP]; exact aboutP_bytes hb
    rw [hP] at hlen
    rw [hP, hfr, hn]
    rw [hfr] at hlen
    have hnP : n < P.length := by omega
    have hfa : fr ≤ a := by omega
    have eP0 : P = (L.take (a + 3)).drop fr := by rw [← hP, ← hfr]; rfl
    have get : ∀ (q : Nat) (hq : q < P.length), P[q] = L[fr + q]'(by omega) := fun q hq => by
      have e : P[q]? = L[fr + q]? := by rw [eP0, List.getElem?_drop, List.getElem?_take_of_lt (by omega)]
      rw [List.getElem?_eq_getElem hq, List.getElem?_eq_getElem (by omega)] at e
      exact Option.some.inj e
    obtain ⟨f, f1, f2, f3, f4⟩ := back_ex P n hnP
    obtain ⟨j, j1, j2⟩ := st_about hbP n hnP
    obtain ⟨i, i1, i2⟩ := st_about hb a (by omega)
    have eP := snap_back hbP hnP f1 f2 f3 f4 j1 j2
    have eL := snap_back hb (at_ := a) (from_ := fr + f) (by omega) (by omega) (by omega) (fun q hq q1 q2 => by
      have := f3 (q - fr) (by omega) (by omega) (by omega)
      rw [get] at this
      simpa only [show fr + (q - fr) = q by omega] using this) (by
      rcases f4 with h | h | h
      · by_cases h3 : n = 3
        · right; left; omega
        · left; omega
      · right; left; omega
      · refine .inr (.inr fun hq => ?_)
        have := h (by omega)
        rw [get] at this
        exact this) i1 i2
    have hcond : (n < f + (decU (P.drop f)).2) = (a < fr + f + (decU (L.drop (fr + f))).2) := by
      have e1 : P.drop f = (L.drop (fr + f)).take (a + 3 - (fr + f)) := by
        rw [eP0, List.drop_drop, List.drop_take]
      by_cases hd : f = n
      · have p1 := (dec_len (hbP.drop f)).2.1 (fun h => by have := congrArg List.length h; rw [List.length_drop] at this; simp at this; omega)
        have p2 := (dec_len (hb.drop (fr + f))).2.1 (fun h => by have := congrArg List.length h; rw [List.length_drop] at this; simp at this; omega)
        exact propext ⟨fun _ => by omega, fun _ => by omega⟩
      · rw [e1, decU_take _ _ (by omega)]
        exact propext ⟨fun _ => by omega, fun _ => by omega⟩
    have hit : fr + it P j = it L i := by
      rw [eP, eL]
      by_cases c : n < f + (decU (P.drop f)).2
      · rw [if_pos c, if_pos (by rw [← hcond]; exact c)]
      · rw [if_neg c, if_neg (by rw [← hcond]; exact c)]
        omega
    refine ⟨it P j, .inr (.inr ⟨j, by omega, by omega, rfl⟩), ?_⟩
    rw [hit]
    rcases hx with ⟨h1, h2⟩ | ⟨h1, h2, h3⟩ | ⟨h1, h2, h3⟩
    · exact .inl ⟨h1, by omega⟩
    · omega
    · exact .inr (.inr ⟨i, by omega, by omega, rfl⟩)
/-- the next one -/
theorem next_near {L : List Int} (x : Int) (s : Nat) (hx : 0 ≤ x) (hs : SnapP L x s) : NextP L x (s + (decU ((L.drop s).take 4)).2) := by
  rw [decU_take _ _ (Nat.le_refl _)]
  rcases hs with ⟨h, _⟩ | ⟨h, rfl⟩ | ⟨j, h1, h2, rfl⟩
  · omega
  · refine .inr (.inl ⟨h, ?_⟩)
    rw [List.drop_length]
    rfl
  · exact .inr (.inr ⟨j, h1, h2, rfl⟩)
theorem SnapP.le {L : List Int} (hb : Bytes L) {x : Int} {s : Nat} (h : SnapP L x s) : s ≤ L.length := by
  rcases h with ⟨_, rfl⟩ | ⟨_, rfl⟩ | ⟨j, _, _, rfl⟩
  · exact Nat.zero_le _
  · exact Nat.le_refl _
  · exact it_le hb j
theorem snapP_ex {L : List Int} (hb : Bytes L) (x : Int) : ∃ s, SnapP L x s := by
  by_cases h : x < 0
  · exact ⟨0, .inl ⟨h, rfl⟩⟩
  · by_cases h2 : (L.length : Int) ≤ x
    · exact ⟨_, .inr (.inl ⟨h2, rfl⟩)⟩
    · obtain ⟨a, rfl⟩ := Int.eq_ofNat_of_zero_le (show 0 ≤ x by omega)
      obtain ⟨j, h3, h4⟩ := st_about hb a (by omega)
      exact ⟨_, .inr (.inr ⟨j, by omega, by omega, rfl⟩)⟩
theorem SnapP.uniq {L : List Int} (hb : Bytes L) {x : Int} {s r : Nat} (h : SnapP L x s) (k : SnapP L x r) : s = r := by
  rcases h with ⟨h1, rfl⟩ | ⟨h1, rfl⟩ | ⟨i, h1, h2, rfl⟩ <;> rcases k with ⟨k1, rfl⟩ | ⟨k1, rfl⟩ | ⟨j, k1, k2, rfl⟩
  · rfl
  · omega
  · omega
  · omega
  · rfl
  · have := it_le hb (j + 1); omega
  · omega
  · have := it_le hb (i + 1); omega
  · rcases Nat.lt_trichotomy i j with q | q | q
    · have := it_mono (l := L) (show i + 1 ≤ j by omega); omega
    · rw [q]
    · have := it_mono (l := L) (show j + 1 ≤ i by omega); omega

/-! ### what looking along all beginnings has found -/
/-- the greatest of the t first places that is not above a -/
def UpT (m : List Int) (a : Int) (t sn : Nat) : Prop := (∃ q, q < t ∧ (it m q : Int) ≤ a ∧ (∀ q', q < q' → q' < t → a < it m q') ∧ sn = it m q) ∨ ((∀ q, q < t → a < it m q) ∧ sn = 0)
theorem UpT.yes {m : List Int} {a : Int} {t : Nat} (h : (it m t : Int) ≤ a) : UpT m a (t + 1) (it m t) := .inl ⟨t, by omega, h, fun q' h1 h2 => by omega, rfl⟩
theorem UpT.no {m : List Int} {a : Int} {t sn : Nat} (hd : UpT m a t sn) (h : a < it m t) : UpT m a (t + 1) sn := by
  rcases hd with ⟨q, h1, h2, h3, h4⟩ | ⟨h1, h2⟩
  · refine .inl ⟨q, by omega, h2, fun q' k1 k2 => ?_, h4⟩
    by_cases e : q' = t
    · subst e; exact h
    · exact h3 q' k1 (by omega)
  · refine .inr ⟨fun q k1 => ?_, h2⟩
    by_cases e : q = t
    · subst e; exact h
    · exact h1 q (by omega)
theorem UpT.snap {m : List Int} {c : Nat} {a : Int} {sn : Nat} (hc : Cnt m c) (hd : UpT m a (c + 1) sn) : SnapP m a sn := by
  rcases hd with ⟨q, h1, h2, h3, rfl⟩ | ⟨h1, rfl⟩
  · by_cases e : q = c
    · subst e
      rw [hc.fin] at h2 ⊢
      exact .inr (.inl ⟨h2, rfl⟩)
    · exact .inr (.inr ⟨q, h2, h3 (q + 1) (by omega) (by omega), rfl⟩)
  · exact .inl ⟨by have := h1 0 (by omega); simpa [it] using this, rfl⟩
/-- the first place that is above a -/
theorem next_first {m : List Int} {a : Int} {q : Nat} (h : a < it m q) (hb : ∀ q', q' < q → (it m q' : Int) ≤ a) : NextP m a (it m q) := by
  cases q with
  | zero => exact .inl ⟨by simpa [it] using h, rfl⟩
  | succ q => exact .inr (.inr ⟨q, hb q (by omega), h, rfl⟩)
theorem next_last {m : List Int} {c : Nat} {a : Int} (hc : Cnt m c) (hb : ∀ q', q' < c + 1 → (it m q' : Int) ≤ a) : NextP m a m.length := by
  have := hb c (by omega)
  rw [hc.fin] at this
  exact .inr (.inl ⟨this, rfl⟩)
theorem NextP.uniq {L : List Int} (hb : Bytes L) {x : Int} {s r : Nat} (h : NextP L x s) (k : NextP L x r) : s = r := by
  rcases h with ⟨h1, rfl⟩ | ⟨h1, rfl⟩ | ⟨i, h1, h2, rfl⟩ <;> rcases k with ⟨k1, rfl⟩ | ⟨k1, rfl⟩ | ⟨j, k1, k2, rfl⟩
  · rfl
  · omega
  · omega
  · omega
  · rfl
  · have := it_le hb (j + 1); omega
  · omega
  · have := it_le hb (i + 1); omega
  · rcases Nat.lt_trichotomy i j with q | q | q
    · have := it_mono (l := L) (show i + 1 ≤ j by omega); omega
    · rw [q]
    · have := it_mono (l := L) (show j + 1 ≤ i by omega); omega
end Go.Proofs.YtkobnijjahpifaaDoor
namespace Go.Proofs.YtkobnijjahpifaaDoor
set_option linter.unusedSimpArgs false
set_option linter.unusedVariables false
set_option linter.unusedSectionVars false
open Go.RowKit

/-- where the line k begins, and where it ends, if the line feeds stand at F and there are n bytes -/
def lnS (F : List Int) (k : Nat) : Int := if k = 0 then 0 else F.getD (k - 1) 0 + 1
def lnE (F : List Int) (n : Int) (k : Nat) : Int := if k < F.length then F.getD k 0 else n
def lnP : Int → List Int → List (Int × Int)
  | _, [] => []
  | s, f :: F => (s, f) :: lnP (f + 1) F
def lnT : Int → List Int → Int
  | s, [] => s
  | _, f :: F => lnT (f + 1) F
theorem lnP_snoc : ∀ (s : Int) (F : List Int) (x : Int), lnP s (F ++ [x]) = lnP s F ++ [(lnT s F, x)]
  | _, [], _ => rfl
  | s, f :: F, x => by rw [List.cons_append]; simp only [lnP, lnT]; rw [lnP_snoc (f + 1) F x]; rfl
theorem lnT_snoc : ∀ (s : Int) (F : List Int) (x : Int), lnT s (F ++ [x]) = x + 1
  | _, [], _ => rfl
  | s, f :: F, x => by rw [List.cons_append]; simp only [lnT]; exact lnT_snoc (f + 1) F x
theorem lnP_length : ∀ (s : Int) (F : List Int), (lnP s F).length = F.length
  | _, [] => rfl
  | s, f :: F => by simp only [lnP, List.length_cons]; rw [lnP_length]
theorem lnP_get : ∀ (s : Int) (F : List Int) (k : Nat), k < F.length → (lnP s F)[k]? = some (if k = 0 then s else F.getD (k - 1) 0 + 1, F.getD k 0)
  | _, [], k, h => absurd h (Nat.not_lt_zero k)
  | s, f :: F, 0, _ => rfl
  | s, f :: F, k + 1, h => by
    have h' : k < F.length := by simpa using h
    simp only [lnP, List.getElem?_cons_succ]
    rw [lnP_get (f + 1) F k h']
    cases k with
    | zero => simp
    | succ k => simp
theorem lnT_eq : ∀ (s : Int) (F : List Int), lnT s F = if F.length = 0 then s else F.getD (F.length - 1) 0 + 1
  | _, [] => rfl
  | s, f :: F => by
    simp only [lnT]
    rw [lnT_eq (f + 1) F]
    cases F with
    | nil => simp
    | cons g G => simp
/-- all lines -/
def lnL (F : List Int) (n : Int) : List (Int × Int) := lnP 0 F ++ [(lnT 0 F, n)]
theorem lnL_length (F : List Int) (n : Int) : (lnL F n).length = F.length + 1 := by unfold lnL; rw [List.length_append, lnP_length]; rfl
theorem lnL_get (F : List Int) (n : Int) (k : Nat) (h : k < (lnL F n).length) : (lnL F n)[k] = (lnS F k, lnE F n k) := by
  rw [lnL_length] at h
  have e : (lnL F n)[k]? = some (lnS F k, lnE F n k) := by
    unfold lnL lnS lnE
    by_cases hk : k < F.length
    · rw [List.getElem?_append_left (by rw [lnP_length]; exact hk), lnP_get 0 F k hk, if_pos hk]
    · have hk2 : k = F.length := by omega
      subst hk2
      rw [List.getElem?_append_right (by rw [lnP_length]; omega), lnP_length, Nat.sub_self, if_neg hk, lnT_eq]
      rfl
  rw [List.getElem?_eq_some_iff] at e
  exact e.2

/-! ### what holds of where line feeds stand -/
structure FeedsOk (F : List Int) (n : Int) : Prop where
  up : ∀ i j, i < j → j < F.length → F.getD i 0 < F.getD j 0
  lo : ∀ i, i < F.length → 0 ≤ F.getD i 0
  hi : ∀ i, i < F.length → F.getD i 0 < n
  n0 : 0 ≤ n
  nn : (F.length : Int) ≤ n
theorem getD_in {F : List Int} {i : Nat} (h : i < F.length) : F.getD i 0 = F[i] := by simp [List.getD_eq_getElem?_getD, h]
theorem feedsOk (L : List Int) : FeedsOk (feN 0 L) L.length := by
  refine ⟨fun i j hij hj => ?_, fun i h => ?_, fun i h => ?_, by omega, by have := feN_le L 0; omega⟩
  · rw [getD_in (Nat.lt_trans hij hj), getD_in hj]
    exact List.pairwise_iff_getElem.1 (feN_sorted L 0) i j (Nat.lt_trans hij hj) hj hij
  · rw [getD_in h]
    exact (feN_mem L 0 _ (List.getElem_mem h)).1
  · rw [getD_in h]
    have := (feN_mem L 0 _ (List.getElem_mem h)).2
    omega
theorem FeedsOk.s0 {F : List Int} {n : Int} (h : FeedsOk F n) {k : Nat} (hk : k ≤ F.length) : 0 ≤ lnS F k := by
  unfold lnS
  split
  · exact Int.le_refl _
  · have := h.lo (k - 1) (by omega)
    omega
theorem FeedsOk.se {F : List Int} {n : Int} (h : FeedsOk F n) {k : Nat} (hk : k ≤ F.length) : lnS F k ≤ lnE F n k := by
  unfold lnS lnE
  split
  · split
    · exact h.lo k (by assumption)
    · exact h.n0
  · split
    · have := h.up (k - 1) k (by omega) (by assumption)
      omega
    · have := h.hi (k - 1) (by omega)
      omega
theorem FeedsOk.en {F : List Int} {n : Int} (h : FeedsOk F n) {k : Nat} (hk : k ≤ F.length) : lnE F n k ≤ n := by
  unfold lnE
  split
  · have := h.hi k (by assumption)
    omega
  · exact Int.le_refl _

/-! ### the line of a place -/
theorem below_lt : ∀ (F : List Int) (x : Int) (j : Nat), j < below x F → j < F.length ∧ F.getD j 0 < x
  | [], x, j, h => absurd h (by simp [below])
  | f :: F, x, j, h => by
    unfold below at h
    by_cases hf : f < x
    · rw [List.takeWhile_cons_of_pos (by simpa using hf)] at h
      cases j with
      | zero => exact ⟨by simp, by simpa using hf⟩
      | succ j =>
        have := below_lt F x j (by unfold below; simpa using h)
        exact ⟨by simpa using this.1, by simpa using this.2⟩
    · rw [List.takeWhile_cons_of_neg (by simpa using hf)] at h
      exact absurd h (by simp)
theorem below_le : ∀ (F : List Int) (x : Int), below x F ≤ F.length
  | [], x => by simp [below]
  | f :: F, x => by
    unfold below
    by_cases hf : f < x
    · rw [List.takeWhile_cons_of_pos (by simpa using hf), List.length_cons, List.length_cons]
      exact Nat.succ_le_succ (below_le F x)
    · rw [List.takeWhile_cons_of_neg (by simpa using hf)]; simp
theorem below_at : ∀ (F : List Int) (x : Int), below x F < F.length → x ≤ F.getD (below x F) 0
  | [], x, h => absurd h (by simp)
  | f :: F, x, h => by
    by_cases hf : f < x
    · have e : below x (f :: F) = below x F + 1 := by unfold below; rw [List.takeWhile_cons_of_pos (by simpa using hf)]; rfl
      rw [e] at h ⊢
      have := below_at F x (by simpa using h)
      simpa using this
    · have e : below x (f :: F) = 0 := by unfold below; rw [List.takeWhile_cons_of_neg (by simpa using hf)]; rfl
      rw [e]
      simp; omega
/-- the line of a place -/
theorem below_ln {F : List Int} {n x : Int} (h0 : 0 ≤ x) (hn : x ≤ n) : below x F ≤ F.length ∧ lnS F (below x F) ≤ x ∧ x ≤ lnE F n (below x F) ∧ ∀ j, j < below x F → lnE F n j < x := by
  refine ⟨below_le F x, ?_, ?_, fun j hj => ?_⟩
  · unfold lnS
    split
    · exact h0
    · have := (below_lt F x (below x F - 1) (by omega)).2
      omega
  · unfold lnE
    split
    · exact below_at F x (by assumption)
    · exact hn
  · have := below_lt F x j hj
    unfold lnE
    rw [if_pos this.1]
    exact this.2
end Go.Proofs.YtkobnijjahpifaaDoor
namespace Go.Proofs.YtkobnijjahpifaaDoor
set_option linter.unusedSimpArgs false
set_option linter.unusedVariables false
set_option linter.unusedSectionVars false
open Go.RowKit

/-! ### a rope made, whatever is asked -/
def newC (n : Nat) (most : Int) : Int := if most < 0 ∨ 16777216 < most then 1 else if most < n then 2 else 0
set_option maxRecDepth 100000 in
theorem rnew_bad (u : Value) (most : Int) (w : World) (h : most < 0 ∨ 16777216 < most) : Calls Tryd.prog 14 #[u, .int .i64 most] w fun e w' => e = .returned (.tuple #[.pointer none, .int .i64 1]) ∧ AnyLater w w' := by
  by_cases h1 : most < 0
  · clear h
    go_enter Tryd.func14, Tryd.ntmps14
    go_wp2_with fail
    refine bodyPost_ret (v := .tuple #[.pointer none, .int .i64 1]) (by simp [results, Tryd.results14, go_sem]) rfl ⟨rfl, AnyLater.refl _⟩
  · have h2 : 16777216 < most := by omega
    have d1 : decide (most < 0) = false := decide_eq_false h1
    clear h h1
    go_enter Tryd.func14, Tryd.ntmps14
    go_wp2_with fail
    refine bodyPost_ret (v := .tuple #[.pointer none, .int .i64 1]) (by simp [results, Tryd.results14, go_sem]) rfl ⟨rfl, AnyLater.refl _⟩
set_option maxRecDepth 100000 in
theorem rnew_full (A : Option Addr) (n cap : Nat) (most : Int) (w : World) (hm : most < n) (hmost : 0 ≤ most ∧ most ≤ 16777216) : Calls Tryd.prog 14 #[.slice A n cap, .int .i64 most] w fun e w' => e = .returned (.tuple #[.pointer none, .int .i64 2]) ∧ AnyLater w w' := by
  have HI : Hid (∀ w', w'.heap[w.heap.size]? = some (.cells #[.pointer none, .int .i64 most] 53) → Calls Tryd.prog 25 #[.pointer (some ⟨w.heap.size, 0, none⟩), .int .i64 0, .slice A n cap] w' fun e w'' => e = .returned (.int .i64 2) ∧ AnyLater w' w'') := Lib.hid (fun w' hg => by
    have h : IsR w' w.heap.size most .nil := ⟨_, hg, rfl⟩
    exact rins_full w.heap.size most .nil 0 n A cap w' h ⟨trivial, trivial, Nat.zero_le _⟩ (Nat.zero_le _) (by simp only [Tr.len]; omega) hmost)
  obtain ⟨k1, k2⟩ := hmost
  have d1 : decide (most < 0) = false := decide_eq_false (by omega)
  have d2 : decide (16777216 < most) = false := decide_eq_false (by omega)
  clear hm
  go_enter Tryd.func14, Tryd.ntmps14
  go_wp2_with fail
  have s0 : (w.alloc (.cells #[.pointer none, .int .i64 most] 53)).heap[w.heap.size]? = some (.cells #[.pointer none, .int .i64 most] 53) := heap_new rfl
  refine (HI.out _ s0).mono ?_
  rintro e w2 ⟨rfl, b2⟩
  have H2 : Hid (AnyLater w w2) := Lib.hid (AnyLater.trans (by repeat' (first | with_reducible assumption | with_reducible exact AnyLater.refl _ | with_reducible apply AnyLater.setCell | with_reducible apply AnyLater.later | with_reducible apply AnyLater.drewN | with_reducible apply AnyLater.drew | with_reducible apply AnyLater.alloc | ((try simp only [World.size_alloc, World.size_setCell, World.size_drew]); (try dsimp only); omega))) b2)
  clear b2 s0
  go_wp2_with fail
  refine bodyPost_ret (v := .tuple #[.pointer none, .int .i64 2]) (by simp [results, Tryd.results14, go_sem]) rfl ⟨rfl, H2.out⟩
set_option maxRecDepth 100000 in
theorem rnew_none (A : Option Addr) (cap : Nat) (most : Int) (w : World) (hmost : 0 ≤ most ∧ most ≤ 16777216) : Calls Tryd.prog 14 #[.slice A 0 cap, .int .i64 most] w fun e w' => ∃ g, e = .returned (.tuple #[.pointer (some ⟨g, 0, none⟩), .int .i64 0]) ∧ AnyLater w w' ∧ w.heap.size ≤ g ∧ IsR w' g most .nil := by
  have HI : Hid (∀ w', w'.heap[w.heap.size]? = some (.cells #[.pointer none, .int .i64 most] 53) → Calls Tryd.prog 25 #[.pointer (some ⟨w.heap.size, 0, none⟩), .int .i64 0, .slice A 0 cap] w' fun e w'' => e = .returned (.int .i64 0) ∧ AnyLater w' w'' ∧ IsR w'' w.heap.size most .nil) := Lib.hid (fun w' hg => by
    have h : IsR w' w.heap.size most .nil := ⟨_, hg, rfl⟩
    exact (rins_none w.heap.size most .nil 0 A cap w' h ⟨trivial, trivial, Nat.zero_le _⟩ (Nat.zero_le _) (by simp only [Tr.len]; omega) hmost).mono fun e w'' ⟨h1, h2⟩ => ⟨h1, h2, h.later h2⟩)
  obtain ⟨k1, k2⟩ := hmost
  have d1 : decide (most < 0) = false := decide_eq_false (by omega)
  have d2 : decide (16777216 < most) = false := decide_eq_false (by omega)
  go_enter Tryd.func14, Tryd.ntmps14
  go_wp2_with fail
  have s0 : (w.alloc (.cells #[.pointer none, .int .i64 most] 53)).heap[w.heap.size]? = some (.cells #[.pointer none, .int .i64 most] 53) := heap_new rfl
  refine (HI.out _ s0).mono ?_
  rintro e w2 ⟨rfl, b2, r2⟩
  have H2 : Hid (AnyLater w w2 ∧ IsR w2 w.heap.size most .nil) := Lib.hid ⟨AnyLater.trans (by repeat' (first | with_reducible assumption | with_reducible exact AnyLater.refl _ | with_reducible apply AnyLater.setCell | with_reducible apply AnyLater.later | with_reducible apply AnyLater.drewN | with_reducible apply AnyLater.drew | with_reducible apply AnyLater.alloc | ((try simp only [World.size_alloc, World.size_setCell, World.size_drew]); (try dsimp only); omega))) b2, r2⟩
  clear b2 r2 s0
  go_wp2_with fail
  refine bodyPost_ret (v := .tuple #[.pointer (some ⟨w.heap.size, 0, none⟩), .int .i64 0]) (by simp [results, Tryd.results14, go_sem]) rfl ?_
  exact ⟨_, rfl, H2.out.1, Nat.le_refl _, H2.out.2⟩
/-- the tree of bytes that were just put in -/
def newT (b : List Int) : Tr := if 0 < b.length then insT .nil 0 b else .nil
theorem newT_bs (b : List Int) : (newT b).bs = b := by
  unfold newT
  split
  · rw [insT_bs]; simp [Tr.bs]
  · obtain rfl := List.eq_nil_of_length_eq_zero (by omega : b.length = 0)
    rfl
theorem newT_ok {b : List Int} (hb : Bytes b) (hl : b.length ≤ 60000) : (newT b).Ok := by
  unfold newT
  split
  · exact insT_ok ⟨trivial, trivial, Nat.zero_le _⟩ (Nat.le_refl _) (by assumption) hb (by simp only [Tr.len]; omega)
  · exact ⟨trivial, trivial, Nat.zero_le _⟩
theorem rnew_all (u : Value) (b : List Int) (most : Int) (w : World) (hu : RN .u8 w u b) (hb : Bytes b) (hm : (b.length : Int) ≤ most) (hmost : 0 ≤ most ∧ most ≤ 16777216) (hl : b.length ≤ 60000) :
    Calls Tryd.prog 14 #[u, .int .i64 most] w fun e w' => ∃ g, e = .returned (.tuple #[.pointer (some ⟨g, 0, none⟩), .int .i64 0]) ∧ AnyLater w w' ∧ w.heap.size ≤ g ∧ IsR w' g most (newT b) := by
  unfold newT
  by_cases h : 0 < b.length
  · rw [if_pos h]
    exact rnew_yes u b most w hu hb h hm hmost hl
  · rw [if_neg h]
    obtain ⟨A, cap, rfl, -⟩ := hu.form
    have e : b.length = 0 := by omega
    rw [e]
    exact rnew_none A cap most w hmost

/-! ### texts in memory -/
/-- the text at tg, whose rope lies at g -/
def IsTx (w : World) (tg g : Nat) (most : Int) (t : Tr) : Prop := w.heap[tg]? = some (.cells #[.pointer (some ⟨g, 0, none⟩)] 42) ∧ IsR w g most t
theorem IsTx.later {w w' : World} {tg g : Nat} {most : Int} {t : Tr} (h : IsTx w tg g most t) (a : AnyLater w w') : IsTx w' tg g most t := ⟨any_own a h.1, h.2.later a⟩
/-- a text of n lines, or none -/
def IsTL (w : World) (v : Value) (t : Tr) (n : Nat) : Prop := (v = .pointer none ∧ t = .nil ∧ n = 0) ∨ ∃ tg g most, v = .pointer (some ⟨tg, 0, none⟩) ∧ IsTx w tg g most t ∧ n = t.nf + 1
theorem IsTL.later {w w' : World} {v : Value} {t : Tr} {n : Nat} (h : IsTL w v t n) (a : AnyLater w w') : IsTL w' v t n := by
  rcases h with h | ⟨tg, g, most, h1, h2, h3⟩
  · exact .inl h
  · exact .inr ⟨tg, g, most, h1, h2.later a, h3⟩
theorem IsTx.tl {w : World} {tg g : Nat} {most : Int} {t : Tr} (h : IsTx w tg g most t) : IsTL w (.pointer (some ⟨tg, 0, none⟩)) t (t.nf + 1) := .inr ⟨tg, g, most, rfl, h, rfl⟩
theorem tbytes_some (tg g : Nat) (most : Int) (t : Tr) (w : World) (h : IsTx w tg g most t) : Calls Tryd.prog 27 #[.pointer (some ⟨tg, 0, none⟩)] w fun e w' => e = .returned (.pointer (some ⟨g, 0, none⟩)) ∧ AnyLater w w' := by
  have r0 := own_row h.1
  clear h
  go_enter Tryd.func27, Tryd.ntmps27
  go_wp2_with fail
  go_ret
  exact ⟨rfl, AnyLater.refl _⟩
theorem tbytes_none (w : World) : Calls Tryd.prog 27 #[.pointer none] w fun e w' => e = .returned (.pointer none) ∧ AnyLater w w' := by
  go_enter Tryd.func27, Tryd.ntmps27
  go_wp2_with fail
  go_ret
  exact ⟨rfl, AnyLater.refl _⟩
theorem tbytes_any (v : Value) (t : Tr) (n : Nat) (w : World) (h : IsTL w v t n) : Calls Tryd.prog 27 #[v] w fun e w' => ∃ q, e = .returned (.pointer q) ∧ AnyLater w w' ∧ IsRN w' (.pointer q) t := by
  rcases h with ⟨rfl, rfl, -⟩ | ⟨tg, g, most, rfl, h, -⟩
  · exact (tbytes_none w).mono fun e w' ⟨h1, h2⟩ => ⟨_, h1, h2, .inl ⟨rfl, rfl⟩⟩
  · exact (tbytes_some tg g most t w h).mono fun e w' ⟨h1, h2⟩ => ⟨_, h1, h2, .inr ⟨g, most, rfl, h.2.later h2⟩⟩
set_option maxRecDepth 100000 in
theorem tlen_any (v : Value) (t : Tr) (n : Nat) (w : World) (h : IsTL w v t n) : Calls Tryd.prog 16 #[v] w fun e w' => e = .returned (.int .i64 (t.len : Int)) ∧ AnyLater w w' := by
  have HB := Lib.hid (tbytes_any v t n w h)
  have HL := Lib.hid (fun (w' : World) (q : Option Addr) (h : IsRN w' (.pointer q) t) => rlen_any (.pointer q) t w' h)
  clear h
  generalize t.len = m at *
  go_enter Tryd.func16, Tryd.ntmps16
  go_wp2_with fail
  refine HB.out.mono ?_
  rintro e w2 ⟨q, rfl, b2, h2⟩
  have H2 := Lib.hid (And.intro b2 h2)
  clear b2 h2
  go_wp2_with fail
  refine (HL.out _ _ H2.out.2).mono ?_
  rintro e w3 ⟨rfl, b3⟩
  have H3 := Lib.hid (H2.out.1.trans b3)
  clear b3
  go_wp2_with fail
  go_ret
  exact ⟨rfl, H3.out⟩
end Go.Proofs.YtkobnijjahpifaaDoor
namespace Go.Proofs.YtkobnijjahpifaaDoor
set_option linter.unusedSimpArgs false
set_option linter.unusedVariables false
set_option linter.unusedSectionVars false
open Go.RowKit

theorem Tr.Ok.nf {t : Tr} (h : t.Ok) : t.nf ≤ 60000 := Nat.le_trans t.nf_le h.len
theorem ret_ib {a b : Int} {c d : Bool} (h : a = b) (k : c = d) : Ending.returned (.tuple #[.int .i64 a, .bool c]) = .returned (.tuple #[.int .i64 b, .bool d]) := by rw [h, k]
/-- where line feeds stand in a tree -/
def fds (t : Tr) : List Int := feN 0 t.bs
theorem fds_len (t : Tr) : (fds t).length = t.nf := Tr.nf_bs t
theorem fds_ok (t : Tr) : FeedsOk (fds t) t.len := by
  have := feedsOk t.bs
  rwa [Tr.len_bs] at this

/-! ### where a line begins -/
theorem brk_fds (t : Tr) (k : Nat) : brk t k = (fds t).getD k 0 := rfl
/-! ### where a line ends -/
/-! ### a line's bytes -/
/-! ### the line of a place -/
/-! ### the place of a line and a column -/
/-! ### all bytes -/
theorem cutZ_all (l : List Int) (n : Nat) (h : l.length = n) : cutZ l 0 n = l := by unfold cutZ; rw [List.take_of_length_le (by omega)]; rfl
/-! ### changes -/
/-! ### a text made -/
set_option maxRecDepth 100000 in
theorem tnew_no (A : Option Addr) (n cap : Nat) (most c : Int) (w : World) (hc : newC n most = c) (h0 : c ≠ 0) : Calls Tryd.prog 6 #[.slice A n cap, .int .i64 most] w fun e w' => e = .returned (.tuple #[.pointer none, .int .i64 c]) ∧ AnyLater w w' := by
  have HR : Hid (Calls Tryd.prog 14 #[.slice A n cap, .int .i64 most] w fun e w' => e = .returned (.tuple #[.pointer none, .int .i64 c]) ∧ AnyLater w w') := Lib.hid (by
    unfold newC at hc
    split at hc
    · subst hc; exact rnew_bad _ most w (by assumption)
    · split at hc
      · subst hc; exact rnew_full A n cap most w (by assumption) (by omega)
      · exact absurd hc.symm h0)
  have d1 : (c != 0) = true := by simpa using h0
  clear hc h0
  go_enter Tryd.func6, Tryd.ntmps6
  go_wp2_with fail
  refine HR.out.mono ?_
  rintro e w2 ⟨rfl, b2⟩
  have H2 := Lib.hid b2
  clear b2
  go_wp2_with fail
  refine bodyPost_ret (v := .tuple #[.pointer none, .int .i64 c]) (by simp [results, Tryd.results6, go_sem]) rfl ⟨rfl, H2.out⟩
set_option maxRecDepth 100000 in
theorem tnew_yes (u : Value) (b : List Int) (most : Int) (w : World) (hu : RN .u8 w u b) (hb : Bytes b) (hm : (b.length : Int) ≤ most) (hmost : 0 ≤ most ∧ most ≤ 16777216) (hl : b.length ≤ 60000) :
    Calls Tryd.prog 6 #[u, .int .i64 most] w fun e w' => ∃ tg g, e = .returned (.tuple #[.pointer (some ⟨tg, 0, none⟩), .int .i64 0]) ∧ AnyLater w w' ∧ w.heap.size ≤ g ∧ w.heap.size ≤ tg ∧ tg ≠ g ∧ IsTx w' tg g most (newT b) := by
  have HR := Lib.hid (rnew_all u b most w hu hb hm hmost hl)
  obtain ⟨A, cap, rfl, -⟩ := hu.form
  clear hu hb hm hmost hl
  generalize newT b = t at *
  generalize b.length = n at *
  go_enter Tryd.func6, Tryd.ntmps6
  go_wp2_with fail
  refine HR.out.mono ?_
  rintro e w2 ⟨g, rfl, b2, hg, h2⟩
  have H2 := Lib.hid (And.intro b2 (And.intro hg h2))
  have hgl : g < w2.heap.size := by
    obtain ⟨rv, q, _⟩ := h2
    exact own_lt q
  have HG := Lib.hid hgl
  clear b2 hg h2 hgl
  go_wp2_with fail
  refine bodyPost_ret (v := .tuple #[.pointer (some ⟨w2.heap.size, 0, none⟩), .int .i64 0]) (by simp [results, Tryd.results6, go_sem]) rfl ?_
  have a3 : AnyLater w2 (w2.alloc (.cells #[.pointer (some ⟨g, 0, none⟩)] 42)) := (AnyLater.refl w2).alloc _
  exact ⟨_, g, rfl, H2.out.1.trans a3, H2.out.2.1, H2.out.1.below.size, Nat.ne_of_gt HG.out, heap_new rfl, H2.out.2.2.later a3⟩
end Go.Proofs.YtkobnijjahpifaaDoor
namespace Go.Proofs.YtkobnijjahpifaaDoor
set_option linter.unusedSimpArgs false
set_option linter.unusedVariables false
set_option linter.unusedSectionVars false
open Go.RowKit

/-! ### made -/
def stT (w0 w1 w2 : World) (P3 P4 : World → Prop) (j : Nat) (_ : Nat → Value) (x : World) : Prop := match j with
  | 0 => x = w0
  | 1 => x = w1
  | 2 => x = w2
  | 3 => P3 x
  | 4 => P4 x
  | _ => True
theorem IsTx.put {w w' : World} {tg g : Nat} {most : Int} {t t2 : Tr} (h : IsTx w tg g most t) (hb : But g w w') (h2 : IsR w' g most t2) : IsTx w' tg g most t2 := by
  refine ⟨hb.own h.1 (fun e => ?_), h2⟩
  obtain ⟨rv, q, _⟩ := h.2
  rw [← e, h.1] at q
  cases q
theorem RAct.later {w w' : World} {v : Value} {l : List RAM} (h : RAct w v l) (a : AnyLater w w') : RAct w' v l := by
  obtain ⟨A, cap, e, h1, h2⟩ := h
  refine ⟨A, cap, e, fun j hj => (h1 j hj).later a, fun h0 => ?_⟩
  obtain ⟨b, off, e2, hb, hc⟩ := h2 h0
  refine ⟨b, off, e2, Nat.lt_of_lt_of_le hb a.below.size, fun j hj => ?_⟩
  obtain ⟨q0, q1, q2, q3⟩ := hc j hj
  exact ⟨cell_on a q0, cell_on a q1, cell_on a q2, cell_on a q3⟩
end Go.Proofs.YtkobnijjahpifaaDoor
namespace Go.Proofs.YtkobnijjahpifaaDoor
set_option linter.unusedSimpArgs false
set_option linter.unusedVariables false
set_option linter.unusedSectionVars false
open Go.RowKit

theorem run_max3 {P : Program} (w : World) (ts : Array TypeId) (t : TypeId) (a : Nat) : (Builtin.max_ ts t #[.int .i64 ((a : Int) - 3), .int .i64 0]).run P w = .ok (.int .i64 ((a - 3 : Nat) : Int)) w := by
  rw [run_max_int2]; split <;> (congr 2; omega)
theorem cutZ_about (L : List Int) (a : Nat) : cutZ L ((a - 3 : Nat) : Int) ((a : Int) + 3) = aboutP L a := by
  unfold cutZ aboutP
  rw [Int.toNat_natCast, show ((a : Int) + 3).toNat = a + 3 by omega]
theorem cutZ_four (L : List Int) (s : Nat) : cutZ L (s : Int) ((s : Int) + 1 + 3) = (L.drop s).take 4 := by
  unfold cutZ
  rw [Int.toNat_natCast, show ((s : Int) + 1 + 3).toNat = s + 4 by omega, List.drop_take]
  congr 1
  omega
set_option maxRecDepth 100000 in
set_option maxHeartbeats 1600000 in
theorem tsnap_any (v : Value) (t : Tr) (n : Nat) (L : List Int) (x : Int) (r : Nat) (w : World) (hr : SnapP L x r) (hL : t.bs = L) (h : IsTL w v t n) (ok : t.Ok) (hb : Bytes L) (hg : GlobU w) :
    Calls Tryd.prog 18 #[v, .int .i64 x] w fun e w' => e = .returned (.int .i64 (r : Int)) ∧ AnyLater w w' := by
  have hlen : t.len = L.length := by rw [← Tr.len_bs, hL]
  obtain ⟨a, ha, ha2, -⟩ := midZ_cast x 0 t.len
  simp only [Nat.zero_add, Int.natCast_zero] at ha ha2
  obtain ⟨s, s1, s2⟩ := snap_near hb x a (by rw [← hlen]; exact ha)
  have e : a - 3 + s = r := SnapP.uniq hb s2 hr
  have hP6 := aboutP_le L a
  have hPb : Bytes (aboutP L a) := aboutP_bytes hb
  have hcz : cutZ t.bs ((a - 3 : Nat) : Int) ((a : Int) + 3) = aboutP L a := by rw [hL]; exact cutZ_about L a
  have HL := Lib.hid (tlen_any v t n w h)
  have HC := Lib.hid (fun w' => rclamp_any x 0 t.len w' _ ha)
  have HB := Lib.hid (fun (w' : World) (q : AnyLater w w') => tbytes_any v t n w' (h.later q))
  have HP := Lib.hid (fun (w' : World) (q : Option Addr) (h : IsRN w' (.pointer q) t) => rpart_any (.pointer q) t _ _ _ hcz w' h ok)
  have HS := Lib.hid (fun (w' : World) (q : AnyLater w w') (u : Value) (hu : isB (aboutP L a) u w') => snap_any u (aboutP L a) _ s w' s1 (RT.rn hu) hPb (by omega) (hg.later q) ⟨by omega, by omega⟩)
  have hmx := fun (w : World) (ts : Array TypeId) (t : TypeId) => run_max3 (P := Tryd.prog) w ts t a
  have hs := SnapP.le hPb s1
  have hl6 := ok.len
  have e1 : ((a - (a - 3) : Nat) : Int) = (a : Int) - ((a - 3 : Nat) : Int) := by omega
  rw [e1] at HS
  have HE : Hid (((a - 3 : Nat) : Int) + (s : Int) = (r : Int)) := Lib.hid (by omega)
  have hfr : ((a - 3 : Nat) : Int) ≤ (a : Int) := by omega
  clear h ok hb hg hr hL hlen ha s1 s2 e hcz hPb e1
  generalize aboutP L a = P at *
  generalize a - 3 = fr at *
  generalize t.len = m at *
  go_enter Tryd.func18, Tryd.ntmps18
  go_wp2_with fail
  refine HL.out.mono ?_
  rintro e w2 ⟨rfl, b2⟩
  have H2 := Lib.hid b2
  clear b2
  go_wp2_with fail
  refine (HC.out _).mono ?_
  rintro e w2' ⟨rfl, rfl⟩
  go_wp2_with fail
  refine (HB.out _ H2.out).mono ?_
  rintro e w3 ⟨q, rfl, b3, h3⟩
  have H3 := Lib.hid (And.intro (H2.out.trans b3) h3)
  clear b3 h3
  go_wp2_with fail
  refine (HP.out _ _ H3.out.2).mono ?_
  rintro e w4 ⟨u, rfl, b4, h4⟩
  have H4 := Lib.hid (And.intro (H3.out.1.trans b4) h4)
  have HS4 := Lib.hid (HS.out w4 H4.out.1 u h4)
  obtain ⟨A4, c4, rfl, -⟩ := isB.form h4
  clear b4 h4
  generalize P.length = k at *
  go_wp2_with fail
  refine HS4.out.mono ?_
  rintro e w5 ⟨rfl, b5⟩
  have H5 := Lib.hid (H4.out.1.trans b5)
  clear b5
  go_wp2_with fail
  go_ret
  exact ⟨by simp [HE.out], H5.out⟩
/-- the greatest one below a place -/
def PrevP (L : List Int) (x : Int) (r : Nat) : Prop := (x ≤ 0 ∧ r = 0) ∨ (0 < x ∧ SnapP L (x - 1) r)
/-! ### the document's answers -/
theorem stU_cell {w : World} {v : Value} {l : List Int} {c : Nat} (h : RI w v (stU l c)) : ∃ A cap, v = .slice A (c + 1) cap ∧ ∀ j, j ≤ c → ∃ b off, A = some ⟨b, off, none⟩ ∧ w.cell? ⟨b, off + j, none⟩ = some (.int .i64 (it l j)) := by
  obtain ⟨A, cap, rfl, h2, h3⟩ := h
  have hl := stU_len l c
  refine ⟨A, cap, by rw [hl], fun j hj => ?_⟩
  obtain ⟨b, off, e, _, hc⟩ := h3 (by omega)
  have := hc j (by omega)
  rw [stU_get] at this
  exact ⟨b, off, e, this⟩
set_option maxRecDepth 100000 in
set_option maxHeartbeats 1600000 in
theorem xsnap_any (v : Value) (l : List Int) (x : Int) (r : Nat) (w : World) (hr : SnapP l x r) (hv : RU8 w v l) (hb : Bytes l) (hl : l.length ≤ 1000) :
    Calls Tryd.prog 19 #[v, .int .i64 x] w fun e w' => e = .returned (.int .i64 (r : Int)) ∧ AnyLater w w' := by
  obtain ⟨c, hc, hcl⟩ := cnt_ex hb
  have HSt := Lib.hid (refStarts_any v l c w hv hb hl hc)
  obtain ⟨A, cap, rfl, -⟩ := hv.form
  have HE : Hid (∀ s, UpT l x (c + 1) s → s = r) := Lib.hid (fun s h => SnapP.uniq hb (h.snap hc) hr)
  have HIl := Lib.hid (fun j => it_le hb j)
  clear hr hv hb hc
  generalize l.length = n at *
  go_enter Tryd.func19, Tryd.ntmps19
  go_wp2_with fail
  refine HSt.out.mono ?_
  rintro e w2 ⟨u, rfl, b2, o2⟩
  have H2 := Lib.hid b2
  obtain ⟨A2, cap2, rfl, hcell⟩ := stU_cell o2.rn
  have HC := Lib.hid hcell
  clear b2 o2 hcell
  go_wp2_with fail
  go_loopg [6, 7] (c + 1) (fun kk sv iv wr => AnyLater w2 wr ∧ ∃ t sn : Nat, kk = c + 1 - t ∧ t ≤ c + 1 ∧ iv = .int .i64 t ∧ sv = .int .i64 sn ∧ UpT l x t sn)
  case atStart => exact ⟨AnyLater.refl _, 0, 0, by omega, by omega, rfl, rfl, .inr ⟨fun q h1 => by omega, rfl⟩⟩
  case round =>
    obtain ⟨a_wr, t, sn, hk, ht, rfl, rfl, hu⟩ := hrel
    have HA := Lib.hid a_wr
    have HUp := Lib.hid hu
    clear hu
    by_cases htc : t ≤ c
    · obtain ⟨b, off, rfl, c0⟩ := HC.out t htc
      have c0 := cell_on a_wr c0
      have hil := HIl.out t
      have HY : Hid ((it l t : Int) ≤ x → UpT l x (t + 1) (it l t)) := Lib.hid (fun h => UpT.yes h)
      have HNo : Hid (x < it l t → UpT l x (t + 1) sn) := Lib.hid (fun h => HUp.out.no h)
      generalize it l t = p at *
      have d0 : (t : Int) < ((c + 1 : Nat) : Int) := by omega
      have d1 : t < c + 1 := by omega
      clear a_wr
      by_cases q : (p : Int) ≤ x
      · have HZ := Lib.hid (HY.out q)
        go_wp2_with fail
        go_roundg (c + 1 - (t + 1))
        case measure => omega
        case rel => exact ⟨HA.out, t + 1, p, rfl, by omega, by go_num, rfl, HZ.out⟩
      · have HZ := Lib.hid (HNo.out (by omega))
        have d2 : decide ((p : Int) ≤ x) = false := decide_eq_false q
        go_wp2_with fail
        go_roundg (c + 1 - (t + 1))
        case measure => omega
        case rel => exact ⟨HA.out, t + 1, sn, rfl, by omega, by go_num, rfl, HZ.out⟩
    · obtain rfl : t = c + 1 := by omega
      have e := HE.out sn HUp.out
      subst e
      have H9 := Lib.hid (H2.out.trans a_wr)
      clear a_wr hk ht htc
      go_wp2_with fail
      go_ret
      exact ⟨rfl, H9.out⟩
end Go.Proofs.YtkobnijjahpifaaDoor
