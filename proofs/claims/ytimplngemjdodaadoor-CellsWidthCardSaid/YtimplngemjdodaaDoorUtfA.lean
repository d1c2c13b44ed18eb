/- utf: runes' bytes as plain mathematics: which bytes a rune has, with which rune bytes begin, and where runes begin. -/
import Derived.Test.YtimplngemjdodaaDoorLater
namespace Go.Proofs.YtimplngemjdodaaDoor
set_option linter.unusedSimpArgs false
set_option linter.unusedVariables false
set_option linter.unusedSectionVars false
open Go.RowKit

def tl (c : Int) : Bool := decide (128 ≤ c ∧ c ≤ 191)
def goodR (r : Int) : Bool := decide (0 ≤ r ∧ r ≤ 1114111 ∧ ¬ (55296 ≤ r ∧ r ≤ 57343))
def encN (n : Int) : List Int :=
  if n < 128 then [n] else if n < 2048 then [192 + n / 64, 128 + n % 64] else if n < 65536 then [224 + n / 4096, 128 + n / 64 % 64, 128 + n % 64]
  else [240 + n / 262144, 128 + n / 4096 % 64, 128 + n / 64 % 64, 128 + n % 64]
def fixR (r : Int) : Int := if goodR r = true then r else 65533
def encU (r : Int) : List Int := encN (fixR r)
def Bytes (l : List Int) : Prop := ∀ c ∈ l, 0 ≤ c ∧ c ≤ 255
def v2 (a b : Int) : Int := (a - 192) * 64 + (b - 128)
def v3 (a b c : Int) : Int := (a - 224) * 4096 + (b - 128) * 64 + (c - 128)
def v4 (a b c d : Int) : Int := (a - 240) * 262144 + (b - 128) * 4096 + (c - 128) * 64 + (d - 128)
def dec4 (n : Nat) (a b c d : Int) : Int × Nat :=
  if n = 0 then (0, 0) else if a < 128 then (a, 1)
  else if 2 ≤ n ∧ 194 ≤ a ∧ a ≤ 223 ∧ 128 ≤ b ∧ b ≤ 191 then (v2 a b, 2)
  else if 3 ≤ n ∧ 224 ≤ a ∧ a ≤ 239 ∧ 128 ≤ b ∧ b ≤ 191 ∧ 128 ≤ c ∧ c ≤ 191 ∧ 2048 ≤ v3 a b c ∧ ¬ (55296 ≤ v3 a b c ∧ v3 a b c ≤ 57343) then (v3 a b c, 3)
  else if 4 ≤ n ∧ 240 ≤ a ∧ a ≤ 247 ∧ 128 ≤ b ∧ b ≤ 191 ∧ 128 ≤ c ∧ c ≤ 191 ∧ 128 ≤ d ∧ d ≤ 191 ∧ 65536 ≤ v4 a b c d ∧ v4 a b c d ≤ 1114111 then (v4 a b c d, 4)
  else (65533, 1)
def decU (l : List Int) : Int × Nat := dec4 l.length (l.getD 0 0) (l.getD 1 0) (l.getD 2 0) (l.getD 3 0)
theorem goodR_in {r : Int} (h : goodR r = true) : 0 ≤ r ∧ r ≤ 1114111 ∧ ¬ (55296 ≤ r ∧ r ≤ 57343) := of_decide_eq_true h
theorem fixR_good (r : Int) : goodR (fixR r) = true := by
  unfold fixR
  split
  · assumption
  · decide
theorem fixR_of {r : Int} (h : goodR r = true) : fixR r = r := if_pos h
theorem encU_of {r : Int} (h : goodR r = true) : encU r = encN r := by unfold encU; rw [fixR_of h]
/-- the shapes of a good rune's bytes -/
theorem encN_shape {r : Int} (h : goodR r = true) :
    (r < 128 ∧ encN r = [r]) ∨
    (∃ a b, encN r = [a, b] ∧ 194 ≤ a ∧ a ≤ 223 ∧ 128 ≤ b ∧ b ≤ 191 ∧ r = v2 a b) ∨
    (∃ a b c, encN r = [a, b, c] ∧ 224 ≤ a ∧ a ≤ 239 ∧ 128 ≤ b ∧ b ≤ 191 ∧ 128 ≤ c ∧ c ≤ 191 ∧ 2048 ≤ v3 a b c ∧ ¬ (55296 ≤ v3 a b c ∧ v3 a b c ≤ 57343) ∧ r = v3 a b c) ∨
    (∃ a b c d, encN r = [a, b, c, d] ∧ 240 ≤ a ∧ a ≤ 247 ∧ 128 ≤ b ∧ b ≤ 191 ∧ 128 ≤ c ∧ c ≤ 191 ∧ 128 ≤ d ∧ d ≤ 191 ∧ 65536 ≤ v4 a b c d ∧ v4 a b c d ≤ 1114111 ∧ r = v4 a b c d) := by
  obtain ⟨h1, h2, h3⟩ := goodR_in h
  unfold encN v2 v3 v4
  by_cases q1 : r < 128
  · left; exact ⟨q1, if_pos q1⟩
  · rw [if_neg q1]
    by_cases q2 : r < 2048
    · right; left; rw [if_pos q2]; exact ⟨_, _, rfl, by omega, by omega, by omega, by omega, by omega⟩
    · rw [if_neg q2]
      by_cases q3 : r < 65536
      · right; right; left; rw [if_pos q3]; exact ⟨_, _, _, rfl, by omega, by omega, by omega, by omega, by omega, by omega, by omega, by omega, by omega⟩
      · right; right; right; rw [if_neg q3]; exact ⟨_, _, _, _, rfl, by omega, by omega, by omega, by omega, by omega, by omega, by omega, by omega, by omega, by omega, by omega⟩
theorem encN_2 {a b : Int} (h1 : 194 ≤ a) (h2 : a ≤ 223) (h3 : 128 ≤ b) (h4 : b ≤ 191) : encN (v2 a b) = [a, b] ∧ goodR (v2 a b) = true := by
  unfold encN v2 goodR
  rw [if_neg (by omega), if_pos (by omega)]
  refine ⟨?_, decide_eq_true (by omega)⟩
  congr 1
  · omega
  · congr 1; omega
theorem encN_3 {a b c : Int} (h1 : 224 ≤ a) (h2 : a ≤ 239) (h3 : 128 ≤ b) (h4 : b ≤ 191) (h5 : 128 ≤ c) (h6 : c ≤ 191) (h7 : 2048 ≤ v3 a b c) (h8 : ¬ (55296 ≤ v3 a b c ∧ v3 a b c ≤ 57343)) : encN (v3 a b c) = [a, b, c] ∧ goodR (v3 a b c) = true := by
  unfold v3 at h7 h8
  unfold encN v3 goodR
  rw [if_neg (by omega), if_neg (by omega), if_pos (by omega)]
  refine ⟨?_, decide_eq_true (by omega)⟩
  congr 1
  · omega
  · congr 1
    · omega
    · congr 1; omega
theorem encN_4 {a b c d : Int} (h1 : 240 ≤ a) (h2 : a ≤ 247) (h3 : 128 ≤ b) (h4 : b ≤ 191) (h5 : 128 ≤ c) (h6 : c ≤ 191) (hd : 128 ≤ d) (he : d ≤ 191) (h7 : 65536 ≤ v4 a b c d) (h8 : v4 a b c d ≤ 1114111) : encN (v4 a b c d) = [a, b, c, d] ∧ goodR (v4 a b c d) = true := by
  unfold v4 at h7 h8
  unfold encN v4 goodR
  rw [if_neg (by omega), if_neg (by omega), if_neg (by omega)]
  refine ⟨?_, decide_eq_true (by omega)⟩
  congr 1
  · omega
  · congr 1
    · omega
    · congr 1
      · omega
      · congr 1; omega
theorem encN_len {r : Int} (h : goodR r = true) : 1 ≤ (encN r).length ∧ (encN r).length ≤ 4 := by
  rcases encN_shape h with ⟨_, e⟩ | ⟨a, b, e, _⟩ | ⟨a, b, c, e, _⟩ | ⟨a, b, c, d, e, _⟩ <;> rw [e] <;> simp
theorem encN_bytes {r : Int} (h : goodR r = true) : Bytes (encN r) := by
  have := goodR_in h
  rcases encN_shape h with ⟨_, e⟩ | ⟨a, b, e, _⟩ | ⟨a, b, c, e, _⟩ | ⟨a, b, c, d, e, _⟩ <;> rw [e] <;> intro x hx <;> simp only [List.mem_cons, List.not_mem_nil, or_false] at hx
  · omega
  · rcases hx with rfl | rfl <;> omega
  · rcases hx with rfl | rfl | rfl <;> omega
  · rcases hx with rfl | rfl | rfl | rfl <;> omega
theorem encU_bytes (r : Int) : Bytes (encU r) := encN_bytes (fixR_good r)
theorem encU_len (r : Int) : 1 ≤ (encU r).length ∧ (encU r).length ≤ 4 := encN_len (fixR_good r)
/-- a good rune comes back, whatever stands behind -/
theorem dec_enc {r : Int} (h : goodR r = true) (rest : List Int) : decU (encN r ++ rest) = (r, (encN r).length) := by
  rcases encN_shape h with ⟨h1, e⟩ | ⟨a, b, e, h1, h2, h3, h4, h5⟩ | ⟨a, b, c, e, h1, h2, h3, h4, h5, h6, h7, h8, h9⟩ | ⟨a, b, c, d, e, h1, h2, h3, h4, h5, h6, h7, h8, h9, ha, hb⟩ <;> rw [e] <;> unfold decU <;> simp only [List.cons_append, List.nil_append, List.length_cons, List.getD_cons_zero, List.getD_cons_succ, List.length_nil]
  · unfold dec4; rw [if_neg (by omega), if_pos h1]
  · unfold dec4; rw [if_neg (by omega), if_neg (by omega), if_pos ⟨by omega, h1, h2, h3, h4⟩, h5]
  · unfold dec4; rw [if_neg (by omega), if_neg (by omega), if_neg (by omega), if_pos ⟨by omega, h1, h2, h3, h4, h5, h6, h7, h8⟩, h9]
  · unfold dec4; rw [if_neg (by omega), if_neg (by omega), if_neg (by omega), if_neg (by omega), if_pos ⟨by omega, h1, h2, h3, h4, h5, h6, h7, h8, h9, ha⟩, hb]
/-- what is told of bytes: none, a good rune, or none that is good -/
theorem dec_cases (l : List Int) (hb : Bytes l) : (l = [] ∧ decU l = (0, 0)) ∨ (∃ r rest, goodR r = true ∧ l = encN r ++ rest ∧ decU l = (r, (encN r).length)) ∨ (l ≠ [] ∧ decU l = (65533, 1)) := by
  match l, hb with
  | [], _ => left; exact ⟨rfl, rfl⟩
  | a :: t, hb =>
    right
    have ha := hb a (by simp)
    unfold decU dec4
    rw [if_neg (by simp)]
    simp only [List.getD_cons_zero, List.getD_cons_succ]
    by_cases q1 : a < 128
    · left
      rw [if_pos q1]
      refine ⟨a, t, decide_eq_true (by omega), ?_, ?_⟩
      · unfold encN; rw [if_pos q1]; rfl
      · unfold encN; rw [if_pos q1]; rfl
    · rw [if_neg q1]
      split
      · rename_i h
        left
        obtain ⟨n1, h1, h2, h3, h4⟩ := h
        match t, n1, h3, h4 with
        | b :: t, _, h3, h4 =>
          obtain ⟨e, g⟩ := encN_2 h1 h2 h3 h4
          refine ⟨_, t, g, ?_, ?_⟩
          · simp only [List.getD_cons_zero] at e ⊢; rw [e]; rfl
          · simp only [List.getD_cons_zero] at e ⊢; rw [e]; rfl
      · split
        · rename_i h
          left
          obtain ⟨n1, h1, h2, h3, h4, h5, h6, h7, h8⟩ := h
          match t, n1, h3, h4, h5, h6, h7, h8 with
          | b :: c :: t, _, h3, h4, h5, h6, h7, h8 =>
            obtain ⟨e, g⟩ := encN_3 h1 h2 h3 h4 h5 h6 h7 h8
            refine ⟨_, t, g, ?_, ?_⟩
            · simp only [List.getD_cons_zero, List.getD_cons_succ] at e ⊢; rw [e]; rfl
            · simp only [List.getD_cons_zero, List.getD_cons_succ] at e ⊢; rw [e]; rfl
        · split
          · rename_i h
            left
            obtain ⟨n1, h1, h2, h3, h4, h5, h6, h7, h8, h9, hz⟩ := h
            match t, n1, h3, h4, h5, h6, h7, h8, h9, hz with
            | b :: c :: d :: t, _, h3, h4, h5, h6, h7, h8, h9, hz =>
              obtain ⟨e, g⟩ := encN_4 h1 h2 h3 h4 h5 h6 h7 h8 h9 hz
              refine ⟨_, t, g, ?_, ?_⟩
              · simp only [List.getD_cons_zero, List.getD_cons_succ] at e ⊢; rw [e]; rfl
              · simp only [List.getD_cons_zero, List.getD_cons_succ] at e ⊢; rw [e]; rfl
          · right; exact ⟨by simp, rfl⟩
/-- where a good rune stands, it is told -/
theorem dec_of {l : List Int} {r : Int} {n : Nat} (h : goodR r = true) (hl : l.take n = encN r) (hn : (encN r).length = n) : decU l = (r, n) := by
  have := dec_enc h (l.drop n)
  rw [← hl, List.take_append_drop, hl, hn] at this
  exact this
theorem dec_len {l : List Int} (hb : Bytes l) : (decU l).2 ≤ l.length ∧ (l ≠ [] → 1 ≤ (decU l).2) ∧ (decU l).2 ≤ 4 := by
  rcases dec_cases l hb with ⟨rfl, e⟩ | ⟨r, rest, hg, rfl, e⟩ | ⟨hn, e⟩
  · rw [e]; simp
  · rw [e]
    have := encN_len hg
    simp only [List.length_append]
    refine ⟨by omega, fun _ => this.1, this.2⟩
  · rw [e]
    have := List.length_pos_iff.2 hn
    exact ⟨by omega, fun _ => Nat.le_refl _, by decide⟩
theorem dec_rune {l : List Int} (hb : Bytes l) : 0 ≤ (decU l).1 ∧ (decU l).1 ≤ 1114111 := by
  rcases dec_cases l hb with ⟨rfl, e⟩ | ⟨r, rest, hg, rfl, e⟩ | ⟨hn, e⟩
  · rw [e]; decide
  · rw [e]; have := goodR_in hg; exact ⟨this.1, this.2.1⟩
  · rw [e]; decide
/-- is the rune with which bytes begin one that is none? -/
def badU (l : List Int) : Bool := decide ((decU l).1 = 65533 ∧ (decU l).2 = 1)
theorem badU_good {r : Int} (h : goodR r = true) (rest : List Int) : badU (encN r ++ rest) = false := by
  unfold badU
  rw [dec_enc h]
  apply decide_eq_false
  rintro ⟨rfl, h2⟩
  revert h2
  decide
/-! ### bytes that are runes' tails -/
theorem enc_tails {r : Int} (h : goodR r = true) {i : Nat} (h0 : 0 < i) (hi : i < (encN r).length) : tl (encN r)[i] = true := by
  rcases encN_shape h with ⟨_, e⟩ | ⟨a, b, e, h1, h2, h3, h4, h5⟩ | ⟨a, b, c, e, h1, h2, h3, h4, h5, h6, h7, h8, h9⟩ | ⟨a, b, c, d, e, h1, h2, h3, h4, h5, h6, h7, h8, h9, ha, hb⟩ <;> simp only [e, List.length_cons, List.length_nil] at hi ⊢ <;> unfold tl
  · omega
  · obtain rfl : i = 1 := by omega
    exact decide_eq_true ⟨h3, h4⟩
  · have : i = 1 ∨ i = 2 := by omega
    rcases this with rfl | rfl
    · exact decide_eq_true ⟨h3, h4⟩
    · exact decide_eq_true ⟨h5, h6⟩
  · have : i = 1 ∨ i = 2 ∨ i = 3 := by omega
    rcases this with rfl | rfl | rfl
    · exact decide_eq_true ⟨h3, h4⟩
    · exact decide_eq_true ⟨h5, h6⟩
    · exact decide_eq_true ⟨h7, h8⟩
theorem enc_head {r : Int} (h : goodR r = true) {i : Nat} (h0 : i = 0) (hi : i < (encN r).length) : tl (encN r)[i] = false := by
  subst h0
  rcases encN_shape h with ⟨h1, e⟩ | ⟨a, b, e, h1, h2, h3, h4, h5⟩ | ⟨a, b, c, e, h1, h2, h3, h4, h5, h6, h7, h8, h9⟩ | ⟨a, b, c, d, e, h1, h2, h3, h4, h5, h6, h7, h8, h9, ha, hb⟩ <;> simp only [e, List.getElem_cons_zero] <;> unfold tl <;> apply decide_eq_false <;> omega
/-- what lies within a rune is a tail -/
theorem in_tail {l : List Int} (hb : Bytes l) {i : Nat} (h0 : 0 < i) (hi : i < (decU l).2) (hl : i < l.length) : tl l[i] = true := by
  rcases dec_cases l hb with ⟨rfl, e⟩ | ⟨r, rest, hg, rfl, e⟩ | ⟨hn, e⟩
  · simp at hl
  · rw [e] at hi
    rw [List.getElem_append_left hi]
    exact enc_tails hg h0 hi
  · rw [e] at hi; simp only at hi; omega
/-- a tail begins no rune -/
theorem tail_one {l : List Int} (hb : Bytes l) (hl : 0 < l.length) (ht : tl l[0] = true) : (decU l).2 = 1 := by
  rcases dec_cases l hb with ⟨rfl, e⟩ | ⟨r, rest, hg, rfl, e⟩ | ⟨hn, e⟩
  · simp at hl
  · have := encN_len hg
    rw [List.getElem_append_left (by omega), enc_head hg rfl] at ht
    cases ht
  · rw [e]
theorem Bytes.drop {l : List Int} (h : Bytes l) (n : Nat) : Bytes (l.drop n) := fun c hc => h c (List.mem_of_mem_drop hc)
theorem Bytes.take {l : List Int} (h : Bytes l) (n : Nat) : Bytes (l.take n) := fun c hc => h c (List.mem_of_mem_take hc)
theorem Bytes.append {l m : List Int} (h : Bytes l) (k : Bytes m) : Bytes (l ++ m) := fun c hc => by
  rcases List.mem_append.1 hc with h1 | h1
  · exact h c h1
  · exact k c h1
theorem Bytes.nil : Bytes [] := fun c hc => by cases hc
theorem Bytes.get {l : List Int} (h : Bytes l) {i : Nat} (hi : i < l.length) : 0 ≤ l[i] ∧ l[i] ≤ 255 := h _ (List.getElem_mem hi)

/-! ### where runes begin -/
def it (l : List Int) : Nat → Nat
  | 0 => 0
  | j + 1 => it l j + (decU (l.drop (it l j))).2
theorem it_le {l : List Int} (hb : Bytes l) : ∀ j, it l j ≤ l.length
  | 0 => Nat.zero_le _
  | j + 1 => by
    have h1 := it_le hb j
    have h2 := (dec_len (hb.drop (it l j))).1
    rw [List.length_drop] at h2
    unfold it
    omega
theorem it_step {l : List Int} (hb : Bytes l) {j : Nat} (h : it l j < l.length) : it l j < it l (j + 1) ∧ it l (j + 1) ≤ it l j + 4 := by
  have h2 := dec_len (hb.drop (it l j))
  have := h2.2.1 (by intro e; have := congrArg List.length e; rw [List.length_drop] at this; simp at this; omega)
  show it l j < it l j + _ ∧ it l j + _ ≤ _
  omega
theorem it_mono {l : List Int} : ∀ {i j : Nat}, i ≤ j → it l i ≤ it l j
  | i, 0, h => by obtain rfl : i = 0 := by omega
                  exact Nat.le_refl _
  | i, j + 1, h => by
    by_cases e : i = j + 1
    · subst e; exact Nat.le_refl _
    · have := it_mono (l := l) (show i ≤ j by omega)
      show it l i ≤ it l j + (decU (l.drop (it l j))).2
      omega
theorem it_ge {l : List Int} (hb : Bytes l) : ∀ j, j ≤ it l j ∨ it l j = l.length
  | 0 => .inl (Nat.zero_le _)
  | j + 1 => by
    by_cases e : it l j < l.length
    · have := it_step hb e
      rcases it_ge hb j with h | h
      · left; omega
      · omega
    · right
      have h1 := it_le hb j
      have h2 := it_le hb (j + 1)
      have h3 := it_mono (l := l) (show j ≤ j + 1 by omega)
      omega
/-- l has c runes -/
structure Cnt (l : List Int) (c : Nat) : Prop where
  fin : it l c = l.length
  lt : ∀ j, j < c → it l j < l.length
theorem cnt_to (l : List Int) : ∀ n, (∃ c, c ≤ n ∧ Cnt l c) ∨ ∀ j, j ≤ n → it l j ≠ l.length
  | 0 => by
    by_cases e : it l 0 = l.length
    · exact .inl ⟨0, Nat.le_refl _, e, fun j hj => by omega⟩
    · exact .inr fun j hj => by obtain rfl : j = 0 := by omega
                                exact e
  | n + 1 => by
    rcases cnt_to l n with ⟨c, h1, h2⟩ | h
    · exact .inl ⟨c, by omega, h2⟩
    · by_cases e : it l (n + 1) = l.length
      · refine .inl ⟨n + 1, Nat.le_refl _, e, fun j hj => ?_⟩
        have h1 := h j (by omega)
        have h2 := it_mono (l := l) (show j ≤ n + 1 by omega)
        omega
      · refine .inr fun j hj => ?_
        by_cases e2 : j = n + 1
        · subst e2; exact e
        · exact h j (by omega)
theorem cnt_ex {l : List Int} (hb : Bytes l) : ∃ c, Cnt l c ∧ c ≤ l.length := by
  rcases cnt_to l l.length with ⟨c, h1, h2⟩ | h
  · exact ⟨c, h2, h1⟩
  · have h1 := h l.length (Nat.le_refl _)
    rcases it_ge hb l.length with h2 | h2
    · have := it_le hb l.length; omega
    · exact absurd h2 h1
theorem Cnt.uniq {l : List Int} {c d : Nat} (h : Cnt l c) (k : Cnt l d) : c = d := by
  rcases Nat.lt_trichotomy c d with e | e | e
  · have := k.lt c e; have := h.fin; omega
  · exact e
  · have := h.lt d e; have := k.fin; omega
theorem Cnt.end_iff {l : List Int} {c j : Nat} (h : Cnt l c) (hj : j ≤ c) : it l j < l.length ↔ j < c := by
  constructor
  · intro q
    rcases Nat.lt_or_ge j c with e | e
    · exact e
    · obtain rfl : j = c := by omega
      have := h.fin; omega
  · exact h.lt j
theorem Cnt.le {l : List Int} {c : Nat} (hb : Bytes l) (h : Cnt l c) : c ≤ l.length := by
  obtain ⟨d, h1, h2⟩ := cnt_ex hb
  rw [h.uniq h1]; exact h2
/-- the places at which runes begin, and at last how many bytes there are -/
def stU (l : List Int) (c : Nat) : List Int := (List.range (c + 1)).map fun j => (it l j : Int)
theorem stU_len (l : List Int) (c : Nat) : (stU l c).length = c + 1 := by simp [stU]
theorem stU_get (l : List Int) (c : Nat) {j : Nat} (h : j < (stU l c).length) : (stU l c)[j] = (it l j : Int) := by simp [stU]
theorem stU_zero (l : List Int) : stU l 0 = [0] := by simp [stU, it]
theorem stU_succ (l : List Int) (c : Nat) : stU l (c + 1) = stU l c ++ [(it l (c + 1) : Int)] := by
  unfold stU
  rw [List.range_succ, List.map_append]
  rfl
/-- a place at which a rune begins, or the end -/
def IsSt (l : List Int) (p : Nat) : Prop := ∃ j, it l j = p
/-- each place lies at or behind one at which a rune begins, and ahead of the next one -/
theorem st_about {l : List Int} (hb : Bytes l) : ∀ p, p < l.length → ∃ j, it l j ≤ p ∧ p < it l (j + 1)
  | 0, h => ⟨0, Nat.le_refl _, by have := it_step hb (j := 0) h; exact Nat.lt_of_le_of_lt (Nat.zero_le _) this.1⟩
  | p + 1, h => by
    obtain ⟨j, h1, h2⟩ := st_about hb p (by omega)
    by_cases e : p + 1 < it l (j + 1)
    · exact ⟨j, by omega, e⟩
    · have e2 : it l (j + 1) = p + 1 := by omega
      exact ⟨j + 1, by omega, by have := it_step hb (j := j + 1) (by omega); omega⟩
/-- what is no tail begins a rune -/
theorem head_st {l : List Int} (hb : Bytes l) {p : Nat} (h : p < l.length) (ht : tl l[p] = false) : IsSt l p := by
  obtain ⟨j, h1, h2⟩ := st_about hb p h
  by_cases e : it l j = p
  · exact ⟨j, e⟩
  · exfalso
    have h3 : p - it l j < (decU (l.drop (it l j))).2 := by show _ < _; unfold it at h2; omega
    have := in_tail (hb.drop (it l j)) (i := p - it l j) (by omega) h3 (by rw [List.length_drop]; omega)
    rw [List.getElem_drop] at this
    have e2 : it l j + (p - it l j) = p := by omega
    simp only [e2] at this
    rw [this] at ht
    cases ht
theorem within_tail {l : List Int} (hb : Bytes l) {j p : Nat} (h : p < l.length) (h1 : it l j < p) (h2 : p < it l (j + 1)) : tl l[p] = true := by
  have h3 : p - it l j < (decU (l.drop (it l j))).2 := by show _ < _; unfold it at h2; omega
  have := in_tail (hb.drop (it l j)) (i := p - it l j) (by omega) h3 (by rw [List.length_drop]; omega)
  rw [List.getElem_drop] at this
  have e2 : it l j + (p - it l j) = p := by omega
  simpa only [e2] using this
/-- what looking back comes to -/
theorem snap_back {l : List Int} (hb : Bytes l) {at_ from_ : Nat} (h : at_ < l.length) (h1 : from_ ≤ at_) (h2 : at_ ≤ from_ + 3) (ht : ∀ (q : Nat) (hq : q < l.length), from_ < q → q ≤ at_ → tl l[q] = true)
    (hs : from_ = 0 ∨ at_ = from_ + 3 ∨ ∀ (hq : from_ < l.length), tl l[from_] = false) {j : Nat} (j1 : it l j ≤ at_) (j2 : at_ < it l (j + 1)) :
    it l j = if at_ < from_ + (decU (l.drop from_)).2 then from_ else at_ := by
  have jl := it_step hb (j := j) (by omega)
  -- it is not behind the place
  have k1 : from_ ≤ it l j := by
    rcases hs with e | e | e
    · omega
    · omega
    · have hst := head_st hb (p := from_) (by omega) (e (by omega))
      obtain ⟨i, hi⟩ := hst
      by_cases q : i ≤ j
      · rw [← hi]; exact it_mono q
      · have := it_mono (l := l) (show j + 1 ≤ i by omega)
        omega
  by_cases e : it l j = from_
  · have hn : at_ < from_ + (decU (l.drop from_)).2 := by rw [← e]; exact j2
    rw [if_pos hn, e]
  · have hlt : from_ < it l j := by omega
    have jt : tl (l[it l j]'(by omega)) = true := ht _ (by omega) hlt j1
    have one : (decU (l.drop (it l j))).2 = 1 := tail_one (hb.drop _) (by rw [List.length_drop]; omega) (by rw [List.getElem_drop]; simpa using jt)
    have hat : it l j = at_ := by unfold it at j2; omega
    have hn : ¬ at_ < from_ + (decU (l.drop from_)).2 := by
      intro q
      rcases hs with q0 | q0 | q0
      · subst q0
        have e1 : it l 1 = (decU (l.drop 0)).2 := by simp [it]
        have : at_ < it l 1 := by rw [e1]; omega
        have h3 : j < 1 := by
          rcases Nat.lt_or_ge j 1 with z | z
          · exact z
          · have := it_mono (l := l) z; omega
        obtain rfl : j = 0 := by omega
        exact e rfl
      · -- the rune would have four bytes, its last one at the place, which begins one
        by_cases tf : tl (l[from_]'(by omega)) = true
        · have := tail_one (hb.drop from_) (by rw [List.length_drop]; omega) (by rw [List.getElem_drop]; simpa using tf)
          omega
        · obtain ⟨i, hi⟩ := head_st hb (p := from_) (by omega) (by simpa using tf)
          have : at_ < it l (i + 1) := by show at_ < it l i + _; rw [hi]; exact q
          have h3 : j < i + 1 := by
            rcases Nat.lt_or_ge j (i + 1) with z | z
            · exact z
            · have := it_mono (l := l) z; omega
          have := it_mono (l := l) (show j ≤ i by omega)
          omega
      · obtain ⟨i, hi⟩ := head_st hb (p := from_) (by omega) (q0 (by omega))
        have : at_ < it l (i + 1) := by show at_ < it l i + _; rw [hi]; exact q
        have h3 : j < i + 1 := by
          rcases Nat.lt_or_ge j (i + 1) with z | z
          · exact z
          · have := it_mono (l := l) z; omega
        have := it_mono (l := l) (show j ≤ i by omega)
        omega
    rw [if_neg hn, hat]
end Go.Proofs.YtimplngemjdodaaDoor
