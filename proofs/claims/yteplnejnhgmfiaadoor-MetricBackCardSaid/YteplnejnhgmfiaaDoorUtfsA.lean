/- utf: runes' bytes as plain mathematics: which bytes a rune has, with which rune bytes begin, and where runes begin. utf: rows of numbers in memory: read, cut, appended to, made a string. utf: the document's own Encode; Few; Ints: by contract. utf: the program's small functions, and the library's count of leading zeros: by contract. utf: the first byte of a rune: by contract. utf: the program's Decode, by contract. utf: the document's own Decode, by contract. utf: where runes begin, told by the program and by the document: by contract. utf: how many runes there are, whether all are valid, and the places around any place: the program's functions by contract. -/
import Derived.Test.YteplnejnhgmfiaaDoorLater
import Derived.Test.YteplnejnhgmfiaaDoorNums
import Derived.Test.YteplnejnhgmfiaaDoorRows
import Derived.Laws.BytesArg
import Derived.Deep.Upon
import Derived.BigQuiet
import Derived.Lib.AppendZeros
import Derived.Deep.OwnRows
import Derived.Test.YteplnejnhgmfiaaDoorChecked
import Derived.Deep.LoopGhost
import Derived.Deep.DeepCutAuto
import Derived.Deep.CutBlock
import Derived.Laws.BitsAll
import Derived.Test.YteplnejnhgmfiaaDoorFree
namespace Go.Proofs.YteplnejnhgmfiaaDoor
set_option linter.unusedSimpArgs false
set_option linter.unusedVariables false
set_option linter.unusedSectionVars false
open Go.RowKit

def tl (c : Int) : Bool := decide (128 ≤ c ∧ c ≤ 191)
def goodR (r : Int) : Bool := decide (0 ≤ r ∧ r ≤ 1114111 ∧ ¬ (55296 ≤ r ∧ r ≤ 57343))
def encN (n : Int) : List Int :=
  if n < 128 then [n] else if n < 2048 then [192 + n / 64, 128 + n % 64] else if n < 65536 then [224 + n / 4096, 128 + n / 64 % 64, 128 + n % 64]
  else [240 + n / 262144, 128 + n / 4096 % 64, 128 + n / 64 % 64, 128 + n % 64]
def fixR (r : Int) : Int := if goodR r = true then r else 65533
def encU (r : Int) : List Int := encN (fixR r)
def Bytes (l : List Int) : Prop := ∀ c ∈ l, 0 ≤ c ∧ c ≤ 255
def v2 (a b : Int) : Int := (a - 192) * 64 + (b - 128)
def v3 (a b c : Int) : Int := (a - 224) * 4096 + (b - 128) * 64 + (c - 128)
def v4 (a b c d : Int) : Int := (a - 240) * 262144 + (b - 128) * 4096 + (c - 128) * 64 + (d - 128)
def dec4 (n : Nat) (a b c d : Int) : Int × Nat :=
  if n = 0 then (0, 0) else if a < 128 then (a, 1)
  else if 2 ≤ n ∧ 194 ≤ a ∧ a ≤ 223 ∧ 128 ≤ b ∧ b ≤ 191 then (v2 a b, 2)
  else if 3 ≤ n ∧ 224 ≤ a ∧ a ≤ 239 ∧ 128 ≤ b ∧ b ≤ 191 ∧ 128 ≤ c ∧ c ≤ 191 ∧ 2048 ≤ v3 a b c ∧ ¬ (55296 ≤ v3 a b c ∧ v3 a b c ≤ 57343) then (v3 a b c, 3)
  else if 4 ≤ n ∧ 240 ≤ a ∧ a ≤ 247 ∧ 128 ≤ b ∧ b ≤ 191 ∧ 128 ≤ c ∧ c ≤ 191 ∧ 128 ≤ d ∧ d ≤ 191 ∧ 65536 ≤ v4 a b c d ∧ v4 a b c d ≤ 1114111 then (v4 a b c d, 4)
  else (65533, 1)
def decU (l : List Int) : Int × Nat := dec4 l.length (l.getD 0 0) (l.getD 1 0) (l.getD 2 0) (l.getD 3 0)
theorem goodR_in {r : Int} (h : goodR r = true) : 0 ≤ r ∧ r ≤ 1114111 ∧ ¬ (55296 ≤ r ∧ r ≤ 57343) := of_decide_eq_true h
theorem fixR_good (r : Int) : goodR (fixR r) = true := by
  unfold fixR
  split
  · assumption
  · decide
theorem fixR_of {r : Int} (h : goodR r = true) : fixR r = r := if_pos h
theorem encU_of {r : Int} (h : goodR r = true) : encU r = encN r := by unfold encU; rw [fixR_of h]
/-- the shapes of a good rune's bytes -/
theorem encN_shape {r : Int} (h : goodR r = true) :
    (r < 128 ∧ encN r = [r]) ∨
    (∃ a b, encN r = [a, b] ∧ 194 ≤ a ∧ a ≤ 223 ∧ 128 ≤ b ∧ b ≤ 191 ∧ r = v2 a b) ∨
    (∃ a b c, encN r = [a, b, c] ∧ 224 ≤ a ∧ a ≤ 239 ∧ 128 ≤ b ∧ b ≤ 191 ∧ 128 ≤ c ∧ c ≤ 191 ∧ 2048 ≤ v3 a b c ∧ ¬ (55296 ≤ v3 a b c ∧ v3 a b c ≤ 57343) ∧ r = v3 a b c) ∨
    (∃ a b c d, encN r = [a, b, c, d] ∧ 240 ≤ a ∧ a ≤ 247 ∧ 128 ≤ b ∧ b ≤ 191 ∧ 128 ≤ c ∧ c ≤ 191 ∧ 128 ≤ d ∧ d ≤ 191 ∧ 65536 ≤ v4 a b c d ∧ v4 a b c d ≤ 1114111 ∧ r = v4 a b c d) := by
  obtain ⟨h1, h2, h3⟩ := goodR_in h
  unfold encN v2 v3 v4
  by_cases q1 : r < 128
  · left; exact ⟨q1, if_pos q1⟩
  · rw [if_neg q1]
    by_cases q2 : r < 2048
    · right; left; rw [if_pos q2]; exact ⟨_, _, rfl, by omega, by omega, by omega, by omega, by omega⟩
    · rw [if_neg q2]
      by_cases q3 : r < 65536
      · right; right; left; rw [if_pos q3]; exact ⟨_, _, _, rfl, by omega, by omega, by omega, by omega, by omega, by omega, by omega, by omega, by omega⟩
      · right; right; right; rw [if_neg q3]; exact ⟨_, _, _, _, rfl, by omega, by omega, by omega, by omega, by omega, by omega, by omega, by omega, by omega, by omega, by omega⟩
theorem encN_2 {a b : Int} (h1 : 194 ≤ a) (h2 : a ≤ 223) (h3 : 128 ≤ b) (h4 : b ≤ 191) : encN (v2 a b) = [a, b] ∧ goodR (v2 a b) = true := by
  unfold encN v2 goodR
  rw [if_neg (by omega), if_pos (by omega)]
  refine ⟨?_, decide_eq_true (by omega)⟩
  congr 1
  · omega
  · congr 1; omega
theorem encN_3 {a b c : Int} (h1 : 224 ≤ a) (h2 : a ≤ 239) (h3 : 128 ≤ b) (h4 : b ≤ 191) (h5 : 128 ≤ c) (h6 : c ≤ 191) (h7 : 2048 ≤ v3 a b c) (h8 : ¬ (55296 ≤ v3 a b c ∧ v3 a b c ≤ 57343)) : encN (v3 a b c) = [a, b, c] ∧ goodR (v3 a b c) = true := by
  unfold v3 at h7 h8
  unfold encN v3 goodR
  rw [if_neg (by omega), if_neg (by omega), if_pos (by omega)]
  refine ⟨?_, decide_eq_true (by omega)⟩
  congr 1
  · omega
  · congr 1
    · omega
    · congr 1; omega
theorem encN_4 {a b c d : Int} (h1 : 240 ≤ a) (h2 : a ≤ 247) (h3 : 128 ≤ b) (h4 : b ≤ 191) (h5 : 128 ≤ c) (h6 : c ≤ 191) (hd : 128 ≤ d) (he : d ≤ 191) (h7 : 65536 ≤ v4 a b c d) (h8 : v4 a b c d ≤ 1114111) : encN (v4 a b c d) = [a, b, c, d] ∧ goodR (v4 a b c d) = true := by
  unfold v4 at h7 h8
  unfold encN v4 goodR
  rw [if_neg (by omega), if_neg (by omega), if_neg (by omega)]
  refine ⟨?_, decide_eq_true (by omega)⟩
  congr 1
  · omega
  · congr 1
    · omega
    · congr 1
      · omega
      · congr 1; omega
theorem encN_len {r : Int} (h : goodR r = true) : 1 ≤ (encN r).length ∧ (encN r).length ≤ 4 := by
  rcases encN_shape h with ⟨_, e⟩ | ⟨a, b, e, _⟩ | ⟨a, b, c, e, _⟩ | ⟨a, b, c, d, e, _⟩ <;> rw [e] <;> simp
theorem encN_bytes {r : Int} (h : goodR r = true) : Bytes (encN r) := by
  have := goodR_in h
  rcases encN_shape h with ⟨_, e⟩ | ⟨a, b, e, _⟩ | ⟨a, b, c, e, _⟩ | ⟨a, b, c, d, e, _⟩ <;> rw [e] <;> intro x hx <;> simp only [List.mem_cons, List.not_mem_nil, or_false] at hx
  · omega
  · rcases hx with rfl | rfl <;> omega
  · rcases hx with rfl | rfl | rfl <;> omega
  · rcases hx with rfl | rfl | rfl | rfl <;> omega
theorem encU_bytes (r : Int) : Bytes (encU r) := encN_bytes (fixR_good r)
theorem encU_len (r : Int) : 1 ≤ (encU r).length ∧ (encU r).length ≤ 4 := encN_len (fixR_good r)
/-- a good rune comes back, whatever stands behind -/
theorem dec_enc {r : Int} (h : goodR r = true) (rest : List Int) : decU (encN r ++ rest) = (r, (encN r).length) := by
  rcases encN_shape h with ⟨h1, e⟩ | ⟨a, b, e, h1, h2, h3, h4, h5⟩ | ⟨a, b, c, e, h1, h2, h3, h4, h5, h6, h7, h8, h9⟩ | ⟨a, b, c, d, e, h1, h2, h3, h4, h5, h6, h7, h8, h9, ha, hb⟩ <;> rw [e] <;> unfold decU <;> simp only [List.cons_append, List.nil_append, List.length_cons, List.getD_cons_zero, List.getD_cons_succ, List.length_nil]
  · unfold dec4; rw [if_neg (by omega), if_pos h1]
  · unfold dec4; rw [if_neg (by omega), if_neg (by omega), if_pos ⟨by omega, h1, h2, h3, h4⟩, h5]
  · unfold dec4; rw [if_neg (by omega), if_neg (by omega), if_neg (by omega), if_pos ⟨by omega, h1, h2, h3, h4, h5, h6, h7, h8⟩, h9]
  · unfold dec4; rw [if_neg (by omega), if_neg (by omega), if_neg (by omega), if_neg (by omega), if_pos ⟨by omega, h1, h2, h3, h4, h5, h6, h7, h8, h9, ha⟩, hb]
/-- what is told of bytes: none, a good rune, or none that is good -/
theorem dec_cases (l : List Int) (hb : Bytes l) : (l = [] ∧ decU l = (0, 0)) ∨ (∃ r rest, goodR r = true ∧ l = encN r ++ rest ∧ decU l = (r, (encN r).length)) ∨ (l ≠ [] ∧ decU l = (65533, 1)) := by
  match l, hb with
  | [], _ => left; exact ⟨rfl, rfl⟩
  | a :: t, hb =>
    right
    have ha := hb a (by simp)
    unfold decU dec4
    rw [if_neg (by simp)]
    simp only [List.getD_cons_zero, List.getD_cons_succ]
    by_cases q1 : a < 128
    · left
      rw [if_pos q1]
      refine ⟨a, t, decide_eq_true (by omega), ?_, ?_⟩
      · unfold encN; rw [if_pos q1]; rfl
      · unfold encN; rw [if_pos q1]; rfl
    · rw [if_neg q1]
      split
      · rename_i h
        left
        obtain ⟨n1, h1, h2, h3, h4⟩ := h
        match t, n1, h3, h4 with
        | b :: t, _, h3, h4 =>
          obtain ⟨e, g⟩ := encN_2 h1 h2 h3 h4
          refine ⟨_, t, g, ?_, ?_⟩
          · simp only [List.getD_cons_zero] at e ⊢; rw [e]; rfl
          · simp only [List.getD_cons_zero] at e ⊢; rw [e]; rfl
      · split
        · rename_i h
          left
          obtain ⟨n1, h1, h2, h3, h4, h5, h6, h7, h8⟩ := h
          match t, n1, h3, h4, h5, h6, h7, h8 with
          | b :: c :: t, _, h3, h4, h5, h6, h7, h8 =>
            obtain ⟨e, g⟩ := encN_3 h1 h2 h3 h4 h5 h6 h7 h8
            refine ⟨_, t, g, ?_, ?_⟩
            · simp only [List.getD_cons_zero, List.getD_cons_succ] at e ⊢; rw [e]; rfl
            · simp only [List.getD_cons_zero, List.getD_cons_succ] at e ⊢; rw [e]; rfl
        · split
          · rename_i h
            left
            obtain ⟨n1, h1, h2, h3, h4, h5, h6, h7, h8, h9, hz⟩ := h
            match t, n1, h3, h4, h5, h6, h7, h8, h9, hz with
            | b :: c :: d :: t, _, h3, h4, h5, h6, h7, h8, h9, hz =>
              obtain ⟨e, g⟩ := encN_4 h1 h2 h3 h4 h5 h6 h7 h8 h9 hz
              refine ⟨_, t, g, ?_, ?_⟩
              · simp only [List.getD_cons_zero, List.getD_cons_succ] at e ⊢; rw [e]; rfl
              · simp only [List.getD_cons_zero, List.getD_cons_succ] at e ⊢; rw [e]; rfl
          · right; exact ⟨by simp, rfl⟩
/-- where a good rune stands, it is told -/
theorem dec_of {l : List Int} {r : Int} {n : Nat} (h : goodR r = true) (hl : l.take n = encN r) (hn : (encN r).length = n) : decU l = (r, n) := by
  have := dec_enc h (l.drop n)
  rw [← hl, List.take_append_drop, hl, hn] at this
  exact this
theorem dec_len {l : List Int} (hb : Bytes l) : (decU l).2 ≤ l.length ∧ (l ≠ [] → 1 ≤ (decU l).2) ∧ (decU l).2 ≤ 4 := by
  rcases dec_cases l hb with ⟨rfl, e⟩ | ⟨r, rest, hg, rfl, e⟩ | ⟨hn, e⟩
  · rw [e]; simp
  · rw [e]
    have := encN_len hg
    simp only [List.length_append]
    refine ⟨by omega, fun _ => this.1, this.2⟩
  · rw [e]
    have := List.length_pos_iff.2 hn
    exact ⟨by omega, fun _ => Nat.le_refl _, by decide⟩
theorem dec_rune {l : List Int} (hb : Bytes l) : 0 ≤ (decU l).1 ∧ (decU l).1 ≤ 1114111 := by
  rcases dec_cases l hb with ⟨rfl, e⟩ | ⟨r, rest, hg, rfl, e⟩ | ⟨hn, e⟩
  · rw [e]; decide
  · rw [e]; have := goodR_in hg; exact ⟨this.1, this.2.1⟩
  · rw [e]; decide
/-- is the rune with which bytes begin one that is none? -/
def badU (l : List Int) : Bool := decide ((decU l).1 = 65533 ∧ (decU l).2 = 1)
theorem badU_good {r : Int} (h : goodR r = true) (rest : List Int) : badU (encN r ++ rest) = false := by
  unfold badU
  rw [dec_enc h]
  apply decide_eq_false
  rintro ⟨rfl, h2⟩
  revert h2
  decide
/-! ### bytes that are runes' tails -/
theorem enc_tails {r : Int} (h : goodR r = true) {i : Nat} (h0 : 0 < i) (hi : i < (encN r).length) : tl (encN r)[i] = true := by
  rcases encN_shape h with ⟨_, e⟩ | ⟨a, b, e, h1, h2, h3, h4, h5⟩ | ⟨a, b, c, e, h1, h2, h3, h4, h5, h6, h7, h8, h9⟩ | ⟨a, b, c, d, e, h1, h2, h3, h4, h5, h6, h7, h8, h9, ha, hb⟩ <;> simp only [e, List.length_cons, List.length_nil] at hi ⊢ <;> unfold tl
  · omega
  · obtain rfl : i = 1 := by omega
    exact decide_eq_true ⟨h3, h4⟩
  · have : i = 1 ∨ i = 2 := by omega
    rcases this with rfl | rfl
    · exact decide_eq_true ⟨h3, h4⟩
    · exact decide_eq_true ⟨h5, h6⟩
  · have : i = 1 ∨ i = 2 ∨ i = 3 := by omega
    rcases this with rfl | rfl | rfl
    · exact decide_eq_true ⟨h3, h4⟩
    · exact decide_eq_true ⟨h5, h6⟩
    · exact decide_eq_true ⟨h7, h8⟩
theorem enc_head {r : Int} (h : goodR r = true) {i : Nat} (h0 : i = 0) (hi : i < (encN r).length) : tl (encN r)[i] = false := by
  subst h0
  rcases encN_shape h with ⟨h1, e⟩ | ⟨a, b, e, h1, h2, h3, h4, h5⟩ | ⟨a, b, c, e, h1, h2, h3, h4, h5, h6, h7, h8, h9⟩ | ⟨a, b, c, d, e, h1, h2, h3, h4, h5, h6, h7, h8, h9, ha, hb⟩ <;> simp only [e, List.getElem_cons_zero] <;> unfold tl <;> apply decide_eq_false <;> omega
/-- what lies within a rune is a tail -/
theorem in_tail {l : List Int} (hb : Bytes l) {i : Nat} (h0 : 0 < i) (hi : i < (decU l).2) (hl : i < l.length) : tl l[i] = true := by
  rcases dec_cases l hb with ⟨rfl, e⟩ | ⟨r, rest, hg, rfl, e⟩ | ⟨hn, e⟩
  · simp at hl
  · rw [e] at hi
    rw [List.getElem_append_left hi]
    exact enc_tails hg h0 hi
  · rw [e] at hi; simp only at hi; omega
/-- a tail begins no rune -/
theorem tail_one {l : List Int} (hb : Bytes l) (hl : 0 < l.length) (ht : tl l[0] = true) : (decU l).2 = 1 := by
  rcases dec_cases l hb with ⟨rfl, e⟩ | ⟨r, rest, hg, rfl, e⟩ | ⟨hn, e⟩
  · simp at hl
  · have := encN_len hg
    rw [List.getElem_append_left (by omega), enc_head hg rfl] at ht
    cases ht
  · rw [e]
theorem Bytes.drop {l : List Int} (h : Bytes l) (n : Nat) : Bytes (l.drop n) := fun c hc => h c (List.mem_of_mem_drop hc)
theorem Bytes.take {l : List Int} (h : Bytes l) (n : Nat) : Bytes (l.take n) := fun c hc => h c (List.mem_of_mem_take hc)
theorem Bytes.append {l m : List Int} (h : Bytes l) (k : Bytes m) : Bytes (l ++ m) := fun c hc => by
  rcases List.mem_append.1 hc with h1 | h1
  · exact h c h1
  · exact k c h1
theorem Bytes.nil : Bytes [] := fun c hc => by cases hc
theorem Bytes.get {l : List Int} (h : Bytes l) {i : Nat} (hi : i < l.length) : 0 ≤ l[i] ∧ l[i] ≤ 255 := h _ (List.getElem_mem hi)

/-! ### where runes begin -/
def it (l : List Int) : Nat → Nat
  | 0 => 0
  | j + 1 => it l j + (decU (l.drop (it l j))).2
theorem it_le {l : List Int} (hb : Bytes l) : ∀ j, it l j ≤ l.length
  | 0 => Nat.zero_le _
  | j + 1 => by
    have h1 := it_le hb j
    have h2 := (dec_len (hb.drop (it l j))).1
    rw [List.length_drop] at h2
    unfold it
    omega
theorem it_step {l : List Int} (hb : Bytes l) {j : Nat} (h : it l j < l.length) : it l j < it l (j + 1) ∧ it l (j + 1) ≤ it l j + 4 := by
  have h2 := dec_len (hb.drop (it l j))
  have := h2.2.1 (by intro e; have := congrArg List.length e; rw [List.length_drop] at this; simp at this; omega)
  show it l j < it l j + _ ∧ it l j + _ ≤ _
  omega
theorem it_mono {l : List Int} : ∀ {i j : Nat}, i ≤ j → it l i ≤ it l j
  | i, 0, h => by obtain rfl : i = 0 := by omega
                  exact Nat.le_refl _
  | i, j + 1, h => by
    by_cases e : i = j + 1
    · subst e; exact Nat.le_refl _
    · have := it_mono (l := l) (show i ≤ j by omega)
      show it l i ≤ it l j + (decU (l.drop (it l j))).2
      omega
theorem it_ge {l : List Int} (hb : Bytes l) : ∀ j, j ≤ it l j ∨ it l j = l.length
  | 0 => .inl (Nat.zero_le _)
  | j + 1 => by
    by_cases e : it l j < l.length
    · have := it_step hb e
      rcases it_ge hb j with h | h
      · left; omega
      · omega
    · right
      have h1 := it_le hb j
      have h2 := it_le hb (j + 1)
      have h3 := it_mono (l := l) (show j ≤ j + 1 by omega)
      omega
/-- l has c runes -/
structure Cnt (l : List Int) (c : Nat) : Prop where
  fin : it l c = l.length
  lt : ∀ j, j < c → it l j < l.length
theorem cnt_to (l : List Int) : ∀ n, (∃ c, c ≤ n ∧ Cnt l c) ∨ ∀ j, j ≤ n → it l j ≠ l.length
  | 0 => by
    by_cases e : it l 0 = l.length
    · exact .inl ⟨0, Nat.le_refl _, e, fun j hj => by omega⟩
    · exact .inr fun j hj => by obtain rfl : j = 0 := by omega
                                exact e
  | n + 1 => by
    rcases cnt_to l n with ⟨c, h1, h2⟩ | h
    · exact .inl ⟨c, by omega, h2⟩
    · by_cases e : it l (n + 1) = l.length
      · refine .inl ⟨n + 1, Nat.le_refl _, e, fun j hj => ?_⟩
        have h1 := h j (by omega)
        have h2 := it_mono (l := l) (show j ≤ n + 1 by omega)
        omega
      · refine .inr fun j hj => ?_
        by_cases e2 : j = n + 1
        · subst e2; exact e
        · exact h j (by omega)
theorem cnt_ex {l : List Int} (hb : Bytes l) : ∃ c, Cnt l c ∧ c ≤ l.length := by
  rcases cnt_to l l.length with ⟨c, h1, h2⟩ | h
  · exact ⟨c, h2, h1⟩
  · have h1 := h l.length (Nat.le_refl _)
    rcases it_ge hb l.length with h2 | h2
    · have := it_le hb l.length; omega
    · exact absurd h2 h1
theorem Cnt.uniq {l : List Int} {c d : Nat} (h : Cnt l c) (k : Cnt l d) : c = d := by
  rcases Nat.lt_trichotomy c d with e | e | e
  · have := k.lt c e; have := h.fin; omega
  · exact e
  · have := h.lt d e; have := k.fin; omega
theorem Cnt.end_iff {l : List Int} {c j : Nat} (h : Cnt l c) (hj : j ≤ c) : it l j < l.length ↔ j < c := by
  constructor
  · intro q
    rcases Nat.lt_or_ge j c with e | e
    · exact e
    · obtain rfl : j = c := by omega
      have := h.fin; omega
  · exact h.lt j
theorem Cnt.le {l : List Int} {c : Nat} (hb : Bytes l) (h : Cnt l c) : c ≤ l.length := by
  obtain ⟨d, h1, h2⟩ := cnt_ex hb
  rw [h.uniq h1]; exact h2
/-- the places at which runes begin, and at last how many bytes there are -/
def stU (l : List Int) (c : Nat) : List Int := (List.range (c + 1)).map fun j => (it l j : Int)
theorem stU_len (l : List Int) (c : Nat) : (stU l c).length = c + 1 := by simp [stU]
theorem stU_get (l : List Int) (c : Nat) {j : Nat} (h : j < (stU l c).length) : (stU l c)[j] = (it l j : Int) := by simp [stU]
theorem stU_zero (l : List Int) : stU l 0 = [0] := by simp [stU, it]
theorem stU_succ (l : List Int) (c : Nat) : stU l (c + 1) = stU l c ++ [(it l (c + 1) : Int)] := by
  unfold stU
  rw [List.range_succ, List.map_append]
  rfl
/-- a place at which a rune begins, or the end -/
def IsSt (l : List Int) (p : Nat) : Prop := ∃ j, it l j = p
/-- each place lies at or behind one at which a rune begins, and ahead of the next one -/
theorem st_about {l : List Int} (hb : Bytes l) : ∀ p, p < l.length → ∃ j, it l j ≤ p ∧ p < it l (j + 1)
  | 0, h => ⟨0, Nat.le_refl _, by have := it_step hb (j := 0) h; exact Nat.lt_of_le_of_lt (Nat.zero_le _) this.1⟩
  | p + 1, h => by
    obtain ⟨j, h1, h2⟩ := st_about hb p (by omega)
    by_cases e : p + 1 < it l (j + 1)
    · exact ⟨j, by omega, e⟩
    · have e2 : it l (j + 1) = p + 1 := by omega
      exact ⟨j + 1, by omega, by have := it_step hb (j := j + 1) (by omega); omega⟩
/-- what is no tail begins a rune -/
theorem head_st {l : List Int} (hb : Bytes l) {p : Nat} (h : p < l.length) (ht : tl l[p] = false) : IsSt l p := by
  obtain ⟨j, h1, h2⟩ := st_about hb p h
  by_cases e : it l j = p
  · exact ⟨j, e⟩
  · exfalso
    have h3 : p - it l j < (decU (l.drop (it l j))).2 := by show _ < _; unfold it at h2; omega
    have := in_tail (hb.drop (it l j)) (i := p - it l j) (by omega) h3 (by rw [List.length_drop]; omega)
    rw [List.getElem_drop] at this
    have e2 : it l j + (p - it l j) = p := by omega
    simp only [e2] at this
    rw [this] at ht
    cases ht
theorem within_tail {l : List Int} (hb : Bytes l) {j p : Nat} (h : p < l.length) (h1 : it l j < p) (h2 : p < it l (j + 1)) : tl l[p] = true := by
  have h3 : p - it l j < (decU (l.drop (it l j))).2 := by show _ < _; unfold it at h2; omega
  have := in_tail (hb.drop (it l j)) (i := p - it l j) (by omega) h3 (by rw [List.length_drop]; omega)
  rw [List.getElem_drop] at this
  have e2 : it l j + (p - it l j) = p := by omega
  simpa only [e2] using this
/-- what looking back comes to -/
theorem snap_back {l : List Int} (hb : Bytes l) {at_ from_ : Nat} (h : at_ < l.length) (h1 : from_ ≤ at_) (h2 : at_ ≤ from_ + 3) (ht : ∀ (q : Nat) (hq : q < l.length), from_ < q → q ≤ at_ → tl l[q] = true)
    (hs : from_ = 0 ∨ at_ = from_ + 3 ∨ ∀ (hq : from_ < l.length), tl l[from_] = false) {j : Nat} (j1 : it l j ≤ at_) (j2 : at_ < it l (j + 1)) :
    it l j = if at_ < from_ + (decU (l.drop from_)).2 then from_ else at_ := by
  have jl := it_step hb (j := j) (by omega)
  -- it is not behind the place
  have k1 : from_ ≤ it l j := by
    rcases hs with e | e | e
    · omega
    · omega
    · have hst := head_st hb (p := from_) (by omega) (e (by omega))
      obtain ⟨i, hi⟩ := hst
      by_cases q : i ≤ j
      · rw [← hi]; exact it_mono q
      · have := it_mono (l := l) (show j + 1 ≤ i by omega)
        omega
  by_cases e : it l j = from_
  · have hn : at_ < from_ + (decU (l.drop from_)).2 := by rw [← e]; exact j2
    rw [if_pos hn, e]
  · have hlt : from_ < it l j := by omega
    have jt : tl (l[it l j]'(by omega)) = true := ht _ (by omega) hlt j1
    have one : (decU (l.drop (it l j))).2 = 1 := tail_one (hb.drop _) (by rw [List.length_drop]; omega) (by rw [List.getElem_drop]; simpa using jt)
    have hat : it l j = at_ := by unfold it at j2; omega
    have hn : ¬ at_ < from_ + (decU (l.drop from_)).2 := by
      intro q
      rcases hs with q0 | q0 | q0
      · subst q0
        have e1 : it l 1 = (decU (l.drop 0)).2 := by simp [it]
        have : at_ < it l 1 := by rw [e1]; omega
        have h3 : j < 1 := by
          rcases Nat.lt_or_ge j 1 with z | z
          · exact z
          · have := it_mono (l := l) z; omega
        obtain rfl : j = 0 := by omega
        exact e rfl
      · -- the rune would have four bytes, its last one at the place, which begins one
        by_cases tf : tl (l[from_]'(by omega)) = true
        · have := tail_one (hb.drop from_) (by rw [List.length_drop]; omega) (by rw [List.getElem_drop]; simpa using tf)
          omega
        · obtain ⟨i, hi⟩ := head_st hb (p := from_) (by omega) (by simpa using tf)
          have : at_ < it l (i + 1) := by show at_ < it l i + _; rw [hi]; exact q
          have h3 : j < i + 1 := by
            rcases Nat.lt_or_ge j (i + 1) with z | z
            · exact z
            · have := it_mono (l := l) z; omega
          have := it_mono (l := l) (show j ≤ i by omega)
          omega
      · obtain ⟨i, hi⟩ := head_st hb (p := from_) (by omega) (q0 (by omega))
        have : at_ < it l (i + 1) := by show at_ < it l i + _; rw [hi]; exact q
        have h3 : j < i + 1 := by
          rcases Nat.lt_or_ge j (i + 1) with z | z
          · exact z
          · have := it_mono (l := l) z; omega
        have := it_mono (l := l) (show j ≤ i by omega)
        omega
    rw [if_neg hn, hat]
end Go.Proofs.YteplnejnhgmfiaaDoor
namespace Go.Proofs.YteplnejnhgmfiaaDoor
set_option linter.unusedSimpArgs false
set_option linter.unusedVariables false
set_option linter.unusedSectionVars false
open Go.RowKit

abbrev RU8 := RN .u8
set_option maxRecDepth 100000 in
/-- v[n:], whatever the world -/
theorem RN.cut {w : World} {v : Value} {l : List Int} (h : RU8 w v l) (n : Nat) (hn : n ≤ l.length) : ∃ u, RU8 w u (l.drop n) ∧ ∀ w', (Instr.sliceAt 22 v (some (.int .i64 (n : Int))) none none).run Tryd.prog w' = .ok u w' := by
  obtain ⟨A, cap, rfl, h2, h3⟩ := h
  refine ⟨_, RN.drop ⟨A, cap, rfl, h2, h3⟩ n hn, fun w' => ?_⟩
  rw [run_sliceAt_slice w' _ _ _ _ _ Tryd.underlying22, run_slice_l w' _ A l.length cap Tryd.underlying22 .i64 (n : Int) (by omega) (by omega)]
  have hz : ∀ w, (Go.sizeOf (Tryd.prog.elem 22)).run Tryd.prog w = .ok 1 w := fun w => by simp [go_sem]
  rw [hz]
  simp [Result.andThen, sliced]
set_option maxRecDepth 100000 in
/-- v[:n], whatever the world -/
theorem RN.upto {w : World} {v : Value} {l : List Int} (h : RU8 w v l) (n : Nat) (hn : n ≤ l.length) : ∃ A cap, RU8 w (.slice A n cap) (l.take n) ∧ ∀ w', (Instr.sliceAt 22 v none (some (.int .i64 (n : Int))) none).run Tryd.prog w' = .ok (.slice A n cap) w' := by
  obtain ⟨A, cap, rfl, h2, h3⟩ := h
  have hz : ∀ w, (Go.sizeOf (Tryd.prog.elem 22)).run Tryd.prog w = .ok 1 w := fun w => by simp [go_sem]
  have key : ∀ w', (Instr.sliceAt 22 (.slice A l.length cap) none (some (.int .i64 (n : Int))) none).run Tryd.prog w' = .ok (.slice (if cap = 0 then A else A.map (fun x => x.add 0)) n cap) w' := fun w' => by
    rw [run_sliceAt_slice w' _ _ _ _ _ Tryd.underlying22, run_slice_h w' _ A l.length cap Tryd.underlying22 .i64 (n : Int) (by omega) (by omega)]
    rw [hz]
    simp [Result.andThen, sliced]
  have eA : (if cap = 0 then A else A.map (fun x => x.add 0)) = A := by
    split
    · rfl
    · cases A with
      | none => rfl
      | some a => simp [Addr.add]
  rw [eA] at key
  exact ⟨A, cap, RN.take ⟨A, cap, rfl, h2, h3⟩ n hn, key⟩
/-- string(v) -/
theorem RN.str {w : World} {v : Value} {l : List Int} (h : RU8 w v l) : (convert 22 9 v).run Tryd.prog w = .ok (.string (strOfNums l)) w := by
  obtain ⟨A, cap, rfl, h2, h3⟩ := h
  cases A with
  | none =>
    have h0 : l = [] := by
      cases l with
      | nil => rfl
      | cons x t => obtain ⟨b, off, e, _⟩ := h3 (by simp); cases e
    subst h0
    exact run_convert_bytes_nil w 22 5 Tryd.underlying22 Tryd.underlying5 _ _ 9 Tryd.underlying9
  | some a =>
    by_cases h0 : 0 < l.length
    · obtain ⟨b, off, e, hb, hc⟩ := h3 h0
      cases e
      exact run_convert_bytes_arg w 22 5 Tryd.underlying22 Tryd.underlying5 b off l.length cap l rfl (fun i hi => by rw [hc i hi]; simp [List.getD_eq_getElem?_getD, hi]) 9 Tryd.underlying9
    · obtain rfl := List.eq_nil_of_length_eq_zero (Nat.eq_zero_of_not_pos h0)
      have hl : (loadCells a 0).run Tryd.prog w = .ok (([] : List Int).map (Value.int .u8)).toArray w := by
        have := run_loadCells_list (P := Tryd.prog) w a [] (fun j v hj => by simp at hj)
        simpa using this
      rw [run_convert_bytes_string w 22 9 5 (some a) _ cap Tryd.underlying22 Tryd.underlying5 Tryd.underlying9]
      exact run_bytesToString w a 0 cap [] hl
theorem ofNat_inj {x y : Int} (h1 : 0 ≤ x ∧ x ≤ 255) (h2 : 0 ≤ y ∧ y ≤ 255) (h : UInt8.ofNat x.toNat = UInt8.ofNat y.toNat) : x = y := by
  have := congrArg UInt8.toNat h
  simp only [UInt8.toNat_ofNat'] at this
  omega
theorem map_u8_inj : ∀ {a b : List Int}, Bytes a → Bytes b → (a.map fun n => UInt8.ofNat n.toNat) = (b.map fun n => UInt8.ofNat n.toNat) → a = b
  | [], [], _, _, _ => rfl
  | [], y :: b, _, _, h => by simp at h
  | x :: a, [], _, _, h => by simp at h
  | x :: a, y :: b, ha, hb, h => by
    simp only [List.map_cons, List.cons.injEq] at h
    rw [ofNat_inj (ha x (by simp)) (hb y (by simp)) h.1, map_u8_inj (fun c hc => ha c (by simp [hc])) (fun c hc => hb c (by simp [hc])) h.2]
/-- strings of bytes are the same if the bytes are -/
theorem str_eq {a b : List Int} (ha : Bytes a) (hb : Bytes b) : ((strOfNums a).toList == (strOfNums b).toList) = decide (a = b) := by
  rw [ByteArray.toList_eq, ByteArray.toList_eq, strOfNums_data, strOfNums_data, Bool.eq_iff_iff, beq_iff_eq, decide_eq_true_eq]
  exact ⟨map_u8_inj ha hb, fun h => by rw [h]⟩

theorem info_u8 : (Tryd.prog.info? 5).map (fun i => (i.zero, i.size, i.bytes)) = some (some (.int .u8 0), 1, 1) := by kernel_rfl
/-- append([]byte{}, v...): a row of the call's own -/
theorem copy8 {w : World} {v : Value} {l : List Int} (hr : RU8 w v l) (hl : l.length ≤ 90000) :
    ∃ u w2, (Builtin.append_ #[22, 22] 22 #[.slice (some ⟨w.heap.size, 0, none⟩) 0 0, v]).run Tryd.prog (w.alloc (.cells #[] 5)) = .ok u w2 ∧ AnyLater w w2 ∧ ON .u8 5 w2 w.heap.size u l := by
  have a1 : AnyLater w (w.alloc (.cells #[] 5)) := (AnyLater.refl w).alloc _
  have ho : ON .u8 5 (w.alloc (.cells #[] 5)) w.heap.size (.slice (some ⟨w.heap.size, 0, none⟩) 0 0) [] := ON.empty (Nat.le_refl _) (heap_new rfl)
  obtain ⟨u, w2, k1, k2, k3⟩ := appN (s := 22) Tryd.underlying22 info_u8 (by decide) ho (hr.later a1) a1.below.size (by simp; omega)
  exact ⟨u, w2, k1, ON.grown ho (Nat.le_refl _) a1 k3, k2⟩
end Go.Proofs.YteplnejnhgmfiaaDoor
namespace Go.Proofs.YteplnejnhgmfiaaDoor
set_option linter.unusedSimpArgs false
set_option linter.unusedVariables false
set_option linter.unusedSectionVars false
open Go.RowKit

theorem ON.made {k : IntKind} {t : TypeId} {w : World} {g B : Nat} {l : List Int} {cs : Array Value} (n : Nat) (hl : l.length = n) (hB : B ≤ g) (h : w.heap[g]? = some (.cells cs t)) (hc : cs.toList = l.map (Value.int k)) (hn : n ≤ 1000) : ON k t w B (.slice (some ⟨g, 0, none⟩) n n) l := by
  subst hl
  have hs : cs.size = l.length := by have := congrArg List.length hc; simpa using this
  exact ⟨by simp, .inr ⟨g, l.length, cs, rfl, hB, h, Nat.le_refl _, by unfold maxLen; omega, by omega, by rw [hc, List.take_of_length_le (by simp)]⟩⟩
theorem encU_bad {r : Int} (h : goodR r = false) : encU r = [239, 191, 189] := by
  unfold encU fixR
  rw [if_neg (by rw [h]; decide)]
  decide
theorem encU_good {r : Int} (h : 0 ≤ r ∧ r ≤ 1114111 ∧ ¬ (55296 ≤ r ∧ r ≤ 57343)) : encU r = encN r := encU_of (decide_eq_true h)
theorem goodR_no {r : Int} (h : ¬ (0 ≤ r ∧ r ≤ 1114111 ∧ ¬ (55296 ≤ r ∧ r ≤ 57343))) : goodR r = false := decide_eq_false h
set_option maxRecDepth 100000 in
set_option maxHeartbeats 3200000 in
theorem refEnc_any (r : Int) (w : World) (hr : -2147483648 ≤ r ∧ r ≤ 2147483647) :
    Calls Tryd.prog 72 #[.int .i32 r] w fun e w' => ∃ u, e = .returned u ∧ AnyLater w w' ∧ ON .u8 5 w' w.heap.size u (encU r) := by
  obtain ⟨h1, h2⟩ := hr
  by_cases q1 : r < 0
  · have HE : Hid (encU r = [239, 191, 189]) := Lib.hid (encU_bad (goodR_no (by omega)))
    go_enter Tryd.func72, Tryd.ntmps72
    go_wp2_with fail
    go_ret
    exact ⟨_, rfl, by repeat' (first | with_reducible assumption | with_reducible exact AnyLater.refl _ | with_reducible apply AnyLater.setCell | with_reducible apply AnyLater.later | with_reducible apply AnyLater.drewN | with_reducible apply AnyLater.drew | with_reducible apply AnyLater.alloc | ((try simp only [World.size_alloc, World.size_setCell, World.size_drew]); (try dsimp only); omega)), by rw [HE.out]; exact ON.made 3 rfl (Nat.le_refl _) (heap_new rfl) rfl (by decide)⟩
  by_cases q2 : r > 1114111
  · have HE : Hid (encU r = [239, 191, 189]) := Lib.hid (encU_bad (goodR_no (by omega)))
    go_enter Tryd.func72, Tryd.ntmps72
    go_wp2_with fail
    go_ret
    exact ⟨_, rfl, by repeat' (first | with_reducible assumption | with_reducible exact AnyLater.refl _ | with_reducible apply AnyLater.setCell | with_reducible apply AnyLater.later | with_reducible apply AnyLater.drewN | with_reducible apply AnyLater.drew | with_reducible apply AnyLater.alloc | ((try simp only [World.size_alloc, World.size_setCell, World.size_drew]); (try dsimp only); omega)), by rw [HE.out]; exact ON.made 3 rfl (Nat.le_refl _) (heap_new rfl) rfl (by decide)⟩
  by_cases q3 : 55296 ≤ r
  · by_cases q4 : r ≤ 57343
    · have HE : Hid (encU r = [239, 191, 189]) := Lib.hid (encU_bad (goodR_no (by omega)))
      go_enter Tryd.func72, Tryd.ntmps72
      go_wp2_with fail
      go_ret
      exact ⟨_, rfl, by repeat' (first | with_reducible assumption | with_reducible exact AnyLater.refl _ | with_reducible apply AnyLater.setCell | with_reducible apply AnyLater.later | with_reducible apply AnyLater.drewN | with_reducible apply AnyLater.drew | with_reducible apply AnyLater.alloc | ((try simp only [World.size_alloc, World.size_setCell, World.size_drew]); (try dsimp only); omega)), by rw [HE.out]; exact ON.made 3 rfl (Nat.le_refl _) (heap_new rfl) rfl (by decide)⟩
    by_cases q5 : r < 65536
    · have HE : Hid (encU r = [224 + r / 4096, 128 + r / 64 % 64, 128 + r % 64]) := Lib.hid (by rw [encU_good (by omega)]; unfold encN; rw [if_neg (by omega), if_neg (by omega), if_pos (by omega)])
      go_enter Tryd.func72, Tryd.ntmps72
      go_wp2_with fail
      go_ret
      exact ⟨_, rfl, by repeat' (first | with_reducible assumption | with_reducible exact AnyLater.refl _ | with_reducible apply AnyLater.setCell | with_reducible apply AnyLater.later | with_reducible apply AnyLater.drewN | with_reducible apply AnyLater.drew | with_reducible apply AnyLater.alloc | ((try simp only [World.size_alloc, World.size_setCell, World.size_drew]); (try dsimp only); omega)), by rw [HE.out]; exact ON.made 3 rfl (Nat.le_refl _) (heap_new rfl) rfl (by decide)⟩
    · have HE : Hid (encU r = [240 + r / 262144, 128 + r / 4096 % 64, 128 + r / 64 % 64, 128 + r % 64]) := Lib.hid (by rw [encU_good (by omega)]; unfold encN; rw [if_neg (by omega), if_neg (by omega), if_neg (by omega)])
      go_enter Tryd.func72, Tryd.ntmps72
      go_wp2_with fail
      go_ret
      exact ⟨_, rfl, by repeat' (first | with_reducible assumption | with_reducible exact AnyLater.refl _ | with_reducible apply AnyLater.setCell | with_reducible apply AnyLater.later | with_reducible apply AnyLater.drewN | with_reducible apply AnyLater.drew | with_reducible apply AnyLater.alloc | ((try simp only [World.size_alloc, World.size_setCell, World.size_drew]); (try dsimp only); omega)), by rw [HE.out]; exact ON.made 4 rfl (Nat.le_refl _) (heap_new rfl) rfl (by decide)⟩
  by_cases q6 : r < 128
  · have HE : Hid (encU r = [r]) := Lib.hid (by rw [encU_good (by omega)]; unfold encN; rw [if_pos (by omega)])
    go_enter Tryd.func72, Tryd.ntmps72
    go_wp2_with fail
    go_ret
    exact ⟨_, rfl, by repeat' (first | with_reducible assumption | with_reducible exact AnyLater.refl _ | with_reducible apply AnyLater.setCell | with_reducible apply AnyLater.later | with_reducible apply AnyLater.drewN | with_reducible apply AnyLater.drew | with_reducible apply AnyLater.alloc | ((try simp only [World.size_alloc, World.size_setCell, World.size_drew]); (try dsimp only); omega)), by rw [HE.out]; exact ON.made 1 rfl (Nat.le_refl _) (heap_new rfl) rfl (by decide)⟩
  by_cases q7 : r < 2048
  · have HE : Hid (encU r = [192 + r / 64, 128 + r % 64]) := Lib.hid (by rw [encU_good (by omega)]; unfold encN; rw [if_neg (by omega), if_pos (by omega)])
    go_enter Tryd.func72, Tryd.ntmps72
    go_wp2_with fail
    go_ret
    exact ⟨_, rfl, by repeat' (first | with_reducible assumption | with_reducible exact AnyLater.refl _ | with_reducible apply AnyLater.setCell | with_reducible apply AnyLater.later | with_reducible apply AnyLater.drewN | with_reducible apply AnyLater.drew | with_reducible apply AnyLater.alloc | ((try simp only [World.size_alloc, World.size_setCell, World.size_drew]); (try dsimp only); omega)), by rw [HE.out]; exact ON.made 2 rfl (Nat.le_refl _) (heap_new rfl) rfl (by decide)⟩
  · have HE : Hid (encU r = [224 + r / 4096, 128 + r / 64 % 64, 128 + r % 64]) := Lib.hid (by rw [encU_good (by omega)]; unfold encN; rw [if_neg (by omega), if_neg (by omega), if_pos (by omega)])
    go_enter Tryd.func72, Tryd.ntmps72
    go_wp2_with fail
    go_ret
    exact ⟨_, rfl, by repeat' (first | with_reducible assumption | with_reducible exact AnyLater.refl _ | with_reducible apply AnyLater.setCell | with_reducible apply AnyLater.later | with_reducible apply AnyLater.drewN | with_reducible apply AnyLater.drew | with_reducible apply AnyLater.alloc | ((try simp only [World.size_alloc, World.size_setCell, World.size_drew]); (try dsimp only); omega)), by rw [HE.out]; exact ON.made 3 rfl (Nat.le_refl _) (heap_new rfl) rfl (by decide)⟩

/-! ### Few -/
set_option maxRecDepth 100000 in
set_option maxHeartbeats 3200000 in
theorem few8_any (v : Value) (l : List Int) (m : Nat) (w : World) (hv : RU8 w v l) (hm : m ≤ 1000) :
    Calls Tryd.prog 7 #[v, .int .i64 (m : Int)] w fun e w' => ∃ u, e = .returned u ∧ AnyLater w w' ∧ ON .u8 5 w' w.heap.size u (l.take m) := by
  obtain ⟨A, cap, rfl, hc⟩ := hv.form
  have HV := Lib.hid hv
  obtain ⟨n, hn⟩ : ∃ n, l.length = n := ⟨_, rfl⟩
  have HNN := Lib.hid hn
  rw [hn] at HV hc ⊢
  clear hv
  have HX : Hid (∀ (w1 : World), AnyLater w w1 → ∀ a2 c2, RU8 w1 (.slice a2 (l.take m).length c2) (l.take m) → ∃ u w2, (Builtin.append_ #[22, 22] 22 #[.slice (some ⟨w1.heap.size, 0, none⟩) 0 0, .slice a2 (l.take m).length c2]).run Tryd.prog (w1.alloc (.cells #[] 5)) = .ok u w2 ∧ AnyLater w w2 ∧ ON .u8 5 w2 w.heap.size u (l.take m)) := Lib.hid (fun w1 h1 a2 c2 h2 => by
    obtain ⟨u, w2, k1, k2, k3⟩ := copy8 h2 (by rw [List.length_take]; omega)
    exact ⟨u, w2, k1, h1.trans k2, k3.wide h1.below.size⟩)
  by_cases q : m < n
  · have hl : (l.take m).length = m := by rw [List.length_take]; omega
    have hr : RU8 w (.slice A (l.take m).length cap) (l.take m) := by
      rw [hl]
      have h := HV.out
      rw [← HNN.out] at h
      exact RN.take h m (by omega)
    obtain ⟨u, w2, k1, k2, k3⟩ := HX.out w (AnyLater.refl w) A cap hr
    rw [hl] at k1
    have K1 := Lib.hid k1
    have KK := Lib.hid (And.intro k2 k3)
    clear k1 k2 k3 hr hl hn
    go_enter Tryd.func7, Tryd.ntmps7
    go_wp2_with (at_builtin; refine Lib.wpList_append_run _ rfl _ _ _ _ rfl _ _ rfl rfl _ _ K1.out ?_)
    go_ret
    exact ⟨_, rfl, KK.out.1, KK.out.2⟩
  · have hl : l.take m = l := List.take_of_length_le (by omega)
    have hr : RU8 w (.slice A (l.take m).length cap) (l.take m) := by
      rw [hl, HNN.out]; exact HV.out
    obtain ⟨u, w2, k1, k2, k3⟩ := HX.out w (AnyLater.refl w) A cap hr
    rw [hl, HNN.out] at k1
    have K1 := Lib.hid k1
    have KK := Lib.hid (And.intro k2 k3)
    clear k1 k2 k3 hr hl hn
    go_enter Tryd.func7, Tryd.ntmps7
    go_wp2_with (at_builtin; refine Lib.wpList_append_run _ rfl _ _ _ _ rfl _ _ rfl rfl _ _ K1.out ?_)
    go_ret
    exact ⟨_, rfl, KK.out.1, KK.out.2⟩
end Go.Proofs.YteplnejnhgmfiaaDoor
namespace Go.Proofs.YteplnejnhgmfiaaDoor
set_option linter.unusedSimpArgs false
set_option linter.unusedVariables false
set_option linter.unusedSectionVars false
open Go.RowKit

/-! ### isTail, cut, join, size -/
theorem tl_nat (n : Nat) (hn : n ≤ 255) : (((n / 64 * 64 : Nat) : Int) == 128) = tl (n : Int) := by
  unfold tl
  rw [Bool.eq_iff_iff, beq_iff_eq, decide_eq_true_eq]
  omega
set_option maxRecDepth 100000 in
theorem isTail_any (x : Int) (w : World) (c : Bool) (hc : tl x = c) (hx : 0 ≤ x ∧ x ≤ 255) : Calls Tryd.prog 79 #[.int .u8 x] w fun e w' => e = .returned (.bool c) ∧ w = w' := by
  obtain ⟨n, rfl⟩ := Int.eq_ofNat_of_zero_le hx.1
  have hn : n ≤ 255 := by omega
  have h1 : bits .andNot .u8 (n : Int) 63 = ((n / 64 * 64 : Nat) : Int) := by go_bits2
  have h2 := tl_nat n hn
  rw [hc] at h2
  go_enter Tryd.func79, Tryd.ntmps79
  go_wp2_with fail
  go_ret
  exact ⟨ret_bool h2, rfl⟩
def sizeZ (r : Int) : Int := if ¬ (0 ≤ r ∧ r ≤ 1114111 ∧ ¬ (55296 ≤ r ∧ r ≤ 57343)) then 0 else if r < 128 then 1 else if r < 2048 then 2 else if r < 65536 then 3 else 4
def joinZ (r x : Int) : Int := if r < 0 ∨ tl x = false then -1 else r * 64 + (x - 128)
theorem sizeZ_len {r : Int} (h : goodR r = true) : sizeZ r = ((encN r).length : Int) := by
  have := goodR_in h
  unfold sizeZ encN
  rw [if_neg (by simpa using this)]
  split
  · rfl
  · split
    · rfl
    · split <;> rfl
theorem sizeZ_none {r : Int} (h : goodR r = false) : sizeZ r = 0 := if_pos (of_decide_eq_false h)
theorem sizeZ_in (r : Int) : 0 ≤ sizeZ r ∧ sizeZ r ≤ 4 := by
  unfold sizeZ
  split
  · omega
  · split
    · omega
    · split
      · omega
      · split <;> omega
theorem joinZ_in {r x : Int} (hr : r ≤ 262144) (hx : x ≤ 255) : -1 ≤ joinZ r x ∧ joinZ r x ≤ 16777343 := by
  unfold joinZ
  split
  · omega
  · rename_i h
    have : tl x = true := by simpa using (not_or.1 h).2
    have := of_decide_eq_true this
    have := (not_or.1 h).1
    omega
set_option maxRecDepth 100000 in
set_option maxHeartbeats 1600000 in
theorem size_any (r : Int) (w : World) (c : Int) (hc : sizeZ r = c) (hr : -2147483648 ≤ r ∧ r ≤ 2147483647) : Calls Tryd.prog 67 #[.int .i32 r] w fun e w' => e = .returned (.int .i64 c) ∧ w = w' := by
  obtain ⟨h1, h2⟩ := hr
  unfold sizeZ at hc
  by_cases q1 : r < 0
  · rw [if_pos (by omega)] at hc
    have HC := Lib.hid hc
    clear hc
    go_enter Tryd.func67, Tryd.ntmps67
    go_wp2_with fail
    go_ret
    exact ⟨ret_int HC.out, rfl⟩
  by_cases q2 : r > 1114111
  · rw [if_pos (by omega)] at hc
    have HC := Lib.hid hc
    clear hc
    go_enter Tryd.func67, Tryd.ntmps67
    go_wp2_with fail
    go_ret
    exact ⟨ret_int HC.out, rfl⟩
  by_cases q3 : 55296 ≤ r
  · by_cases q4 : r ≤ 57343
    · rw [if_pos (by omega)] at hc
      have HC := Lib.hid hc
      clear hc
      go_enter Tryd.func67, Tryd.ntmps67
      go_wp2_with fail
      go_ret
      exact ⟨ret_int HC.out, rfl⟩
    rw [if_neg (by omega), if_neg (by omega), if_neg (by omega)] at hc
    by_cases q5 : r < 65536
    · rw [if_pos (by omega)] at hc
      have HC := Lib.hid hc
      clear hc
      go_enter Tryd.func67, Tryd.ntmps67
      go_wp2_with fail
      go_ret
      exact ⟨ret_int HC.out, rfl⟩
    · rw [if_neg (by omega)] at hc
      have HC := Lib.hid hc
      clear hc
      go_enter Tryd.func67, Tryd.ntmps67
      go_wp2_with fail
      go_ret
      exact ⟨ret_int HC.out, rfl⟩
  rw [if_neg (by omega)] at hc
  by_cases q6 : r < 128
  · rw [if_pos (by omega)] at hc
    have HC := Lib.hid hc
    clear hc
    go_enter Tryd.func67, Tryd.ntmps67
    go_wp2_with fail
    go_ret
    exact ⟨ret_int HC.out, rfl⟩
  rw [if_neg (by omega)] at hc
  by_cases q7 : r < 2048
  · rw [if_pos (by omega)] at hc
    have HC := Lib.hid hc
    clear hc
    go_enter Tryd.func67, Tryd.ntmps67
    go_wp2_with fail
    go_ret
    exact ⟨ret_int HC.out, rfl⟩
  · rw [if_neg (by omega), if_pos (by omega)] at hc
    have HC := Lib.hid hc
    clear hc
    go_enter Tryd.func67, Tryd.ntmps67
    go_wp2_with fail
    go_ret
    exact ⟨ret_int HC.out, rfl⟩
theorem i32_and63 {x : Int} (h0 : 0 ≤ x) (h1 : x < 2147483648) : bits .and .i32 x 63 = x % 64 := bits_mask .i32 31 (by decide) wraps_i32 6 (by decide) x h0 h1
set_option maxRecDepth 100000 in
set_option maxHeartbeats 1600000 in
theorem ujoin_any (r x : Int) (w : World) (c : Int) (hc : joinZ r x = c) (hr : -1 ≤ r ∧ r ≤ 262144) (hx : 0 ≤ x ∧ x ≤ 255) : Calls Tryd.prog 66 #[.int .i32 r, .int .u8 x] w fun e w' => e = .returned (.int .i32 c) ∧ w = w' := by
  obtain ⟨r1, r2⟩ := hr
  have HX := Lib.hid hx
  obtain ⟨x1, x2⟩ := hx
  unfold joinZ at hc
  by_cases q : r < 0
  · rw [if_pos (.inl q)] at hc
    have HC := Lib.hid hc
    clear hc
    go_enter Tryd.func66, Tryd.ntmps66
    go_wp2_with fail
    go_ret
    exact ⟨ret_int HC.out, rfl⟩
  · rcases ht : tl x
    · rw [if_pos (.inr ht)] at hc
      have HC := Lib.hid hc
      have H1 := Lib.hid (fun w => isTail_any x w false ht HX.out)
      clear hc ht
      go_enter Tryd.func66, Tryd.ntmps66
      go_wp2_with (go_at_call 79; refine (H1.out _).mono ?_; rintro e w' ⟨rfl, rfl⟩)
      go_ret
      exact ⟨ret_int HC.out, rfl⟩
    · rw [if_neg (by rw [ht]; simpa using q)] at hc
      have H1 := Lib.hid (fun w => isTail_any x w true ht HX.out)
      have hb : 128 ≤ x ∧ x ≤ 191 := of_decide_eq_true ht
      have h1 : bits .and .u8 x 63 = x % 64 := u8_and63 x (by omega) (by omega)
      have h2 : bits .or .i32 (r * 64) (x % 64) = r * 64 + x % 64 := i32_or6 _ _ (by omega) (by omega) (by omega) (by omega) (by omega)
      have HC : Hid (r * 64 + x % 64 = c) := Lib.hid (by omega)
      clear hc ht
      go_enter Tryd.func66, Tryd.ntmps66
      go_wp2_with (go_at_call 79; refine (H1.out _).mono ?_; rintro e w' ⟨rfl, rfl⟩)
      go_ret
      exact ⟨ret_int HC.out, rfl⟩

/-! ### leading zeros; told -/
def len8Z (i : Int) : Int := if i < 1 then 0 else if i < 2 then 1 else if i < 4 then 2 else if i < 8 then 3 else if i < 16 then 4 else if i < 32 then 5 else if i < 64 then 6 else if i < 128 then 7 else 8
def toldZ (a : Int) : Int := if a < 128 then 1 else if a < 192 then 0 else if a < 224 then 2 else if a < 240 then 3 else if a < 248 then 4 else 0
set_option maxRecDepth 1000000 in
theorem len_get : ∀ j : Fin 256, ((({ data := ([0, 1, 2, 2, 3, 3, 3, 3, 4, 4, 4, 4, 4, 4, 4, 4, 5, 5, 5, 5, 5, 5, 5, 5, 5, 5, 5, 5, 5, 5, 5, 5, 6, 6, 6, 6, 6, 6, 6, 6, 6, 6, 6, 6, 6, 6, 6, 6, 6, 6, 6, 6, 6, 6, 6, 6, 6, 6, 6, 6, 6, 6, 6, 6, 7, 7, 7, 7, 7, 7, 7, 7, 7, 7, 7, 7, 7, 7, 7, 7, 7, 7, 7, 7, 7, 7, 7, 7, 7, 7, 7, 7, 7, 7, 7, 7, 7, 7, 7, 7, 7, 7, 7, 7, 7, 7, 7, 7, 7, 7, 7, 7, 7, 7, 7, 7, 7, 7, 7, 7, 7, 7, 7, 7, 7, 7, 7, 7, 8, 8, 8, 8, 8, 8, 8, 8, 8, 8, 8, 8, 8, 8, 8, 8, 8, 8, 8, 8, 8, 8, 8, 8, 8, 8, 8, 8, 8, 8, 8, 8, 8, 8, 8, 8, 8, 8, 8, 8, 8, 8, 8, 8, 8, 8, 8, 8, 8, 8, 8, 8, 8, 8, 8, 8, 8, 8, 8, 8, 8, 8, 8, 8, 8, 8, 8, 8, 8, 8, 8, 8, 8, 8, 8, 8, 8, 8, 8, 8, 8, 8, 8, 8, 8, 8, 8, 8, 8, 8, 8, 8, 8, 8, 8, 8, 8, 8, 8, 8, 8, 8, 8, 8, 8, 8, 8, 8, 8, 8, 8, 8, 8, 8, 8, 8, 8, 8, 8, 8, 8, 8, 8, 8, 8, 8, 8, 8] : List UInt8).toArray } : ByteArray)[j.1]'(by have := j.2; exact this)).toNat : Int) = len8Z (j.1 : Int) := by decide +kernel
set_option maxRecDepth 1000000 in
theorem run_len {t : TypeId} (ht : Tryd.prog.underlying t = some .string) (w : World) (k : IntKind) (i : Int) (h0 : 0 ≤ i) (h1 : i < 256) : (Instr.index t (.string ({ data := ([0, 1, 2, 2, 3, 3, 3, 3, 4, 4, 4, 4, 4, 4, 4, 4, 5, 5, 5, 5, 5, 5, 5, 5, 5, 5, 5, 5, 5, 5, 5, 5, 6, 6, 6, 6, 6, 6, 6, 6, 6, 6, 6, 6, 6, 6, 6, 6, 6, 6, 6, 6, 6, 6, 6, 6, 6, 6, 6, 6, 6, 6, 6, 6, 7, 7, 7, 7, 7, 7, 7, 7, 7, 7, 7, 7, 7, 7, 7, 7, 7, 7, 7, 7, 7, 7, 7, 7, 7, 7, 7, 7, 7, 7, 7, 7, 7, 7, 7, 7, 7, 7, 7, 7, 7, 7, 7, 7, 7, 7, 7, 7, 7, 7, 7, 7, 7, 7, 7, 7, 7, 7, 7, 7, 7, 7, 7, 7, 8, 8, 8, 8, 8, 8, 8, 8, 8, 8, 8, 8, 8, 8, 8, 8, 8, 8, 8, 8, 8, 8, 8, 8, 8, 8, 8, 8, 8, 8, 8, 8, 8, 8, 8, 8, 8, 8, 8, 8, 8, 8, 8, 8, 8, 8, 8, 8, 8, 8, 8, 8, 8, 8, 8, 8, 8, 8, 8, 8, 8, 8, 8, 8, 8, 8, 8, 8, 8, 8, 8, 8, 8, 8, 8, 8, 8, 8, 8, 8, 8, 8, 8, 8, 8, 8, 8, 8, 8, 8, 8, 8, 8, 8, 8, 8, 8, 8, 8, 8, 8, 8, 8, 8, 8, 8, 8, 8, 8, 8, 8, 8, 8, 8, 8, 8, 8, 8, 8, 8, 8, 8, 8, 8, 8, 8, 8, 8] : List UInt8).toArray } : ByteArray)) (.int k i)).run Tryd.prog w = .ok (.int .u8 (len8Z i)) w := by
  have hs : (({ data := ([0, 1, 2, 2, 3, 3, 3, 3, 4, 4, 4, 4, 4, 4, 4, 4, 5, 5, 5, 5, 5, 5, 5, 5, 5, 5, 5, 5, 5, 5, 5, 5, 6, 6, 6, 6, 6, 6, 6, 6, 6, 6, 6, 6, 6, 6, 6, 6, 6, 6, 6, 6, 6, 6, 6, 6, 6, 6, 6, 6, 6, 6, 6, 6, 7, 7, 7, 7, 7, 7, 7, 7, 7, 7, 7, 7, 7, 7, 7, 7, 7, 7, 7, 7, 7, 7, 7, 7, 7, 7, 7, 7, 7, 7, 7, 7, 7, 7, 7, 7, 7, 7, 7, 7, 7, 7, 7, 7, 7, 7, 7, 7, 7, 7, 7, 7, 7, 7, 7, 7, 7, 7, 7, 7, 7, 7, 7, 7, 8, 8, 8, 8, 8, 8, 8, 8, 8, 8, 8, 8, 8, 8, 8, 8, 8, 8, 8, 8, 8, 8, 8, 8, 8, 8, 8, 8, 8, 8, 8, 8, 8, 8, 8, 8, 8, 8, 8, 8, 8, 8, 8, 8, 8, 8, 8, 8, 8, 8, 8, 8, 8, 8, 8, 8, 8, 8, 8, 8, 8, 8, 8, 8, 8, 8, 8, 8, 8, 8, 8, 8, 8, 8, 8, 8, 8, 8, 8, 8, 8, 8, 8, 8, 8, 8, 8, 8, 8, 8, 8, 8, 8, 8, 8, 8, 8, 8, 8, 8, 8, 8, 8, 8, 8, 8, 8, 8, 8, 8, 8, 8, 8, 8, 8, 8, 8, 8, 8, 8, 8, 8, 8, 8, 8, 8, 8, 8] : List UInt8).toArray } : ByteArray)).size = 256 := rfl
  rw [run_index_string w t _ k i ht, dif_pos ⟨h0, by omega⟩]
  have h := len_get ⟨i.toNat, by omega⟩
  have e : ((i.toNat : Nat) : Int) = i := by omega
  simp only [e] at h
  rw [← h]
theorem len8Z_in (i : Int) : 0 ≤ len8Z i ∧ len8Z i ≤ 8 := by
  unfold len8Z
  repeat' (first | omega | split)
set_option maxRecDepth 1000000 in
set_option maxHeartbeats 1600000 in
theorem len8_any (x : Int) (w : World) (c : Int) (hc : len8Z x = c) (hx : 0 ≤ x ∧ x ≤ 255) : Calls Tryd.prog 82 #[.int .u8 x] w fun e w' => e = .returned (.int .i64 c) ∧ w = w' := by
  obtain ⟨x1, x2⟩ := hx
  have i0 : ∀ w, (Instr.index 9 (.string ({ data := ([0, 1, 2, 2, 3, 3, 3, 3, 4, 4, 4, 4, 4, 4, 4, 4, 5, 5, 5, 5, 5, 5, 5, 5, 5, 5, 5, 5, 5, 5, 5, 5, 6, 6, 6, 6, 6, 6, 6, 6, 6, 6, 6, 6, 6, 6, 6, 6, 6, 6, 6, 6, 6, 6, 6, 6, 6, 6, 6, 6, 6, 6, 6, 6, 7, 7, 7, 7, 7, 7, 7, 7, 7, 7, 7, 7, 7, 7, 7, 7, 7, 7, 7, 7, 7, 7, 7, 7, 7, 7, 7, 7, 7, 7, 7, 7, 7, 7, 7, 7, 7, 7, 7, 7, 7, 7, 7, 7, 7, 7, 7, 7, 7, 7, 7, 7, 7, 7, 7, 7, 7, 7, 7, 7, 7, 7, 7, 7, 8, 8, 8, 8, 8, 8, 8, 8, 8, 8, 8, 8, 8, 8, 8, 8, 8, 8, 8, 8, 8, 8, 8, 8, 8, 8, 8, 8, 8, 8, 8, 8, 8, 8, 8, 8, 8, 8, 8, 8, 8, 8, 8, 8, 8, 8, 8, 8, 8, 8, 8, 8, 8, 8, 8, 8, 8, 8, 8, 8, 8, 8, 8, 8, 8, 8, 8, 8, 8, 8, 8, 8, 8, 8, 8, 8, 8, 8, 8, 8, 8, 8, 8, 8, 8, 8, 8, 8, 8, 8, 8, 8, 8, 8, 8, 8, 8, 8, 8, 8, 8, 8, 8, 8, 8, 8, 8, 8, 8, 8, 8, 8, 8, 8, 8, 8, 8, 8, 8, 8, 8, 8, 8, 8, 8, 8, 8, 8] : List UInt8).toArray } : ByteArray)) (.int .u8 x)).run Tryd.prog w = .ok (.int .u8 (len8Z x)) w := fun w => run_len (by kernel_rfl) w _ _ (by omega) (by omega)
  have hb := len8Z_in x
  rw [hc] at i0 hb
  clear hc
  go_enter Tryd.func82, Tryd.ntmps82
  go_wp2_with fail
  go_ret
  exact ⟨rfl, rfl⟩
set_option maxRecDepth 1000000 in
set_option maxHeartbeats 1600000 in
theorem lead8_any (x : Int) (w : World) (c : Int) (hc : 8 - len8Z x = c) (hx : 0 ≤ x ∧ x ≤ 255) : Calls Tryd.prog 78 #[.int .u8 x] w fun e w' => e = .returned (.int .i64 c) ∧ w = w' := by
  have hb := len8Z_in x
  have H1 := Lib.hid (fun w => len8_any x w _ rfl hx)
  have HC := Lib.hid hc
  generalize len8Z x = l at *
  clear hc
  go_enter Tryd.func78, Tryd.ntmps78
  go_wp2_with (go_at_call 82; refine (H1.out _).mono ?_; rintro e w' ⟨rfl, rfl⟩)
  go_ret
  exact ⟨ret_int HC.out, rfl⟩
end Go.Proofs.YteplnejnhgmfiaaDoor
namespace Go.Proofs.YteplnejnhgmfiaaDoor
set_option linter.unusedSimpArgs false
set_option linter.unusedVariables false
set_option linter.unusedSectionVars false
open Go.RowKit
theorem told_lead {a : Int} (h1 : 0 ≤ a) (h2 : a ≤ 255) : (8 - len8Z (255 - a) = 0 ∧ toldZ a = 1) ∨ (8 - len8Z (255 - a) = 2 ∧ toldZ a = 2) ∨ (8 - len8Z (255 - a) = 3 ∧ toldZ a = 3) ∨ (8 - len8Z (255 - a) = 4 ∧ toldZ a = 4) ∨
    (toldZ a = 0 ∧ 8 - len8Z (255 - a) ≠ 0 ∧ 8 - len8Z (255 - a) ≠ 2 ∧ 8 - len8Z (255 - a) ≠ 3 ∧ 8 - len8Z (255 - a) ≠ 4) := by
  unfold len8Z toldZ
  repeat' (first | omega | split)
theorem xor_get : ∀ j : Fin 256, bits .xor .u8 IntKind.u8.max (j.1 : Int) = 255 - (j.1 : Int) := by decide +kernel
theorem xor_max {a : Int} (h1 : 0 ≤ a) (h2 : a ≤ 255) : bits .xor .u8 IntKind.u8.max a = 255 - a := by
  have h := xor_get ⟨a.toNat, by omega⟩
  have e : ((a.toNat : Nat) : Int) = a := by omega
  simpa only [e] using h
set_option maxRecDepth 100000 in
set_option maxHeartbeats 3200000 in
theorem told_any (a : Int) (w : World) (c : Int) (hc : toldZ a = c) (ha : 0 ≤ a ∧ a ≤ 255) : Calls Tryd.prog 65 #[.int .u8 a] w fun e w' => e = .returned (.int .i64 c) ∧ w = w' := by
  obtain ⟨h1, h2⟩ := ha
  have H1 := Lib.hid (fun w => lead8_any (255 - a) w _ rfl ⟨by omega, by omega⟩)
  have ht := told_lead h1 h2
  rw [hc] at ht
  have hb := len8Z_in (255 - a)
  have hxm := xor_max h1 h2
  have hsg : IntKind.u8.signed = false := rfl
  generalize hz : 8 - len8Z (255 - a) = z at *
  have hzb : 0 ≤ z ∧ z ≤ 8 := by omega
  clear hc hb hz
  rcases ht with ⟨rfl, rfl⟩ | ⟨rfl, rfl⟩ | ⟨rfl, rfl⟩ | ⟨rfl, rfl⟩ | ⟨rfl, n0, n2, n3, n4⟩
  · go_enter Tryd.func65, Tryd.ntmps65
    go_wp2_with (go_at_call 78; refine (H1.out _).mono ?_; rintro e w' ⟨rfl, rfl⟩)
    go_ret
    exact ⟨rfl, rfl⟩
  · go_enter Tryd.func65, Tryd.ntmps65
    go_wp2_with (go_at_call 78; refine (H1.out _).mono ?_; rintro e w' ⟨rfl, rfl⟩)
    go_ret
    exact ⟨rfl, rfl⟩
  · go_enter Tryd.func65, Tryd.ntmps65
    go_wp2_with (go_at_call 78; refine (H1.out _).mono ?_; rintro e w' ⟨rfl, rfl⟩)
    go_ret
    exact ⟨rfl, rfl⟩
  · go_enter Tryd.func65, Tryd.ntmps65
    go_wp2_with (go_at_call 78; refine (H1.out _).mono ?_; rintro e w' ⟨rfl, rfl⟩)
    go_ret
    exact ⟨rfl, rfl⟩
  · have d0 : (z == 0) = false := by simpa using n0
    have d2 : (z == 2) = false := by simpa using n2
    have d3 : (z == 3) = false := by simpa using n3
    have d4 : (z == 4) = false := by simpa using n4
    go_enter Tryd.func65, Tryd.ntmps65
    go_wp2_with (go_at_call 78; refine (H1.out _).mono ?_; rintro e w' ⟨rfl, rfl⟩)
    go_ret
    exact ⟨rfl, rfl⟩
end Go.Proofs.YteplnejnhgmfiaaDoor
namespace Go.Proofs.YteplnejnhgmfiaaDoor
set_option linter.unusedSimpArgs false
set_option linter.unusedVariables false
set_option linter.unusedSectionVars false
open Go.RowKit

/-- what the program's table of first bytes holds -/
structure GlobU (w : World) : Prop where
  c1 : w.cell? ⟨0, 1, none⟩ = some (.int .u8 0)
  c2 : w.cell? ⟨0, 2, none⟩ = some (.int .u8 192)
  c3 : w.cell? ⟨0, 3, none⟩ = some (.int .u8 224)
  c4 : w.cell? ⟨0, 4, none⟩ = some (.int .u8 240)
theorem GlobU.later {w w' : World} (h : AnyLater w w') (g : GlobU w) : GlobU w' :=
  ⟨(h.below.cell (World.block_lt_of_cell? _ _ g.c1)).trans g.c1, (h.below.cell (World.block_lt_of_cell? _ _ g.c2)).trans g.c2, (h.below.cell (World.block_lt_of_cell? _ _ g.c3)).trans g.c3, (h.below.cell (World.block_lt_of_cell? _ _ g.c4)).trans g.c4⟩
theorem joinZ_eq (r x : Int) : joinZ r x = if r < 0 ∨ ¬ (128 ≤ x ∧ x ≤ 191) then -1 else r * 64 + (x - 128) := by
  unfold joinZ tl
  simp only [decide_eq_false_iff_not]
theorem joinZ_le {r x m : Int} (hm : 0 ≤ m) (hr : r ≤ m) : -1 ≤ joinZ r x ∧ joinZ r x ≤ m * 64 + 63 := by
  rw [joinZ_eq]
  split <;> omega
theorem dec4_bad {n : Nat} {a b c d : Int} (h0 : n ≠ 0) (h1 : ¬ a < 128) (h2 : ¬ (2 ≤ n ∧ 194 ≤ a ∧ a ≤ 223 ∧ 128 ≤ b ∧ b ≤ 191)) (h3 : ¬ (3 ≤ n ∧ 224 ≤ a ∧ a ≤ 239 ∧ 128 ≤ b ∧ b ≤ 191 ∧ 128 ≤ c ∧ c ≤ 191 ∧ 2048 ≤ v3 a b c ∧ ¬ (55296 ≤ v3 a b c ∧ v3 a b c ≤ 57343)))
    (h4 : ¬ (4 ≤ n ∧ 240 ≤ a ∧ a ≤ 247 ∧ 128 ≤ b ∧ b ≤ 191 ∧ 128 ≤ c ∧ c ≤ 191 ∧ 128 ≤ d ∧ d ≤ 191 ∧ 65536 ≤ v4 a b c d ∧ v4 a b c d ≤ 1114111)) : dec4 n a b c d = (65533, 1) := by
  unfold dec4
  rw [if_neg h0, if_neg h1, if_neg h2, if_neg h3, if_neg h4]
theorem told_cases (a : Int) : (a < 128 ∧ toldZ a = 1) ∨ (128 ≤ a ∧ a < 192 ∧ toldZ a = 0) ∨ (192 ≤ a ∧ a < 224 ∧ toldZ a = 2) ∨ (224 ≤ a ∧ a < 240 ∧ toldZ a = 3) ∨ (240 ≤ a ∧ a < 248 ∧ toldZ a = 4) ∨ (248 ≤ a ∧ toldZ a = 0) := by
  unfold toldZ
  repeat' (first | omega | split)
theorem told_bad {n : Nat} {a b c d : Int} (h0 : n ≠ 0) (h : toldZ a = 0 ∨ (n : Int) < toldZ a) : dec4 n a b c d = (65533, 1) := by
  have := told_cases a
  exact dec4_bad h0 (by omega) (by omega) (by omega) (by omega)
theorem told_two {n : Nat} {a b c d : Int} (h1 : 192 ≤ a) (h2 : a < 224) (hn : 2 ≤ n) : (sizeZ (joinZ (a - 192) b) = 2 ∧ dec4 n a b c d = (joinZ (a - 192) b, 2)) ∨ (sizeZ (joinZ (a - 192) b) ≠ 2 ∧ dec4 n a b c d = (65533, 1)) := by
  rw [joinZ_eq]
  by_cases q : 128 ≤ b ∧ b ≤ 191
  · rw [if_neg (by omega)]
    by_cases q2 : 194 ≤ a
    · left
      refine ⟨by unfold sizeZ; rw [if_neg (by omega), if_neg (by omega), if_pos (by omega)], ?_⟩
      unfold dec4
      rw [if_neg (by omega), if_neg (by omega), if_pos (by omega)]
      rfl
    · right
      refine ⟨by unfold sizeZ; rw [if_neg (by omega), if_pos (by omega)]; decide, dec4_bad (by omega) (by omega) (by omega) (by omega) (by omega)⟩
  · rw [if_pos (.inr q)]
    right
    exact ⟨by decide, dec4_bad (by omega) (by omega) (by omega) (by omega) (by omega)⟩
theorem told_three {n : Nat} {a b c d : Int} (h1 : 224 ≤ a) (h2 : a < 240) (hn : 3 ≤ n) : (sizeZ (joinZ (joinZ (a - 224) b) c) = 3 ∧ dec4 n a b c d = (joinZ (joinZ (a - 224) b) c, 3)) ∨ (sizeZ (joinZ (joinZ (a - 224) b) c) ≠ 3 ∧ dec4 n a b c d = (65533, 1)) := by
  rw [joinZ_eq (a - 224) b]
  by_cases q : 128 ≤ b ∧ b ≤ 191
  · rw [if_neg (by omega), joinZ_eq]
    by_cases qc : 128 ≤ c ∧ c ≤ 191
    · rw [if_neg (by omega)]
      have e : ((a - 224) * 64 + (b - 128)) * 64 + (c - 128) = v3 a b c := by unfold v3; omega
      rw [e]
      have hv : v3 a b c ≤ 65535 := by unfold v3; omega
      have hv0 : 0 ≤ v3 a b c := by unfold v3; omega
      by_cases q2 : 2048 ≤ v3 a b c ∧ ¬ (55296 ≤ v3 a b c ∧ v3 a b c ≤ 57343)
      · left
        refine ⟨by unfold sizeZ; rw [if_neg (by omega), if_neg (by omega), if_neg (by omega), if_pos (by omega)], ?_⟩
        unfold dec4
        rw [if_neg (by omega), if_neg (by omega), if_neg (by omega), if_pos (by omega)]
      · right
        refine ⟨?_, dec4_bad (by omega) (by omega) (by omega) (by omega) (by omega)⟩
        unfold sizeZ
        repeat' (first | omega | split)
    · rw [if_pos (.inr qc)]
      right
      exact ⟨by decide, dec4_bad (by omega) (by omega) (by omega) (by omega) (by omega)⟩
  · rw [if_pos (.inr q), joinZ_eq, if_pos (.inl (by decide))]
    right
    exact ⟨by decide, dec4_bad (by omega) (by omega) (by omega) (by omega) (by omega)⟩
theorem told_four {n : Nat} {a b c d : Int} (h1 : 240 ≤ a) (h2 : a < 248) (hn : 4 ≤ n) : (sizeZ (joinZ (joinZ (joinZ (a - 240) b) c) d) = 4 ∧ dec4 n a b c d = (joinZ (joinZ (joinZ (a - 240) b) c) d, 4)) ∨ (sizeZ (joinZ (joinZ (joinZ (a - 240) b) c) d) ≠ 4 ∧ dec4 n a b c d = (65533, 1)) := by
  rw [joinZ_eq (a - 240) b]
  by_cases q : 128 ≤ b ∧ b ≤ 191
  · rw [if_neg (by omega), joinZ_eq _ c]
    by_cases qc : 128 ≤ c ∧ c ≤ 191
    · rw [if_neg (by omega), joinZ_eq]
      by_cases qd : 128 ≤ d ∧ d ≤ 191
      · rw [if_neg (by omega)]
        have e : (((a - 240) * 64 + (b - 128)) * 64 + (c - 128)) * 64 + (d - 128) = v4 a b c d := by unfold v4; omega
        rw [e]
        have hv0 : 0 ≤ v4 a b c d := by unfold v4; omega
        by_cases q2 : 65536 ≤ v4 a b c d ∧ v4 a b c d ≤ 1114111
        · left
          refine ⟨by unfold sizeZ; rw [if_neg (by omega), if_neg (by omega), if_neg (by omega), if_neg (by omega)], ?_⟩
          unfold dec4
          rw [if_neg (by omega), if_neg (by omega), if_neg (by omega), if_neg (by omega), if_pos (by omega)]
        · right
          refine ⟨?_, dec4_bad (by omega) (by omega) (by omega) (by omega) (by omega)⟩
          unfold sizeZ
          repeat' (first | omega | split)
      · rw [if_pos (.inr qd)]
        right
        exact ⟨by decide, dec4_bad (by omega) (by omega) (by omega) (by omega) (by omega)⟩
    · rw [if_pos (.inr qc), joinZ_eq, if_pos (.inl (by decide))]
      right
      exact ⟨by decide, dec4_bad (by omega) (by omega) (by omega) (by omega) (by omega)⟩
  · rw [if_pos (.inr q), joinZ_eq _ c, if_pos (.inl (by decide)), joinZ_eq, if_pos (.inl (by decide))]
    right
    exact ⟨by decide, dec4_bad (by omega) (by omega) (by omega) (by omega) (by omega)⟩
theorem heads_get : ∀ j : Fin 256, bits .andNot .u8 (j.1 : Int) 0 = (j.1 : Int) ∧ (192 ≤ j.1 → j.1 < 224 → bits .andNot .u8 (j.1 : Int) 192 = (j.1 : Int) - 192) ∧ (224 ≤ j.1 → j.1 < 240 → bits .andNot .u8 (j.1 : Int) 224 = (j.1 : Int) - 224) ∧ (240 ≤ j.1 → j.1 < 248 → bits .andNot .u8 (j.1 : Int) 240 = (j.1 : Int) - 240) := by decide +kernel
theorem heads_cut {a : Int} (h1 : 0 ≤ a) (h2 : a ≤ 255) : bits .andNot .u8 a 0 = a ∧ (192 ≤ a → a < 224 → bits .andNot .u8 a 192 = a - 192) ∧ (224 ≤ a → a < 240 → bits .andNot .u8 a 224 = a - 224) ∧ (240 ≤ a → a < 248 → bits .andNot .u8 a 240 = a - 240) := by
  have h := heads_get ⟨a.toNat, by omega⟩
  have e : ((a.toNat : Nat) : Int) = a := by omega
  simp only [e] at h
  exact ⟨h.1, fun x y => h.2.1 (by omega) (by omega), fun x y => h.2.2.1 (by omega) (by omega), fun x y => h.2.2.2 (by omega) (by omega)⟩
theorem ret_two {r r' : Int} {n n' : Int} (h1 : r = r') (h2 : n = n') : Ending.returned (.tuple #[.int .i32 r, .int .i64 n]) = .returned (.tuple #[.int .i32 r', .int .i64 n']) := by rw [h1, h2]
set_option maxRecDepth 100000 in
set_option maxHeartbeats 3200000 in
theorem dec_any (v : Value) (l : List Int) (w : World) (r : Int) (k : Nat) (hc : decU l = (r, k)) (hv : RU8 w v l) (hb : Bytes l) (hl : l.length ≤ 1000) (hg : GlobU w) :
    Calls Tryd.prog 49 #[v] w fun e w' => e = .returned (.tuple #[.int .i32 r, .int .i64 (k : Int)]) ∧ AnyLater w w' := by
  obtain ⟨A, cap, rfl, hcap, hcell⟩ := hv
  by_cases h0 : l.length = 0
  · obtain rfl := List.eq_nil_of_length_eq_zero h0
    obtain ⟨rfl, rfl⟩ : (0 : Int) = r ∧ 0 = k := by have : ((0 : Int), (0 : Nat)) = (r, k) := hc
                                                    cases this; exact ⟨rfl, rfl⟩
    clear hc hb hcell hg
    simp only [List.length_nil] at *
    go_enter Tryd.func49, Tryd.ntmps49
    go_wp2_with fail
    go_ret2
    exact ⟨rfl, AnyLater.refl _⟩
  obtain ⟨b, off, rfl, hbl, hcl⟩ := hcell (by omega)
  obtain ⟨n, hn⟩ : ∃ n, l.length = n := ⟨_, rfl⟩
  have hbd : ∀ j, 0 ≤ l.getD j 0 ∧ l.getD j 0 ≤ 255 := fun j => by
    by_cases q : j < l.length
    · rw [List.getD_eq_getElem?_getD, List.getElem?_eq_getElem q]; exact hb.get q
    · rw [List.getD_eq_getElem?_getD, List.getElem?_eq_none (by omega)]; simp
  have hcj : ∀ j, j < n → w.cell? ⟨b, off + j, none⟩ = some (.int .u8 (l.getD j 0)) := fun j hj => by
    rw [hcl j (by omega)]; simp [List.getD_eq_getElem?_getD, show j < l.length by omega]
  unfold decU at hc
  rw [hn] at hc hcap hl h0 ⊢
  have B0 := hbd 0
  have B1 := hbd 1
  have B2 := hbd 2
  have B3 := hbd 3
  have cc0 := hcj 0 (by omega)
  rw [Nat.add_zero] at cc0
  have C1 := Lib.hid (hcj 1)
  have C2 := Lib.hid (hcj 2)
  have C3 := Lib.hid (hcj 3)
  clear hcl hcj hbd hb hn hcell
  generalize l.getD 0 0 = a at *
  generalize l.getD 1 0 = x1 at *
  generalize l.getD 2 0 = x2 at *
  generalize l.getD 3 0 = x3 at *
  clear l
  have HG := Lib.hid hg
  obtain ⟨t, ht⟩ : ∃ t, toldZ a = t := ⟨_, rfl⟩
  have HT := Lib.hid (fun w => told_any a w t ht B0)
  obtain ⟨k0, k2, k3, k4⟩ := heads_cut B0.1 B0.2
  obtain ⟨a0, a1⟩ := B0
  by_cases hbad : toldZ a = 0 ∨ (n : Int) < toldZ a
  · rw [told_bad h0 hbad] at hc
    obtain ⟨rfl, rfl⟩ : (65533 : Int) = r ∧ 1 = k := by cases hc; exact ⟨rfl, rfl⟩
    clear hc k0 k2 k3 k4 hg
    rw [ht] at hbad
    have tb : 0 ≤ t ∧ t ≤ 4 := by have := told_cases a; omega
    clear ht
    by_cases t0 : t = 0
    · subst t0
      clear hbad tb
      go_enter Tryd.func49, Tryd.ntmps49
      go_wp2_with (go_at_call 65; refine (HT.out _).mono ?_; rintro e w' ⟨rfl, rfl⟩)
      go_ret2
      exact ⟨rfl, AnyLater.refl _⟩
    · have d0 : (t == 0) = false := by simpa using t0
      have d1 : (n : Int) < t := by omega
      clear hbad
      go_enter Tryd.func49, Tryd.ntmps49
      go_wp2_with (go_at_call 65; refine (HT.out _).mono ?_; rintro e w' ⟨rfl, rfl⟩)
      go_ret2
      exact ⟨rfl, AnyLater.refl _⟩
  have hok := not_or.1 hbad
  have tc := told_cases a
  clear hbad
  rcases tc with ⟨i1, e⟩ | ⟨_, _, e⟩ | ⟨i1, i2, e⟩ | ⟨i1, i2, e⟩ | ⟨i1, i2, e⟩ | ⟨_, e⟩
  · obtain rfl : 1 = t := e.symm.trans ht
    obtain ⟨rfl, rfl⟩ : a = r ∧ 1 = k := by
      have : dec4 n a x1 x2 x3 = (a, 1) := by unfold dec4; rw [if_neg h0, if_pos i1]
      rw [this] at hc; cases hc; exact ⟨rfl, rfl⟩
    have hs : sizeZ a = 1 := by unfold sizeZ; rw [if_neg (by omega), if_pos i1]
    have HS := Lib.hid (fun w => size_any a w 1 hs ⟨by omega, by omega⟩)
    have g1 := hg.c1
    clear hc ht e k2 k3 k4 hs hg
    go_enter Tryd.func49, Tryd.ntmps49
    go_wp2_with (go_at_call 65; refine (HT.out _).mono ?_; rintro e w' ⟨rfl, rfl⟩)
    go_quiet (fail)
    go_wp2_with (go_at_call 67; refine (HS.out _).mono ?_; rintro e w' ⟨rfl, rfl⟩)
    go_ret2
    exact ⟨rfl, (AnyLater.refl _).drewN _⟩
  · exact absurd e hok.1
  · obtain rfl : 2 = t := e.symm.trans ht
    have hn2 : 2 ≤ n := by have := hok.2; omega
    have cc1 := C1.out (by omega)
    have g1 := hg.c2
    have e2 := k2 i1 i2
    have J1 := Lib.hid (fun w => ujoin_any (a - 192) x1 w _ rfl ⟨by omega, by omega⟩ B1)
    have jb := joinZ_in (r := a - 192) (x := x1) (by omega) B1.2
    have HTW := told_two (b := x1) (c := x2) (d := x3) i1 i2 hn2
    rw [hc] at HTW
    clear hc ht e k0 k2 k3 k4 hg hok
    generalize joinZ (a - 192) x1 = j1 at *
    rcases HTW with ⟨hs, he⟩ | ⟨hs, he⟩
    · obtain ⟨rfl, rfl⟩ : r = j1 ∧ k = 2 := by cases he; exact ⟨rfl, rfl⟩
      have HS := Lib.hid (fun w => size_any r w 2 hs ⟨by omega, by omega⟩)
      clear hs he
      go_enter Tryd.func49, Tryd.ntmps49
      go_wp2_with (go_at_call 65; refine (HT.out _).mono ?_; rintro e w' ⟨rfl, rfl⟩)
      go_quiet (fail)
      go_wp2_with (first | (go_at_call 66; refine (J1.out _).mono ?_; rintro e w' ⟨rfl, rfl⟩) | (go_at_call 67; refine (HS.out _).mono ?_; rintro e w' ⟨rfl, rfl⟩))
      go_ret2
      exact ⟨rfl, (AnyLater.refl _).drewN _⟩
    · obtain ⟨rfl, rfl⟩ : r = 65533 ∧ k = 1 := by cases he; exact ⟨rfl, rfl⟩
      have HS := Lib.hid (fun w => size_any j1 w _ rfl ⟨by omega, by omega⟩)
      have d5 : (sizeZ j1 != 2) = true := by simpa using hs
      generalize sizeZ j1 = s at *
      clear hs he
      go_enter Tryd.func49, Tryd.ntmps49
      go_wp2_with (go_at_call 65; refine (HT.out _).mono ?_; rintro e w' ⟨rfl, rfl⟩)
      go_quiet (fail)
      go_wp2_with (first | (go_at_call 66; refine (J1.out _).mono ?_; rintro e w' ⟨rfl, rfl⟩) | (go_at_call 67; refine (HS.out _).mono ?_; rintro e w' ⟨rfl, rfl⟩))
      go_ret2
      exact ⟨rfl, (AnyLater.refl _).drewN _⟩
  · obtain rfl : 3 = t := e.symm.trans ht
    have hn3 : 3 ≤ n := by have := hok.2; omega
    have cc1 := C1.out (by omega)
    have cc2 := C2.out (by omega)
    have g1 := hg.c3
    have e2 := k3 i1 i2
    have HTW := told_three (b := x1) (c := x2) (d := x3) i1 i2 hn3
    rw [hc] at HTW
    clear hc ht e k0 k2 k3 k4 hg hok
    have jb1 := joinZ_le (r := (a - 224)) (x := x1) (m := 15) (by omega) (by omega)
    generalize hj1 : joinZ (a - 224) x1 = j1 at *
    have jb2 := joinZ_le (r := j1) (x := x2) (m := 1023) (by omega) (by omega)
    generalize hj2 : joinZ j1 x2 = j2 at *
    rcases HTW with ⟨hs, he⟩ | ⟨hs, he⟩
    · obtain ⟨rfl, rfl⟩ : r = j2 ∧ k = 3 := by cases he; exact ⟨rfl, rfl⟩
      have HS := Lib.hid (fun w => size_any r w 3 hs ⟨by omega, by omega⟩)
      clear hs he
      go_enter Tryd.func49, Tryd.ntmps49
      go_wp2_with (go_at_call 65; refine (HT.out _).mono ?_; rintro e w' ⟨rfl, rfl⟩)
      go_quiet (fail)
      go_wp2_with (first | (go_at_call 66; refine (ujoin_any _ _ _ _ (by assumption) ⟨by omega, by omega⟩ ⟨by omega, by omega⟩).mono ?_; rintro e w' ⟨rfl, rfl⟩) | (go_at_call 67; refine (HS.out _).mono ?_; rintro e w' ⟨rfl, rfl⟩))
      go_ret2
      exact ⟨rfl, (AnyLater.refl _).drewN _⟩
    · obtain ⟨rfl, rfl⟩ : r = 65533 ∧ k = 1 := by cases he; exact ⟨rfl, rfl⟩
      have HS := Lib.hid (fun w => size_any j2 w _ rfl ⟨by omega, by omega⟩)
      have d5 : (sizeZ j2 != 3) = true := by simpa using hs
      generalize sizeZ j2 = s at *
      clear hs he
      go_enter Tryd.func49, Tryd.ntmps49
      go_wp2_with (go_at_call 65; refine (HT.out _).mono ?_; rintro e w' ⟨rfl, rfl⟩)
      go_quiet (fail)
      go_wp2_with (first | (go_at_call 66; refine (ujoin_any _ _ _ _ (by assumption) ⟨by omega, by omega⟩ ⟨by omega, by omega⟩).mono ?_; rintro e w' ⟨rfl, rfl⟩) | (go_at_call 67; refine (HS.out _).mono ?_; rintro e w' ⟨rfl, rfl⟩))
      go_ret2
      exact ⟨rfl, (AnyLater.refl _).drewN _⟩
  · obtain rfl : 4 = t := e.symm.trans ht
    have hn4 : 4 ≤ n := by have := hok.2; omega
    have cc1 := C1.out (by omega)
    have cc2 := C2.out (by omega)
    have cc3 := C3.out (by omega)
    have g1 := hg.c4
    have e2 := k4 i1 i2
    have HTW := told_four (b := x1) (c := x2) (d := x3) i1 i2 hn4
    rw [hc] at HTW
    clear hc ht e k0 k2 k3 k4 hg hok
    have jb1 := joinZ_le (r := (a - 240)) (x := x1) (m := 7) (by omega) (by omega)
    generalize hj1 : joinZ (a - 240) x1 = j1 at *
    have jb2 := joinZ_le (r := j1) (x := x2) (m := 511) (by omega) (by omega)
    generalize hj2 : joinZ j1 x2 = j2 at *
    have jb3 := joinZ_le (r := j2) (x := x3) (m := 32767) (by omega) (by omega)
    generalize hj3 : joinZ j2 x3 = j3 at *
    rcases HTW with ⟨hs, he⟩ | ⟨hs, he⟩
    · obtain ⟨rfl, rfl⟩ : r = j3 ∧ k = 4 := by cases he; exact ⟨rfl, rfl⟩
      have HS := Lib.hid (fun w => size_any r w 4 hs ⟨by omega, by omega⟩)
      clear hs he
      go_enter Tryd.func49, Tryd.ntmps49
      go_wp2_with (go_at_call 65; refine (HT.out _).mono ?_; rintro e w' ⟨rfl, rfl⟩)
      go_quiet (fail)
      go_wp2_with (first | (go_at_call 66; refine (ujoin_any _ _ _ _ (by assumption) ⟨by omega, by omega⟩ ⟨by omega, by omega⟩).mono ?_; rintro e w' ⟨rfl, rfl⟩) | (go_at_call 67; refine (HS.out _).mono ?_; rintro e w' ⟨rfl, rfl⟩))
      go_ret2
      exact ⟨rfl, (AnyLater.refl _).drewN _⟩
    · obtain ⟨rfl, rfl⟩ : r = 65533 ∧ k = 1 := by cases he; exact ⟨rfl, rfl⟩
      have HS := Lib.hid (fun w => size_any j3 w _ rfl ⟨by omega, by omega⟩)
      have d5 : (sizeZ j3 != 4) = true := by simpa using hs
      generalize sizeZ j3 = s at *
      clear hs he
      go_enter Tryd.func49, Tryd.ntmps49
      go_wp2_with (go_at_call 65; refine (HT.out _).mono ?_; rintro e w' ⟨rfl, rfl⟩)
      go_quiet (fail)
      go_wp2_with (first | (go_at_call 66; refine (ujoin_any _ _ _ _ (by assumption) ⟨by omega, by omega⟩ ⟨by omega, by omega⟩).mono ?_; rintro e w' ⟨rfl, rfl⟩) | (go_at_call 67; refine (HS.out _).mono ?_; rintro e w' ⟨rfl, rfl⟩))
      go_ret2
      exact ⟨rfl, (AnyLater.refl _).drewN _⟩
  · exact absurd e hok.1
end Go.Proofs.YteplnejnhgmfiaaDoor
namespace Go.Proofs.YteplnejnhgmfiaaDoor
set_option linter.unusedSimpArgs false
set_option linter.unusedVariables false
set_option linter.unusedSectionVars false
open Go.RowKit

theorem ON.gives {k : IntKind} {t : TypeId} {w : World} {B : Nat} {v : Value} {l : List Int} (h : ON k t w B v l) : ∀ b, vblk v = some b → B ≤ b ∧ b < w.heap.size := by
  rcases h.2 with ⟨rfl, _⟩ | ⟨g, cap, cur, rfl, h1, h2, _⟩
  · intro b hb; cases hb
  · intro b hb
    simp only [vblk, Option.some.injEq] at hb
    subst hb
    exact ⟨h1, own_lt h2⟩
/-- what the document's own Decode reckons of the first n bytes, i of them taken -/
def xw (l : List Int) (n : Nat) : Nat → Int
  | 0 => if n = 2 then l.getD 0 0 % 32 else if n = 3 then l.getD 0 0 % 16 else if n = 4 then l.getD 0 0 % 8 else l.getD 0 0
  | 1 => if n = 2 then l.getD 0 0 % 32 else if n = 3 then l.getD 0 0 % 16 else if n = 4 then l.getD 0 0 % 8 else l.getD 0 0
  | i + 2 => xw l n (i + 1) * 64 + l.getD (i + 1) 0 % 64
theorem xw_succ (l : List Int) (n : Nat) {i : Nat} (h : 1 ≤ i) : xw l n (i + 1) = xw l n i * 64 + l.getD i 0 % 64 := by
  obtain ⟨j, rfl⟩ : ∃ j, i = j + 1 := ⟨i - 1, by omega⟩
  rfl
theorem getD_byte {l : List Int} (hb : Bytes l) (j : Nat) : 0 ≤ l.getD j 0 ∧ l.getD j 0 ≤ 255 := by
  by_cases q : j < l.length
  · rw [List.getD_eq_getElem?_getD, List.getElem?_eq_getElem q]; exact hb.get q
  · rw [List.getD_eq_getElem?_getD, List.getElem?_eq_none (by omega)]; simp
theorem xw_one {l : List Int} (hb : Bytes l) (n : Nat) : 0 ≤ xw l n 1 ∧ xw l n 1 ≤ 255 := by
  have := getD_byte hb 0
  show 0 ≤ (if n = 2 then l.getD 0 0 % 32 else if n = 3 then l.getD 0 0 % 16 else if n = 4 then l.getD 0 0 % 8 else l.getD 0 0) ∧ (if n = 2 then l.getD 0 0 % 32 else if n = 3 then l.getD 0 0 % 16 else if n = 4 then l.getD 0 0 % 8 else l.getD 0 0) ≤ 255
  repeat' (first | omega | split)
theorem xw_in {l : List Int} (hb : Bytes l) (n : Nat) {i : Nat} (h1 : 1 ≤ i) (h : i ≤ 4) : 0 ≤ xw l n i ∧ xw l n i ≤ 67108863 := by
  have x1 := xw_one hb n
  have x2 : xw l n 2 = xw l n 1 * 64 + l.getD 1 0 % 64 := rfl
  have x3 : xw l n 3 = xw l n 2 * 64 + l.getD 2 0 % 64 := rfl
  have x4 : xw l n 4 = xw l n 3 * 64 + l.getD 3 0 % 64 := rfl
  have : i = 1 ∨ i = 2 ∨ i = 3 ∨ i = 4 := by omega
  rcases this with rfl | rfl | rfl | rfl <;> omega
def tU (l : List Int) (n : Nat) : Bool := decide (xw l n n < 1114112) && decide (encU (xw l n n) = l.take n)
theorem xw_enc (a b c d : Int) (t : List Int) : xw (a :: t) 1 1 = a ∧ xw (a :: b :: t) 2 2 = a % 32 * 64 + b % 64 ∧ xw (a :: b :: c :: t) 3 3 = (a % 16 * 64 + b % 64) * 64 + c % 64 ∧ xw (a :: b :: c :: d :: t) 4 4 = ((a % 8 * 64 + b % 64) * 64 + c % 64) * 64 + d % 64 := by
  refine ⟨rfl, rfl, rfl, rfl⟩
/-- where the bytes are what was reckoned, it is told -/
theorem tU_yes {l : List Int} (hb : Bytes l) {n : Nat} (h1 : 1 ≤ n) (h4 : n ≤ 4) (hn : n ≤ l.length) (h : tU l n = true) : decU l = (xw l n n, n) := by
  unfold tU at h
  rw [Bool.and_eq_true] at h
  have e := of_decide_eq_true h.2
  have hl : (l.take n).length = n := by rw [List.length_take]; omega
  rcases hg : goodR (xw l n n)
  · exfalso
    rw [encU_bad hg] at e
    rw [← e] at hl
    obtain rfl : n = 3 := by simpa using hl.symm
    match l, hn, e, hg with
    | a :: b :: c :: t, _, e, hg =>
      have e2 : ([239, 191, 189] : List Int) = [a, b, c] := e
      simp only [List.cons.injEq, and_true] at e2
      obtain ⟨rfl, rfl, rfl⟩ := e2
      rw [(xw_enc 239 191 189 0 t).2.2.1] at hg
      revert hg
      decide
  · rw [encU_of hg] at e
    exact dec_of hg e.symm (by rw [e]; exact hl)
/-- where no bytes are, none is told -/
theorem tU_no {l : List Int} (hb : Bytes l) (h0 : l ≠ []) (h : ∀ n, 1 ≤ n → n ≤ 4 → n ≤ l.length → tU l n = false) : decU l = (65533, 1) := by
  rcases dec_cases l hb with ⟨e, _⟩ | ⟨r, rest, hg, rfl, e⟩ | ⟨_, e⟩
  · exact absurd e h0
  · exfalso
    have hl := encN_len hg
    have hf := h (encN r).length hl.1 hl.2 (by simp)
    have hx : xw (encN r ++ rest) (encN r).length (encN r).length = r := by
      rcases encN_shape hg with ⟨h1, e⟩ | ⟨a, b, e, h1, h2, h3, h4, h5⟩ | ⟨a, b, c, e, h1, h2, h3, h4, h5, h6, h7, h8, h9⟩ | ⟨a, b, c, d, e, h1, h2, h3, h4, h5, h6, h7, h8, h9, ha, hb⟩ <;> rw [e]
      · exact (xw_enc r 0 0 0 rest).1
      · refine (xw_enc a b 0 0 rest).2.1.trans ?_
        rw [h5]; unfold v2; omega
      · refine (xw_enc a b c 0 rest).2.2.1.trans ?_
        rw [h9]; unfold v3; omega
      · refine (xw_enc a b c d rest).2.2.2.trans ?_
        rw [hb]; unfold v4; omega
    unfold tU at hf
    rw [hx, encU_of hg, List.take_left' rfl] at hf
    have := goodR_in hg
    simp at hf
    omega
  · exact e
set_option maxRecDepth 100000 in
set_option maxHeartbeats 6400000 in
theorem refDec_any (v : Value) (l : List Int) (w : World) (r : Int) (k : Nat) (hc : decU l = (r, k)) (hv : RU8 w v l) (hb : Bytes l) (hl : l.length ≤ 1000) :
    Calls Tryd.prog 57 #[v] w fun e w' => e = .returned (.tuple #[.int .i32 r, .int .i64 (k : Int)]) ∧ AnyLater w w' := by
  have HV := Lib.hid hv
  obtain ⟨A, cap, rfl, hcap, hcell⟩ := hv
  by_cases h0 : l.length = 0
  · obtain rfl := List.eq_nil_of_length_eq_zero h0
    obtain ⟨rfl, rfl⟩ : (0 : Int) = r ∧ 0 = k := by have : ((0 : Int), (0 : Nat)) = (r, k) := hc
                                                    cases this; exact ⟨rfl, rfl⟩
    clear hc hb hcell HV
    simp only [List.length_nil] at *
    go_enter Tryd.func57, Tryd.ntmps57
    go_wp2_with fail
    go_ret2
    exact ⟨rfl, AnyLater.refl _⟩
  obtain ⟨b, off, rfl, hbl, hcl⟩ := hcell (by omega)
  obtain ⟨L, hL⟩ : ∃ L, l.length = L := ⟨_, rfl⟩
  have HLL := Lib.hid hL
  have HB := Lib.hid hb
  have HBL := Lib.hid hbl
  have HGD := Lib.hid (getD_byte hb)
  have HCJ : Hid (∀ j, j < L → w.cell? ⟨b, off + j, none⟩ = some (.int .u8 (l.getD j 0))) := Lib.hid (fun j hj => by
    rw [hcl j (by omega)]; simp [List.getD_eq_getElem?_getD, show j < l.length by omega])
  have HN0 : Hid ((∀ n, 1 ≤ n → n ≤ 4 → n ≤ L → tU l n = false) → 65533 = r ∧ 1 = k) := Lib.hid (fun h => by
    have := tU_no hb (by intro e; rw [e] at h0; exact h0 rfl) (by rw [hL]; exact h)
    rw [hc] at this
    cases this; exact ⟨rfl, rfl⟩)
  have HC := Lib.hid hc
  have cc0 := HCJ.out 0 (by omega)
  rw [Nat.add_zero] at cc0
  obtain ⟨a1, a2⟩ := HGD.out 0
  rw [hL] at hcap hl h0 HV ⊢
  clear hcl hcell hc hb hL
  obtain ⟨a, ha⟩ : ∃ a, l.getD 0 0 = a := ⟨_, rfl⟩
  have HA0 := Lib.hid ha
  rw [ha] at cc0 a1 a2
  clear ha
  have CC0 := Lib.hid cc0
  have d0 : ((L : Int) == 0) = false := by simpa using h0
  go_enter Tryd.func57, Tryd.ntmps57
  go_wp2_with fail
  go_loopg [4] 5 (fun kk nv wr => AnyLater w wr ∧ ∃ n : Nat, kk = 6 - n ∧ 1 ≤ n ∧ n ≤ 5 ∧ nv = .int .i64 n ∧ ∀ m, 1 ≤ m → m < n → m ≤ L → tU l m = false)
  case atStart => exact ⟨AnyLater.refl w, 1, by omega, by omega, by omega, rfl, fun m _ _ _ => by omega⟩
  case round =>
    obtain ⟨a_wr, n, hk, hn1, hn5, rfl, hno⟩ := hrel
    have HA := Lib.hid a_wr
    have HNo := Lib.hid hno
    have cc0w := (a_wr.below.cell hbl).trans cc0
    clear hno
    by_cases hle : n ≤ L ∧ n ≤ 4
    · obtain ⟨le1, le2⟩ := hle
      have hcs : n = 1 ∨ n = 2 ∨ n = 3 ∨ n = 4 := by omega
      clear a_wr cc0
      rcases hcs with rfl | rfl | rfl | rfl
      · have HX1 : Hid (xw l 1 1 = a) := Lib.hid (by rw [← HA0.out]; rfl)
        have hn1 : 1 ≤ L := by omega
        go_wp2_with fail
        go_loopg [5, 6] 1 (fun kk xv iv wr => AnyLater w wr ∧ ∃ i : Nat, kk = 1 + 1 - i ∧ 1 ≤ i ∧ i ≤ 1 ∧ iv = .int .i64 i ∧ xv = .int .i64 (xw l 1 i))
        case atStart => exact ⟨HA.out, 1, by omega, by omega, by omega, rfl, by rw [HX1.out]⟩
        case round =>
          obtain ⟨a_wr, i, hk2, hi1, hi2, rfl, rfl⟩ := hrel
          have HA2 := Lib.hid a_wr
          have xb := xw_in HB.out 1 hi1 (by omega)
          obtain ⟨z, hz⟩ : ∃ z, xw l 1 i = z := ⟨_, rfl⟩
          rw [hz] at xb ⊢
          have HZ := Lib.hid hz
          clear hz
          by_cases hli : i < 1
          · exfalso; omega
          · obtain rfl : i = 1 := by omega
            have HTU : Hid (tU l 1 = (decide (z < 1114112) && decide (encU z = l.take 1))) := Lib.hid (by unfold tU; rw [HZ.out])
            have HY : Hid (tU l 1 = true → decU l = (z, 1)) := Lib.hid (fun h => by rw [tU_yes HB.out (by decide) (by decide) (by rw [HLL.out]; omega) h, HZ.out])
            clear HX1
            by_cases hlt : z < 1114112
            · have hd : decide (z < 1114112) = true := decide_eq_true hlt
              obtain ⟨E, hE⟩ : ∃ E, encU z = E := ⟨_, rfl⟩
              obtain ⟨T, hT⟩ : ∃ T, l.take 1 = T := ⟨_, rfl⟩
              have hru : RU8 w (.slice (some ⟨b, off, none⟩) 1 cap) T := by
                have h := HV.out
                rw [← HLL.out] at h
                rw [← hT]
                exact RN.take h 1 (by rw [HLL.out]; omega)
              have HEnc : Hid (∀ w', Calls Tryd.prog 72 #[.int .i32 z] w' (Gives (fun u w => RU8 w u E) w')) := Lib.hid (fun w' => (refEnc_any z w' ⟨by omega, by omega⟩).mono fun e w'' ⟨u, h1, h2, h3⟩ => ⟨u, h1, h2, by rw [← hE]; exact h3.rn, h3.gives⟩)
              have HTk : Hid (∀ w', AnyLater wr w' → RU8 w' (.slice (some ⟨b, off, none⟩) 1 cap) T) := Lib.hid (fun w' h => hru.later (HA2.out.trans h))
              have hse := str_eq (a := E) (b := T) (by rw [← hE]; exact encU_bytes z) (by rw [← hT]; exact HB.out.take 1)
              rw [hE, hT, decide_eq_true hlt, Bool.true_and] at HTU
              clear hru hE hT
              rcases q : decide (E = T)
              · rw [q] at hse
                have HF : Hid (tU l 1 = false) := Lib.hid (by rw [HTU.out, q])
                clear q
                go_wp2_with fail
                apply wp_region_free (13) [⟨5, 55, undef, true, fun u w => RU8 w u E⟩, ⟨6, 56, .string (strOfNums E), false, fun v _ => v = .string (strOfNums E)⟩, ⟨10, 60, .string (strOfNums T), false, fun v _ => v = .string (strOfNums T)⟩] [⟨5, 55, fun u w => RU8 w u E⟩] rfl (by kernel_rfl) (by kernel_rfl) (by kernel_rfl) (by simp) (by kernel_rfl)
                case hstab =>
                  intro c hc
                  simp only [List.mem_cons, List.not_mem_nil, or_false] at hc
                  rcases hc with rfl | rfl | rfl
                  · intro v x y hxy hv; exact (fun h k => RN.later k h) hxy hv
                  · intro v x y hxy hv; exact hv
                  · intro v x y hxy hv; exact hv
                case hfix =>
                  intro c hc
                  simp only [List.mem_cons, List.not_mem_nil, or_false] at hc
                  rcases hc with rfl | rfl | rfl
                  · exact .inl rfl
                  · exact .inr fun u x h => h
                  · exact .inr fun u x h => h
                case hlex =>
                  intro U hU
                  simp only [List.map_cons, List.map_nil, CA.act, actFrom, actOp, List.lookup, Nat.reduceBEq, Nat.reduceLeDiff, Nat.reduceAdd, if_false, if_true]
                  repeat (go_big_quiet_step (first | fail))
                  exact wpQuiet_nil rfl
                case hstep =>
                  intro j hj o ho
                  have hj2 : j = 0 ∨ j = 1 ∨ j = 2 := by simp at hj; omega
                  rcases hj2 with rfl | rfl | rfl
                  · cases ho
                    refine ⟨rfl, fun g x hx hp => ?_⟩
                    clear hp
                    simp only [fillAll, Act.put, List.setIfInBounds_toArray, List.set_cons_zero, List.set_cons_succ]
                    refine chain_go ?_ (free_gives (HEnc.out x))
                    first | (simp [go_sem, execOp]; done) | simp [go_sem, execOp, hcf]
                  · cases ho
                    refine ⟨rfl, fun g x hx hp => ?_⟩
                    have p55 : (fun u w => RU8 w u E) (g 5) x := hp _ (List.mem_of_getElem? (i := 0) rfl) (List.contains_iff_mem.1 (by kernel_rfl))
                    clear hp
                    simp only [fillAll, Act.put, List.setIfInBounds_toArray, List.set_cons_zero, List.set_cons_succ]
                    refine free_op ?_
                    have hrun := p55.str
                    simp [go_sem, execOp, hrun]
                  · cases ho
                    refine ⟨rfl, fun g x hx hp => ?_⟩
                    clear hp
                    simp only [fillAll, Act.put, List.setIfInBounds_toArray, List.set_cons_zero, List.set_cons_succ]
                    refine free_op ?_
                    have hrun := (HTk.out x hx).str
                    simp [go_sem, execOp, hrun]
                case htail =>
                  intro g u hst hne
                  have b_w5 : AnyLater wr (later u) := ⟨u, rfl⟩
                  generalize later u = w5 at *
                  clear u
                  obtain ⟨p55_w5, o55_w5⟩ := hst _ (List.mem_of_getElem? (i := 0) rfl)
                  dsimp only at p55_w5 o55_w5
                  clear hst hne
                  simp only [fillAll, Act.put, List.setIfInBounds_toArray, List.set_cons_zero, List.set_cons_succ, List.drop_succ_cons, List.drop_zero, List.drop_nil]
                  generalize g 5 = v55 at *
                  have z_w5 := b_w5.below.size
                  have a_w5 := a_wr.trans b_w5
                  go_wp2_with fail
                  go_roundg (6 - 2)
                  case measure => omega
                  case rel => exact ⟨a_w5, 2, rfl, by omega, by omega, rfl, fun m m1 m2 m3 => by
                    by_cases e : m = 1
                    · subst e; exact HF.out
                    · exact HNo.out m m1 (by omega) m3⟩
              · rw [q] at hse
                have HR := Lib.hid (HY.out (by rw [HTU.out, q]))
                clear q
                go_wp2_with fail
                apply wp_region_free (13) [⟨5, 55, undef, true, fun u w => RU8 w u E⟩, ⟨6, 56, .string (strOfNums E), false, fun v _ => v = .string (strOfNums E)⟩, ⟨10, 60, .string (strOfNums T), false, fun v _ => v = .string (strOfNums T)⟩] [⟨5, 55, fun u w => RU8 w u E⟩] rfl (by kernel_rfl) (by kernel_rfl) (by kernel_rfl) (by simp) (by kernel_rfl)
                case hstab =>
                  intro c hc
                  simp only [List.mem_cons, List.not_mem_nil, or_false] at hc
                  rcases hc with rfl | rfl | rfl
                  · intro v x y hxy hv; exact (fun h k => RN.later k h) hxy hv
                  · intro v x y hxy hv; exact hv
                  · intro v x y hxy hv; exact hv
                case hfix =>
                  intro c hc
                  simp only [List.mem_cons, List.not_mem_nil, or_false] at hc
                  rcases hc with rfl | rfl | rfl
                  · exact .inl rfl
                  · exact .inr fun u x h => h
                  · exact .inr fun u x h => h
                case hlex =>
                  intro U hU
                  simp only [List.map_cons, List.map_nil, CA.act, actFrom, actOp, List.lookup, Nat.reduceBEq, Nat.reduceLeDiff, Nat.reduceAdd, if_false, if_true]
                  repeat (go_big_quiet_step (first | fail))
                  exact wpQuiet_nil rfl
                case hstep =>
                  intro j hj o ho
                  have hj2 : j = 0 ∨ j = 1 ∨ j = 2 := by simp at hj; omega
                  rcases hj2 with rfl | rfl | rfl
                  · cases ho
                    refine ⟨rfl, fun g x hx hp => ?_⟩
                    clear hp
                    simp only [fillAll, Act.put, List.setIfInBounds_toArray, List.set_cons_zero, List.set_cons_succ]
                    refine chain_go ?_ (free_gives (HEnc.out x))
                    first | (simp [go_sem, execOp]; done) | simp [go_sem, execOp, hcf]
                  · cases ho
                    refine ⟨rfl, fun g x hx hp => ?_⟩
                    have p55 : (fun u w => RU8 w u E) (g 5) x := hp _ (List.mem_of_getElem? (i := 0) rfl) (List.contains_iff_mem.1 (by kernel_rfl))
                    clear hp
                    simp only [fillAll, Act.put, List.setIfInBounds_toArray, List.set_cons_zero, List.set_cons_succ]
                    refine free_op ?_
                    have hrun := p55.str
                    simp [go_sem, execOp, hrun]
                  · cases ho
                    refine ⟨rfl, fun g x hx hp => ?_⟩
                    clear hp
                    simp only [fillAll, Act.put, List.setIfInBounds_toArray, List.set_cons_zero, List.set_cons_succ]
                    refine free_op ?_
                    have hrun := (HTk.out x hx).str
                    simp [go_sem, execOp, hrun]
                case htail =>
                  intro g u hst hne
                  have b_w5 : AnyLater wr (later u) := ⟨u, rfl⟩
                  generalize later u = w5 at *
                  clear u
                  obtain ⟨p55_w5, o55_w5⟩ := hst _ (List.mem_of_getElem? (i := 0) rfl)
                  dsimp only at p55_w5 o55_w5
                  clear hst hne
                  simp only [fillAll, Act.put, List.setIfInBounds_toArray, List.set_cons_zero, List.set_cons_succ, List.drop_succ_cons, List.drop_zero, List.drop_nil]
                  generalize g 5 = v55 at *
                  have z_w5 := b_w5.below.size
                  have a_w5 := a_wr.trans b_w5
                  go_wp2_with fail
                  go_ret2
                  exact ⟨by have h := HC.out.symm.trans HR.out; cases h; rfl, a_w5⟩
            · have HF : Hid (tU l 1 = false) := Lib.hid (by rw [HTU.out, decide_eq_false hlt]; rfl)
              have hd : decide (z < 1114112) = false := decide_eq_false hlt
              clear a_wr
              go_wp2_with fail
              go_quiet (fail)
              go_wp2_with fail
              go_roundg (6 - 2)
              case measure => omega
              case rel => exact ⟨HA2.out.drewN _, 2, rfl, by omega, by omega, rfl, fun m m1 m2 m3 => by
                by_cases e : m = 1
                · subst e; exact HF.out
                · exact HNo.out m m1 (by omega) m3⟩
      · have HX1 : Hid (xw l 2 1 = a % 32) := Lib.hid (by rw [← HA0.out]; rfl)
        have hn1 : 2 ≤ L := by omega
        go_wp2_with fail
        go_loopg [5, 6] 2 (fun kk xv iv wr => AnyLater w wr ∧ ∃ i : Nat, kk = 2 + 1 - i ∧ 1 ≤ i ∧ i ≤ 2 ∧ iv = .int .i64 i ∧ xv = .int .i64 (xw l 2 i))
        case atStart => exact ⟨HA.out, 1, by omega, by omega, by omega, rfl, by rw [HX1.out]⟩
        case round =>
          obtain ⟨a_wr, i, hk2, hi1, hi2, rfl, rfl⟩ := hrel
          have HA2 := Lib.hid a_wr
          have xb := xw_in HB.out 2 hi1 (by omega)
          obtain ⟨z, hz⟩ : ∃ z, xw l 2 i = z := ⟨_, rfl⟩
          rw [hz] at xb ⊢
          have HZ := Lib.hid hz
          clear hz
          by_cases hli : i < 2
          · have cci : wr.cell? ⟨b, off + i, none⟩ = some (.int .u8 (l.getD i 0)) := (a_wr.below.cell HBL.out).trans (HCJ.out i (by omega))
            obtain ⟨yb1, yb2⟩ := HGD.out i
            have HS : Hid (xw l 2 (i + 1) = z * 64 + l.getD i 0 % 64) := Lib.hid (by rw [xw_succ l 2 hi1, HZ.out])
            generalize l.getD i 0 = y at *
            clear a_wr
            go_wp2_with fail
            go_roundg (2 + 1 - (i + 1))
            case measure => omega
            case rel => exact ⟨HA2.out, i + 1, rfl, by omega, by omega, by go_num, by rw [HS.out]⟩
          · obtain rfl : i = 2 := by omega
            have HTU : Hid (tU l 2 = (decide (z < 1114112) && decide (encU z = l.take 2))) := Lib.hid (by unfold tU; rw [HZ.out])
            have HY : Hid (tU l 2 = true → decU l = (z, 2)) := Lib.hid (fun h => by rw [tU_yes HB.out (by decide) (by decide) (by rw [HLL.out]; omega) h, HZ.out])
            clear HX1
            by_cases hlt : z < 1114112
            · have hd : decide (z < 1114112) = true := decide_eq_true hlt
              obtain ⟨E, hE⟩ : ∃ E, encU z = E := ⟨_, rfl⟩
              obtain ⟨T, hT⟩ : ∃ T, l.take 2 = T := ⟨_, rfl⟩
              have hru : RU8 w (.slice (some ⟨b, off, none⟩) 2 cap) T := by
                have h := HV.out
                rw [← HLL.out] at h
                rw [← hT]
                exact RN.take h 2 (by rw [HLL.out]; omega)
              have HEnc : Hid (∀ w', Calls Tryd.prog 72 #[.int .i32 z] w' (Gives (fun u w => RU8 w u E) w')) := Lib.hid (fun w' => (refEnc_any z w' ⟨by omega, by omega⟩).mono fun e w'' ⟨u, h1, h2, h3⟩ => ⟨u, h1, h2, by rw [← hE]; exact h3.rn, h3.gives⟩)
              have HTk : Hid (∀ w', AnyLater wr w' → RU8 w' (.slice (some ⟨b, off, none⟩) 2 cap) T) := Lib.hid (fun w' h => hru.later (HA2.out.trans h))
              have hse := str_eq (a := E) (b := T) (by rw [← hE]; exact encU_bytes z) (by rw [← hT]; exact HB.out.take 2)
              rw [hE, hT, decide_eq_true hlt, Bool.true_and] at HTU
              clear hru hE hT
              rcases q : decide (E = T)
              · rw [q] at hse
                have HF : Hid (tU l 2 = false) := Lib.hid (by rw [HTU.out, q])
                clear q
                go_wp2_with fail
                apply wp_region_free (13) [⟨5, 55, undef, true, fun u w => RU8 w u E⟩, ⟨6, 56, .string (strOfNums E), false, fun v _ => v = .string (strOfNums E)⟩, ⟨10, 60, .string (strOfNums T), false, fun v _ => v = .string (strOfNums T)⟩] [⟨5, 55, fun u w => RU8 w u E⟩] rfl (by kernel_rfl) (by kernel_rfl) (by kernel_rfl) (by simp) (by kernel_rfl)
                case hstab =>
                  intro c hc
                  simp only [List.mem_cons, List.not_mem_nil, or_false] at hc
                  rcases hc with rfl | rfl | rfl
                  · intro v x y hxy hv; exact (fun h k => RN.later k h) hxy hv
                  · intro v x y hxy hv; exact hv
                  · intro v x y hxy hv; exact hv
                case hfix =>
                  intro c hc
                  simp only [List.mem_cons, List.not_mem_nil, or_false] at hc
                  rcases hc with rfl | rfl | rfl
                  · exact .inl rfl
                  · exact .inr fun u x h => h
                  · exact .inr fun u x h => h
                case hlex =>
                  intro U hU
                  simp only [List.map_cons, List.map_nil, CA.act, actFrom, actOp, List.lookup, Nat.reduceBEq, Nat.reduceLeDiff, Nat.reduceAdd, if_false, if_true]
                  repeat (go_big_quiet_step (first | fail))
                  exact wpQuiet_nil rfl
                case hstep =>
                  intro j hj o ho
                  have hj2 : j = 0 ∨ j = 1 ∨ j = 2 := by simp at hj; omega
                  rcases hj2 with rfl | rfl | rfl
                  · cases ho
                    refine ⟨rfl, fun g x hx hp => ?_⟩
                    clear hp
                    simp only [fillAll, Act.put, List.setIfInBounds_toArray, List.set_cons_zero, List.set_cons_succ]
                    refine chain_go ?_ (free_gives (HEnc.out x))
                    first | (simp [go_sem, execOp]; done) | simp [go_sem, execOp, hcf]
                  · cases ho
                    refine ⟨rfl, fun g x hx hp => ?_⟩
                    have p55 : (fun u w => RU8 w u E) (g 5) x := hp _ (List.mem_of_getElem? (i := 0) rfl) (List.contains_iff_mem.1 (by kernel_rfl))
                    clear hp
                    simp only [fillAll, Act.put, List.setIfInBounds_toArray, List.set_cons_zero, List.set_cons_succ]
                    refine free_op ?_
                    have hrun := p55.str
                    simp [go_sem, execOp, hrun]
                  · cases ho
                    refine ⟨rfl, fun g x hx hp => ?_⟩
                    clear hp
                    simp only [fillAll, Act.put, List.setIfInBounds_toArray, List.set_cons_zero, List.set_cons_succ]
                    refine free_op ?_
                    have hrun := (HTk.out x hx).str
                    simp [go_sem, execOp, hrun]
                case htail =>
                  intro g u hst hne
                  have b_w5 : AnyLater wr (later u) := ⟨u, rfl⟩
                  generalize later u = w5 at *
                  clear u
                  obtain ⟨p55_w5, o55_w5⟩ := hst _ (List.mem_of_getElem? (i := 0) rfl)
                  dsimp only at p55_w5 o55_w5
                  clear hst hne
                  simp only [fillAll, Act.put, List.setIfInBounds_toArray, List.set_cons_zero, List.set_cons_succ, List.drop_succ_cons, List.drop_zero, List.drop_nil]
                  generalize g 5 = v55 at *
                  have z_w5 := b_w5.below.size
                  have a_w5 := a_wr.trans b_w5
                  go_wp2_with fail
                  go_roundg (6 - 3)
                  case measure => omega
                  case rel => exact ⟨a_w5, 3, rfl, by omega, by omega, rfl, fun m m1 m2 m3 => by
                    by_cases e : m = 2
                    · subst e; exact HF.out
                    · exact HNo.out m m1 (by omega) m3⟩
              · rw [q] at hse
                have HR := Lib.hid (HY.out (by rw [HTU.out, q]))
                clear q
                go_wp2_with fail
                apply wp_region_free (13) [⟨5, 55, undef, true, fun u w => RU8 w u E⟩, ⟨6, 56, .string (strOfNums E), false, fun v _ => v = .string (strOfNums E)⟩, ⟨10, 60, .string (strOfNums T), false, fun v _ => v = .string (strOfNums T)⟩] [⟨5, 55, fun u w => RU8 w u E⟩] rfl (by kernel_rfl) (by kernel_rfl) (by kernel_rfl) (by simp) (by kernel_rfl)
                case hstab =>
                  intro c hc
                  simp only [List.mem_cons, List.not_mem_nil, or_false] at hc
                  rcases hc with rfl | rfl | rfl
                  · intro v x y hxy hv; exact (fun h k => RN.later k h) hxy hv
                  · intro v x y hxy hv; exact hv
                  · intro v x y hxy hv; exact hv
                case hfix =>
                  intro c hc
                  simp only [List.mem_cons, List.not_mem_nil, or_false] at hc
                  rcases hc with rfl | rfl | rfl
                  · exact .inl rfl
                  · exact .inr fun u x h => h
                  · exact .inr fun u x h => h
                case hlex =>
                  intro U hU
                  simp only [List.map_cons, List.map_nil, CA.act, actFrom, actOp, List.lookup, Nat.reduceBEq, Nat.reduceLeDiff, Nat.reduceAdd, if_false, if_true]
                  repeat (go_big_quiet_step (first | fail))
                  exact wpQuiet_nil rfl
                case hstep =>
                  intro j hj o ho
                  have hj2 : j = 0 ∨ j = 1 ∨ j = 2 := by simp at hj; omega
                  rcases hj2 with rfl | rfl | rfl
                  · cases ho
                    refine ⟨rfl, fun g x hx hp => ?_⟩
                    clear hp
                    simp only [fillAll, Act.put, List.setIfInBounds_toArray, List.set_cons_zero, List.set_cons_succ]
                    refine chain_go ?_ (free_gives (HEnc.out x))
                    first | (simp [go_sem, execOp]; done) | simp [go_sem, execOp, hcf]
                  · cases ho
                    refine ⟨rfl, fun g x hx hp => ?_⟩
                    have p55 : (fun u w => RU8 w u E) (g 5) x := hp _ (List.mem_of_getElem? (i := 0) rfl) (List.contains_iff_mem.1 (by kernel_rfl))
                    clear hp
                    simp only [fillAll, Act.put, List.setIfInBounds_toArray, List.set_cons_zero, List.set_cons_succ]
                    refine free_op ?_
                    have hrun := p55.str
                    simp [go_sem, execOp, hrun]
                  · cases ho
                    refine ⟨rfl, fun g x hx hp => ?_⟩
                    clear hp
                    simp only [fillAll, Act.put, List.setIfInBounds_toArray, List.set_cons_zero, List.set_cons_succ]
                    refine free_op ?_
                    have hrun := (HTk.out x hx).str
                    simp [go_sem, execOp, hrun]
                case htail =>
                  intro g u hst hne
                  have b_w5 : AnyLater wr (later u) := ⟨u, rfl⟩
                  generalize later u = w5 at *
                  clear u
                  obtain ⟨p55_w5, o55_w5⟩ := hst _ (List.mem_of_getElem? (i := 0) rfl)
                  dsimp only at p55_w5 o55_w5
                  clear hst hne
                  simp only [fillAll, Act.put, List.setIfInBounds_toArray, List.set_cons_zero, List.set_cons_succ, List.drop_succ_cons, List.drop_zero, List.drop_nil]
                  generalize g 5 = v55 at *
                  have z_w5 := b_w5.below.size
                  have a_w5 := a_wr.trans b_w5
                  go_wp2_with fail
                  go_ret2
                  exact ⟨by have h := HC.out.symm.trans HR.out; cases h; rfl, a_w5⟩
            · have HF : Hid (tU l 2 = false) := Lib.hid (by rw [HTU.out, decide_eq_false hlt]; rfl)
              have hd : decide (z < 1114112) = false := decide_eq_false hlt
              clear a_wr
              go_wp2_with fail
              go_quiet (fail)
              go_wp2_with fail
              go_roundg (6 - 3)
              case measure => omega
              case rel => exact ⟨HA2.out.drewN _, 3, rfl, by omega, by omega, rfl, fun m m1 m2 m3 => by
                by_cases e : m = 2
                · subst e; exact HF.out
                · exact HNo.out m m1 (by omega) m3⟩
      · have HX1 : Hid (xw l 3 1 = a % 16) := Lib.hid (by rw [← HA0.out]; rfl)
        have hn1 : 3 ≤ L := by omega
        go_wp2_with fail
        go_loopg [5, 6] 3 (fun kk xv iv wr => AnyLater w wr ∧ ∃ i : Nat, kk = 3 + 1 - i ∧ 1 ≤ i ∧ i ≤ 3 ∧ iv = .int .i64 i ∧ xv = .int .i64 (xw l 3 i))
        case atStart => exact ⟨HA.out, 1, by omega, by omega, by omega, rfl, by rw [HX1.out]⟩
        case round =>
          obtain ⟨a_wr, i, hk2, hi1, hi2, rfl, rfl⟩ := hrel
          have HA2 := Lib.hid a_wr
          have xb := xw_in HB.out 3 hi1 (by omega)
          obtain ⟨z, hz⟩ : ∃ z, xw l 3 i = z := ⟨_, rfl⟩
          rw [hz] at xb ⊢
          have HZ := Lib.hid hz
          clear hz
          by_cases hli : i < 3
          · have cci : wr.cell? ⟨b, off + i, none⟩ = some (.int .u8 (l.getD i 0)) := (a_wr.below.cell HBL.out).trans (HCJ.out i (by omega))
            obtain ⟨yb1, yb2⟩ := HGD.out i
            have HS : Hid (xw l 3 (i + 1) = z * 64 + l.getD i 0 % 64) := Lib.hid (by rw [xw_succ l 3 hi1, HZ.out])
            generalize l.getD i 0 = y at *
            clear a_wr
            go_wp2_with fail
            go_roundg (3 + 1 - (i + 1))
            case measure => omega
            case rel => exact ⟨HA2.out, i + 1, rfl, by omega, by omega, by go_num, by rw [HS.out]⟩
          · obtain rfl : i = 3 := by omega
            have HTU : Hid (tU l 3 = (decide (z < 1114112) && decide (encU z = l.take 3))) := Lib.hid (by unfold tU; rw [HZ.out])
            have HY : Hid (tU l 3 = true → decU l = (z, 3)) := Lib.hid (fun h => by rw [tU_yes HB.out (by decide) (by decide) (by rw [HLL.out]; omega) h, HZ.out])
            clear HX1
            by_cases hlt : z < 1114112
            · have hd : decide (z < 1114112) = true := decide_eq_true hlt
              obtain ⟨E, hE⟩ : ∃ E, encU z = E := ⟨_, rfl⟩
              obtain ⟨T, hT⟩ : ∃ T, l.take 3 = T := ⟨_, rfl⟩
              have hru : RU8 w (.slice (some ⟨b, off, none⟩) 3 cap) T := by
                have h := HV.out
                rw [← HLL.out] at h
                rw [← hT]
                exact RN.take h 3 (by rw [HLL.out]; omega)
              have HEnc : Hid (∀ w', Calls Tryd.prog 72 #[.int .i32 z] w' (Gives (fun u w => RU8 w u E) w')) := Lib.hid (fun w' => (refEnc_any z w' ⟨by omega, by omega⟩).mono fun e w'' ⟨u, h1, h2, h3⟩ => ⟨u, h1, h2, by rw [← hE]; exact h3.rn, h3.gives⟩)
              have HTk : Hid (∀ w', AnyLater wr w' → RU8 w' (.slice (some ⟨b, off, none⟩) 3 cap) T) := Lib.hid (fun w' h => hru.later (HA2.out.trans h))
              have hse := str_eq (a := E) (b := T) (by rw [← hE]; exact encU_bytes z) (by rw [← hT]; exact HB.out.take 3)
              rw [hE, hT, decide_eq_true hlt, Bool.true_and] at HTU
              clear hru hE hT
              rcases q : decide (E = T)
              · rw [q] at hse
                have HF : Hid (tU l 3 = false) := Lib.hid (by rw [HTU.out, q])
                clear q
                go_wp2_with fail
                apply wp_region_free (13) [⟨5, 55, undef, true, fun u w => RU8 w u E⟩, ⟨6, 56, .string (strOfNums E), false, fun v _ => v = .string (strOfNums E)⟩, ⟨10, 60, .string (strOfNums T), false, fun v _ => v = .string (strOfNums T)⟩] [⟨5, 55, fun u w => RU8 w u E⟩] rfl (by kernel_rfl) (by kernel_rfl) (by kernel_rfl) (by simp) (by kernel_rfl)
                case hstab =>
                  intro c hc
                  simp only [List.mem_cons, List.not_mem_nil, or_false] at hc
                  rcases hc with rfl | rfl | rfl
                  · intro v x y hxy hv; exact (fun h k => RN.later k h) hxy hv
                  · intro v x y hxy hv; exact hv
                  · intro v x y hxy hv; exact hv
                case hfix =>
                  intro c hc
                  simp only [List.mem_cons, List.not_mem_nil, or_false] at hc
                  rcases hc with rfl | rfl | rfl
                  · exact .inl rfl
                  · exact .inr fun u x h => h
                  · exact .inr fun u x h => h
                case hlex =>
                  intro U hU
                  simp only [List.map_cons, List.map_nil, CA.act, actFrom, actOp, List.lookup, Nat.reduceBEq, Nat.reduceLeDiff, Nat.reduceAdd, if_false, if_true]
                  repeat (go_big_quiet_step (first | fail))
                  exact wpQuiet_nil rfl
                case hstep =>
                  intro j hj o ho
                  have hj2 : j = 0 ∨ j = 1 ∨ j = 2 := by simp at hj; omega
                  rcases hj2 with rfl | rfl | rfl
                  · cases ho
                    refine ⟨rfl, fun g x hx hp => ?_⟩
                    clear hp
                    simp only [fillAll, Act.put, List.setIfInBounds_toArray, List.set_cons_zero, List.set_cons_succ]
                    refine chain_go ?_ (free_gives (HEnc.out x))
                    first | (simp [go_sem, execOp]; done) | simp [go_sem, execOp, hcf]
                  · cases ho
                    refine ⟨rfl, fun g x hx hp => ?_⟩
                    have p55 : (fun u w => RU8 w u E) (g 5) x := hp _ (List.mem_of_getElem? (i := 0) rfl) (List.contains_iff_mem.1 (by kernel_rfl))
                    clear hp
                    simp only [fillAll, Act.put, List.setIfInBounds_toArray, List.set_cons_zero, List.set_cons_succ]
                    refine free_op ?_
                    have hrun := p55.str
                    simp [go_sem, execOp, hrun]
                  · cases ho
                    refine ⟨rfl, fun g x hx hp => ?_⟩
                    clear hp
                    simp only [fillAll, Act.put, List.setIfInBounds_toArray, List.set_cons_zero, List.set_cons_succ]
                    refine free_op ?_
                    have hrun := (HTk.out x hx).str
                    simp [go_sem, execOp, hrun]
                case htail =>
                  intro g u hst hne
                  have b_w5 : AnyLater wr (later u) := ⟨u, rfl⟩
                  generalize later u = w5 at *
                  clear u
                  obtain ⟨p55_w5, o55_w5⟩ := hst _ (List.mem_of_getElem? (i := 0) rfl)
                  dsimp only at p55_w5 o55_w5
                  clear hst hne
                  simp only [fillAll, Act.put, List.setIfInBounds_toArray, List.set_cons_zero, List.set_cons_succ, List.drop_succ_cons, List.drop_zero, List.drop_nil]
                  generalize g 5 = v55 at *
                  have z_w5 := b_w5.below.size
                  have a_w5 := a_wr.trans b_w5
                  go_wp2_with fail
                  go_roundg (6 - 4)
                  case measure => omega
                  case rel => exact ⟨a_w5, 4, rfl, by omega, by omega, rfl, fun m m1 m2 m3 => by
                    by_cases e : m = 3
                    · subst e; exact HF.out
                    · exact HNo.out m m1 (by omega) m3⟩
              · rw [q] at hse
                have HR := Lib.hid (HY.out (by rw [HTU.out, q]))
                clear q
                go_wp2_with fail
                apply wp_region_free (13) [⟨5, 55, undef, true, fun u w => RU8 w u E⟩, ⟨6, 56, .string (strOfNums E), false, fun v _ => v = .string (strOfNums E)⟩, ⟨10, 60, .string (strOfNums T), false, fun v _ => v = .string (strOfNums T)⟩] [⟨5, 55, fun u w => RU8 w u E⟩] rfl (by kernel_rfl) (by kernel_rfl) (by kernel_rfl) (by simp) (by kernel_rfl)
                case hstab =>
                  intro c hc
                  simp only [List.mem_cons, List.not_mem_nil, or_false] at hc
                  rcases hc with rfl | rfl | rfl
                  · intro v x y hxy hv; exact (fun h k => RN.later k h) hxy hv
                  · intro v x y hxy hv; exact hv
                  · intro v x y hxy hv; exact hv
                case hfix =>
                  intro c hc
                  simp only [List.mem_cons, List.not_mem_nil, or_false] at hc
                  rcases hc with rfl | rfl | rfl
                  · exact .inl rfl
                  · exact .inr fun u x h => h
                  · exact .inr fun u x h => h
                case hlex =>
                  intro U hU
                  simp only [List.map_cons, List.map_nil, CA.act, actFrom, actOp, List.lookup, Nat.reduceBEq, Nat.reduceLeDiff, Nat.reduceAdd, if_false, if_true]
                  repeat (go_big_quiet_step (first | fail))
                  exact wpQuiet_nil rfl
                case hstep =>
                  intro j hj o ho
                  have hj2 : j = 0 ∨ j = 1 ∨ j = 2 := by simp at hj; omega
                  rcases hj2 with rfl | rfl | rfl
                  · cases ho
                    refine ⟨rfl, fun g x hx hp => ?_⟩
                    clear hp
                    simp only [fillAll, Act.put, List.setIfInBounds_toArray, List.set_cons_zero, List.set_cons_succ]
                    refine chain_go ?_ (free_gives (HEnc.out x))
                    first | (simp [go_sem, execOp]; done) | simp [go_sem, execOp, hcf]
                  · cases ho
                    refine ⟨rfl, fun g x hx hp => ?_⟩
                    have p55 : (fun u w => RU8 w u E) (g 5) x := hp _ (List.mem_of_getElem? (i := 0) rfl) (List.contains_iff_mem.1 (by kernel_rfl))
                    clear hp
                    simp only [fillAll, Act.put, List.setIfInBounds_toArray, List.set_cons_zero, List.set_cons_succ]
                    refine free_op ?_
                    have hrun := p55.str
                    simp [go_sem, execOp, hrun]
                  · cases ho
                    refine ⟨rfl, fun g x hx hp => ?_⟩
                    clear hp
                    simp only [fillAll, Act.put, List.setIfInBounds_toArray, List.set_cons_zero, List.set_cons_succ]
                    refine free_op ?_
                    have hrun := (HTk.out x hx).str
                    simp [go_sem, execOp, hrun]
                case htail =>
                  intro g u hst hne
                  have b_w5 : AnyLater wr (later u) := ⟨u, rfl⟩
                  generalize later u = w5 at *
                  clear u
                  obtain ⟨p55_w5, o55_w5⟩ := hst _ (List.mem_of_getElem? (i := 0) rfl)
                  dsimp only at p55_w5 o55_w5
                  clear hst hne
                  simp only [fillAll, Act.put, List.setIfInBounds_toArray, List.set_cons_zero, List.set_cons_succ, List.drop_succ_cons, List.drop_zero, List.drop_nil]
                  generalize g 5 = v55 at *
                  have z_w5 := b_w5.below.size
                  have a_w5 := a_wr.trans b_w5
                  go_wp2_with fail
                  go_ret2
                  exact ⟨by have h := HC.out.symm.trans HR.out; cases h; rfl, a_w5⟩
            · have HF : Hid (tU l 3 = false) := Lib.hid (by rw [HTU.out, decide_eq_false hlt]; rfl)
              have hd : decide (z < 1114112) = false := decide_eq_false hlt
              clear a_wr
              go_wp2_with fail
              go_quiet (fail)
              go_wp2_with fail
              go_roundg (6 - 4)
              case measure => omega
              case rel => exact ⟨HA2.out.drewN _, 4, rfl, by omega, by omega, rfl, fun m m1 m2 m3 => by
                by_cases e : m = 3
                · subst e; exact HF.out
                · exact HNo.out m m1 (by omega) m3⟩
      · have HX1 : Hid (xw l 4 1 = a % 8) := Lib.hid (by rw [← HA0.out]; rfl)
        have hn1 : 4 ≤ L := by omega
        go_wp2_with fail
        go_loopg [5, 6] 4 (fun kk xv iv wr => AnyLater w wr ∧ ∃ i : Nat, kk = 4 + 1 - i ∧ 1 ≤ i ∧ i ≤ 4 ∧ iv = .int .i64 i ∧ xv = .int .i64 (xw l 4 i))
        case atStart => exact ⟨HA.out, 1, by omega, by omega, by omega, rfl, by rw [HX1.out]⟩
        case round =>
          obtain ⟨a_wr, i, hk2, hi1, hi2, rfl, rfl⟩ := hrel
          have HA2 := Lib.hid a_wr
          have xb := xw_in HB.out 4 hi1 (by omega)
          obtain ⟨z, hz⟩ : ∃ z, xw l 4 i = z := ⟨_, rfl⟩
          rw [hz] at xb ⊢
          have HZ := Lib.hid hz
          clear hz
          by_cases hli : i < 4
          · have cci : wr.cell? ⟨b, off + i, none⟩ = some (.int .u8 (l.getD i 0)) := (a_wr.below.cell HBL.out).trans (HCJ.out i (by omega))
            obtain ⟨yb1, yb2⟩ := HGD.out i
            have HS : Hid (xw l 4 (i + 1) = z * 64 + l.getD i 0 % 64) := Lib.hid (by rw [xw_succ l 4 hi1, HZ.out])
            generalize l.getD i 0 = y at *
            clear a_wr
            go_wp2_with fail
            go_roundg (4 + 1 - (i + 1))
            case measure => omega
            case rel => exact ⟨HA2.out, i + 1, rfl, by omega, by omega, by go_num, by rw [HS.out]⟩
          · obtain rfl : i = 4 := by omega
            have HTU : Hid (tU l 4 = (decide (z < 1114112) && decide (encU z = l.take 4))) := Lib.hid (by unfold tU; rw [HZ.out])
            have HY : Hid (tU l 4 = true → decU l = (z, 4)) := Lib.hid (fun h => by rw [tU_yes HB.out (by decide) (by decide) (by rw [HLL.out]; omega) h, HZ.out])
            clear HX1
            by_cases hlt : z < 1114112
            · have hd : decide (z < 1114112) = true := decide_eq_true hlt
              obtain ⟨E, hE⟩ : ∃ E, encU z = E := ⟨_, rfl⟩
              obtain ⟨T, hT⟩ : ∃ T, l.take 4 = T := ⟨_, rfl⟩
              have hru : RU8 w (.slice (some ⟨b, off, none⟩) 4 cap) T := by
                have h := HV.out
                rw [← HLL.out] at h
                rw [← hT]
                exact RN.take h 4 (by rw [HLL.out]; omega)
              have HEnc : Hid (∀ w', Calls Tryd.prog 72 #[.int .i32 z] w' (Gives (fun u w => RU8 w u E) w')) := Lib.hid (fun w' => (refEnc_any z w' ⟨by omega, by omega⟩).mono fun e w'' ⟨u, h1, h2, h3⟩ => ⟨u, h1, h2, by rw [← hE]; exact h3.rn, h3.gives⟩)
              have HTk : Hid (∀ w', AnyLater wr w' → RU8 w' (.slice (some ⟨b, off, none⟩) 4 cap) T) := Lib.hid (fun w' h => hru.later (HA2.out.trans h))
              have hse := str_eq (a := E) (b := T) (by rw [← hE]; exact encU_bytes z) (by rw [← hT]; exact HB.out.take 4)
              rw [hE, hT, decide_eq_true hlt, Bool.true_and] at HTU
              clear hru hE hT
              rcases q : decide (E = T)
              · rw [q] at hse
                have HF : Hid (tU l 4 = false) := Lib.hid (by rw [HTU.out, q])
                clear q
                go_wp2_with fail
                apply wp_region_free (13) [⟨5, 55, undef, true, fun u w => RU8 w u E⟩, ⟨6, 56, .string (strOfNums E), false, fun v _ => v = .string (strOfNums E)⟩, ⟨10, 60, .string (strOfNums T), false, fun v _ => v = .string (strOfNums T)⟩] [⟨5, 55, fun u w => RU8 w u E⟩] rfl (by kernel_rfl) (by kernel_rfl) (by kernel_rfl) (by simp) (by kernel_rfl)
                case hstab =>
                  intro c hc
                  simp only [List.mem_cons, List.not_mem_nil, or_false] at hc
                  rcases hc with rfl | rfl | rfl
                  · intro v x y hxy hv; exact (fun h k => RN.later k h) hxy hv
                  · intro v x y hxy hv; exact hv
                  · intro v x y hxy hv; exact hv
                case hfix =>
                  intro c hc
                  simp only [List.mem_cons, List.not_mem_nil, or_false] at hc
                  rcases hc with rfl | rfl | rfl
                  · exact .inl rfl
                  · exact .inr fun u x h => h
                  · exact .inr fun u x h => h
                case hlex =>
                  intro U hU
                  simp only [List.map_cons, List.map_nil, CA.act, actFrom, actOp, List.lookup, Nat.reduceBEq, Nat.reduceLeDiff, Nat.reduceAdd, if_false, if_true]
                  repeat (go_big_quiet_step (first | fail))
                  exact wpQuiet_nil rfl
                case hstep =>
                  intro j hj o ho
                  have hj2 : j = 0 ∨ j = 1 ∨ j = 2 := by simp at hj; omega
                  rcases hj2 with rfl | rfl | rfl
                  · cases ho
                    refine ⟨rfl, fun g x hx hp => ?_⟩
                    clear hp
                    simp only [fillAll, Act.put, List.setIfInBounds_toArray, List.set_cons_zero, List.set_cons_succ]
                    refine chain_go ?_ (free_gives (HEnc.out x))
                    first | (simp [go_sem, execOp]; done) | simp [go_sem, execOp, hcf]
                  · cases ho
                    refine ⟨rfl, fun g x hx hp => ?_⟩
                    have p55 : (fun u w => RU8 w u E) (g 5) x := hp _ (List.mem_of_getElem? (i := 0) rfl) (List.contains_iff_mem.1 (by kernel_rfl))
                    clear hp
                    simp only [fillAll, Act.put, List.setIfInBounds_toArray, List.set_cons_zero, List.set_cons_succ]
                    refine free_op ?_
                    have hrun := p55.str
                    simp [go_sem, execOp, hrun]
                  · cases ho
                    refine ⟨rfl, fun g x hx hp => ?_⟩
                    clear hp
                    simp only [fillAll, Act.put, List.setIfInBounds_toArray, List.set_cons_zero, List.set_cons_succ]
                    refine free_op ?_
                    have hrun := (HTk.out x hx).str
                    simp [go_sem, execOp, hrun]
                case htail =>
                  intro g u hst hne
                  have b_w5 : AnyLater wr (later u) := ⟨u, rfl⟩
                  generalize later u = w5 at *
                  clear u
                  obtain ⟨p55_w5, o55_w5⟩ := hst _ (List.mem_of_getElem? (i := 0) rfl)
                  dsimp only at p55_w5 o55_w5
                  clear hst hne
                  simp only [fillAll, Act.put, List.setIfInBounds_toArray, List.set_cons_zero, List.set_cons_succ, List.drop_succ_cons, List.drop_zero, List.drop_nil]
                  generalize g 5 = v55 at *
                  have z_w5 := b_w5.below.size
                  have a_w5 := a_wr.trans b_w5
                  go_wp2_with fail
                  go_roundg (6 - 5)
                  case measure => omega
                  case rel => exact ⟨a_w5, 5, rfl, by omega, by omega, rfl, fun m m1 m2 m3 => by
                    by_cases e : m = 4
                    · subst e; exact HF.out
                    · exact HNo.out m m1 (by omega) m3⟩
              · rw [q] at hse
                have HR := Lib.hid (HY.out (by rw [HTU.out, q]))
                clear q
                go_wp2_with fail
                apply wp_region_free (13) [⟨5, 55, undef, true, fun u w => RU8 w u E⟩, ⟨6, 56, .string (strOfNums E), false, fun v _ => v = .string (strOfNums E)⟩, ⟨10, 60, .string (strOfNums T), false, fun v _ => v = .string (strOfNums T)⟩] [⟨5, 55, fun u w => RU8 w u E⟩] rfl (by kernel_rfl) (by kernel_rfl) (by kernel_rfl) (by simp) (by kernel_rfl)
                case hstab =>
                  intro c hc
                  simp only [List.mem_cons, List.not_mem_nil, or_false] at hc
                  rcases hc with rfl | rfl | rfl
                  · intro v x y hxy hv; exact (fun h k => RN.later k h) hxy hv
                  · intro v x y hxy hv; exact hv
                  · intro v x y hxy hv; exact hv
                case hfix =>
                  intro c hc
                  simp only [List.mem_cons, List.not_mem_nil, or_false] at hc
                  rcases hc with rfl | rfl | rfl
                  · exact .inl rfl
                  · exact .inr fun u x h => h
                  · exact .inr fun u x h => h
                case hlex =>
                  intro U hU
                  simp only [List.map_cons, List.map_nil, CA.act, actFrom, actOp, List.lookup, Nat.reduceBEq, Nat.reduceLeDiff, Nat.reduceAdd, if_false, if_true]
                  repeat (go_big_quiet_step (first | fail))
                  exact wpQuiet_nil rfl
                case hstep =>
                  intro j hj o ho
                  have hj2 : j = 0 ∨ j = 1 ∨ j = 2 := by simp at hj; omega
                  rcases hj2 with rfl | rfl | rfl
                  · cases ho
                    refine ⟨rfl, fun g x hx hp => ?_⟩
                    clear hp
                    simp only [fillAll, Act.put, List.setIfInBounds_toArray, List.set_cons_zero, List.set_cons_succ]
                    refine chain_go ?_ (free_gives (HEnc.out x))
                    first | (simp [go_sem, execOp]; done) | simp [go_sem, execOp, hcf]
                  · cases ho
                    refine ⟨rfl, fun g x hx hp => ?_⟩
                    have p55 : (fun u w => RU8 w u E) (g 5) x := hp _ (List.mem_of_getElem? (i := 0) rfl) (List.contains_iff_mem.1 (by kernel_rfl))
                    clear hp
                    simp only [fillAll, Act.put, List.setIfInBounds_toArray, List.set_cons_zero, List.set_cons_succ]
                    refine free_op ?_
                    have hrun := p55.str
                    simp [go_sem, execOp, hrun]
                  · cases ho
                    refine ⟨rfl, fun g x hx hp => ?_⟩
                    clear hp
                    simp only [fillAll, Act.put, List.setIfInBounds_toArray, List.set_cons_zero, List.set_cons_succ]
                    refine free_op ?_
                    have hrun := (HTk.out x hx).str
                    simp [go_sem, execOp, hrun]
                case htail =>
                  intro g u hst hne
                  have b_w5 : AnyLater wr (later u) := ⟨u, rfl⟩
                  generalize later u = w5 at *
                  clear u
                  obtain ⟨p55_w5, o55_w5⟩ := hst _ (List.mem_of_getElem? (i := 0) rfl)
                  dsimp only at p55_w5 o55_w5
                  clear hst hne
                  simp only [fillAll, Act.put, List.setIfInBounds_toArray, List.set_cons_zero, List.set_cons_succ, List.drop_succ_cons, List.drop_zero, List.drop_nil]
                  generalize g 5 = v55 at *
                  have z_w5 := b_w5.below.size
                  have a_w5 := a_wr.trans b_w5
                  go_wp2_with fail
                  go_ret2
                  exact ⟨by have h := HC.out.symm.trans HR.out; cases h; rfl, a_w5⟩
            · have HF : Hid (tU l 4 = false) := Lib.hid (by rw [HTU.out, decide_eq_false hlt]; rfl)
              have hd : decide (z < 1114112) = false := decide_eq_false hlt
              clear a_wr
              go_wp2_with fail
              go_quiet (fail)
              go_wp2_with fail
              go_roundg (6 - 5)
              case measure => omega
              case rel => exact ⟨HA2.out.drewN _, 5, rfl, by omega, by omega, rfl, fun m m1 m2 m3 => by
                by_cases e : m = 4
                · subst e; exact HF.out
                · exact HNo.out m m1 (by omega) m3⟩
    · have HZ := Lib.hid (HN0.out (fun m m1 m2 m3 => HNo.out m m1 (by omega) m3))
      clear a_wr cc0 cc0w
      by_cases q4 : n ≤ 4
      · have qL : ¬ (n : Int) ≤ (L : Int) := by omega
        go_wp2_with fail
        go_ret2
        exact ⟨ret_two HZ.out.1 (by rw [← HZ.out.2]; rfl), HA.out⟩
      · go_wp2_with fail
        go_ret2
        exact ⟨ret_two HZ.out.1 (by rw [← HZ.out.2]; rfl), HA.out⟩
end Go.Proofs.YteplnejnhgmfiaaDoor
namespace Go.Proofs.YteplnejnhgmfiaaDoor
set_option linter.unusedSimpArgs false
set_option linter.unusedVariables false
set_option linter.unusedSectionVars false
open Go.RowKit

theorem it_succ (l : List Int) (j : Nat) : it l (j + 1) = it l j + (decU (l.drop (it l j))).2 := rfl
set_option maxRecDepth 100000 in
set_option maxHeartbeats 3200000 in
theorem refStarts_any (v : Value) (l : List Int) (c : Nat) (w : World) (hv : RU8 w v l) (hb : Bytes l) (hl : l.length ≤ 1000) (hc : Cnt l c) :
    Calls Tryd.prog 56 #[v] w fun e w' => ∃ u, e = .returned u ∧ AnyLater w w' ∧ ON .i64 3 w' w.heap.size u (stU l c) := by
  have HV := Lib.hid hv
  obtain ⟨A, cap, rfl, hcap⟩ := hv.form
  obtain ⟨L, hL⟩ : ∃ L, l.length = L := ⟨_, rfl⟩
  have HLL := Lib.hid hL
  have HB := Lib.hid hb
  have HC := Lib.hid hc
  have hcl := hc.le hb
  have HLE := Lib.hid (fun j => it_le hb j)
  rw [hL] at hl hcap hcl HLE HV ⊢
  clear hv hL hb hc
  go_enter Tryd.func56, Tryd.ntmps56
  go_wp2_with fail
  go_loopg [3, 4, 5] L (fun kk sv av iv wr => AnyLater w wr ∧ ∃ i j : Nat, kk = L - i ∧ i ≤ L ∧ j ≤ c ∧ i ≤ it l j ∧ iv = .int .i64 i ∧ av = .int .i64 (it l j) ∧ ON .i64 3 wr w.heap.size sv (stU l j))
  case atStart => exact ⟨(AnyLater.refl w).alloc _, 0, 0, by omega, by omega, by omega, by omega, rfl, rfl, by rw [stU_zero]; exact ON.one (Nat.le_refl _) (heap_new rfl)⟩
  case round =>
    obtain ⟨a_wr, i, j, hk, hi, hj, hij, rfl, rfl, ho⟩ := hrel
    have HA := Lib.hid a_wr
    have HO := Lib.hid ho
    have hpl := HLE.out j
    obtain ⟨A3, c3, rfl, h3⟩ := ho.form
    rw [stU_len] at HO h3 ⊢
    obtain ⟨p, hp⟩ : ∃ p, it l j = p := ⟨_, rfl⟩
    have HP := Lib.hid hp
    rw [hp] at hpl hij ⊢
    clear ho
    by_cases hiL : i < L
    · by_cases hip : i < p
      · clear a_wr hp
        go_wp2_with fail
        go_roundg (L - (i + 1))
        case measure => omega
        case rel => exact ⟨HA.out, i + 1, j, rfl, by omega, by omega, by rw [HP.out]; omega, by go_num, by rw [HP.out], HO.out⟩
      · obtain rfl : i = p := by omega
        have hjc : j < c := (HC.out.end_iff hj).1 (by rw [HLL.out, hp]; exact hiL)
        obtain ⟨r, k, hdec⟩ : ∃ r k, decU (l.drop i) = (r, k) := ⟨_, _, rfl⟩
        obtain ⟨u, hu, hcut⟩ := HV.out.cut i (by rw [HLL.out]; omega)
        have hrk := dec_rune (HB.out.drop i)
        have hlk := dec_len (HB.out.drop i)
        have hne : l.drop i ≠ [] := by intro e; have := congrArg List.length e; rw [List.length_drop, HLL.out] at this; simp at this; omega
        rw [hdec, List.length_drop, HLL.out] at hlk
        rw [hdec] at hrk
        have hk0 := hlk.2.1 hne
        have hk4 := hlk.2.2
        have hk1 := hlk.1
        have HIT : Hid (it l (j + 1) = i + k) := Lib.hid (by rw [it_succ, hp, hdec])
        have HD : Hid (Calls Tryd.prog 57 #[u] wr fun e w'' => e = .returned (.tuple #[.int .i32 r, .int .i64 (k : Int)]) ∧ AnyLater wr w'') := Lib.hid (refDec_any u (l.drop i) wr r k hdec (hu.later a_wr) (HB.out.drop i) (by rw [List.length_drop, HLL.out]; omega))
        simp only at hk4 hk1 hrk hk0
        clear hu hdec hlk a_wr hp hne
        go_wp2_with fail
        refine HD.out.mono ?_
        rintro e w3 ⟨rfl, b3⟩
        have ho3 := HO.out.later b3
        obtain ⟨u2, w4, k1, k2, k3⟩ := appI ((i : Int) + (k : Int)) ho3 (Nat.le_trans HA.out.below.size b3.below.size) (by rw [stU_len]; omega)
        have K1 := Lib.hid k1
        have K2 : Hid (ON .i64 3 w4 w.heap.size u2 (stU l (j + 1))) := Lib.hid (by rw [stU_succ, HIT.out, Int.natCast_add]; exact k2)
        have K3 := Lib.hid (k3 w (Nat.le_refl _) (HA.out.trans b3))
        clear k1 k2 k3 ho3 b3
        go_wp2_with (at_builtin; refine Lib.wpList_append_run _ rfl _ _ _ _ rfl _ _ rfl rfl _ _ K1.out ?_)
        go_roundg (L - (i + 1))
        case measure => omega
        case rel => exact ⟨K3.out, i + 1, j + 1, rfl, by omega, by omega, by rw [HIT.out]; omega, by go_num, by rw [HIT.out, Int.natCast_add], K2.out⟩
    · obtain rfl : i = L := by omega
      have hjc : j = c := by
        rcases Nat.lt_or_ge j c with h | h
        · have := HC.out.lt j h; rw [HP.out, HLL.out] at this; omega
        · omega
      subst hjc
      clear a_wr hp
      go_wp2_with fail
      go_ret
      exact ⟨_, rfl, HA.out, HO.out⟩
end Go.Proofs.YteplnejnhgmfiaaDoor
namespace Go.Proofs.YteplnejnhgmfiaaDoor
set_option linter.unusedSimpArgs false
set_option linter.unusedVariables false
set_option linter.unusedSectionVars false
open Go.RowKit

/-- no rune is one that is none -/
def valU (l : List Int) (c : Nat) : Bool := (List.range c).all fun j => !badU (l.drop (it l j))
theorem valU_yes {l : List Int} {c : Nat} (h : ∀ j, j < c → badU (l.drop (it l j)) = false) : valU l c = true := by
  unfold valU
  rw [List.all_eq_true]
  intro j hj
  rw [h j (List.mem_range.1 hj)]
  rfl
theorem valU_no {l : List Int} {c j : Nat} (hj : j < c) (h : badU (l.drop (it l j)) = true) : valU l c = false := by
  unfold valU
  rw [List.all_eq_false]
  exact ⟨j, List.mem_range.2 hj, by rw [h]; decide⟩
theorem valU_all {l : List Int} {c : Nat} (h : valU l c = true) : ∀ j, j < c → badU (l.drop (it l j)) = false := by
  intro j hj
  unfold valU at h
  have := List.all_eq_true.1 h j (List.mem_range.2 hj)
  simpa using this
set_option maxRecDepth 100000 in
set_option maxHeartbeats 3200000 in
theorem ucount_any (v : Value) (l : List Int) (c : Nat) (w : World) (hv : RU8 w v l) (hb : Bytes l) (hl : l.length ≤ 1000) (hg : GlobU w) (hc : Cnt l c) :
    Calls Tryd.prog 48 #[v] w fun e w' => e = .returned (.int .i64 (c : Int)) ∧ AnyLater w w' := by
  have HV := Lib.hid hv
  obtain ⟨A, cap, rfl, hcap⟩ := hv.form
  obtain ⟨L, hL⟩ : ∃ L, l.length = L := ⟨_, rfl⟩
  have HLL := Lib.hid hL
  have HB := Lib.hid hb
  have HG := Lib.hid hg
  have HC := Lib.hid hc
  have hcl := hc.le hb
  have HLE := Lib.hid (fun j => it_le hb j)
  rw [hL] at hl hcap hcl HLE HV ⊢
  clear hv hL hb hg hc
  go_enter Tryd.func48, Tryd.ntmps48
  go_wp2_with fail
  go_loopg [0, 3] c (fun kk sv av wr => AnyLater w wr ∧ ∃ (j m c2 : Nat) (A2 : Option Addr), kk = c - j ∧ j ≤ c ∧ av = .int .i64 j ∧ sv = .slice A2 m c2 ∧ m + it l j = L ∧ RU8 w (.slice A2 m c2) (l.drop (it l j)))
  case atStart => exact ⟨AnyLater.refl w, 0, L, cap, A, by omega, by omega, rfl, rfl, rfl, HV.out⟩
  case round =>
    obtain ⟨a_wr, j, m, c2, A2, hk, hj, rfl, rfl, hm, hr⟩ := hrel
    have HA := Lib.hid a_wr
    have HR := Lib.hid hr
    obtain ⟨p, hp⟩ : ∃ p, it l j = p := ⟨_, rfl⟩
    have HP := Lib.hid hp
    rw [hp] at hm HR
    by_cases hlt : 0 < m
    · have hjc : j < c := (HC.out.end_iff hj).1 (by rw [HLL.out, hp]; omega)
      obtain ⟨r, k, hdec⟩ : ∃ r k, decU (l.drop p) = (r, k) := ⟨_, _, rfl⟩
      have hlk := dec_len (HB.out.drop p)
      rw [hdec, List.length_drop, HLL.out] at hlk
      have hk1 := hlk.1
      have hpm : L - p = m := by omega
      obtain ⟨u, hu, hcut⟩ := HR.out.cut k (by rw [List.length_drop, HLL.out]; exact hk1)
      obtain ⟨A3, c3, rfl, h3⟩ := hu.form
      have hl3 : ((l.drop p).drop k).length = m - k := by rw [List.length_drop, List.length_drop, HLL.out]; omega
      rw [hl3] at hu hcut h3
      rw [List.drop_drop] at hu
      have HIT : Hid (it l (j + 1) = p + k) := Lib.hid (by rw [it_succ, hp, hdec])
      have HU := Lib.hid hu
      have HD : Hid (Calls Tryd.prog 49 #[.slice A2 m c2] wr fun e w'' => e = .returned (.tuple #[.int .i32 r, .int .i64 (k : Int)]) ∧ AnyLater wr w'') := Lib.hid (dec_any _ (l.drop p) wr r k hdec (HR.out.later a_wr) (HB.out.drop p) (by rw [List.length_drop, HLL.out]; omega) (HG.out.later a_wr))
      simp only at hk1
      rw [hpm] at hk1
      clear hu hdec hlk a_wr hp hr hl3 hpm
      go_wp2_with fail
      refine HD.out.mono ?_
      rintro e w3 ⟨rfl, b3⟩
      have HA3 := Lib.hid (HA.out.trans b3)
      clear b3
      go_wp2_with fail
      go_roundg (c - (j + 1))
      case measure => omega
      case rel => exact ⟨HA3.out, j + 1, m - k, c3, A3, rfl, by omega, by go_num, rfl, by rw [HIT.out]; omega, by rw [HIT.out]; exact HU.out⟩
    · have hjc : j = c := by
        rcases Nat.lt_or_ge j c with h | h
        · have := HC.out.lt j h; rw [HP.out, HLL.out] at this; omega
        · omega
      subst hjc
      clear a_wr hp hr
      go_wp2_with fail
      go_ret
      exact ⟨rfl, HA.out⟩
end Go.Proofs.YteplnejnhgmfiaaDoor
