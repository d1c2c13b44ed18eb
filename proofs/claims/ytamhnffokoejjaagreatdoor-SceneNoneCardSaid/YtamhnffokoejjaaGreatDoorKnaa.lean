/- what the proof stands on: Later UtfA -/
import Derived.Below
import Derived.BigQuiet
import Derived.WalkKit
import Derived.ProofKit
import Derived.OpenShut
import Derived.WalkLawsBesides
import Derived.IntWalk
import Derived.Lib.Hide
import Derived.Outline
import Derived.Deep.RegionHeld
namespace Go.Proofs.YtamhnffokoejjaaGreatDoor
set_option linter.unusedSimpArgs false
set_option linter.unusedVariables false
set_option linter.unusedSectionVars false
open Go.RowKit
structure Later (W : World) where
  now : World
  below : Below W.heap.size W now
def later {W : World} (u : Later W) : World := u.now
instance later_some (W : World) : Nonempty (Later W) := ⟨⟨W, Below.refl _ _⟩⟩
def AnyLater (W w : World) : Prop := ∃ u : Later W, w = later u
section
variable {W w w' : World}
theorem AnyLater.of (h : Below W.heap.size W w) : AnyLater W w := ⟨⟨w, h⟩, rfl⟩
theorem AnyLater.below (h : AnyLater W w) : Below W.heap.size W w := by obtain ⟨u, rfl⟩ := h; exact u.below
theorem AnyLater.refl (W : World) : AnyLater W W := .of (Below.refl _ _)
theorem AnyLater.trans {a b c : World} (h : AnyLater a b) (k : AnyLater b c) : AnyLater a c :=
  .of (h.below.trans (k.below.mono h.below.size))
theorem AnyLater.drew (h : AnyLater W w) : AnyLater W w.drew := .of h.below.drew
theorem AnyLater.drewN (h : AnyLater W w) (n : Nat) : AnyLater W (w.drewN n) := .of ⟨h.below.os, h.below.tape, h.below.output, h.below.size, h.below.block⟩
theorem AnyLater.alloc (h : AnyLater W w) (o : Obj) : AnyLater W (w.alloc o) := .of (h.below.alloc h.below.size o)
theorem AnyLater.setCell (h : AnyLater W w) {p : Addr} (hp : W.heap.size ≤ p.block) (v : Value) : AnyLater W (w.setCell p v) := .of (h.below.setCell hp v)
theorem AnyLater.later (h : AnyLater W w) (u : Later w) : AnyLater W (later u) := h.trans ⟨u, rfl⟩
theorem in_later {P : Program} {f : FuncId} {args : Array Value} {v : Value} {u : Later W}
    (c : Calls P f args (later u) fun e w' => e = .returned v ∧ AnyLater (later u) w') :
    Calls P f args (later u) fun e w' => e = .returned v ∧ ∃ u' : Later W, w' = later u' :=
  c.mono fun _ _ ⟨he, hw⟩ => ⟨he, AnyLater.trans ⟨u, rfl⟩ hw⟩
theorem in_later_same {P : Program} {f : FuncId} {args : Array Value} {v : Value} {u : Later W}
    (c : Calls P f args (later u) fun e w' => e = .returned v ∧ later u = w') :
    Calls P f args (later u) fun e w' => e = .returned v ∧ ∃ u' : Later W, w' = later u' :=
  c.mono fun _ _ ⟨he, hw⟩ => ⟨he, u, hw.symm⟩
theorem same_later {P : Program} {f : FuncId} {args : Array Value} {v : Value}
    (c : Calls P f args w fun e w' => e = .returned v ∧ w = w') : Calls P f args w fun e w' => e = .returned v ∧ AnyLater w w' :=
  c.mono fun _ _ ⟨he, hw⟩ => ⟨he, hw ▸ AnyLater.refl _⟩
end
theorem ret_int {k : IntKind} {a b : Int} (h : a = b) : Ending.returned (.int k a) = .returned (.int k b) := by rw [h]
theorem ret_bool {a b : Bool} (h : a = b) : Ending.returned (.bool a) = .returned (.bool b) := by rw [h]
end Go.Proofs.YtamhnffokoejjaaGreatDoor
namespace Go.Proofs.YtamhnffokoejjaaGreatDoor
set_option linter.unusedSimpArgs false
set_option linter.unusedVariables false
set_option linter.unusedSectionVars false
open Go.RowKit
def tl (c : Int) : Bool := decide (128 ≤ c ∧ c ≤ 191)
def goodR (r : Int) : Bool := decide (0 ≤ r ∧ r ≤ 1114111 ∧ ¬ (55296 ≤ r ∧ r ≤ 57343))
def encN (n : Int) : List Int :=
  if n < 128 then [n] else if n < 2048 then [192 + n / 64, 128 + n % 64] else if n < 65536 then [224 + n / 4096, 128 + n / 64 % 64, 128 + n % 64]
  else [240 + n / 262144, 128 + n / 4096 % 64, 128 + n / 64 % 64, 128 + n % 64]
def Bytes (l : List Int) : Prop := ∀ c ∈ l, 0 ≤ c ∧ c ≤ 255
def v2 (a b : Int) : Int := (a - 192) * 64 + (b - 128)
def v3 (a b c : Int) : Int := (a - 224) * 4096 + (b - 128) * 64 + (c - 128)
def v4 (a b c d : Int) : Int := (a - 240) * 262144 + (b - 128) * 4096 + (c - 128) * 64 + (d - 128)
def dec4 (n : Nat) (a b c d : Int) : Int × Nat :=
  if n = 0 then (0, 0) else if a < 128 then (a, 1)
  else if 2 ≤ n ∧ 194 ≤ a ∧ a ≤ 223 ∧ 128 ≤ b ∧ b ≤ 191 then (v2 a b, 2)
  else if 3 ≤ n ∧ 224 ≤ a ∧ a ≤ 239 ∧ 128 ≤ b ∧ b ≤ 191 ∧ 128 ≤ c ∧ c ≤ 191 ∧ 2048 ≤ v3 a b c ∧ ¬ (55296 ≤ v3 a b c ∧ v3 a b c ≤ 57343) then (v3 a b c, 3)
  else if 4 ≤ n ∧ 240 ≤ a ∧ a ≤ 247 ∧ 128 ≤ b ∧ b ≤ 191 ∧ 128 ≤ c ∧ c ≤ 191 ∧ 128 ≤ d ∧ d ≤ 191 ∧ 65536 ≤ v4 a b c d ∧ v4 a b c d ≤ 1114111 then (v4 a b c d, 4)
  else (65533, 1)
def decU (l : List Int) : Int × Nat := dec4 l.length (l.getD 0 0) (l.getD 1 0) (l.getD 2 0) (l.getD 3 0)
theorem goodR_in {r : Int} (h : goodR r = true) : 0 ≤ r ∧ r ≤ 1114111 ∧ ¬ (55296 ≤ r ∧ r ≤ 57343) := of_decide_eq_true h
theorem encN_shape {r : Int} (h : goodR r = true) :
    (r < 128 ∧ encN r = [r]) ∨
    (∃ a b, encN r = [a, b] ∧ 194 ≤ a ∧ a ≤ 223 ∧ 128 ≤ b ∧ b ≤ 191 ∧ r = v2 a b) ∨
    (∃ a b c, encN r = [a, b, c] ∧ 224 ≤ a ∧ a ≤ 239 ∧ 128 ≤ b ∧ b ≤ 191 ∧ 128 ≤ c ∧ c ≤ 191 ∧ 2048 ≤ v3 a b c ∧ ¬ (55296 ≤ v3 a b c ∧ v3 a b c ≤ 57343) ∧ r = v3 a b c) ∨
    (∃ a b c d, encN r = [a, b, c, d] ∧ 240 ≤ a ∧ a ≤ 247 ∧ 128 ≤ b ∧ b ≤ 191 ∧ 128 ≤ c ∧ c ≤ 191 ∧ 128 ≤ d ∧ d ≤ 191 ∧ 65536 ≤ v4 a b c d ∧ v4 a b c d ≤ 1114111 ∧ r = v4 a b c d) := by
  obtain ⟨h1, h2, h3⟩ := goodR_in h
  unfold encN v2 v3 v4
  by_cases q1 : r < 128
  · left; exact ⟨q1, if_pos q1⟩
  · rw [if_neg q1]
    by_cases q2 : r < 2048
    · right; left; rw [if_pos q2]; exact ⟨_, _, rfl, by omega, by omega, by omega, by omega, by omega⟩
    · rw [if_neg q2]
      by_cases q3 : r < 65536
      · right; right; left; rw [if_pos q3]; exact ⟨_, _, _, rfl, by omega, by omega, by omega, by omega, by omega, by omega, by omega, by omega, by omega⟩
      · right; right; right; rw [if_neg q3]; exact ⟨_, _, _, _, rfl, by omega, by omega, by omega, by omega, by omega, by omega, by omega, by omega, by omega, by omega, by omega⟩
theorem encN_2 {a b : Int} (h1 : 194 ≤ a) (h2 : a ≤ 223) (h3 : 128 ≤ b) (h4 : b ≤ 191) : encN (v2 a b) = [a, b] ∧ goodR (v2 a b) = true := by
  unfold encN v2 goodR
  rw [if_neg (by omega), if_pos (by omega)]
  refine ⟨?_, decide_eq_true (by omega)⟩
  congr 1
  · omega
  · congr 1; omega
theorem encN_3 {a b c : Int} (h1 : 224 ≤ a) (h2 : a ≤ 239) (h3 : 128 ≤ b) (h4 : b ≤ 191) (h5 : 128 ≤ c) (h6 : c ≤ 191) (h7 : 2048 ≤ v3 a b c) (h8 : ¬ (55296 ≤ v3 a b c ∧ v3 a b c ≤ 57343)) : encN (v3 a b c) = [a, b, c] ∧ goodR (v3 a b c) = true := by
  unfold v3 at h7 h8
  unfold encN v3 goodR
  rw [if_neg (by omega), if_neg (by omega), if_pos (by omega)]
  refine ⟨?_, decide_eq_true (by omega)⟩
  congr 1
  · omega
  · congr 1
    · omega
    · congr 1; omega
theorem encN_4 {a b c d : Int} (h1 : 240 ≤ a) (h2 : a ≤ 247) (h3 : 128 ≤ b) (h4 : b ≤ 191) (h5 : 128 ≤ c) (h6 : c ≤ 191) (hd : 128 ≤ d) (he : d ≤ 191) (h7 : 65536 ≤ v4 a b c d) (h8 : v4 a b c d ≤ 1114111) : encN (v4 a b c d) = [a, b, c, d] ∧ goodR (v4 a b c d) = true := by
  unfold v4 at h7 h8
  unfold encN v4 goodR
  rw [if_neg (by omega), if_neg (by omega), if_neg (by omega)]
  refine ⟨?_, decide_eq_true (by omega)⟩
  congr 1
  · omega
  · congr 1
    · omega
    · congr 1
      · omega
      · congr 1; omega
theorem encN_len {r : Int} (h : goodR r = true) : 1 ≤ (encN r).length ∧ (encN r).length ≤ 4 := by
  rcases encN_shape h with ⟨_, e⟩ | ⟨a, b, e, _⟩ | ⟨a, b, c, e, _⟩ | ⟨a, b, c, d, e, _⟩ <;> rw [e] <;> simp
theorem dec_cases (l : List Int) (hb : Bytes l) : (l = [] ∧ decU l = (0, 0)) ∨ (∃ r rest, goodR r = true ∧ l = encN r ++ rest ∧ decU l = (r, (encN r).length)) ∨ (l ≠ [] ∧ decU l = (65533, 1)) := by
  match l, hb with
  | [], _ => left; exact ⟨rfl, rfl⟩
  | a :: t, hb =>
    right
    have ha := hb a (by simp)
    unfold decU dec4
    rw [if_neg (by simp)]
    simp only [List.getD_cons_zero, List.getD_cons_succ]
    by_cases q1 : a < 128
    · left
      rw [if_pos q1]
      refine ⟨a, t, decide_eq_true (by omega), ?_, ?_⟩
      · unfold encN; rw [if_pos q1]; rfl
      · unfold encN; rw [if_pos q1]; rfl
    · rw [if_neg q1]
      split
      · rename_i h
        left
        obtain ⟨n1, h1, h2, h3, h4⟩ := h
        match t, n1, h3, h4 with
        | b :: t, _, h3, h4 =>
          obtain ⟨e, g⟩ := encN_2 h1 h2 h3 h4
          refine ⟨_, t, g, ?_, ?_⟩
          · simp only [List.getD_cons_zero] at e ⊢; rw [e]; rfl
          · simp only [List.getD_cons_zero] at e ⊢; rw [e]; rfl
      · split
        · rename_i h
          left
          obtain ⟨n1, h1, h2, h3, h4, h5, h6, h7, h8⟩ := h
          match t, n1, h3, h4, h5, h6, h7, h8 with
          | b :: c :: t, _, h3, h4, h5, h6, h7, h8 =>
            obtain ⟨e, g⟩ := encN_3 h1 h2 h3 h4 h5 h6 h7 h8
            refine ⟨_, t, g, ?_, ?_⟩
            · simp only [List.getD_cons_zero, List.getD_cons_succ] at e ⊢; rw [e]; rfl
            · simp only [List.getD_cons_zero, List.getD_cons_succ] at e ⊢; rw [e]; rfl
        · split
          · rename_i h
            left
            obtain ⟨n1, h1, h2, h3, h4, h5, h6, h7, h8, h9, hz⟩ := h
            match t, n1, h3, h4, h5, h6, h7, h8, h9, hz with
            | b :: c :: d :: t, _, h3, h4, h5, h6, h7, h8, h9, hz =>
              obtain ⟨e, g⟩ := encN_4 h1 h2 h3 h4 h5 h6 h7 h8 h9 hz
              refine ⟨_, t, g, ?_, ?_⟩
              · simp only [List.getD_cons_zero, List.getD_cons_succ] at e ⊢; rw [e]; rfl
              · simp only [List.getD_cons_zero, List.getD_cons_succ] at e ⊢; rw [e]; rfl
          · right; exact ⟨by simp, rfl⟩
theorem dec_len {l : List Int} (hb : Bytes l) : (decU l).2 ≤ l.length ∧ (l ≠ [] → 1 ≤ (decU l).2) ∧ (decU l).2 ≤ 4 := by
  rcases dec_cases l hb with ⟨rfl, e⟩ | ⟨r, rest, hg, rfl, e⟩ | ⟨hn, e⟩
  · rw [e]; simp
  · rw [e]
    have := encN_len hg
    simp only [List.length_append]
    refine ⟨by omega, fun _ => this.1, this.2⟩
  · rw [e]
    have := List.length_pos_iff.2 hn
    exact ⟨by omega, fun _ => Nat.le_refl _, by decide⟩
theorem dec_rune {l : List Int} (hb : Bytes l) : 0 ≤ (decU l).1 ∧ (decU l).1 ≤ 1114111 := by
  rcases dec_cases l hb with ⟨rfl, e⟩ | ⟨r, rest, hg, rfl, e⟩ | ⟨hn, e⟩
  · rw [e]; decide
  · rw [e]; have := goodR_in hg; exact ⟨this.1, this.2.1⟩
  · rw [e]; decide
theorem Bytes.drop {l : List Int} (h : Bytes l) (n : Nat) : Bytes (l.drop n) := fun c hc => h c (List.mem_of_mem_drop hc)
theorem Bytes.get {l : List Int} (h : Bytes l) {i : Nat} (hi : i < l.length) : 0 ≤ l[i] ∧ l[i] ≤ 255 := h _ (List.getElem_mem hi)
def it (l : List Int) : Nat → Nat
  | 0 => 0
  | j + 1 => it l j + (decU (l.drop (it l j))).2
theorem it_le {l : List Int} (hb : Bytes l) : ∀ j, it l j ≤ l.length
  | 0 => Nat.zero_le _
  | j + 1 => by
    have h1 := it_le hb j
    have h2 := (dec_len (hb.drop (it l j))).1
    rw [List.length_drop] at h2
    unfold it
    omega
theorem it_step {l : List Int} (hb : Bytes l) {j : Nat} (h : it l j < l.length) : it l j < it l (j + 1) ∧ it l (j + 1) ≤ it l j + 4 := by
  have h2 := dec_len (hb.drop (it l j))
  have := h2.2.1 (by intro e; have := congrArg List.length e; rw [List.length_drop] at this; simp at this; omega)
  show it l j < it l j + _ ∧ it l j + _ ≤ _
  omega
theorem it_mono {l : List Int} : ∀ {i j : Nat}, i ≤ j → it l i ≤ it l j
  | i, 0, h => by obtain rfl : i = 0 := by omega
                  exact Nat.le_refl _
  | i, j + 1, h => by
    by_cases e : i = j + 1
    · subst e; exact Nat.le_refl _
    · have := it_mono (l := l) (show i ≤ j by omega)
      show it l i ≤ it l j + (decU (l.drop (it l j))).2
      omega
theorem it_ge {l : List Int} (hb : Bytes l) : ∀ j, j ≤ it l j ∨ it l j = l.length
  | 0 => .inl (Nat.zero_le _)
  | j + 1 => by
    by_cases e : it l j < l.length
    · have := it_step hb e
      rcases it_ge hb j with h | h
      · left; omega
      · omega
    · right
      have h1 := it_le hb j
      have h2 := it_le hb (j + 1)
      have h3 := it_mono (l := l) (show j ≤ j + 1 by omega)
      omega
structure Cnt (l : List Int) (c : Nat) : Prop where
  fin : it l c = l.length
  lt : ∀ j, j < c → it l j < l.length
theorem cnt_to (l : List Int) : ∀ n, (∃ c, c ≤ n ∧ Cnt l c) ∨ ∀ j, j ≤ n → it l j ≠ l.length
  | 0 => by
    by_cases e : it l 0 = l.length
    · exact .inl ⟨0, Nat.le_refl _, e, fun j hj => by omega⟩
    · exact .inr fun j hj => by obtain rfl : j = 0 := by omega
                                exact e
  | n + 1 => by
    rcases cnt_to l n with ⟨c, h1, h2⟩ | h
    · exact .inl ⟨c, by omega, h2⟩
    · by_cases e : it l (n + 1) = l.length
      · refine .inl ⟨n + 1, Nat.le_refl _, e, fun j hj => ?_⟩
        have h1 := h j (by omega)
        have h2 := it_mono (l := l) (show j ≤ n + 1 by omega)
        omega
      · refine .inr fun j hj => ?_
        by_cases e2 : j = n + 1
        · subst e2; exact e
        · exact h j (by omega)
theorem cnt_ex {l : List Int} (hb : Bytes l) : ∃ c, Cnt l c ∧ c ≤ l.length := by
  rcases cnt_to l l.length with ⟨c, h1, h2⟩ | h
  · exact ⟨c, h2, h1⟩
  · have h1 := h l.length (Nat.le_refl _)
    rcases it_ge hb l.length with h2 | h2
    · have := it_le hb l.length; omega
    · exact absurd h2 h1
theorem Cnt.uniq {l : List Int} {c d : Nat} (h : Cnt l c) (k : Cnt l d) : c = d := by
  rcases Nat.lt_trichotomy c d with e | e | e
  · have := k.lt c e; have := h.fin; omega
  · exact e
  · have := h.lt d e; have := k.fin; omega
theorem Cnt.end_iff {l : List Int} {c j : Nat} (h : Cnt l c) (hj : j ≤ c) : it l j < l.length ↔ j < c := by
  constructor
  · intro q
    rcases Nat.lt_or_ge j c with e | e
    · exact e
    · obtain rfl : j = c := by omega
      have := h.fin; omega
  · exact h.lt j
theorem Cnt.le {l : List Int} {c : Nat} (hb : Bytes l) (h : Cnt l c) : c ≤ l.length := by
  obtain ⟨d, h1, h2⟩ := cnt_ex hb
  rw [h.uniq h1]; exact h2
end Go.Proofs.YtamhnffokoejjaaGreatDoor
