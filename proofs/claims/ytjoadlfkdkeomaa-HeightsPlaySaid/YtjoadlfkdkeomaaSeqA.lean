/- seq: the maths: how much heights are together; even trees of leaves of heights, each leaf with the block in which its row lies; trees turned, evened, joined; what lies ahead of a place and behind it; a height that is set. No condition. -/
import Derived.Test.YtjoadlfkdkeomaaPairs
namespace Go.Proofs.Ytjoadlfkdkeomaa
set_option linter.unusedSimpArgs false
set_option linter.unusedVariables false
set_option linter.unusedSectionVars false

/-! ### how much heights are together -/
def tlR : Qs → Int
  | [] => 0
  | x :: l => x.1 + tlR l
def tlH : Qs → Int
  | [] => 0
  | x :: l => x.2 + tlH l
theorem tlR_append : ∀ a b : Qs, tlR (a ++ b) = tlR a + tlR b
  | [], b => by simp [tlR]
  | x :: a, b => by rw [List.cons_append, tlR, tlR, tlR_append a b]; omega
theorem tlH_append : ∀ a b : Qs, tlH (a ++ b) = tlH a + tlH b
  | [], b => by simp [tlH]
  | x :: a, b => by rw [List.cons_append, tlH, tlH, tlH_append a b]; omega
/-- by one (0), by rows (1), by how high (2) -/
def tlC (what : Nat) (l : Qs) : Int := match what with
  | 0 => (l.length : Int)
  | 1 => tlR l
  | _ => tlH l
theorem tlC_append (k : Nat) (a b : Qs) : tlC k (a ++ b) = tlC k a + tlC k b := by
  unfold tlC
  split
  · rw [List.length_append]; omega
  · exact tlR_append a b
  · exact tlH_append a b
theorem tlC_nil (k : Nat) : tlC k [] = 0 := by
  unfold tlC
  split <;> rfl
/-- heights that may be -/
def Tls (l : Qs) : Prop := ∀ x ∈ l, (0 ≤ x.1 ∧ x.1 ≤ 16777216) ∧ 0 ≤ x.2 ∧ x.2 ≤ 16777216
theorem Tls.nil : Tls [] := fun _ h => by cases h
theorem Tls.append {a b : Qs} (ha : Tls a) (hb : Tls b) : Tls (a ++ b) := fun x hx => (List.mem_append.1 hx).elim (ha x) (hb x)
theorem Tls.left {a b : Qs} (h : Tls (a ++ b)) : Tls a := fun x hx => h x (List.mem_append_left _ hx)
theorem Tls.right {a b : Qs} (h : Tls (a ++ b)) : Tls b := fun x hx => h x (List.mem_append_right _ hx)
theorem Tls.take {a : Qs} (h : Tls a) (n : Nat) : Tls (a.take n) := fun x hx => h x (List.mem_of_mem_take hx)
theorem Tls.drop {a : Qs} (h : Tls a) (n : Nat) : Tls (a.drop n) := fun x hx => h x (List.mem_of_mem_drop hx)
theorem Tls.set {a : Qs} (h : Tls a) {i : Nat} {x : Int × Int} (hx : (0 ≤ x.1 ∧ x.1 ≤ 16777216) ∧ 0 ≤ x.2 ∧ x.2 ≤ 16777216) : Tls (a.set i x) := fun y hy => by
  rcases List.mem_or_eq_of_mem_set hy with h1 | rfl
  · exact h y h1
  · exact hx
theorem Tls.sums : ∀ {l : Qs}, Tls l → (0 ≤ tlR l ∧ tlR l ≤ 16777216 * l.length) ∧ 0 ≤ tlH l ∧ tlH l ≤ 16777216 * l.length
  | [], _ => by simp [tlR, tlH]
  | x :: l, h => by
    have h1 := Tls.sums (l := l) (fun y hy => h y (List.mem_cons_of_mem _ hy))
    have h2 := h x (List.mem_cons_self ..)
    rw [tlR, tlH, List.length_cons]
    omega
theorem Tls.cnt {l : Qs} (h : Tls l) (k : Nat) : 0 ≤ tlC k l := by
  have := h.sums
  unfold tlC
  split <;> omega

/-! ### trees -/
inductive Ht where
  | nil
  | leaf (b : Nat) (l : Qs)
  | node (l r : Ht)
namespace Ht
/-- the heights -/
def hs : Ht → Qs
  | nil => []
  | leaf _ l => l
  | node l r => l.hs ++ r.hs
/-- the blocks of the rows -/
def bks : Ht → List Nat
  | nil => []
  | leaf b _ => [b]
  | node l r => l.bks ++ r.bks
def lev : Ht → Nat
  | nil => 0
  | leaf _ _ => 1
  | node l r => 1 + max l.lev r.lev
def np : Ht → Nat
  | nil => 0
  | leaf _ _ => 1
  | node l r => l.np + 1 + r.np
/-- leaves have heights, and parts are no nothing -/
def Full : Ht → Prop
  | nil => True
  | leaf _ l => 0 < l.length
  | node l r => l ≠ nil ∧ r ≠ nil ∧ l.Full ∧ r.Full
/-- neither part is more than one level deeper -/
def Even : Ht → Prop
  | nil => True
  | leaf _ _ => True
  | node l r => l.lev ≤ r.lev + 1 ∧ r.lev ≤ l.lev + 1 ∧ l.Even ∧ r.Even
theorem lev_le : ∀ t : Ht, t.lev ≤ t.np
  | nil => Nat.le_refl _
  | leaf _ _ => Nat.le_refl _
  | node l r => by
    have h1 := lev_le l
    have h2 := lev_le r
    unfold np lev; omega
theorem lev_pos {t : Ht} (h : t ≠ nil) : 1 ≤ t.lev := by
  cases t with
  | nil => exact absurd rfl h
  | leaf _ _ => exact Nat.le_refl _
  | node l r => unfold lev; omega
theorem hs_pos : ∀ {t : Ht}, t.Full → t ≠ nil → 0 < t.hs.length
  | nil, _, h => absurd rfl h
  | leaf _ _, h, _ => h
  | node l r, h, _ => by
    have := hs_pos h.2.2.1 h.1
    rw [hs, List.length_append]; omega
theorem lev_hs : ∀ {t : Ht}, t.Full → t.lev ≤ t.hs.length
  | nil, _ => Nat.le_refl _
  | leaf _ _, h => h
  | node l r, h => by
    have h1 := lev_hs h.2.2.1
    have h2 := lev_hs h.2.2.2
    have h3 := hs_pos h.2.2.1 h.1
    have h4 := hs_pos h.2.2.2 h.2.1
    rw [hs, List.length_append, lev]; omega
theorem bks_ne : ∀ {t : Ht}, t ≠ nil → t.Full → t.bks ≠ []
  | nil, h, _ => absurd rfl h
  | leaf _ _, _, _ => by simp [bks]
  | node l r, _, h => by
    have := bks_ne h.1 h.2.2.1
    simp [bks, this]

/-! ### turned, evened, joined -/
def turnR : Ht → Ht → Ht
  | node o (node a b), r => if (node a b).lev ≤ o.lev then node o (node (node a b) r) else node (node o a) (node b r)
  | node o i, r => node o (node i r)
  | l, r => node l r
def turnL (l : Ht) : Ht → Ht
  | node (node a b) o => if (node a b).lev ≤ o.lev then node (node l (node a b)) o else node (node l a) (node b o)
  | node i o => node (node l i) o
  | r => node l r
def even (l r : Ht) : Ht := if r.lev + 1 < l.lev then turnR l r else if l.lev + 1 < r.lev then turnL l r else node l r
theorem turnR_node (o a b r : Ht) : turnR (node o (node a b)) r = if (node a b).lev ≤ o.lev then node o (node (node a b) r) else node (node o a) (node b r) := rfl
theorem turnL_node (l a b o : Ht) : turnL l (node (node a b) o) = if (node a b).lev ≤ o.lev then node (node l (node a b)) o else node (node l a) (node b o) := rfl
theorem turnR_hs (l r : Ht) : (turnR l r).hs = l.hs ++ r.hs ∧ (turnR l r).bks = l.bks ++ r.bks := by
  match l with
  | nil => simp [turnR, hs, bks]
  | leaf _ _ => simp [turnR, hs, bks]
  | node o nil => simp [turnR, hs, bks]
  | node o (leaf _ _) => simp [turnR, hs, bks]
  | node o (node a b) => rw [turnR_node]; split <;> simp [hs, bks]
theorem turnL_hs (l r : Ht) : (turnL l r).hs = l.hs ++ r.hs ∧ (turnL l r).bks = l.bks ++ r.bks := by
  match r with
  | nil => simp [turnL, hs, bks]
  | leaf _ _ => simp [turnL, hs, bks]
  | node nil o => simp [turnL, hs, bks]
  | node (leaf _ _) o => simp [turnL, hs, bks]
  | node (node a b) o => rw [turnL_node]; split <;> simp [hs, bks]
theorem even_hs (l r : Ht) : (even l r).hs = l.hs ++ r.hs ∧ (even l r).bks = l.bks ++ r.bks := by
  unfold even
  split
  · exact turnR_hs l r
  · split
    · exact turnL_hs l r
    · exact ⟨rfl, rfl⟩
theorem even_even (l r : Ht) (hl : l.Even) (hr : r.Even) (fl : l.Full) (fr : r.Full) (nl : l ≠ nil) (nr : r ≠ nil) (h1 : l.lev ≤ r.lev + 2) (h2 : r.lev ≤ l.lev + 2) :
    (even l r).Even ∧ (even l r).Full ∧ even l r ≠ nil ∧ (l.lev ≤ r.lev + 1 → r.lev ≤ l.lev + 1 → (even l r).lev = 1 + max l.lev r.lev) ∧ max l.lev r.lev ≤ (even l r).lev ∧ (even l r).lev ≤ 1 + max l.lev r.lev := by
  have pr := lev_pos nr
  have pl := lev_pos nl
  unfold even
  split
  · rename_i hc
    match l, hl, fl with
    | nil, _, _ => exact absurd rfl nl
    | leaf _ _, _, _ => simp only [lev] at hc; omega
    | node o nil, _, fl => exact absurd rfl fl.2.1
    | node o (leaf x y), hl, fl =>
      have po := lev_pos fl.1
      simp only [Even, lev] at hl hc h1
      refine ⟨⟨?_, ?_, hl.2.2.1, ?_, ?_, trivial, hr⟩, ⟨fl.1, by simp, fl.2.2.1, by simp, nr, fl.2.2.2, fr⟩, by simp [turnR], fun _ _ => ?_, ?_, ?_⟩ <;> simp only [turnR, lev] at * <;> omega
    | node o (node a b), hl, fl =>
      have po := lev_pos fl.1
      simp only [Even, lev] at hl hc h1 ⊢
      rw [turnR_node]
      split
      · rename_i h
        simp only [lev] at h
        refine ⟨?_, ⟨fl.1, by simp, fl.2.2.1, by simp, nr, fl.2.2.2, fr⟩, by simp, ?_⟩
        · simp only [Even, lev]
          refine ⟨?_, ?_, hl.2.2.1, ?_, ?_, hl.2.2.2, hr⟩ <;> omega
        · simp only [lev]; omega
      · rename_i h
        simp only [lev] at h
        refine ⟨?_, ⟨by simp, by simp, ⟨fl.1, fl.2.2.2.1, fl.2.2.1, fl.2.2.2.2.2.1⟩, fl.2.2.2.2.1, nr, fl.2.2.2.2.2.2, fr⟩, by simp, ?_⟩
        · simp only [Even, lev]
          refine ⟨?_, ?_, ⟨?_, ?_, hl.2.2.1, hl.2.2.2.2.2.1⟩, ?_, ?_, hl.2.2.2.2.2.2, hr⟩ <;> omega
        · simp only [lev]; omega
  · rename_i hc
    split
    · rename_i hd
      match r, hr, fr with
      | nil, _, _ => exact absurd rfl nr
      | leaf _ _, _, _ => simp only [lev] at hd; omega
      | node nil o, _, fr => exact absurd rfl fr.1
      | node (leaf x y) o, hr, fr =>
        have po := lev_pos fr.2.1
        simp only [Even, lev] at hr hd h2
        refine ⟨⟨?_, ?_, ⟨?_, ?_, hl, trivial⟩, hr.2.2.2⟩, ⟨by simp, fr.2.1, ⟨nl, by simp, fl, fr.2.2.1⟩, fr.2.2.2⟩, by simp [turnL], fun _ _ => ?_, ?_, ?_⟩ <;> simp only [turnL, lev] at * <;> omega
      | node (node a b) o, hr, fr =>
        have po := lev_pos fr.2.1
        simp only [Even, lev] at hr hd h2 hc ⊢
        rw [turnL_node]
        split
        · rename_i h
          simp only [lev] at h
          refine ⟨?_, ⟨by simp, fr.2.1, ⟨nl, by simp, fl, fr.2.2.1⟩, fr.2.2.2⟩, by simp, ?_⟩
          · simp only [Even, lev]
            refine ⟨?_, ?_, ⟨?_, ?_, hl, hr.2.2.1⟩, hr.2.2.2⟩ <;> omega
          · simp only [lev]; omega
        · rename_i h
          simp only [lev] at h
          refine ⟨?_, ⟨by simp, by simp, ⟨nl, fr.2.2.1.1, fl, fr.2.2.1.2.2.1⟩, fr.2.2.1.2.1, fr.2.1, fr.2.2.1.2.2.2, fr.2.2.2⟩, by simp, ?_⟩
          · simp only [Even, lev]
            refine ⟨?_, ?_, ⟨?_, ?_, hl, hr.2.2.1.2.2.1⟩, ?_, ?_, hr.2.2.1.2.2.2, hr.2.2.2⟩ <;> omega
          · simp only [lev]; omega
    · exact ⟨⟨by omega, by omega, hl, hr⟩, ⟨nl, nr, fl, fr⟩, by simp, fun _ _ => by simp only [lev], by simp only [lev]; omega, by simp only [lev]; omega⟩
def join (l r : Ht) : Ht :=
  if l.lev = 0 then r else if r.lev = 0 then l
  else if r.lev + 1 < l.lev then
    match l with
    | node a b => even a (join b r)
    | l => node l r
  else if l.lev + 1 < r.lev then
    match r with
    | node a b => even (join l a) b
    | r => node l r
  else node l r
termination_by l.np + r.np
decreasing_by all_goals (simp only [np]; omega)
theorem join_nil_left (r : Ht) : join nil r = r := by rw [join.eq_def, if_pos (show nil.lev = 0 from rfl)]
theorem lev_zero {t : Ht} (h : t.lev = 0) : t = nil := by
  cases t with
  | nil => rfl
  | leaf _ _ => cases h
  | node l r => unfold lev at h; omega
theorem join_nil_right (l : Ht) : join l nil = l := by
  by_cases h : l.lev = 0
  · rw [lev_zero h, join_nil_left]
  · rw [join.eq_def, if_neg h, if_pos (show nil.lev = 0 from rfl)]
theorem join_left (a b r : Ht) (h0 : r ≠ nil) (h : r.lev + 1 < (node a b).lev) : join (node a b) r = even a (join b r) := by
  have := lev_pos h0
  rw [join.eq_def, if_neg (by omega), if_neg (by omega), if_pos h]
theorem join_right (l a b : Ht) (h0 : l ≠ nil) (h : ¬ (node a b).lev + 1 < l.lev) (h2 : l.lev + 1 < (node a b).lev) : join l (node a b) = even (join l a) b := by
  have := lev_pos h0
  rw [join.eq_def, if_neg (by omega), if_neg (by omega), if_neg h, if_pos h2]
theorem join_tie (l r : Ht) (h0 : l ≠ nil) (h3 : r ≠ nil) (h : ¬ r.lev + 1 < l.lev) (h2 : ¬ l.lev + 1 < r.lev) : join l r = node l r := by
  have := lev_pos h0
  have := lev_pos h3
  rw [join.eq_def, if_neg (by omega), if_neg (by omega), if_neg h, if_neg h2]
theorem join_hs_n : ∀ (n : Nat) (l r : Ht), l.np + r.np ≤ n → (join l r).hs = l.hs ++ r.hs ∧ (join l r).bks = l.bks ++ r.bks := by
  intro n
  induction n with
  | zero =>
    intro l r h
    have h3 := lev_le l
    rw [lev_zero (t := l) (by omega), join_nil_left]
    exact ⟨rfl, rfl⟩
  | succ n ih =>
    intro l r h
    by_cases l0 : l = nil
    · rw [l0, join_nil_left]; exact ⟨rfl, rfl⟩
    · by_cases r0 : r = nil
      · rw [r0, join_nil_right]; simp [hs, bks]
      · by_cases h1 : r.lev + 1 < l.lev
        · match l, l0 with
          | nil, l0 => exact absurd rfl l0
          | leaf _ _, _ => simp only [lev] at h1; omega
          | node a b, _ =>
            have i := ih b r (by simp only [np] at h; omega)
            rw [join_left _ _ _ r0 h1, (even_hs _ _).1, (even_hs _ _).2, i.1, i.2]
            simp [hs, bks]
        · by_cases h2 : l.lev + 1 < r.lev
          · match r, r0 with
            | nil, r0 => exact absurd rfl r0
            | leaf _ _, _ => simp only [lev] at h2; omega
            | node a b, _ =>
              have i := ih l a (by simp only [np] at h; omega)
              rw [join_right _ _ _ l0 h1 h2, (even_hs _ _).1, (even_hs _ _).2, i.1, i.2]
              simp [hs, bks]
          · rw [join_tie _ _ l0 r0 h1 h2]; exact ⟨rfl, rfl⟩
theorem hs_join (l r : Ht) : (join l r).hs = l.hs ++ r.hs := (join_hs_n _ l r (Nat.le_refl _)).1
theorem bks_join (l r : Ht) : (join l r).bks = l.bks ++ r.bks := (join_hs_n _ l r (Nat.le_refl _)).2
/-- a tree that is as it should be -/
def Fine (t : Ht) : Prop := t.Even ∧ t.Full
theorem join_fine_n : ∀ (n : Nat) (l r : Ht), l.np + r.np ≤ n → l.Fine → r.Fine → (join l r).Fine ∧ (l ≠ nil → join l r ≠ nil) ∧ (r ≠ nil → join l r ≠ nil) ∧ max l.lev r.lev ≤ (join l r).lev ∧ (join l r).lev ≤ 1 + max l.lev r.lev := by
  intro n
  induction n with
  | zero =>
    intro l r h hl hr
    have h3 := lev_le l
    rw [lev_zero (t := l) (by omega), join_nil_left]
    exact ⟨hr, fun h => absurd rfl h, fun h => h, by simp only [lev]; omega, by simp only [lev]; omega⟩
  | succ n ih =>
    intro l r h hl hr
    by_cases l0 : l = nil
    · rw [l0, join_nil_left]
      exact ⟨hr, fun h => absurd rfl h, fun h => h, by simp only [lev]; omega, by simp only [lev]; omega⟩
    · by_cases r0 : r = nil
      · rw [r0, join_nil_right]
        exact ⟨hl, fun h => h, fun h => absurd rfl h, by simp only [lev]; omega, by simp only [lev]; omega⟩
      · by_cases h1 : r.lev + 1 < l.lev
        · match l, l0, hl with
          | nil, l0, _ => exact absurd rfl l0
          | leaf _ _, _, _ => simp only [lev] at h1; omega
          | node a b, _, ⟨el, fl⟩ =>
            rw [join_left _ _ _ r0 h1]
            obtain ⟨i1, i2, i3, i4, i5⟩ := ih b r (by simp only [np] at h; omega) ⟨el.2.2.2, fl.2.2.2⟩ hr
            obtain ⟨e1, e2, e3, e4⟩ := el
            simp only [lev] at h1 ⊢
            obtain ⟨k1, k2, k3, k4, k5, k6⟩ := even_even a (join b r) e3 i1.1 fl.2.2.1 i1.2 fl.1 (i3 r0) (by omega) (by omega)
            refine ⟨⟨k1, k2⟩, fun _ => k3, fun _ => k3, ?_, ?_⟩
            · by_cases hh : (join b r).lev ≤ a.lev + 1
              · have := k4 (by omega) hh; omega
              · omega
            · omega
        · by_cases h2 : l.lev + 1 < r.lev
          · match r, r0, hr with
            | nil, r0, _ => exact absurd rfl r0
            | leaf _ _, _, _ => simp only [lev] at h2; omega
            | node a b, _, ⟨er, fr⟩ =>
              rw [join_right _ _ _ l0 h1 h2]
              obtain ⟨i1, i2, i3, i4, i5⟩ := ih l a (by simp only [np] at h; omega) hl ⟨er.2.2.1, fr.2.2.1⟩
              obtain ⟨e1, e2, e3, e4⟩ := er
              simp only [lev] at h2 ⊢
              obtain ⟨k1, k2, k3, k4, k5, k6⟩ := even_even (join l a) b i1.1 e4 i1.2 fr.2.2.2 (i2 l0) fr.2.1 (by omega) (by omega)
              refine ⟨⟨k1, k2⟩, fun _ => k3, fun _ => k3, ?_, ?_⟩
              · by_cases hh : (join l a).lev ≤ b.lev + 1
                · have := k4 hh (by omega); omega
                · omega
              · omega
          · rw [join_tie _ _ l0 r0 h1 h2]
            refine ⟨⟨⟨by omega, by omega, hl.1, hr.1⟩, l0, r0, hl.2, hr.2⟩, fun _ => by simp, fun _ => by simp, ?_⟩
            simp only [lev]; omega
theorem Fine.join {l r : Ht} (hl : l.Fine) (hr : r.Fine) : (join l r).Fine := (join_fine_n _ l r (Nat.le_refl _) hl hr).1
theorem Fine.nil : Fine nil := ⟨trivial, trivial⟩
theorem Fine.left {l r : Ht} (h : (node l r).Fine) : l.Fine := ⟨h.1.2.2.1, h.2.2.2.1⟩
theorem Fine.right {l r : Ht} (h : (node l r).Fine) : r.Fine := ⟨h.1.2.2.2, h.2.2.2.2⟩

/-! ### parted -/
/-- all whole leaves ahead of a place but the last one, and the heights behind these -/
def ahead : Ht → Nat → Ht × Qs
  | nil, _ => (nil, [])
  | leaf _ l, i => (nil, l.take i)
  | node l r, i => if i ≤ l.hs.length then ahead l i else (join l (ahead r (i - l.hs.length)).1, (ahead r (i - l.hs.length)).2)
/-- the other way round -/
def behind : Ht → Nat → Qs × Ht
  | nil, _ => ([], nil)
  | leaf _ l, i => (l.drop i, nil)
  | node l r, i => if l.hs.length ≤ i then behind r (i - l.hs.length) else ((behind l i).1, join (behind l i).2 r)
theorem ahead_hs : ∀ (t : Ht) (i : Nat), (ahead t i).1.hs ++ (ahead t i).2 = t.hs.take i
  | nil, i => by simp [ahead, hs]
  | leaf _ l, i => by simp [ahead, hs]
  | node l r, i => by
    unfold ahead
    split
    · rename_i h
      rw [ahead_hs l i, hs, List.take_append_of_le_length h]
    · rename_i h
      have e : i = l.hs.length + (i - l.hs.length) := by omega
      rw [hs_join, List.append_assoc, ahead_hs r, hs]
      conv => rhs; rw [e, List.take_length_add_append]
theorem behind_hs : ∀ (t : Ht) (i : Nat), (behind t i).1 ++ (behind t i).2.hs = t.hs.drop i
  | nil, i => by simp [behind, hs]
  | leaf _ l, i => by simp [behind, hs]
  | node l r, i => by
    unfold behind
    split
    · rename_i h
      have e : i = l.hs.length + (i - l.hs.length) := by omega
      rw [behind_hs r, hs]
      conv => rhs; rw [e, List.drop_length_add_append]
    · rename_i h
      rw [hs_join, ← List.append_assoc, behind_hs l, hs, List.drop_append_of_le_length (by omega)]
theorem ahead_fine : ∀ (t : Ht) (i : Nat), t.Fine → (ahead t i).1.Fine
  | nil, i, _ => Fine.nil
  | leaf _ l, i, _ => Fine.nil
  | node l r, i, h => by
    unfold ahead
    split
    · exact ahead_fine l i h.left
    · exact h.left.join (ahead_fine r _ h.right)
theorem behind_fine : ∀ (t : Ht) (i : Nat), t.Fine → (behind t i).2.Fine
  | nil, i, _ => Fine.nil
  | leaf _ l, i, _ => Fine.nil
  | node l r, i, h => by
    unfold behind
    split
    · exact behind_fine r _ h.right
    · exact (behind_fine l i h.left).join h.right
theorem ahead_bks : ∀ (t : Ht) (i : Nat), (ahead t i).1.bks.Sublist t.bks
  | nil, i => List.Sublist.refl _
  | leaf _ l, i => List.nil_sublist _
  | node l r, i => by
    unfold ahead
    rw [bks]
    split
    · exact (ahead_bks l i).trans (List.sublist_append_left _ _)
    · rw [bks_join]
      exact (List.Sublist.refl _).append (ahead_bks r _)
theorem behind_bks : ∀ (t : Ht) (i : Nat), (behind t i).2.bks.Sublist t.bks
  | nil, i => List.Sublist.refl _
  | leaf _ l, i => List.nil_sublist _
  | node l r, i => by
    unfold behind
    rw [bks]
    split
    · exact (behind_bks r _).trans (List.sublist_append_right _ _)
    · rw [bks_join]
      exact (behind_bks l i).append (List.Sublist.refl _)
theorem parted_bks : ∀ (t : Ht) (i j : Nat), i ≤ j → ((ahead t i).1.bks ++ (behind t j).2.bks).Sublist t.bks
  | nil, i, j, _ => List.Sublist.refl _
  | leaf _ l, i, j, _ => List.nil_sublist _
  | node l r, i, j, hij => by
    unfold ahead behind
    rw [bks]
    split
    · split
      · exact (ahead_bks l i).append (behind_bks r _)
      · rw [bks_join, ← List.append_assoc]
        exact (parted_bks l i j hij).append (List.Sublist.refl _)
    · rw [if_pos (by omega), bks_join, List.append_assoc]
      exact (List.Sublist.refl _).append (parted_bks r _ _ (by omega))

/-! ### a height that is set -/
def setT : Ht → Nat → Int × Int → Ht
  | nil, _, _ => nil
  | leaf b l, i, x => leaf b (l.set i x)
  | node l r, i, x => if i < l.hs.length then node (setT l i x) r else node l (setT r (i - l.hs.length) x)
theorem setT_hs : ∀ (t : Ht) (i : Nat) (x : Int × Int), (setT t i x).hs = t.hs.set i x
  | nil, i, x => by simp [setT, hs]
  | leaf _ l, i, x => by simp [setT, hs]
  | node l r, i, x => by
    unfold setT
    split
    · rename_i h
      rw [hs, hs, setT_hs l i x, List.set_append_left _ _ h]
    · rename_i h
      rw [hs, hs, setT_hs r _ x, List.set_append_right _ _ (by omega)]
theorem setT_same : ∀ (t : Ht) (i : Nat) (x : Int × Int), (setT t i x).bks = t.bks ∧ (setT t i x).lev = t.lev ∧ ((setT t i x) = nil ↔ t = nil) ∧ (t.Fine → (setT t i x).Fine)
  | nil, i, x => ⟨rfl, rfl, Iff.rfl, id⟩
  | leaf b l, i, x => ⟨rfl, rfl, by simp [setT], fun h => ⟨trivial, by
      have : 0 < l.length := h.2
      simpa [setT, Full] using this⟩⟩
  | node l r, i, x => by
    unfold setT
    split
    · obtain ⟨h1, h2, h3, h4⟩ := setT_same l i x
      refine ⟨by rw [bks, bks, h1], by rw [lev, lev, h2], by simp, fun h => ?_⟩
      have q := h4 h.left
      exact ⟨⟨by rw [h2]; exact h.1.1, by rw [h2]; exact h.1.2.1, q.1, h.1.2.2.2⟩, fun e => h.2.1 (h3.1 e), h.2.2.1, q.2, h.2.2.2.2⟩
    · obtain ⟨h1, h2, h3, h4⟩ := setT_same r (i - l.hs.length) x
      refine ⟨by rw [bks, bks, h1], by rw [lev, lev, h2], by simp, fun h => ?_⟩
      have q := h4 h.right
      exact ⟨⟨by rw [h2]; exact h.1.1, by rw [h2]; exact h.1.2.1, h.1.2.2.1, q.1⟩, h.2.1, fun e => h.2.2.1 (h3.1 e), h.2.2.2.1, q.2⟩
end Ht

/-! ### how deep a tree is that is built -/
/-- how many levels a tree of n heights has, as even as may be -/
def bldL (n : Nat) : Nat := if n = 0 then 0 else if n ≤ 32 then 1 else 1 + bldL (n - n / 2)
decreasing_by omega
theorem bldL_some {n : Nat} (h : 0 < n) (h2 : n ≤ 32) : bldL n = 1 := by rw [bldL, if_neg (by omega), if_pos h2]
theorem bldL_many {n : Nat} (h : 32 < n) : bldL n = 1 + bldL (n - n / 2) := by rw [bldL, if_neg (by omega), if_neg (by omega)]
theorem bldL_step : ∀ n : Nat, bldL n ≤ bldL (n + 1) ∧ bldL (n + 1) ≤ bldL n + 1 := by
  intro n
  induction n using Nat.strongRecOn with
  | ind n ih =>
    rcases Nat.lt_or_ge n 32 with h | h
    · rw [bldL_some (n := n + 1) (by omega) (by omega)]
      rcases Nat.eq_zero_or_pos n with rfl | hp
      · rw [show bldL 0 = 0 by rw [bldL]; rfl]; omega
      · rw [bldL_some (n := n) hp (by omega)]; omega
    · rw [bldL_many (n := n + 1) (by omega)]
      rcases Nat.eq_or_lt_of_le h with rfl | h2
      · rw [bldL_some (n := 32) (by omega) (by omega), bldL_some (n := 32 + 1 - (32 + 1) / 2) (by omega) (by omega)]; omega
      · rw [bldL_many (n := n) (by omega)]
        rcases Nat.mod_two_eq_zero_or_one n with hm | hm
        · have e : n + 1 - (n + 1) / 2 = (n - n / 2) + 1 := by omega
          rw [e]
          have := ih (n - n / 2) (by omega)
          omega
        · have e : n + 1 - (n + 1) / 2 = n - n / 2 := by omega
          rw [e]; omega
/-- the two halves of many are even enough -/
theorem bldL_half {n : Nat} : bldL (n / 2) ≤ bldL (n - n / 2) ∧ bldL (n - n / 2) ≤ bldL (n / 2) + 1 := by
  rcases Nat.mod_two_eq_zero_or_one n with hm | hm
  · have e : n - n / 2 = n / 2 := by omega
    rw [e]; omega
  · have e : n - n / 2 = n / 2 + 1 := by omega
    rw [e]
    have := bldL_step (n / 2)
    omega
end Go.Proofs.Ytjoadlfkdkeomaa
