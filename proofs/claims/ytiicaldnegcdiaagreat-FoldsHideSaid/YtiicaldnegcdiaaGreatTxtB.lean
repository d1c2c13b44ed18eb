/- text: texts in memory; a rope and a text made, whatever is asked; how many bytes and lines there are: by contract. -/
import Derived.Test.YtiicaldnegcdiaaGreatRopS
import Derived.Test.YtiicaldnegcdiaaGreatRopO
import Derived.Test.YtiicaldnegcdiaaGreatTxtA
namespace Go.Proofs.YtiicaldnegcdiaaGreat
set_option linter.unusedSimpArgs false
set_option linter.unusedVariables false
set_option linter.unusedSectionVars false
open Go.RowKit

/-! ### a rope made, whatever is asked -/
def newC (n : Nat) (most : Int) : Int := if most < 0 ∨ 16777216 < most then 1 else if most < n then 2 else 0
set_option maxRecDepth 100000 in
theorem rnew_bad (u : Value) (most : Int) (w : World) (h : most < 0 ∨ 16777216 < most) : Calls Tryz.prog 23 #[u, .int .i64 most] w fun e w' => e = .returned (.tuple #[.pointer none, .int .i64 1]) ∧ AnyLater w w' := by
  by_cases h1 : most < 0
  · clear h
    go_enter Tryz.func23, Tryz.ntmps23
    go_wp2_with fail
    refine bodyPost_ret (v := .tuple #[.pointer none, .int .i64 1]) (by simp [results, Tryz.results23, go_sem]) rfl ⟨rfl, AnyLater.refl _⟩
  · have h2 : 16777216 < most := by omega
    have d1 : decide (most < 0) = false := decide_eq_false h1
    clear h h1
    go_enter Tryz.func23, Tryz.ntmps23
    go_wp2_with fail
    refine bodyPost_ret (v := .tuple #[.pointer none, .int .i64 1]) (by simp [results, Tryz.results23, go_sem]) rfl ⟨rfl, AnyLater.refl _⟩
set_option maxRecDepth 100000 in
theorem rnew_full (A : Option Addr) (n cap : Nat) (most : Int) (w : World) (hm : most < n) (hmost : 0 ≤ most ∧ most ≤ 16777216) : Calls Tryz.prog 23 #[.slice A n cap, .int .i64 most] w fun e w' => e = .returned (.tuple #[.pointer none, .int .i64 2]) ∧ AnyLater w w' := by
  have HI : Hid (∀ w', w'.heap[w.heap.size]? = some (.cells #[.pointer none, .int .i64 most] 76) → Calls Tryz.prog 39 #[.pointer (some ⟨w.heap.size, 0, none⟩), .int .i64 0, .slice A n cap] w' fun e w'' => e = .returned (.int .i64 2) ∧ AnyLater w' w'') := Lib.hid (fun w' hg => by
    have h : IsR w' w.heap.size most .nil := ⟨_, hg, rfl⟩
    exact rins_full w.heap.size most .nil 0 n A cap w' h ⟨trivial, trivial, Nat.zero_le _⟩ (Nat.zero_le _) (by simp only [Tr.len]; omega) hmost)
  obtain ⟨k1, k2⟩ := hmost
  have d1 : decide (most < 0) = false := decide_eq_false (by omega)
  have d2 : decide (16777216 < most) = false := decide_eq_false (by omega)
  clear hm
  go_enter Tryz.func23, Tryz.ntmps23
  go_wp2_with fail
  have s0 : (w.alloc (.cells #[.pointer none, .int .i64 most] 76)).heap[w.heap.size]? = some (.cells #[.pointer none, .int .i64 most] 76) := heap_new rfl
  refine (HI.out _ s0).mono ?_
  rintro e w2 ⟨rfl, b2⟩
  have H2 : Hid (AnyLater w w2) := Lib.hid (AnyLater.trans (by repeat' (first | with_reducible assumption | with_reducible exact AnyLater.refl _ | with_reducible apply AnyLater.setCell | with_reducible apply AnyLater.later | with_reducible apply AnyLater.drewN | with_reducible apply AnyLater.drew | with_reducible apply AnyLater.alloc | ((try simp only [World.size_alloc, World.size_setCell, World.size_drew]); (try dsimp only); omega))) b2)
  clear b2 s0
  go_wp2_with fail
  refine bodyPost_ret (v := .tuple #[.pointer none, .int .i64 2]) (by simp [results, Tryz.results23, go_sem]) rfl ⟨rfl, H2.out⟩
set_option maxRecDepth 100000 in
theorem rnew_none (A : Option Addr) (cap : Nat) (most : Int) (w : World) (hmost : 0 ≤ most ∧ most ≤ 16777216) : Calls Tryz.prog 23 #[.slice A 0 cap, .int .i64 most] w fun e w' => ∃ g, e = .returned (.tuple #[.pointer (some ⟨g, 0, none⟩), .int .i64 0]) ∧ AnyLater w w' ∧ w.heap.size ≤ g ∧ IsR w' g most .nil := by
  have HI : Hid (∀ w', w'.heap[w.heap.size]? = some (.cells #[.pointer none, .int .i64 most] 76) → Calls Tryz.prog 39 #[.pointer (some ⟨w.heap.size, 0, none⟩), .int .i64 0, .slice A 0 cap] w' fun e w'' => e = .returned (.int .i64 0) ∧ AnyLater w' w'' ∧ IsR w'' w.heap.size most .nil) := Lib.hid (fun w' hg => by
    have h : IsR w' w.heap.size most .nil := ⟨_, hg, rfl⟩
    exact (rins_none w.heap.size most .nil 0 A cap w' h ⟨trivial, trivial, Nat.zero_le _⟩ (Nat.zero_le _) (by simp only [Tr.len]; omega) hmost).mono fun e w'' ⟨h1, h2⟩ => ⟨h1, h2, h.later h2⟩)
  obtain ⟨k1, k2⟩ := hmost
  have d1 : decide (most < 0) = false := decide_eq_false (by omega)
  have d2 : decide (16777216 < most) = false := decide_eq_false (by omega)
  go_enter Tryz.func23, Tryz.ntmps23
  go_wp2_with fail
  have s0 : (w.alloc (.cells #[.pointer none, .int .i64 most] 76)).heap[w.heap.size]? = some (.cells #[.pointer none, .int .i64 most] 76) := heap_new rfl
  refine (HI.out _ s0).mono ?_
  rintro e w2 ⟨rfl, b2, r2⟩
  have H2 : Hid (AnyLater w w2 ∧ IsR w2 w.heap.size most .nil) := Lib.hid ⟨AnyLater.trans (by repeat' (first | with_reducible assumption | with_reducible exact AnyLater.refl _ | with_reducible apply AnyLater.setCell | with_reducible apply AnyLater.later | with_reducible apply AnyLater.drewN | with_reducible apply AnyLater.drew | with_reducible apply AnyLater.alloc | ((try simp only [World.size_alloc, World.size_setCell, World.size_drew]); (try dsimp only); omega))) b2, r2⟩
  clear b2 r2 s0
  go_wp2_with fail
  refine bodyPost_ret (v := .tuple #[.pointer (some ⟨w.heap.size, 0, none⟩), .int .i64 0]) (by simp [results, Tryz.results23, go_sem]) rfl ?_
  exact ⟨_, rfl, H2.out.1, Nat.le_refl _, H2.out.2⟩
/-- the tree of bytes that were just put in -/
def newT (b : List Int) : Tr := if 0 < b.length then insT .nil 0 b else .nil
theorem newT_bs (b : List Int) : (newT b).bs = b := by
  unfold newT
  split
  · rw [insT_bs]; simp [Tr.bs]
  · obtain rfl := List.eq_nil_of_length_eq_zero (by omega : b.length = 0)
    rfl
theorem newT_ok {b : List Int} (hb : Bytes b) (hl : b.length ≤ 60000) : (newT b).Ok := by
  unfold newT
  split
  · exact insT_ok ⟨trivial, trivial, Nat.zero_le _⟩ (Nat.le_refl _) (by assumption) hb (by simp only [Tr.len]; omega)
  · exact ⟨trivial, trivial, Nat.zero_le _⟩
theorem rnew_all (u : Value) (b : List Int) (most : Int) (w : World) (hu : RN .u8 w u b) (hb : Bytes b) (hm : (b.length : Int) ≤ most) (hmost : 0 ≤ most ∧ most ≤ 16777216) (hl : b.length ≤ 60000) :
    Calls Tryz.prog 23 #[u, .int .i64 most] w fun e w' => ∃ g, e = .returned (.tuple #[.pointer (some ⟨g, 0, none⟩), .int .i64 0]) ∧ AnyLater w w' ∧ w.heap.size ≤ g ∧ IsR w' g most (newT b) := by
  unfold newT
  by_cases h : 0 < b.length
  · rw [if_pos h]
    exact rnew_yes u b most w hu hb h hm hmost hl
  · rw [if_neg h]
    obtain ⟨A, cap, rfl, -⟩ := hu.form
    have e : b.length = 0 := by omega
    rw [e]
    exact rnew_none A cap most w hmost

/-! ### texts in memory -/
/-- the text at tg, whose rope lies at g -/
def IsTx (w : World) (tg g : Nat) (most : Int) (t : Tr) : Prop := w.heap[tg]? = some (.cells #[.pointer (some ⟨g, 0, none⟩)] 52) ∧ IsR w g most t
theorem IsTx.later {w w' : World} {tg g : Nat} {most : Int} {t : Tr} (h : IsTx w tg g most t) (a : AnyLater w w') : IsTx w' tg g most t := ⟨any_own a h.1, h.2.later a⟩
/-- a text of n lines, or none -/
def IsTL (w : World) (v : Value) (t : Tr) (n : Nat) : Prop := (v = .pointer none ∧ t = .nil ∧ n = 0) ∨ ∃ tg g most, v = .pointer (some ⟨tg, 0, none⟩) ∧ IsTx w tg g most t ∧ n = t.nf + 1
theorem IsTL.later {w w' : World} {v : Value} {t : Tr} {n : Nat} (h : IsTL w v t n) (a : AnyLater w w') : IsTL w' v t n := by
  rcases h with h | ⟨tg, g, most, h1, h2, h3⟩
  · exact .inl h
  · exact .inr ⟨tg, g, most, h1, h2.later a, h3⟩
theorem IsTx.tl {w : World} {tg g : Nat} {most : Int} {t : Tr} (h : IsTx w tg g most t) : IsTL w (.pointer (some ⟨tg, 0, none⟩)) t (t.nf + 1) := .inr ⟨tg, g, most, rfl, h, rfl⟩
theorem tbytes_some (tg g : Nat) (most : Int) (t : Tr) (w : World) (h : IsTx w tg g most t) : Calls Tryz.prog 42 #[.pointer (some ⟨tg, 0, none⟩)] w fun e w' => e = .returned (.pointer (some ⟨g, 0, none⟩)) ∧ AnyLater w w' := by
  have r0 := own_row h.1
  clear h
  go_enter Tryz.func42, Tryz.ntmps42
  go_wp2_with fail
  go_ret
  exact ⟨rfl, AnyLater.refl _⟩
theorem tbytes_none (w : World) : Calls Tryz.prog 42 #[.pointer none] w fun e w' => e = .returned (.pointer none) ∧ AnyLater w w' := by
  go_enter Tryz.func42, Tryz.ntmps42
  go_wp2_with fail
  go_ret
  exact ⟨rfl, AnyLater.refl _⟩
theorem tbytes_any (v : Value) (t : Tr) (n : Nat) (w : World) (h : IsTL w v t n) : Calls Tryz.prog 42 #[v] w fun e w' => ∃ q, e = .returned (.pointer q) ∧ AnyLater w w' ∧ IsRN w' (.pointer q) t := by
  rcases h with ⟨rfl, rfl, -⟩ | ⟨tg, g, most, rfl, h, -⟩
  · exact (tbytes_none w).mono fun e w' ⟨h1, h2⟩ => ⟨_, h1, h2, .inl ⟨rfl, rfl⟩⟩
  · exact (tbytes_some tg g most t w h).mono fun e w' ⟨h1, h2⟩ => ⟨_, h1, h2, .inr ⟨g, most, rfl, h.2.later h2⟩⟩
set_option maxRecDepth 100000 in
theorem tlen_any (v : Value) (t : Tr) (n : Nat) (w : World) (h : IsTL w v t n) : Calls Tryz.prog 50 #[v] w fun e w' => e = .returned (.int .i64 (t.len : Int)) ∧ AnyLater w w' := by
  have HB := Lib.hid (tbytes_any v t n w h)
  have HL := Lib.hid (fun (w' : World) (q : Option Addr) (h : IsRN w' (.pointer q) t) => rlen_any (.pointer q) t w' h)
  clear h
  generalize t.len = m at *
  go_enter Tryz.func50, Tryz.ntmps50
  go_wp2_with fail
  refine HB.out.mono ?_
  rintro e w2 ⟨q, rfl, b2, h2⟩
  have H2 := Lib.hid (And.intro b2 h2)
  clear b2 h2
  go_wp2_with fail
  refine (HL.out _ _ H2.out.2).mono ?_
  rintro e w3 ⟨rfl, b3⟩
  have H3 := Lib.hid (H2.out.1.trans b3)
  clear b3
  go_wp2_with fail
  go_ret
  exact ⟨rfl, H3.out⟩
set_option maxRecDepth 100000 in
theorem tlines_some (tg g : Nat) (most : Int) (t : Tr) (w : World) (h : IsTx w tg g most t) (hn : t.nf ≤ 60000) : Calls Tryz.prog 26 #[.pointer (some ⟨tg, 0, none⟩)] w fun e w' => e = .returned (.int .i64 ((t.nf + 1 : Nat) : Int)) ∧ AnyLater w w' := by
  have HB := Lib.hid (tbytes_some tg g most t w h)
  have HL := Lib.hid (fun (w' : World) (b : AnyLater w w') => rbreaks_any _ t w' (.inr ⟨g, most, rfl, h.2.later b⟩))
  clear h
  generalize t.nf = m at *
  go_enter Tryz.func26, Tryz.ntmps26
  go_wp2_with fail
  refine HB.out.mono ?_
  rintro e w2 ⟨rfl, b2⟩
  have H2 := Lib.hid b2
  clear b2
  go_wp2_with fail
  refine (HL.out _ H2.out).mono ?_
  rintro e w3 ⟨rfl, b3⟩
  have H3 := Lib.hid (H2.out.trans b3)
  clear b3
  go_wp2_with fail
  go_ret
  exact ⟨by simp, H3.out⟩
theorem tlines_none (w : World) : Calls Tryz.prog 26 #[.pointer none] w fun e w' => e = .returned (.int .i64 0) ∧ AnyLater w w' := by
  go_enter Tryz.func26, Tryz.ntmps26
  go_wp2_with fail
  go_ret
  exact ⟨rfl, AnyLater.refl _⟩
theorem tlines_any (v : Value) (t : Tr) (n : Nat) (w : World) (h : IsTL w v t n) (hn : t.nf ≤ 60000) : Calls Tryz.prog 26 #[v] w fun e w' => e = .returned (.int .i64 (n : Int)) ∧ AnyLater w w' := by
  rcases h with ⟨rfl, rfl, rfl⟩ | ⟨tg, g, most, rfl, h, rfl⟩
  · exact tlines_none w
  · exact tlines_some tg g most t w h hn
set_option maxRecDepth 100000 in
theorem thas_any (v : Value) (t : Tr) (n : Nat) (k : Int) (c : Bool) (w : World) (hc : decide (0 ≤ k ∧ k < n) = c) (h : IsTL w v t n) (hn : t.nf ≤ 60000) : Calls Tryz.prog 47 #[v, .int .i64 k] w fun e w' => e = .returned (.bool c) ∧ AnyLater w w' := by
  have HL := Lib.hid (tlines_any v t n w h hn)
  clear h hn
  by_cases h0 : 0 ≤ k
  · by_cases h1 : k < n
    · have HC : Hid (c = true) := Lib.hid (by rw [← hc]; exact decide_eq_true ⟨h0, h1⟩)
      have d0 : decide (k < (n : Int)) = true := decide_eq_true h1
      clear hc h1
      go_enter Tryz.func47, Tryz.ntmps47
      go_wp2_with fail
      refine HL.out.mono ?_
      rintro e w2 ⟨rfl, b2⟩
      have H2 := Lib.hid b2
      clear b2
      go_wp2_with fail
      go_ret
      exact ⟨by rw [HC.out]; rfl, H2.out⟩
    · have HC : Hid (c = false) := Lib.hid (by rw [← hc]; exact decide_eq_false (fun q => h1 q.2))
      have d0 : decide (k < (n : Int)) = false := decide_eq_false h1
      clear hc h1
      go_enter Tryz.func47, Tryz.ntmps47
      go_wp2_with fail
      refine HL.out.mono ?_
      rintro e w2 ⟨rfl, b2⟩
      have H2 := Lib.hid b2
      clear b2
      go_wp2_with fail
      go_ret
      exact ⟨by rw [HC.out]; rfl, H2.out⟩
  · have HC : Hid (c = false) := Lib.hid (by rw [← hc]; exact decide_eq_false (fun q => h0 q.1))
    clear hc
    go_enter Tryz.func47, Tryz.ntmps47
    go_wp2_with fail
    go_ret
    exact ⟨by rw [HC.out]; rfl, AnyLater.refl _⟩
end Go.Proofs.YtiicaldnegcdiaaGreat
