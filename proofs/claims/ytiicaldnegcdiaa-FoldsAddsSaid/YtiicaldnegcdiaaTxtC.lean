/- text: where a line begins and ends, its bytes; places and lines; all bytes; changes; a text made: by contract. -/
import Derived.Test.YtiicaldnegcdiaaTxtB
namespace Go.Proofs.Ytiicaldnegcdiaa
set_option linter.unusedSimpArgs false
set_option linter.unusedVariables false
set_option linter.unusedSectionVars false
open Go.RowKit

theorem Tr.Ok.nf {t : Tr} (h : t.Ok) : t.nf ≤ 60000 := Nat.le_trans t.nf_le h.len
theorem ret_ib {a b : Int} {c d : Bool} (h : a = b) (k : c = d) : Ending.returned (.tuple #[.int .i64 a, .bool c]) = .returned (.tuple #[.int .i64 b, .bool d]) := by rw [h, k]
/-- where line feeds stand in a tree -/
def fds (t : Tr) : List Int := feN 0 t.bs
theorem fds_len (t : Tr) : (fds t).length = t.nf := Tr.nf_bs t
theorem fds_ok (t : Tr) : FeedsOk (fds t) t.len := by
  have := feedsOk t.bs
  rwa [Tr.len_bs] at this

/-! ### where a line begins -/
set_option maxRecDepth 100000 in
theorem tstart_no (v : Value) (t : Tr) (n : Nat) (k : Int) (w : World) (h : IsTL w v t n) (ok : t.Ok) (hk : ¬ (0 ≤ k ∧ k < n)) : Calls Try.prog 39 #[v, .int .i64 k] w fun e w' => e = .returned (.tuple #[.int .i64 0, .bool false]) ∧ AnyLater w w' := by
  have HH := Lib.hid (thas_any v t n k false w (decide_eq_false hk) h ok.nf)
  clear h ok hk
  go_enter Try.func39, Try.ntmps39
  go_wp2_with fail
  refine HH.out.mono ?_
  rintro e w2 ⟨rfl, b2⟩
  have H2 := Lib.hid b2
  clear b2
  go_wp2_with fail
  refine bodyPost_ret (v := .tuple #[.int .i64 0, .bool false]) (by simp [results, Try.results39, go_sem]) rfl ⟨rfl, H2.out⟩
set_option maxRecDepth 100000 in
theorem tstart_zero (tg g : Nat) (most : Int) (t : Tr) (w : World) (h : IsTx w tg g most t) (ok : t.Ok) : Calls Try.prog 39 #[.pointer (some ⟨tg, 0, none⟩), .int .i64 0] w fun e w' => e = .returned (.tuple #[.int .i64 0, .bool true]) ∧ AnyLater w w' := by
  have HH := Lib.hid (thas_any _ t (t.nf + 1) 0 true w (decide_eq_true (by omega)) h.tl ok.nf)
  clear h ok
  go_enter Try.func39, Try.ntmps39
  go_wp2_with fail
  refine HH.out.mono ?_
  rintro e w2 ⟨rfl, b2⟩
  have H2 := Lib.hid b2
  clear b2
  go_wp2_with fail
  refine bodyPost_ret (v := .tuple #[.int .i64 0, .bool true]) (by simp [results, Try.results39, go_sem]) rfl ⟨rfl, H2.out⟩
set_option maxRecDepth 100000 in
theorem tstart_more (tg g : Nat) (most : Int) (t : Tr) (k : Nat) (s : Int) (w : World) (h : IsTx w tg g most t) (ok : t.Ok) (hk : k < t.nf) (hs : brk t k = s) (hsb : 0 ≤ s ∧ s ≤ 60000) : Calls Try.prog 39 #[.pointer (some ⟨tg, 0, none⟩), .int .i64 ((k + 1 : Nat) : Int)] w fun e w' => e = .returned (.tuple #[.int .i64 (s + 1), .bool true]) ∧ AnyLater w w' := by
  have HH := Lib.hid (thas_any _ t (t.nf + 1) ((k + 1 : Nat) : Int) true w (decide_eq_true (by omega)) h.tl ok.nf)
  have HB := Lib.hid (fun (w' : World) (a : AnyLater w w') => tbytes_some tg g most t w' (h.later a))
  have HK := Lib.hid (fun (w' : World) (a : AnyLater w w') => rbreak_yes g most t k s w' hs (h.2.later a) ok hk)
  have hk2 : k ≤ 60000 := by have := ok.nf; omega
  obtain ⟨hs1, hs2⟩ := hsb
  clear h ok hk hs
  have e1 : ((k + 1 : Nat) : Int) = (k : Int) + 1 := by omega
  rw [e1] at HH ⊢
  clear e1
  have d1 : (((k : Int) + 1) == 0) = false := by simp; omega
  have d2 : (k : Int) + 1 - 1 = (k : Int) := by omega
  go_enter Try.func39, Try.ntmps39
  go_wp2_with fail
  refine HH.out.mono ?_
  rintro e w2 ⟨rfl, b2⟩
  have H2 := Lib.hid b2
  clear b2
  go_wp2_with fail
  refine (HB.out _ H2.out).mono ?_
  rintro e w3 ⟨rfl, b3⟩
  have H3 := Lib.hid (H2.out.trans b3)
  clear b3
  go_wp2_with fail
  refine (HK.out _ H3.out).mono ?_
  rintro e w4 ⟨rfl, b4⟩
  have H4 := Lib.hid (H3.out.trans b4)
  clear b4
  go_wp2_with fail
  refine bodyPost_ret (v := .tuple #[.int .i64 (s + 1), .bool true]) (by simp [results, Try.results39, go_sem]) rfl ⟨rfl, H4.out⟩
theorem brk_fds (t : Tr) (k : Nat) : brk t k = (fds t).getD k 0 := rfl
theorem tstart_yes (tg g : Nat) (most : Int) (t : Tr) (k : Nat) (s : Int) (w : World) (h : IsTx w tg g most t) (ok : t.Ok) (hk : k ≤ t.nf) (hs : lnS (fds t) k = s) : Calls Try.prog 39 #[.pointer (some ⟨tg, 0, none⟩), .int .i64 (k : Int)] w fun e w' => e = .returned (.tuple #[.int .i64 s, .bool true]) ∧ AnyLater w w' := by
  subst hs
  cases k with
  | zero => exact tstart_zero tg g most t w h ok
  | succ k =>
    have hf := fds_ok t
    have h1 := hf.lo k (by rw [fds_len]; omega)
    have h2 := hf.hi k (by rw [fds_len]; omega)
    have := ok.len
    have e : lnS (fds t) (k + 1) = brk t k + 1 := by unfold lnS; rw [if_neg (by omega)]; rfl
    rw [e]
    exact tstart_more tg g most t k (brk t k) w h ok (by omega) rfl (by rw [brk_fds]; omega)

/-! ### where a line ends -/
set_option maxRecDepth 100000 in
theorem tend_no (v : Value) (t : Tr) (n : Nat) (k : Int) (w : World) (h : IsTL w v t n) (ok : t.Ok) (hk : ¬ (0 ≤ k ∧ k < n)) : Calls Try.prog 40 #[v, .int .i64 k] w fun e w' => e = .returned (.tuple #[.int .i64 0, .bool false]) ∧ AnyLater w w' := by
  have HH := Lib.hid (thas_any v t n k false w (decide_eq_false hk) h ok.nf)
  clear h ok hk
  go_enter Try.func40, Try.ntmps40
  go_wp2_with fail
  refine HH.out.mono ?_
  rintro e w2 ⟨rfl, b2⟩
  have H2 := Lib.hid b2
  clear b2
  go_wp2_with fail
  refine bodyPost_ret (v := .tuple #[.int .i64 0, .bool false]) (by simp [results, Try.results40, go_sem]) rfl ⟨rfl, H2.out⟩
set_option maxRecDepth 100000 in
theorem tend_yes (tg g : Nat) (most : Int) (t : Tr) (k : Nat) (s : Int) (w : World) (h : IsTx w tg g most t) (ok : t.Ok) (hk : k ≤ t.nf) (hs : lnE (fds t) t.len k = s) : Calls Try.prog 40 #[.pointer (some ⟨tg, 0, none⟩), .int .i64 (k : Int)] w fun e w' => e = .returned (.tuple #[.int .i64 s, .bool true]) ∧ AnyLater w w' := by
  have HH := Lib.hid (thas_any _ t (t.nf + 1) (k : Int) true w (decide_eq_true (by omega)) h.tl ok.nf)
  have HB := Lib.hid (fun (w' : World) (a : AnyLater w w') => tbytes_some tg g most t w' (h.later a))
  unfold lnE at hs
  rw [fds_len] at hs
  by_cases hlt : k < t.nf
  · rw [if_pos hlt] at hs
    have HK := Lib.hid (fun (w' : World) (a : AnyLater w w') => rbreak_yes g most t k s w' hs (h.2.later a) ok hlt)
    clear h ok hk hs hlt
    go_enter Try.func40, Try.ntmps40
    go_wp2_with fail
    refine HH.out.mono ?_
    rintro e w2 ⟨rfl, b2⟩
    have H2 := Lib.hid b2
    clear b2
    go_wp2_with fail
    refine (HB.out _ H2.out).mono ?_
    rintro e w3 ⟨rfl, b3⟩
    have H3 := Lib.hid (H2.out.trans b3)
    clear b3
    go_wp2_with fail
    refine (HK.out _ H3.out).mono ?_
    rintro e w4 ⟨rfl, b4⟩
    have H4 := Lib.hid (H3.out.trans b4)
    clear b4
    go_wp2_with fail
    refine bodyPost_ret (v := .tuple #[.int .i64 s, .bool true]) (by simp [results, Try.results40, go_sem]) rfl ⟨rfl, H4.out⟩
  · rw [if_neg hlt] at hs
    subst hs
    have HK := Lib.hid (fun (w' : World) (a : AnyLater w w') => rbreak_no _ t (k : Int) w' (.inr ⟨g, most, rfl, h.2.later a⟩) (.inr (by omega)))
    have HL := Lib.hid (fun (w' : World) (a : AnyLater w w') => tlen_any _ t (t.nf + 1) w' (h.later a).tl)
    clear h ok hk hlt
    generalize t.len = m at *
    go_enter Try.func40, Try.ntmps40
    go_wp2_with fail
    refine HH.out.mono ?_
    rintro e w2 ⟨rfl, b2⟩
    have H2 := Lib.hid b2
    clear b2
    go_wp2_with fail
    refine (HB.out _ H2.out).mono ?_
    rintro e w3 ⟨rfl, b3⟩
    have H3 := Lib.hid (H2.out.trans b3)
    clear b3
    go_wp2_with fail
    refine (HK.out _ H3.out).mono ?_
    rintro e w4 ⟨rfl, b4⟩
    have H4 := Lib.hid (H3.out.trans b4)
    clear b4
    go_wp2_with fail
    refine (HL.out _ H4.out).mono ?_
    rintro e w5 ⟨rfl, b5⟩
    have H5 := Lib.hid (H4.out.trans b5)
    clear b5
    go_wp2_with fail
    refine bodyPost_ret (v := .tuple #[.int .i64 (m : Int), .bool true]) (by simp [results, Try.results40, go_sem]) rfl ⟨rfl, H5.out⟩

/-! ### a line's bytes -/
set_option maxRecDepth 100000 in
theorem tline_of (v : Value) (t : Tr) (n : Nat) (k a b : Int) (c d : Bool) (l : List Int) (w : World) (h : IsTL w v t n) (ok : t.Ok) (hl : cutZ t.bs a b = l)
    (HS : Hid (∀ w', AnyLater w w' → Calls Try.prog 39 #[v, .int .i64 k] w' fun e w'' => e = .returned (.tuple #[.int .i64 a, .bool c]) ∧ AnyLater w' w''))
    (HE : Hid (∀ w', AnyLater w w' → Calls Try.prog 40 #[v, .int .i64 k] w' fun e w'' => e = .returned (.tuple #[.int .i64 b, .bool d]) ∧ AnyLater w' w'')) :
    Calls Try.prog 41 #[v, .int .i64 k] w (Ans (isB l) w) := by
  have HB := Lib.hid (fun (w' : World) (e : AnyLater w w') => tbytes_any v t n w' (h.later e))
  have HP := Lib.hid (fun (w' : World) (q : Option Addr) (h : IsRN w' (.pointer q) t) => rpart_any (.pointer q) t a b l hl w' h ok)
  clear h ok hl
  go_enter Try.func41, Try.ntmps41
  go_wp2_with fail
  refine (HS.out _ (AnyLater.refl _)).mono ?_
  rintro e w2 ⟨rfl, b2⟩
  have H2 := Lib.hid b2
  clear b2
  go_wp2_with fail
  refine (HE.out _ H2.out).mono ?_
  rintro e w3 ⟨rfl, b3⟩
  have H3 := Lib.hid (H2.out.trans b3)
  clear b3
  go_wp2_with fail
  refine (HB.out _ H3.out).mono ?_
  rintro e w4 ⟨q, rfl, b4, h4⟩
  have H4 := Lib.hid (And.intro (H3.out.trans b4) h4)
  clear b4 h4
  go_wp2_with fail
  refine (HP.out _ _ H4.out.2).mono ?_
  rintro e w5 ⟨u, rfl, b5, h5⟩
  have H5 := Lib.hid (And.intro (H4.out.1.trans b5) h5)
  obtain ⟨A, cap, rfl, -⟩ := isB.form h5
  clear b5 h5
  go_wp2_with fail
  go_ret
  exact ⟨_, rfl, H5.out.1, H5.out.2⟩
theorem tline_no (v : Value) (t : Tr) (n : Nat) (k : Int) (w : World) (h : IsTL w v t n) (ok : t.Ok) (hk : ¬ (0 ≤ k ∧ k < n)) : Calls Try.prog 41 #[v, .int .i64 k] w (Ans (isB []) w) :=
  tline_of v t n k 0 0 false false [] w h ok (cutZ_none (.inl (Int.le_refl _))) (Lib.hid fun w' a => tstart_no v t n k w' (h.later a) ok hk) (Lib.hid fun w' a => tend_no v t n k w' (h.later a) ok hk)
theorem tline_yes (tg g : Nat) (most : Int) (t : Tr) (k : Nat) (l : List Int) (w : World) (h : IsTx w tg g most t) (ok : t.Ok) (hk : k ≤ t.nf) (hl : cutZ t.bs (lnS (fds t) k) (lnE (fds t) t.len k) = l) : Calls Try.prog 41 #[.pointer (some ⟨tg, 0, none⟩), .int .i64 (k : Int)] w (Ans (isB l) w) :=
  tline_of _ t (t.nf + 1) k _ _ true true l w h.tl ok hl (Lib.hid fun w' a => tstart_yes tg g most t k _ w' (h.later a) ok hk rfl) (Lib.hid fun w' a => tend_yes tg g most t k _ w' (h.later a) ok hk rfl)

/-! ### the line of a place -/
set_option maxRecDepth 100000 in
theorem tplace_nil (x : Int) (w : World) : Calls Try.prog 43 #[.pointer none, .int .i64 x] w fun e w' => e = .returned (.tuple #[.int .i64 0, .int .i64 0, .bool false]) ∧ AnyLater w w' := by
  go_enter Try.func43, Try.ntmps43
  go_wp2_with fail
  refine bodyPost_ret (v := .tuple #[.int .i64 0, .int .i64 0, .bool false]) (by simp [results, Try.results43, go_sem]) rfl ⟨rfl, AnyLater.refl _⟩
set_option maxRecDepth 100000 in
theorem tplace_no (tg g : Nat) (most : Int) (t : Tr) (x : Int) (w : World) (h : IsTx w tg g most t) (hx : x < 0 ∨ (t.len : Int) < x) : Calls Try.prog 43 #[.pointer (some ⟨tg, 0, none⟩), .int .i64 x] w fun e w' => e = .returned (.tuple #[.int .i64 0, .int .i64 0, .bool false]) ∧ AnyLater w w' := by
  have HL := Lib.hid (tlen_any _ t (t.nf + 1) w h.tl)
  clear h
  generalize t.len = m at *
  by_cases h1 : x < 0
  · clear hx
    go_enter Try.func43, Try.ntmps43
    go_wp2_with fail
    refine bodyPost_ret (v := .tuple #[.int .i64 0, .int .i64 0, .bool false]) (by simp [results, Try.results43, go_sem]) rfl ⟨rfl, AnyLater.refl _⟩
  · have h2 : (m : Int) < x := by omega
    have d1 : decide (x < 0) = false := decide_eq_false h1
    clear hx h1
    go_enter Try.func43, Try.ntmps43
    go_wp2_with fail
    refine HL.out.mono ?_
    rintro e w2 ⟨rfl, b2⟩
    have H2 := Lib.hid b2
    clear b2
    go_wp2_with fail
    refine bodyPost_ret (v := .tuple #[.int .i64 0, .int .i64 0, .bool false]) (by simp [results, Try.results43, go_sem]) rfl ⟨rfl, H2.out⟩
set_option maxRecDepth 100000 in
theorem tplace_yes (tg g : Nat) (most : Int) (t : Tr) (x k : Nat) (s : Int) (w : World) (h : IsTx w tg g most t) (ok : t.Ok) (hx : x ≤ t.len) (hk : below (x : Int) (fds t) = k) (hs : lnS (fds t) k = s) (hs0 : 0 ≤ s ∧ s ≤ x) (hkn : k ≤ t.nf) :
    Calls Try.prog 43 #[.pointer (some ⟨tg, 0, none⟩), .int .i64 (x : Int)] w fun e w' => e = .returned (.tuple #[.int .i64 (k : Int), .int .i64 ((x : Int) - s), .bool true]) ∧ AnyLater w w' := by
  have HL := Lib.hid (tlen_any _ t (t.nf + 1) w h.tl)
  have HB := Lib.hid (fun (w' : World) (a : AnyLater w w') => tbytes_some tg g most t w' (h.later a))
  have HA := Lib.hid (fun (w' : World) (a : AnyLater w w') => rahead_any _ t (x : Int) k w' hk (.inr ⟨g, most, rfl, h.2.later a⟩) ok)
  have HS := Lib.hid (fun (w' : World) (a : AnyLater w w') => tstart_yes tg g most t k s w' (h.later a) ok hkn hs)
  obtain ⟨k1, k2⟩ := hs0
  have hl6 := ok.len
  have d1 : decide ((x : Int) < 0) = false := decide_eq_false (by omega)
  have d2 : decide ((t.len : Int) < (x : Int)) = false := decide_eq_false (by omega)
  have d3 : decide (t.len < x) = false := decide_eq_false (by omega)
  clear h ok hk hs
  generalize t.len = m at *
  go_enter Try.func43, Try.ntmps43
  go_wp2_with fail
  refine HL.out.mono ?_
  rintro e w2 ⟨rfl, b2⟩
  have H2 := Lib.hid b2
  clear b2
  go_wp2_with fail
  refine (HB.out _ H2.out).mono ?_
  rintro e w3 ⟨rfl, b3⟩
  have H3 := Lib.hid (H2.out.trans b3)
  clear b3
  go_wp2_with fail
  refine (HA.out _ H3.out).mono ?_
  rintro e w4 ⟨rfl, b4⟩
  have H4 := Lib.hid (H3.out.trans b4)
  clear b4
  go_wp2_with fail
  refine (HS.out _ H4.out).mono ?_
  rintro e w5 ⟨rfl, b5⟩
  have H5 := Lib.hid (H4.out.trans b5)
  clear b5
  go_wp2_with fail
  refine bodyPost_ret (v := .tuple #[.int .i64 (k : Int), .int .i64 ((x : Int) - s), .bool true]) (by simp [results, Try.results43, go_sem]) rfl ⟨rfl, H5.out⟩

/-! ### the place of a line and a column -/
set_option maxRecDepth 100000 in
theorem toffset_no (v : Value) (t : Tr) (n : Nat) (k c : Int) (w : World) (h : IsTL w v t n) (ok : t.Ok) (hk : ¬ (0 ≤ k ∧ k < n)) : Calls Try.prog 45 #[v, .int .i64 k, .int .i64 c] w fun e w' => e = .returned (.tuple #[.int .i64 0, .bool false]) ∧ AnyLater w w' := by
  have HS := Lib.hid (fun w' (a : AnyLater w w') => tstart_no v t n k w' (h.later a) ok hk)
  have HE := Lib.hid (fun w' (a : AnyLater w w') => tend_no v t n k w' (h.later a) ok hk)
  clear h ok hk
  go_enter Try.func45, Try.ntmps45
  go_wp2_with fail
  refine (HS.out _ (AnyLater.refl _)).mono ?_
  rintro e w2 ⟨rfl, b2⟩
  have H2 := Lib.hid b2
  clear b2
  go_wp2_with fail
  refine (HE.out _ H2.out).mono ?_
  rintro e w3 ⟨rfl, b3⟩
  have H3 := Lib.hid (H2.out.trans b3)
  clear b3
  go_wp2_with fail
  refine bodyPost_ret (v := .tuple #[.int .i64 0, .bool false]) (by simp [results, Try.results45, go_sem]) rfl ⟨rfl, H3.out⟩
set_option maxRecDepth 100000 in
theorem toffset_out (tg g : Nat) (most : Int) (t : Tr) (k : Nat) (c a b : Int) (w : World) (h : IsTx w tg g most t) (ok : t.Ok) (hk : k ≤ t.nf) (ha : lnS (fds t) k = a) (hb : lnE (fds t) t.len k = b) (hab : 0 ≤ a ∧ a ≤ b ∧ b ≤ 60000) (hc : c < 0 ∨ b - a < c) : Calls Try.prog 45 #[.pointer (some ⟨tg, 0, none⟩), .int .i64 (k : Int), .int .i64 c] w fun e w' => e = .returned (.tuple #[.int .i64 0, .bool false]) ∧ AnyLater w w' := by
  have HS := Lib.hid (fun w' (e : AnyLater w w') => tstart_yes tg g most t k a w' (h.later e) ok hk ha)
  have HE := Lib.hid (fun w' (e : AnyLater w w') => tend_yes tg g most t k b w' (h.later e) ok hk hb)
  obtain ⟨q1, q2, q3⟩ := hab
  clear h ok hk ha hb
  by_cases h1 : c < 0
  · clear hc
    go_enter Try.func45, Try.ntmps45
    go_wp2_with fail
    refine (HS.out _ (AnyLater.refl _)).mono ?_
    rintro e w2 ⟨rfl, b2⟩
    have H2 := Lib.hid b2
    clear b2
    go_wp2_with fail
    refine (HE.out _ H2.out).mono ?_
    rintro e w3 ⟨rfl, b3⟩
    have H3 := Lib.hid (H2.out.trans b3)
    clear b3
    go_wp2_with fail
    refine bodyPost_ret (v := .tuple #[.int .i64 0, .bool false]) (by simp [results, Try.results45, go_sem]) rfl ⟨rfl, H3.out⟩
  · have h2 : b - a < c := by omega
    have d1 : decide (c < 0) = false := decide_eq_false h1
    clear hc h1
    go_enter Try.func45, Try.ntmps45
    go_wp2_with fail
    refine (HS.out _ (AnyLater.refl _)).mono ?_
    rintro e w2 ⟨rfl, b2⟩
    have H2 := Lib.hid b2
    clear b2
    go_wp2_with fail
    refine (HE.out _ H2.out).mono ?_
    rintro e w3 ⟨rfl, b3⟩
    have H3 := Lib.hid (H2.out.trans b3)
    clear b3
    go_wp2_with fail
    refine bodyPost_ret (v := .tuple #[.int .i64 0, .bool false]) (by simp [results, Try.results45, go_sem]) rfl ⟨rfl, H3.out⟩
set_option maxRecDepth 100000 in
theorem toffset_yes (tg g : Nat) (most : Int) (t : Tr) (k : Nat) (c a b : Int) (w : World) (h : IsTx w tg g most t) (ok : t.Ok) (hk : k ≤ t.nf) (ha : lnS (fds t) k = a) (hb : lnE (fds t) t.len k = b) (hab : 0 ≤ a ∧ a ≤ b ∧ b ≤ 60000) (hc : 0 ≤ c ∧ c ≤ b - a) : Calls Try.prog 45 #[.pointer (some ⟨tg, 0, none⟩), .int .i64 (k : Int), .int .i64 c] w fun e w' => e = .returned (.tuple #[.int .i64 (a + c), .bool true]) ∧ AnyLater w w' := by
  have HS := Lib.hid (fun w' (e : AnyLater w w') => tstart_yes tg g most t k a w' (h.later e) ok hk ha)
  have HE := Lib.hid (fun w' (e : AnyLater w w') => tend_yes tg g most t k b w' (h.later e) ok hk hb)
  obtain ⟨q1, q2, q3⟩ := hab
  obtain ⟨h1, h2⟩ := hc
  clear h ok hk ha hb
  have d1 : decide (c < 0) = false := decide_eq_false (by omega)
  have d2 : decide (b - a < c) = false := decide_eq_false (by omega)
  go_enter Try.func45, Try.ntmps45
  go_wp2_with fail
  refine (HS.out _ (AnyLater.refl _)).mono ?_
  rintro e w2 ⟨rfl, b2⟩
  have H2 := Lib.hid b2
  clear b2
  go_wp2_with fail
  refine (HE.out _ H2.out).mono ?_
  rintro e w3 ⟨rfl, b3⟩
  have H3 := Lib.hid (H2.out.trans b3)
  clear b3
  go_wp2_with fail
  refine bodyPost_ret (v := .tuple #[.int .i64 (a + c), .bool true]) (by simp [results, Try.results45, go_sem]) rfl ⟨rfl, H3.out⟩

/-! ### all bytes -/
theorem cutZ_all (l : List Int) (n : Nat) (h : l.length = n) : cutZ l 0 n = l := by unfold cutZ; rw [List.take_of_length_le (by omega)]; rfl
set_option maxRecDepth 100000 in
theorem tall_any (v : Value) (t : Tr) (n : Nat) (w : World) (h : IsTL w v t n) (ok : t.Ok) : Calls Try.prog 38 #[v] w (Ans (isB t.bs) w) := by
  have HB := Lib.hid (tbytes_any v t n w h)
  have HL := Lib.hid (fun (w' : World) (e : AnyLater w w') => tlen_any v t n w' (h.later e))
  have HP := Lib.hid (fun (w' : World) (q : Option Addr) (h : IsRN w' (.pointer q) t) => rpart_any (.pointer q) t 0 t.len t.bs (cutZ_all _ _ (Tr.len_bs t)) w' h ok)
  clear h ok
  generalize t.len = m at *
  go_enter Try.func38, Try.ntmps38
  go_wp2_with fail
  refine HB.out.mono ?_
  rintro e w2 ⟨q, rfl, b2, h2⟩
  have H2 := Lib.hid (And.intro b2 h2)
  clear b2 h2
  go_wp2_with fail
  refine (HL.out _ H2.out.1).mono ?_
  rintro e w3 ⟨rfl, b3⟩
  have H3 := Lib.hid (And.intro (H2.out.1.trans b3) (H2.out.2.later b3))
  clear b3
  go_wp2_with fail
  refine (HP.out _ _ H3.out.2).mono ?_
  rintro e w4 ⟨u, rfl, b4, h4⟩
  have H4 := Lib.hid (And.intro (H3.out.1.trans b4) h4)
  obtain ⟨A, cap, rfl, -⟩ := isB.form h4
  clear b4 h4
  go_wp2_with fail
  go_ret
  exact ⟨_, rfl, H4.out.1, H4.out.2⟩

/-! ### changes -/
set_option maxRecDepth 100000 in
theorem tins_any (tg g : Nat) (most : Int) (t : Tr) (x c : Int) (A : Option Addr) (n cap : Nat) (R : World → Prop) (w : World) (h : IsTx w tg g most t)
    (HI : Hid (∀ w', AnyLater w w' → Calls Try.prog 69 #[.pointer (some ⟨g, 0, none⟩), .int .i64 x, .slice A n cap] w' fun e w'' => e = .returned (.int .i64 c) ∧ But g w' w'' ∧ R w'')) :
    Calls Try.prog 87 #[.pointer (some ⟨tg, 0, none⟩), .int .i64 x, .slice A n cap] w fun e w' => e = .returned (.int .i64 c) ∧ But g w w' ∧ R w' := by
  have HB := Lib.hid (tbytes_some tg g most t w h)
  clear h
  go_enter Try.func87, Try.ntmps87
  go_wp2_with fail
  refine HB.out.mono ?_
  rintro e w2 ⟨rfl, b2⟩
  have H2 := Lib.hid b2
  clear b2
  go_wp2_with fail
  refine (HI.out _ H2.out).mono ?_
  rintro e w3 ⟨rfl, b3, h3⟩
  have H3 := Lib.hid (And.intro ((But.of H2.out).trans b3) h3)
  clear b3 h3
  go_wp2_with fail
  go_ret
  exact ⟨rfl, H3.out.1, H3.out.2⟩
set_option maxRecDepth 100000 in
theorem tins_nil (x : Int) (u : Value) (w : World) : Calls Try.prog 87 #[.pointer none, .int .i64 x, u] w fun e w' => e = .returned (.int .i64 1) ∧ AnyLater w w' := by
  have HB := Lib.hid (tbytes_none w)
  have HI := Lib.hid (fun w' => rins_nil x u w')
  go_enter Try.func87, Try.ntmps87
  go_wp2_with fail
  refine HB.out.mono ?_
  rintro e w2 ⟨rfl, b2⟩
  have H2 := Lib.hid b2
  clear b2
  go_wp2_with fail
  refine (HI.out _).mono ?_
  rintro e w3 ⟨rfl, b3⟩
  have H3 := Lib.hid (H2.out.trans b3)
  clear b3
  go_wp2_with fail
  go_ret
  exact ⟨rfl, H3.out⟩
set_option maxRecDepth 100000 in
theorem tdel_any (tg g : Nat) (most : Int) (t : Tr) (x m c : Int) (l : List Int) (R : World → Prop) (w : World) (h : IsTx w tg g most t)
    (HI : Hid (∀ w', AnyLater w w' → Calls Try.prog 71 #[.pointer (some ⟨g, 0, none⟩), .int .i64 x, .int .i64 m] w' fun e w'' => ∃ u, e = .returned (.tuple #[u, .int .i64 c]) ∧ But g w' w'' ∧ R w'' ∧ isB l u w'')) :
    Calls Try.prog 86 #[.pointer (some ⟨tg, 0, none⟩), .int .i64 x, .int .i64 m] w fun e w' => ∃ u, e = .returned (.tuple #[u, .int .i64 c]) ∧ But g w w' ∧ R w' ∧ isB l u w' := by
  have HB := Lib.hid (tbytes_some tg g most t w h)
  clear h
  go_enter Try.func86, Try.ntmps86
  go_wp2_with fail
  refine HB.out.mono ?_
  rintro e w2 ⟨rfl, b2⟩
  have H2 := Lib.hid b2
  clear b2
  go_wp2_with fail
  refine (HI.out _ H2.out).mono ?_
  rintro e w3 ⟨u, rfl, b3, h3, h4⟩
  have H3 := Lib.hid (And.intro ((But.of H2.out).trans b3) (And.intro h3 h4))
  obtain ⟨A, cap, rfl, -⟩ := isB.form h4
  clear b3 h3 h4
  generalize l.length = nl at *
  go_wp2_with fail
  refine bodyPost_ret (v := .tuple #[.slice A nl cap, .int .i64 c]) (by simp [results, Try.results86, go_sem]) rfl ?_
  exact ⟨_, rfl, H3.out.1, H3.out.2.1, H3.out.2.2⟩
set_option maxRecDepth 100000 in
theorem tdel_nil (x m : Int) (w : World) : Calls Try.prog 86 #[.pointer none, .int .i64 x, .int .i64 m] w fun e w' => e = .returned (.tuple #[.slice none 0 0, .int .i64 1]) ∧ AnyLater w w' := by
  have HB := Lib.hid (tbytes_none w)
  have HI := Lib.hid (fun w' => rdel_nil x m w')
  go_enter Try.func86, Try.ntmps86
  go_wp2_with fail
  refine HB.out.mono ?_
  rintro e w2 ⟨rfl, b2⟩
  have H2 := Lib.hid b2
  clear b2
  go_wp2_with fail
  refine (HI.out _).mono ?_
  rintro e w3 ⟨rfl, b3⟩
  have H3 := Lib.hid (H2.out.trans b3)
  clear b3
  go_wp2_with fail
  refine bodyPost_ret (v := .tuple #[.slice none 0 0, .int .i64 1]) (by simp [results, Try.results86, go_sem]) rfl ⟨rfl, H3.out⟩

/-! ### a text made -/
set_option maxRecDepth 100000 in
theorem tnew_no (A : Option Addr) (n cap : Nat) (most c : Int) (w : World) (hc : newC n most = c) (h0 : c ≠ 0) : Calls Try.prog 85 #[.slice A n cap, .int .i64 most] w fun e w' => e = .returned (.tuple #[.pointer none, .int .i64 c]) ∧ AnyLater w w' := by
  have HR : Hid (Calls Try.prog 25 #[.slice A n cap, .int .i64 most] w fun e w' => e = .returned (.tuple #[.pointer none, .int .i64 c]) ∧ AnyLater w w') := Lib.hid (by
    unfold newC at hc
    split at hc
    · subst hc; exact rnew_bad _ most w (by assumption)
    · split at hc
      · subst hc; exact rnew_full A n cap most w (by assumption) (by omega)
      · exact absurd hc.symm h0)
  have d1 : (c != 0) = true := by simpa using h0
  clear hc h0
  go_enter Try.func85, Try.ntmps85
  go_wp2_with fail
  refine HR.out.mono ?_
  rintro e w2 ⟨rfl, b2⟩
  have H2 := Lib.hid b2
  clear b2
  go_wp2_with fail
  refine bodyPost_ret (v := .tuple #[.pointer none, .int .i64 c]) (by simp [results, Try.results85, go_sem]) rfl ⟨rfl, H2.out⟩
set_option maxRecDepth 100000 in
theorem tnew_yes (u : Value) (b : List Int) (most : Int) (w : World) (hu : RN .u8 w u b) (hb : Bytes b) (hm : (b.length : Int) ≤ most) (hmost : 0 ≤ most ∧ most ≤ 16777216) (hl : b.length ≤ 60000) :
    Calls Try.prog 85 #[u, .int .i64 most] w fun e w' => ∃ tg g, e = .returned (.tuple #[.pointer (some ⟨tg, 0, none⟩), .int .i64 0]) ∧ AnyLater w w' ∧ w.heap.size ≤ g ∧ w.heap.size ≤ tg ∧ tg ≠ g ∧ IsTx w' tg g most (newT b) := by
  have HR := Lib.hid (rnew_all u b most w hu hb hm hmost hl)
  obtain ⟨A, cap, rfl, -⟩ := hu.form
  clear hu hb hm hmost hl
  generalize newT b = t at *
  generalize b.length = n at *
  go_enter Try.func85, Try.ntmps85
  go_wp2_with fail
  refine HR.out.mono ?_
  rintro e w2 ⟨g, rfl, b2, hg, h2⟩
  have H2 := Lib.hid (And.intro b2 (And.intro hg h2))
  have hgl : g < w2.heap.size := by
    obtain ⟨rv, q, _⟩ := h2
    exact own_lt q
  have HG := Lib.hid hgl
  clear b2 hg h2 hgl
  go_wp2_with fail
  refine bodyPost_ret (v := .tuple #[.pointer (some ⟨w2.heap.size, 0, none⟩), .int .i64 0]) (by simp [results, Try.results85, go_sem]) rfl ?_
  have a3 : AnyLater w2 (w2.alloc (.cells #[.pointer (some ⟨g, 0, none⟩)] 140)) := (AnyLater.refl w2).alloc _
  exact ⟨_, g, rfl, H2.out.1.trans a3, H2.out.2.1, H2.out.1.below.size, Nat.ne_of_gt HG.out, heap_new rfl, H2.out.2.2.later a3⟩
end Go.Proofs.Ytiicaldnegcdiaa
