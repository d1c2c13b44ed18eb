/- text: where a line begins and ends, its bytes; places and lines; all bytes; changes; a text made: by contract. -/
import Derived.Test.YtiicaldnegcdiaaGreatTxtB
namespace Go.Proofs.YtiicaldnegcdiaaGreat
set_option linter.unusedSimpArgs false
set_option linter.unusedVariables false
set_option linter.unusedSectionVars false
open Go.RowKit

theorem Tr.Ok.nf {t : Tr} (h : t.Ok) : t.nf ≤ 60000 := Nat.le_trans t.nf_le h.len
theorem ret_ib {a b : Int} {c d : Bool} (h : a = b) (k : c = d) : Ending.returned (.tuple #[.int .i64 a, .bool c]) = .returned (.tuple #[.int .i64 b, .bool d]) := by rw [h, k]
/-- where line feeds stand in a tree -/
def fds (t : Tr) : List Int := feN 0 t.bs
theorem fds_len (t : Tr) : (fds t).length = t.nf := Tr.nf_bs t
theorem fds_ok (t : Tr) : FeedsOk (fds t) t.len := by
  have := feedsOk t.bs
  rwa [Tr.len_bs] at this

/-! ### where a line begins -/
set_option maxRecDepth 100000 in
theorem tstart_no (v : Value) (t : Tr) (n : Nat) (k : Int) (w : World) (h : IsTL w v t n) (ok : t.Ok) (hk : ¬ (0 ≤ k ∧ k < n)) : Calls Tryz.prog 30 #[v, .int .i64 k] w fun e w' => e = .returned (.tuple #[.int .i64 0, .bool false]) ∧ AnyLater w w' := by
  have HH := Lib.hid (thas_any v t n k false w (decide_eq_false hk) h ok.nf)
  clear h ok hk
  go_enter Tryz.func30, Tryz.ntmps30
  go_wp2_with fail
  refine HH.out.mono ?_
  rintro e w2 ⟨rfl, b2⟩
  have H2 := Lib.hid b2
  clear b2
  go_wp2_with fail
  refine bodyPost_ret (v := .tuple #[.int .i64 0, .bool false]) (by simp [results, Tryz.results30, go_sem]) rfl ⟨rfl, H2.out⟩
set_option maxRecDepth 100000 in
theorem tstart_zero (tg g : Nat) (most : Int) (t : Tr) (w : World) (h : IsTx w tg g most t) (ok : t.Ok) : Calls Tryz.prog 30 #[.pointer (some ⟨tg, 0, none⟩), .int .i64 0] w fun e w' => e = .returned (.tuple #[.int .i64 0, .bool true]) ∧ AnyLater w w' := by
  have HH := Lib.hid (thas_any _ t (t.nf + 1) 0 true w (decide_eq_true (by omega)) h.tl ok.nf)
  clear h ok
  go_enter Tryz.func30, Tryz.ntmps30
  go_wp2_with fail
  refine HH.out.mono ?_
  rintro e w2 ⟨rfl, b2⟩
  have H2 := Lib.hid b2
  clear b2
  go_wp2_with fail
  refine bodyPost_ret (v := .tuple #[.int .i64 0, .bool true]) (by simp [results, Tryz.results30, go_sem]) rfl ⟨rfl, H2.out⟩
set_option maxRecDepth 100000 in
theorem tstart_more (tg g : Nat) (most : Int) (t : Tr) (k : Nat) (s : Int) (w : World) (h : IsTx w tg g most t) (ok : t.Ok) (hk : k < t.nf) (hs : brk t k = s) (hsb : 0 ≤ s ∧ s ≤ 60000) : Calls Tryz.prog 30 #[.pointer (some ⟨tg, 0, none⟩), .int .i64 ((k + 1 : Nat) : Int)] w fun e w' => e = .returned (.tuple #[.int .i64 (s + 1), .bool true]) ∧ AnyLater w w' := by
  have HH := Lib.hid (thas_any _ t (t.nf + 1) ((k + 1 : Nat) : Int) true w (decide_eq_true (by omega)) h.tl ok.nf)
  have HB := Lib.hid (fun (w' : World) (a : AnyLater w w') => tbytes_some tg g most t w' (h.later a))
  have HK := Lib.hid (fun (w' : World) (a : AnyLater w w') => rbreak_yes g most t k s w' hs (h.2.later a) ok hk)
  have hk2 : k ≤ 60000 := by have := ok.nf; omega
  obtain ⟨hs1, hs2⟩ := hsb
  clear h ok hk hs
  have e1 : ((k + 1 : Nat) : Int) = (k : Int) + 1 := by omega
  rw [e1] at HH ⊢
  clear e1
  have d1 : (((k : Int) + 1) == 0) = false := by simp; omega
  have d2 : (k : Int) + 1 - 1 = (k : Int) := by omega
  go_enter Tryz.func30, Tryz.ntmps30
  go_wp2_with fail
  refine HH.out.mono ?_
  rintro e w2 ⟨rfl, b2⟩
  have H2 := Lib.hid b2
  clear b2
  go_wp2_with fail
  refine (HB.out _ H2.out).mono ?_
  rintro e w3 ⟨rfl, b3⟩
  have H3 := Lib.hid (H2.out.trans b3)
  clear b3
  go_wp2_with fail
  refine (HK.out _ H3.out).mono ?_
  rintro e w4 ⟨rfl, b4⟩
  have H4 := Lib.hid (H3.out.trans b4)
  clear b4
  go_wp2_with fail
  refine bodyPost_ret (v := .tuple #[.int .i64 (s + 1), .bool true]) (by simp [results, Tryz.results30, go_sem]) rfl ⟨rfl, H4.out⟩
theorem brk_fds (t : Tr) (k : Nat) : brk t k = (fds t).getD k 0 := rfl
theorem tstart_yes (tg g : Nat) (most : Int) (t : Tr) (k : Nat) (s : Int) (w : World) (h : IsTx w tg g most t) (ok : t.Ok) (hk : k ≤ t.nf) (hs : lnS (fds t) k = s) : Calls Tryz.prog 30 #[.pointer (some ⟨tg, 0, none⟩), .int .i64 (k : Int)] w fun e w' => e = .returned (.tuple #[.int .i64 s, .bool true]) ∧ AnyLater w w' := by
  subst hs
  cases k with
  | zero => exact tstart_zero tg g most t w h ok
  | succ k =>
    have hf := fds_ok t
    have h1 := hf.lo k (by rw [fds_len]; omega)
    have h2 := hf.hi k (by rw [fds_len]; omega)
    have := ok.len
    have e : lnS (fds t) (k + 1) = brk t k + 1 := by unfold lnS; rw [if_neg (by omega)]; rfl
    rw [e]
    exact tstart_more tg g most t k (brk t k) w h ok (by omega) rfl (by rw [brk_fds]; omega)

/-! ### where a line ends -/
/-! ### a line's bytes -/
/-! ### the line of a place -/
set_option maxRecDepth 100000 in
theorem tplace_nil (x : Int) (w : World) : Calls Tryz.prog 36 #[.pointer none, .int .i64 x] w fun e w' => e = .returned (.tuple #[.int .i64 0, .int .i64 0, .bool false]) ∧ AnyLater w w' := by
  go_enter Tryz.func36, Tryz.ntmps36
  go_wp2_with fail
  refine bodyPost_ret (v := .tuple #[.int .i64 0, .int .i64 0, .bool false]) (by simp [results, Tryz.results36, go_sem]) rfl ⟨rfl, AnyLater.refl _⟩
set_option maxRecDepth 100000 in
theorem tplace_no (tg g : Nat) (most : Int) (t : Tr) (x : Int) (w : World) (h : IsTx w tg g most t) (hx : x < 0 ∨ (t.len : Int) < x) : Calls Tryz.prog 36 #[.pointer (some ⟨tg, 0, none⟩), .int .i64 x] w fun e w' => e = .returned (.tuple #[.int .i64 0, .int .i64 0, .bool false]) ∧ AnyLater w w' := by
  have HL := Lib.hid (tlen_any _ t (t.nf + 1) w h.tl)
  clear h
  generalize t.len = m at *
  by_cases h1 : x < 0
  · clear hx
    go_enter Tryz.func36, Tryz.ntmps36
    go_wp2_with fail
    refine bodyPost_ret (v := .tuple #[.int .i64 0, .int .i64 0, .bool false]) (by simp [results, Tryz.results36, go_sem]) rfl ⟨rfl, AnyLater.refl _⟩
  · have h2 : (m : Int) < x := by omega
    have d1 : decide (x < 0) = false := decide_eq_false h1
    clear hx h1
    go_enter Tryz.func36, Tryz.ntmps36
    go_wp2_with fail
    refine HL.out.mono ?_
    rintro e w2 ⟨rfl, b2⟩
    have H2 := Lib.hid b2
    clear b2
    go_wp2_with fail
    refine bodyPost_ret (v := .tuple #[.int .i64 0, .int .i64 0, .bool false]) (by simp [results, Tryz.results36, go_sem]) rfl ⟨rfl, H2.out⟩
set_option maxRecDepth 100000 in
theorem tplace_yes (tg g : Nat) (most : Int) (t : Tr) (x k : Nat) (s : Int) (w : World) (h : IsTx w tg g most t) (ok : t.Ok) (hx : x ≤ t.len) (hk : below (x : Int) (fds t) = k) (hs : lnS (fds t) k = s) (hs0 : 0 ≤ s ∧ s ≤ x) (hkn : k ≤ t.nf) :
    Calls Tryz.prog 36 #[.pointer (some ⟨tg, 0, none⟩), .int .i64 (x : Int)] w fun e w' => e = .returned (.tuple #[.int .i64 (k : Int), .int .i64 ((x : Int) - s), .bool true]) ∧ AnyLater w w' := by
  have HL := Lib.hid (tlen_any _ t (t.nf + 1) w h.tl)
  have HB := Lib.hid (fun (w' : World) (a : AnyLater w w') => tbytes_some tg g most t w' (h.later a))
  have HA := Lib.hid (fun (w' : World) (a : AnyLater w w') => rahead_any _ t (x : Int) k w' hk (.inr ⟨g, most, rfl, h.2.later a⟩) ok)
  have HS := Lib.hid (fun (w' : World) (a : AnyLater w w') => tstart_yes tg g most t k s w' (h.later a) ok hkn hs)
  obtain ⟨k1, k2⟩ := hs0
  have hl6 := ok.len
  have d1 : decide ((x : Int) < 0) = false := decide_eq_false (by omega)
  have d2 : decide ((t.len : Int) < (x : Int)) = false := decide_eq_false (by omega)
  have d3 : decide (t.len < x) = false := decide_eq_false (by omega)
  clear h ok hk hs
  generalize t.len = m at *
  go_enter Tryz.func36, Tryz.ntmps36
  go_wp2_with fail
  refine HL.out.mono ?_
  rintro e w2 ⟨rfl, b2⟩
  have H2 := Lib.hid b2
  clear b2
  go_wp2_with fail
  refine (HB.out _ H2.out).mono ?_
  rintro e w3 ⟨rfl, b3⟩
  have H3 := Lib.hid (H2.out.trans b3)
  clear b3
  go_wp2_with fail
  refine (HA.out _ H3.out).mono ?_
  rintro e w4 ⟨rfl, b4⟩
  have H4 := Lib.hid (H3.out.trans b4)
  clear b4
  go_wp2_with fail
  refine (HS.out _ H4.out).mono ?_
  rintro e w5 ⟨rfl, b5⟩
  have H5 := Lib.hid (H4.out.trans b5)
  clear b5
  go_wp2_with fail
  refine bodyPost_ret (v := .tuple #[.int .i64 (k : Int), .int .i64 ((x : Int) - s), .bool true]) (by simp [results, Tryz.results36, go_sem]) rfl ⟨rfl, H5.out⟩

/-! ### the place of a line and a column -/
/-! ### all bytes -/
theorem cutZ_all (l : List Int) (n : Nat) (h : l.length = n) : cutZ l 0 n = l := by unfold cutZ; rw [List.take_of_length_le (by omega)]; rfl
/-! ### changes -/
/-! ### a text made -/
set_option maxRecDepth 100000 in
theorem tnew_no (A : Option Addr) (n cap : Nat) (most c : Int) (w : World) (hc : newC n most = c) (h0 : c ≠ 0) : Calls Tryz.prog 7 #[.slice A n cap, .int .i64 most] w fun e w' => e = .returned (.tuple #[.pointer none, .int .i64 c]) ∧ AnyLater w w' := by
  have HR : Hid (Calls Tryz.prog 23 #[.slice A n cap, .int .i64 most] w fun e w' => e = .returned (.tuple #[.pointer none, .int .i64 c]) ∧ AnyLater w w') := Lib.hid (by
    unfold newC at hc
    split at hc
    · subst hc; exact rnew_bad _ most w (by assumption)
    · split at hc
      · subst hc; exact rnew_full A n cap most w (by assumption) (by omega)
      · exact absurd hc.symm h0)
  have d1 : (c != 0) = true := by simpa using h0
  clear hc h0
  go_enter Tryz.func7, Tryz.ntmps7
  go_wp2_with fail
  refine HR.out.mono ?_
  rintro e w2 ⟨rfl, b2⟩
  have H2 := Lib.hid b2
  clear b2
  go_wp2_with fail
  refine bodyPost_ret (v := .tuple #[.pointer none, .int .i64 c]) (by simp [results, Tryz.results7, go_sem]) rfl ⟨rfl, H2.out⟩
set_option maxRecDepth 100000 in
theorem tnew_yes (u : Value) (b : List Int) (most : Int) (w : World) (hu : RN .u8 w u b) (hb : Bytes b) (hm : (b.length : Int) ≤ most) (hmost : 0 ≤ most ∧ most ≤ 16777216) (hl : b.length ≤ 60000) :
    Calls Tryz.prog 7 #[u, .int .i64 most] w fun e w' => ∃ tg g, e = .returned (.tuple #[.pointer (some ⟨tg, 0, none⟩), .int .i64 0]) ∧ AnyLater w w' ∧ w.heap.size ≤ g ∧ w.heap.size ≤ tg ∧ tg ≠ g ∧ IsTx w' tg g most (newT b) := by
  have HR := Lib.hid (rnew_all u b most w hu hb hm hmost hl)
  obtain ⟨A, cap, rfl, -⟩ := hu.form
  clear hu hb hm hmost hl
  generalize newT b = t at *
  generalize b.length = n at *
  go_enter Tryz.func7, Tryz.ntmps7
  go_wp2_with fail
  refine HR.out.mono ?_
  rintro e w2 ⟨g, rfl, b2, hg, h2⟩
  have H2 := Lib.hid (And.intro b2 (And.intro hg h2))
  have hgl : g < w2.heap.size := by
    obtain ⟨rv, q, _⟩ := h2
    exact own_lt q
  have HG := Lib.hid hgl
  clear b2 hg h2 hgl
  go_wp2_with fail
  refine bodyPost_ret (v := .tuple #[.pointer (some ⟨w2.heap.size, 0, none⟩), .int .i64 0]) (by simp [results, Tryz.results7, go_sem]) rfl ?_
  have a3 : AnyLater w2 (w2.alloc (.cells #[.pointer (some ⟨g, 0, none⟩)] 52)) := (AnyLater.refl w2).alloc _
  exact ⟨_, g, rfl, H2.out.1.trans a3, H2.out.2.1, H2.out.1.below.size, Nat.ne_of_gt HG.out, heap_new rfl, H2.out.2.2.later a3⟩
end Go.Proofs.YtiicaldnegcdiaaGreat
