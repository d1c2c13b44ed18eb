/- what the proof stands on: RopS TxtB TxtC -/
import Derived.Lib.SlBytesConst
import Derived.Test.YtamhnffokoejjaaGreatDoorKnbh
import Derived.Test.YtamhnffokoejjaaGreatDoorKnac
import Derived.Test.YtamhnffokoejjaaGreatDoorKnaj
namespace Go.Proofs.YtamhnffokoejjaaGreatDoor
set_option linter.unusedSimpArgs false
set_option linter.unusedVariables false
set_option linter.unusedSectionVars false
open Go.RowKit
theorem RN.lit {k : IntKind} {t : TypeId} {w : World} {g : Nat} {cs : Array Value} {m : Nat × Nat} (l : List Int) (h : w.heap[g]? = some (.cells cs t m)) (e : cs.toList = l.map (Value.int k)) : RN k w (.slice (some ⟨g, 0, none⟩) l.length l.length) l := by
  refine ⟨_, _, rfl, Nat.le_refl _, fun h0 => ⟨g, 0, rfl, own_lt h, fun j hj => ?_⟩⟩
  have : cs[0 + j]? = some (.int k l[j]) := by
    rw [Nat.zero_add, ← Array.getElem?_toList, e]
    simp [hj]
  simpa [World.cell?, h] using this
theorem isB.form {l : List Int} {v : Value} {w : World} (h : isB l v w) : ∃ A cap, v = .slice A l.length cap ∧ l.length ≤ cap := RT.form h
structure RAM where
  kind : Int
  at_ : Int
  n : Int
  v : Value
  b : List Int
def I64r (z : Int) : Prop := -9223372036854775808 ≤ z ∧ z ≤ 9223372036854775807
structure RAM.Ok (A : RAM) (w : World) : Prop where
  kind : I64r A.kind
  at_ : I64r A.at_
  n : I64r A.n
  row : RN .u8 w A.v A.b
  bytes : Bytes A.b
end Go.Proofs.YtamhnffokoejjaaGreatDoor
namespace Go.Proofs.YtamhnffokoejjaaGreatDoor
set_option linter.unusedSimpArgs false
set_option linter.unusedVariables false
set_option linter.unusedSectionVars false
open Go.RowKit
set_option maxRecDepth 100000 in
theorem rnew_none (A : Option Addr) (cap : Nat) (most : Int) (w : World) (hmost : 0 ≤ most ∧ most ≤ 16777216) : Calls Tryz.prog 87 #[.slice A 0 cap, .int .i64 most] w fun e w' => ∃ g, e = .returned (.tuple #[.pointer (some ⟨g, 0, none⟩), .int .i64 0]) ∧ AnyLater w w' ∧ w.heap.size ≤ g ∧ IsR w' g most .nil := by
  have HI : Hid (∀ w', w'.heap[w.heap.size]? = some (.cells #[.pointer none, .int .i64 most] 146) → Calls Tryz.prog 121 #[.pointer (some ⟨w.heap.size, 0, none⟩), .int .i64 0, .slice A 0 cap] w' fun e w'' => e = .returned (.int .i64 0) ∧ AnyLater w' w'' ∧ IsR w'' w.heap.size most .nil) := Lib.hid (fun w' hg => by
    have h : IsR w' w.heap.size most .nil := ⟨_, hg, rfl⟩
    exact (rins_none w.heap.size most .nil 0 A cap w' h ⟨trivial, trivial, Nat.zero_le _⟩ (Nat.zero_le _) (by simp only [Tr.len]; omega) hmost).mono fun e w'' ⟨h1, h2⟩ => ⟨h1, h2, h.later h2⟩)
  obtain ⟨k1, k2⟩ := hmost
  have d1 : decide (most < 0) = false := decide_eq_false (by omega)
  have d2 : decide (16777216 < most) = false := decide_eq_false (by omega)
  go_enter Tryz.func87, Tryz.ntmps87
  go_wp2_with fail
  have s0 : (w.alloc (.cells #[.pointer none, .int .i64 most] 146)).heap[w.heap.size]? = some (.cells #[.pointer none, .int .i64 most] 146) := heap_new rfl
  refine (HI.out _ s0).mono ?_
  rintro e w2 ⟨rfl, b2, r2⟩
  have H2 : Hid (AnyLater w w2 ∧ IsR w2 w.heap.size most .nil) := Lib.hid ⟨AnyLater.trans (by repeat' (first | with_reducible assumption | with_reducible exact AnyLater.refl _ | with_reducible apply AnyLater.setCell | with_reducible apply AnyLater.later | with_reducible apply AnyLater.drewN | with_reducible apply AnyLater.drew | with_reducible apply AnyLater.alloc | ((try simp only [World.size_alloc, World.size_setCell, World.size_drew]); (try dsimp only); omega))) b2, r2⟩
  clear b2 r2 s0
  go_wp2_with fail
  refine bodyPost_ret (v := .tuple #[.pointer (some ⟨w.heap.size, 0, none⟩), .int .i64 0]) (by simp [results, Tryz.results87, go_sem]) rfl ?_
  exact ⟨_, rfl, H2.out.1, Nat.le_refl _, H2.out.2⟩
def newT (b : List Int) : Tr := if 0 < b.length then insT .nil 0 b else .nil
theorem newT_bs (b : List Int) : (newT b).bs = b := by
  unfold newT
  split
  · rw [insT_bs]; simp [Tr.bs]
  · obtain rfl := List.eq_nil_of_length_eq_zero (by omega : b.length = 0)
    rfl
theorem newT_ok {b : List Int} (hb : Bytes b) (hl : b.length ≤ 60000) : (newT b).Ok := by
  unfold newT
  split
  · exact insT_ok ⟨trivial, trivial, Nat.zero_le _⟩ (Nat.le_refl _) (by assumption) hb (by simp only [Tr.len]; omega)
  · exact ⟨trivial, trivial, Nat.zero_le _⟩
theorem rnew_all (u : Value) (b : List Int) (most : Int) (w : World) (hu : RN .u8 w u b) (hb : Bytes b) (hm : (b.length : Int) ≤ most) (hmost : 0 ≤ most ∧ most ≤ 16777216) (hl : b.length ≤ 60000) :
    Calls Tryz.prog 87 #[u, .int .i64 most] w fun e w' => ∃ g, e = .returned (.tuple #[.pointer (some ⟨g, 0, none⟩), .int .i64 0]) ∧ AnyLater w w' ∧ w.heap.size ≤ g ∧ IsR w' g most (newT b) := by
  unfold newT
  by_cases h : 0 < b.length
  · rw [if_pos h]
    exact rnew_yes u b most w hu hb h hm hmost hl
  · rw [if_neg h]
    obtain ⟨A, cap, rfl, -⟩ := hu.form
    have e : b.length = 0 := by omega
    rw [e]
    exact rnew_none A cap most w hmost
def IsTx (w : World) (tg g : Nat) (most : Int) (t : Tr) : Prop := w.heap[tg]? = some (.cells #[.pointer (some ⟨g, 0, none⟩)] 135) ∧ IsR w g most t
theorem IsTx.later {w w' : World} {tg g : Nat} {most : Int} {t : Tr} (h : IsTx w tg g most t) (a : AnyLater w w') : IsTx w' tg g most t := ⟨any_own a h.1, h.2.later a⟩
def IsTL (w : World) (v : Value) (t : Tr) (n : Nat) : Prop := (v = .pointer none ∧ t = .nil ∧ n = 0) ∨ ∃ tg g most, v = .pointer (some ⟨tg, 0, none⟩) ∧ IsTx w tg g most t ∧ n = t.nf + 1
theorem IsTL.later {w w' : World} {v : Value} {t : Tr} {n : Nat} (h : IsTL w v t n) (a : AnyLater w w') : IsTL w' v t n := by
  rcases h with h | ⟨tg, g, most, h1, h2, h3⟩
  · exact .inl h
  · exact .inr ⟨tg, g, most, h1, h2.later a, h3⟩
theorem IsTx.tl {w : World} {tg g : Nat} {most : Int} {t : Tr} (h : IsTx w tg g most t) : IsTL w (.pointer (some ⟨tg, 0, none⟩)) t (t.nf + 1) := .inr ⟨tg, g, most, rfl, h, rfl⟩
theorem tbytes_some (tg g : Nat) (most : Int) (t : Tr) (w : World) (h : IsTx w tg g most t) : Calls Tryz.prog 61 #[.pointer (some ⟨tg, 0, none⟩)] w fun e w' => e = .returned (.pointer (some ⟨g, 0, none⟩)) ∧ AnyLater w w' := by
  have r0 := own_row h.1
  clear h
  go_enter Tryz.func61, Tryz.ntmps61
  go_wp2_with fail
  go_ret
  exact ⟨rfl, AnyLater.refl _⟩
theorem tbytes_none (w : World) : Calls Tryz.prog 61 #[.pointer none] w fun e w' => e = .returned (.pointer none) ∧ AnyLater w w' := by
  go_enter Tryz.func61, Tryz.ntmps61
  go_wp2_with fail
  go_ret
  exact ⟨rfl, AnyLater.refl _⟩
theorem tbytes_any (v : Value) (t : Tr) (n : Nat) (w : World) (h : IsTL w v t n) : Calls Tryz.prog 61 #[v] w fun e w' => ∃ q, e = .returned (.pointer q) ∧ AnyLater w w' ∧ IsRN w' (.pointer q) t := by
  rcases h with ⟨rfl, rfl, -⟩ | ⟨tg, g, most, rfl, h, -⟩
  · exact (tbytes_none w).mono fun e w' ⟨h1, h2⟩ => ⟨_, h1, h2, .inl ⟨rfl, rfl⟩⟩
  · exact (tbytes_some tg g most t w h).mono fun e w' ⟨h1, h2⟩ => ⟨_, h1, h2, .inr ⟨g, most, rfl, h.2.later h2⟩⟩
set_option maxRecDepth 100000 in
theorem tlen_any (v : Value) (t : Tr) (n : Nat) (w : World) (h : IsTL w v t n) : Calls Tryz.prog 63 #[v] w fun e w' => e = .returned (.int .i64 (t.len : Int)) ∧ AnyLater w w' := by
  have HB := Lib.hid (tbytes_any v t n w h)
  have HL := Lib.hid (fun (w' : World) (q : Option Addr) (h : IsRN w' (.pointer q) t) => rlen_any (.pointer q) t w' h)
  clear h
  generalize t.len = m at *
  go_enter Tryz.func63, Tryz.ntmps63
  go_wp2_with fail
  refine HB.out.mono ?_
  rintro e w2 ⟨q, rfl, b2, h2⟩
  have H2 := Lib.hid (And.intro b2 h2)
  clear b2 h2
  go_wp2_with fail
  refine (HL.out _ _ H2.out.2).mono ?_
  rintro e w3 ⟨rfl, b3⟩
  have H3 := Lib.hid (H2.out.1.trans b3)
  clear b3
  go_wp2_with fail
  go_ret
  exact ⟨rfl, H3.out⟩
set_option maxRecDepth 100000 in
theorem tlines_some (tg g : Nat) (most : Int) (t : Tr) (w : World) (h : IsTx w tg g most t) (hn : t.nf ≤ 60000) : Calls Tryz.prog 23 #[.pointer (some ⟨tg, 0, none⟩)] w fun e w' => e = .returned (.int .i64 ((t.nf + 1 : Nat) : Int)) ∧ AnyLater w w' := by
  have HB := Lib.hid (tbytes_some tg g most t w h)
  have HL := Lib.hid (fun (w' : World) (b : AnyLater w w') => rbreaks_any _ t w' (.inr ⟨g, most, rfl, h.2.later b⟩))
  clear h
  generalize t.nf = m at *
  go_enter Tryz.func23, Tryz.ntmps23
  go_wp2_with fail
  refine HB.out.mono ?_
  rintro e w2 ⟨rfl, b2⟩
  have H2 := Lib.hid b2
  clear b2
  go_wp2_with fail
  refine (HL.out _ H2.out).mono ?_
  rintro e w3 ⟨rfl, b3⟩
  have H3 := Lib.hid (H2.out.trans b3)
  clear b3
  go_wp2_with fail
  go_ret
  exact ⟨by simp, H3.out⟩
theorem tlines_none (w : World) : Calls Tryz.prog 23 #[.pointer none] w fun e w' => e = .returned (.int .i64 0) ∧ AnyLater w w' := by
  go_enter Tryz.func23, Tryz.ntmps23
  go_wp2_with fail
  go_ret
  exact ⟨rfl, AnyLater.refl _⟩
theorem tlines_any (v : Value) (t : Tr) (n : Nat) (w : World) (h : IsTL w v t n) (hn : t.nf ≤ 60000) : Calls Tryz.prog 23 #[v] w fun e w' => e = .returned (.int .i64 (n : Int)) ∧ AnyLater w w' := by
  rcases h with ⟨rfl, rfl, rfl⟩ | ⟨tg, g, most, rfl, h, rfl⟩
  · exact tlines_none w
  · exact tlines_some tg g most t w h hn
set_option maxRecDepth 100000 in
theorem thas_any (v : Value) (t : Tr) (n : Nat) (k : Int) (c : Bool) (w : World) (hc : decide (0 ≤ k ∧ k < n) = c) (h : IsTL w v t n) (hn : t.nf ≤ 60000) : Calls Tryz.prog 157 #[v, .int .i64 k] w fun e w' => e = .returned (.bool c) ∧ AnyLater w w' := by
  have HL := Lib.hid (tlines_any v t n w h hn)
  clear h hn
  by_cases h0 : 0 ≤ k
  · by_cases h1 : k < n
    · have HC : Hid (c = true) := Lib.hid (by rw [← hc]; exact decide_eq_true ⟨h0, h1⟩)
      have d0 : decide (k < (n : Int)) = true := decide_eq_true h1
      clear hc h1
      go_enter Tryz.func157, Tryz.ntmps157
      go_wp2_with fail
      refine HL.out.mono ?_
      rintro e w2 ⟨rfl, b2⟩
      have H2 := Lib.hid b2
      clear b2
      go_wp2_with fail
      go_ret
      exact ⟨by rw [HC.out]; rfl, H2.out⟩
    · have HC : Hid (c = false) := Lib.hid (by rw [← hc]; exact decide_eq_false (fun q => h1 q.2))
      have d0 : decide (k < (n : Int)) = false := decide_eq_false h1
      clear hc h1
      go_enter Tryz.func157, Tryz.ntmps157
      go_wp2_with fail
      refine HL.out.mono ?_
      rintro e w2 ⟨rfl, b2⟩
      have H2 := Lib.hid b2
      clear b2
      go_wp2_with fail
      go_ret
      exact ⟨by rw [HC.out]; rfl, H2.out⟩
  · have HC : Hid (c = false) := Lib.hid (by rw [← hc]; exact decide_eq_false (fun q => h0 q.1))
    clear hc
    go_enter Tryz.func157, Tryz.ntmps157
    go_wp2_with fail
    go_ret
    exact ⟨by rw [HC.out]; rfl, AnyLater.refl _⟩
end Go.Proofs.YtamhnffokoejjaaGreatDoor
namespace Go.Proofs.YtamhnffokoejjaaGreatDoor
set_option linter.unusedSimpArgs false
set_option linter.unusedVariables false
set_option linter.unusedSectionVars false
open Go.RowKit
theorem Tr.Ok.nf {t : Tr} (h : t.Ok) : t.nf ≤ 60000 := Nat.le_trans t.nf_le h.len
def fds (t : Tr) : List Int := feN 0 t.bs
theorem fds_len (t : Tr) : (fds t).length = t.nf := Tr.nf_bs t
theorem fds_ok (t : Tr) : FeedsOk (fds t) t.len := by
  have := feedsOk t.bs
  rwa [Tr.len_bs] at this
set_option maxRecDepth 100000 in
theorem tstart_zero (tg g : Nat) (most : Int) (t : Tr) (w : World) (h : IsTx w tg g most t) (ok : t.Ok) : Calls Tryz.prog 115 #[.pointer (some ⟨tg, 0, none⟩), .int .i64 0] w fun e w' => e = .returned (.tuple #[.int .i64 0, .bool true]) ∧ AnyLater w w' := by
  have HH := Lib.hid (thas_any _ t (t.nf + 1) 0 true w (decide_eq_true (by omega)) h.tl ok.nf)
  clear h ok
  go_enter Tryz.func115, Tryz.ntmps115
  go_wp2_with fail
  refine HH.out.mono ?_
  rintro e w2 ⟨rfl, b2⟩
  have H2 := Lib.hid b2
  clear b2
  go_wp2_with fail
  refine bodyPost_ret (v := .tuple #[.int .i64 0, .bool true]) (by simp [results, Tryz.results115, go_sem]) rfl ⟨rfl, H2.out⟩
set_option maxRecDepth 100000 in
theorem tstart_more (tg g : Nat) (most : Int) (t : Tr) (k : Nat) (s : Int) (w : World) (h : IsTx w tg g most t) (ok : t.Ok) (hk : k < t.nf) (hs : brk t k = s) (hsb : 0 ≤ s ∧ s ≤ 60000) : Calls Tryz.prog 115 #[.pointer (some ⟨tg, 0, none⟩), .int .i64 ((k + 1 : Nat) : Int)] w fun e w' => e = .returned (.tuple #[.int .i64 (s + 1), .bool true]) ∧ AnyLater w w' := by
  have HH := Lib.hid (thas_any _ t (t.nf + 1) ((k + 1 : Nat) : Int) true w (decide_eq_true (by omega)) h.tl ok.nf)
  have HB := Lib.hid (fun (w' : World) (a : AnyLater w w') => tbytes_some tg g most t w' (h.later a))
  have HK := Lib.hid (fun (w' : World) (a : AnyLater w w') => rbreak_yes g most t k s w' hs (h.2.later a) ok hk)
  have hk2 : k ≤ 60000 := by have := ok.nf; omega
  obtain ⟨hs1, hs2⟩ := hsb
  clear h ok hk hs
  have e1 : ((k + 1 : Nat) : Int) = (k : Int) + 1 := by omega
  rw [e1] at HH ⊢
  clear e1
  have d1 : (((k : Int) + 1) == 0) = false := by simp; omega
  have d2 : (k : Int) + 1 - 1 = (k : Int) := by omega
  go_enter Tryz.func115, Tryz.ntmps115
  go_wp2_with fail
  refine HH.out.mono ?_
  rintro e w2 ⟨rfl, b2⟩
  have H2 := Lib.hid b2
  clear b2
  go_wp2_with fail
  refine (HB.out _ H2.out).mono ?_
  rintro e w3 ⟨rfl, b3⟩
  have H3 := Lib.hid (H2.out.trans b3)
  clear b3
  go_wp2_with fail
  refine (HK.out _ H3.out).mono ?_
  rintro e w4 ⟨rfl, b4⟩
  have H4 := Lib.hid (H3.out.trans b4)
  clear b4
  go_wp2_with fail
  refine bodyPost_ret (v := .tuple #[.int .i64 (s + 1), .bool true]) (by simp [results, Tryz.results115, go_sem]) rfl ⟨rfl, H4.out⟩
theorem brk_fds (t : Tr) (k : Nat) : brk t k = (fds t).getD k 0 := rfl
theorem tstart_yes (tg g : Nat) (most : Int) (t : Tr) (k : Nat) (s : Int) (w : World) (h : IsTx w tg g most t) (ok : t.Ok) (hk : k ≤ t.nf) (hs : lnS (fds t) k = s) : Calls Tryz.prog 115 #[.pointer (some ⟨tg, 0, none⟩), .int .i64 (k : Int)] w fun e w' => e = .returned (.tuple #[.int .i64 s, .bool true]) ∧ AnyLater w w' := by
  subst hs
  cases k with
  | zero => exact tstart_zero tg g most t w h ok
  | succ k =>
    have hf := fds_ok t
    have h1 := hf.lo k (by rw [fds_len]; omega)
    have h2 := hf.hi k (by rw [fds_len]; omega)
    have := ok.len
    have e : lnS (fds t) (k + 1) = brk t k + 1 := by unfold lnS; rw [if_neg (by omega)]; rfl
    rw [e]
    exact tstart_more tg g most t k (brk t k) w h ok (by omega) rfl (by rw [brk_fds]; omega)
set_option maxRecDepth 100000 in
theorem tend_yes (tg g : Nat) (most : Int) (t : Tr) (k : Nat) (s : Int) (w : World) (h : IsTx w tg g most t) (ok : t.Ok) (hk : k ≤ t.nf) (hs : lnE (fds t) t.len k = s) : Calls Tryz.prog 156 #[.pointer (some ⟨tg, 0, none⟩), .int .i64 (k : Int)] w fun e w' => e = .returned (.tuple #[.int .i64 s, .bool true]) ∧ AnyLater w w' := by
  have HH := Lib.hid (thas_any _ t (t.nf + 1) (k : Int) true w (decide_eq_true (by omega)) h.tl ok.nf)
  have HB := Lib.hid (fun (w' : World) (a : AnyLater w w') => tbytes_some tg g most t w' (h.later a))
  unfold lnE at hs
  rw [fds_len] at hs
  by_cases hlt : k < t.nf
  · rw [if_pos hlt] at hs
    have HK := Lib.hid (fun (w' : World) (a : AnyLater w w') => rbreak_yes g most t k s w' hs (h.2.later a) ok hlt)
    clear h ok hk hs hlt
    go_enter Tryz.func156, Tryz.ntmps156
    go_wp2_with fail
    refine HH.out.mono ?_
    rintro e w2 ⟨rfl, b2⟩
    have H2 := Lib.hid b2
    clear b2
    go_wp2_with fail
    refine (HB.out _ H2.out).mono ?_
    rintro e w3 ⟨rfl, b3⟩
    have H3 := Lib.hid (H2.out.trans b3)
    clear b3
    go_wp2_with fail
    refine (HK.out _ H3.out).mono ?_
    rintro e w4 ⟨rfl, b4⟩
    have H4 := Lib.hid (H3.out.trans b4)
    clear b4
    go_wp2_with fail
    refine bodyPost_ret (v := .tuple #[.int .i64 s, .bool true]) (by simp [results, Tryz.results156, go_sem]) rfl ⟨rfl, H4.out⟩
  · rw [if_neg hlt] at hs
    subst hs
    have HK := Lib.hid (fun (w' : World) (a : AnyLater w w') => rbreak_no _ t (k : Int) w' (.inr ⟨g, most, rfl, h.2.later a⟩) (.inr (by omega)))
    have HL := Lib.hid (fun (w' : World) (a : AnyLater w w') => tlen_any _ t (t.nf + 1) w' (h.later a).tl)
    clear h ok hk hlt
    generalize t.len = m at *
    go_enter Tryz.func156, Tryz.ntmps156
    go_wp2_with fail
    refine HH.out.mono ?_
    rintro e w2 ⟨rfl, b2⟩
    have H2 := Lib.hid b2
    clear b2
    go_wp2_with fail
    refine (HB.out _ H2.out).mono ?_
    rintro e w3 ⟨rfl, b3⟩
    have H3 := Lib.hid (H2.out.trans b3)
    clear b3
    go_wp2_with fail
    refine (HK.out _ H3.out).mono ?_
    rintro e w4 ⟨rfl, b4⟩
    have H4 := Lib.hid (H3.out.trans b4)
    clear b4
    go_wp2_with fail
    refine (HL.out _ H4.out).mono ?_
    rintro e w5 ⟨rfl, b5⟩
    have H5 := Lib.hid (H4.out.trans b5)
    clear b5
    go_wp2_with fail
    refine bodyPost_ret (v := .tuple #[.int .i64 (m : Int), .bool true]) (by simp [results, Tryz.results156, go_sem]) rfl ⟨rfl, H5.out⟩
set_option maxRecDepth 100000 in
theorem tline_of (v : Value) (t : Tr) (n : Nat) (k a b : Int) (c d : Bool) (l : List Int) (w : World) (h : IsTL w v t n) (ok : t.Ok) (hl : cutZ t.bs a b = l)
    (HS : Hid (∀ w', AnyLater w w' → Calls Tryz.prog 115 #[v, .int .i64 k] w' fun e w'' => e = .returned (.tuple #[.int .i64 a, .bool c]) ∧ AnyLater w' w''))
    (HE : Hid (∀ w', AnyLater w w' → Calls Tryz.prog 156 #[v, .int .i64 k] w' fun e w'' => e = .returned (.tuple #[.int .i64 b, .bool d]) ∧ AnyLater w' w'')) :
    Calls Tryz.prog 114 #[v, .int .i64 k] w (Ans (isB l) w) := by
  have HB := Lib.hid (fun (w' : World) (e : AnyLater w w') => tbytes_any v t n w' (h.later e))
  have HP := Lib.hid (fun (w' : World) (q : Option Addr) (h : IsRN w' (.pointer q) t) => rpart_any (.pointer q) t a b l hl w' h ok)
  clear h ok hl
  go_enter Tryz.func114, Tryz.ntmps114
  go_wp2_with fail
  refine (HS.out _ (AnyLater.refl _)).mono ?_
  rintro e w2 ⟨rfl, b2⟩
  have H2 := Lib.hid b2
  clear b2
  go_wp2_with fail
  refine (HE.out _ H2.out).mono ?_
  rintro e w3 ⟨rfl, b3⟩
  have H3 := Lib.hid (H2.out.trans b3)
  clear b3
  go_wp2_with fail
  refine (HB.out _ H3.out).mono ?_
  rintro e w4 ⟨q, rfl, b4, h4⟩
  have H4 := Lib.hid (And.intro (H3.out.trans b4) h4)
  clear b4 h4
  go_wp2_with fail
  refine (HP.out _ _ H4.out.2).mono ?_
  rintro e w5 ⟨u, rfl, b5, h5⟩
  have H5 := Lib.hid (And.intro (H4.out.1.trans b5) h5)
  obtain ⟨A, cap, rfl, -⟩ := isB.form h5
  clear b5 h5
  go_wp2_with fail
  go_ret
  exact ⟨_, rfl, H5.out.1, H5.out.2⟩
theorem tline_yes (tg g : Nat) (most : Int) (t : Tr) (k : Nat) (l : List Int) (w : World) (h : IsTx w tg g most t) (ok : t.Ok) (hk : k ≤ t.nf) (hl : cutZ t.bs (lnS (fds t) k) (lnE (fds t) t.len k) = l) : Calls Tryz.prog 114 #[.pointer (some ⟨tg, 0, none⟩), .int .i64 (k : Int)] w (Ans (isB l) w) :=
  tline_of _ t (t.nf + 1) k _ _ true true l w h.tl ok hl (Lib.hid fun w' a => tstart_yes tg g most t k _ w' (h.later a) ok hk rfl) (Lib.hid fun w' a => tend_yes tg g most t k _ w' (h.later a) ok hk rfl)
set_option maxRecDepth 100000 in
theorem tnew_yes (u : Value) (b : List Int) (most : Int) (w : World) (hu : RN .u8 w u b) (hb : Bytes b) (hm : (b.length : Int) ≤ most) (hmost : 0 ≤ most ∧ most ≤ 16777216) (hl : b.length ≤ 60000) :
    Calls Tryz.prog 34 #[u, .int .i64 most] w fun e w' => ∃ tg g, e = .returned (.tuple #[.pointer (some ⟨tg, 0, none⟩), .int .i64 0]) ∧ AnyLater w w' ∧ w.heap.size ≤ g ∧ w.heap.size ≤ tg ∧ tg ≠ g ∧ IsTx w' tg g most (newT b) := by
  have HR := Lib.hid (rnew_all u b most w hu hb hm hmost hl)
  obtain ⟨A, cap, rfl, -⟩ := hu.form
  clear hu hb hm hmost hl
  generalize newT b = t at *
  generalize b.length = n at *
  go_enter Tryz.func34, Tryz.ntmps34
  go_wp2_with fail
  refine HR.out.mono ?_
  rintro e w2 ⟨g, rfl, b2, hg, h2⟩
  have H2 := Lib.hid (And.intro b2 (And.intro hg h2))
  have hgl : g < w2.heap.size := by
    obtain ⟨rv, q, _⟩ := h2
    exact own_lt q
  have HG := Lib.hid hgl
  clear b2 hg h2 hgl
  go_wp2_with fail
  refine bodyPost_ret (v := .tuple #[.pointer (some ⟨w2.heap.size, 0, none⟩), .int .i64 0]) (by simp [results, Tryz.results34, go_sem]) rfl ?_
  have a3 : AnyLater w2 (w2.alloc (.cells #[.pointer (some ⟨g, 0, none⟩)] 135)) := (AnyLater.refl w2).alloc _
  exact ⟨_, g, rfl, H2.out.1.trans a3, H2.out.2.1, H2.out.1.below.size, Nat.ne_of_gt HG.out, heap_new rfl, H2.out.2.2.later a3⟩
end Go.Proofs.YtamhnffokoejjaaGreatDoor
