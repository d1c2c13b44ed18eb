/- shade: colours' digits as plain mathematics; texts of digits. -/
import Derived.Test.YthhaacekfgdoeaaDoorShdM
namespace Go.Proofs.YthhaacekfgdoeaaDoor
set_option linter.unusedSimpArgs false
set_option linter.unusedVariables false
set_option linter.unusedSectionVars false
open Go.RowKit

abbrev mkS (l : List UInt8) : ByteArray := { data := l.toArray }
def hd (n : Int) : UInt8 := UInt8.ofNat (if n < 10 then 48 + n else 87 + n).toNat
def hexT (c : Int) : Nat → List UInt8
  | 0 => []
  | i + 1 => hd (c / 16 ^ i % 16) :: hexT c i
def hexL (c : Int) : List UInt8 := hexT c 6
def dv (x : UInt8) : Option Int := if 48 ≤ x.toNat ∧ x.toNat ≤ 57 then some ((x.toNat : Int) - 48) else if 97 ≤ x.toNat ∧ x.toNat ≤ 102 then some ((x.toNat : Int) - 87) else none
def isDig (x : UInt8) : Bool := (dv x).isSome
def parseF : List UInt8 → Int → Option Int
  | [], a => some a
  | x :: t, a => match dv x with
    | some d => parseF t (a * 16 + d)
    | none => none
def parseL (l : List UInt8) : Option Int := if l.length = 6 then parseF l 0 else none
theorem hexT_len (c : Int) : ∀ i, (hexT c i).length = i
  | 0 => rfl
  | i + 1 => by rw [hexT, List.length_cons, hexT_len c i]
theorem dv_hd_get : ∀ j : Fin 16, dv (hd (j.1 : Int)) = some (j.1 : Int) := by decide
theorem dv_hd {n : Int} (h0 : 0 ≤ n) (h1 : n < 16) : dv (hd n) = some n := by
  have h := dv_hd_get ⟨n.toNat, by omega⟩
  have e : ((n.toNat : Nat) : Int) = n := by omega
  simpa only [e] using h
theorem hd_dv_get : ∀ x : Fin 256, (dv (UInt8.ofNat x.1)).all (fun d => decide (hd d = UInt8.ofNat x.1 ∧ 0 ≤ d ∧ d < 16)) = true := by decide +kernel
theorem hd_dv {x : UInt8} {d : Int} (h : dv x = some d) : hd d = x ∧ 0 ≤ d ∧ d < 16 := by
  have e : UInt8.ofNat x.toNat = x := by simp
  have := hd_dv_get ⟨x.toNat, x.toNat_lt⟩
  simp only [e] at this
  rw [h] at this
  simpa using this
theorem hexL_eq (c : Int) : hexL c = [hd (c / 1048576 % 16), hd (c / 65536 % 16), hd (c / 4096 % 16), hd (c / 256 % 16), hd (c / 16 % 16), hd (c % 16)] := by
  simp [hexL, hexT]
theorem parse_hex {c : Int} (hc : 0 ≤ c) : parseL (hexL c) = some (c % 16777216) := by
  rw [hexL_eq]
  unfold parseL
  rw [if_pos (show ([hd (c / 1048576 % 16), hd (c / 65536 % 16), hd (c / 4096 % 16), hd (c / 256 % 16), hd (c / 16 % 16), hd (c % 16)] : List UInt8).length = 6 from rfl)]
  simp only [parseF]
  rw [dv_hd (by omega) (by omega)]
  simp only
  rw [dv_hd (by omega) (by omega)]
  simp only
  rw [dv_hd (by omega) (by omega)]
  simp only
  rw [dv_hd (by omega) (by omega)]
  simp only
  rw [dv_hd (by omega) (by omega)]
  simp only
  rw [dv_hd (by omega) (by omega)]
  simp only
  congr 1
  omega
theorem parseF_cons {x : UInt8} {t : List UInt8} {a n : Int} (h : parseF (x :: t) a = some n) : ∃ d, dv x = some d ∧ parseF t (a * 16 + d) = some n := by
  unfold parseF at h
  cases hd : dv x with
  | none => rw [hd] at h; cases h
  | some d => rw [hd] at h; exact ⟨d, rfl, h⟩
theorem hex_parse {l : List UInt8} {n : Int} (h : parseL l = some n) : l.length = 6 ∧ hexL n = l ∧ 0 ≤ n ∧ n < 16777216 := by
  unfold parseL at h
  split at h
  · rename_i hl
    match l, hl with
    | [x0, x1, x2, x3, x4, x5], _ =>
      obtain ⟨d0, e0, h⟩ := parseF_cons h
      obtain ⟨d1, e1, h⟩ := parseF_cons h
      obtain ⟨d2, e2, h⟩ := parseF_cons h
      obtain ⟨d3, e3, h⟩ := parseF_cons h
      obtain ⟨d4, e4, h⟩ := parseF_cons h
      obtain ⟨d5, e5, h⟩ := parseF_cons h
      obtain ⟨f0, g0, k0⟩ := hd_dv e0
      obtain ⟨f1, g1, k1⟩ := hd_dv e1
      obtain ⟨f2, g2, k2⟩ := hd_dv e2
      obtain ⟨f3, g3, k3⟩ := hd_dv e3
      obtain ⟨f4, g4, k4⟩ := hd_dv e4
      obtain ⟨f5, g5, k5⟩ := hd_dv e5
      have hn := Option.some.inj h
      refine ⟨rfl, ?_, by omega, by omega⟩
      rw [hexL_eq, show n / 1048576 % 16 = d0 by omega, show n / 65536 % 16 = d1 by omega, show n / 4096 % 16 = d2 by omega, show n / 256 % 16 = d3 by omega, show n / 16 % 16 = d4 by omega, show n % 16 = d5 by omega, f0, f1, f2, f3, f4, f5]
  · cases h
theorem parseF_none : ∀ {l : List UInt8} {a : Int}, parseF l a = none → l.all isDig = false
  | [], a, h => by cases h
  | x :: t, a, h => by
    rw [List.all_cons]
    unfold parseF at h
    cases hd : dv x with
    | none => unfold isDig; rw [hd]; rfl
    | some d => rw [hd] at h; rw [parseF_none h, Bool.and_false]
theorem parse_none {l : List UInt8} (h : parseL l = none) : l.length ≠ 6 ∨ l.all isDig = false := by
  unfold parseL at h
  split at h
  · exact .inr (parseF_none h)
  · rename_i q; exact .inl q
/-! ### the document's own Hex -/
theorem mkS_append (a b : List UInt8) : mkS a ++ mkS b = mkS (a ++ b) := by
  apply ByteArray.ext
  simp [mkS]
theorem mkS_size (l : List UInt8) : (mkS l).size = l.length := by simp [ByteArray.size]
set_option maxRecDepth 100000 in
theorem dig_get : ∀ j : Fin 16, (({ data := #[48, 49, 50, 51, 52, 53, 54, 55, 56, 57, 97, 98, 99, 100, 101, 102] } : ByteArray)).extract j.1 (j.1 + 1) = mkS [hd (j.1 : Int)] := by decide
set_option maxRecDepth 100000 in
theorem run_dig (w : World) (k : IntKind) (x : Int) (h0 : 0 ≤ x) (h1 : x < 16) : (Instr.sliceAt 9 (.string ({ data := #[48, 49, 50, 51, 52, 53, 54, 55, 56, 57, 97, 98, 99, 100, 101, 102] } : ByteArray)) (some (.int k x)) (some (.int k (x + 1))) none).run Tryd.prog w = .ok (.string (mkS [hd x])) w := by
  have hs : (({ data := #[48, 49, 50, 51, 52, 53, 54, 55, 56, 57, 97, 98, 99, 100, 101, 102] } : ByteArray)).size = 16 := rfl
  rw [run_sliceAt_string w _ _ _ _ _ Tryd.underlying9, run_slice_string w _ _ k k x (x + 1) Tryd.underlying9 h0 (by omega) (by omega)]
  have h := dig_get ⟨x.toNat, by omega⟩
  have e : ((x.toNat : Nat) : Int) = x := by omega
  have e2 : (x + 1).toNat = x.toNat + 1 := by omega
  simp only [e] at h
  rw [e2, h]
theorem run_add (w : World) (a b : List UInt8) (ha : a.length + b.length ≤ 1000) : (Op.stringOp .add (mkS a) (mkS b)).run Tryd.prog w = .ok (.string (mkS (a ++ b))) w := by
  have h : ¬ (((mkS a).size + (mkS b).size : Nat) : Int) > IntKind.i64.max := by
    rw [mkS_size, mkS_size, show IntKind.i64.max = 9223372036854775807 from rfl]; omega
  unfold Op.stringOp
  simp only
  rw [if_neg h, mkS_append]
  rfl
theorem isDig_iff (x : UInt8) : isDig x = decide ((48 ≤ x.toNat ∧ x.toNat ≤ 57) ∨ (97 ≤ x.toNat ∧ x.toNat ≤ 102)) := by
  unfold isDig dv
  split
  · rename_i h; rw [decide_eq_true (.inl h)]; rfl
  · split
    · rename_i h1 h2; rw [decide_eq_true (.inr h2)]; rfl
    · rename_i h1 h2; rw [decide_eq_false (not_or.2 ⟨h1, h2⟩)]; rfl
theorem run_at (l : List UInt8) (w : World) (k : IntKind) (i : Nat) (h : i < l.length) : (Instr.index 9 (.string (mkS l)) (.int k (i : Int))).run Tryd.prog w = .ok (.int .u8 ((l[i]).toNat : Int)) w := by
  have hs := mkS_size l
  rw [run_index_string w 9 _ k i Tryd.underlying9, dif_pos ⟨by omega, by omega⟩]
  have e : (mkS l)[((i : Int)).toNat]'(by rw [hs]; simpa using h) = l[i] := by
    show l.toArray[((i : Int)).toNat]'_ = _
    simp
  rw [e]
end Go.Proofs.YthhaacekfgdoeaaDoor
