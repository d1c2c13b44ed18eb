/- shade: the program's Gray and Parse: by contract. -/
import Derived.Test.YthhaacekfgdoeaaShdQ
import Derived.Test.YthhaacekfgdoeaaShdD
import Derived.Lib.Bytealg
namespace Go.Proofs.Ythhaacekfgdoeaa
set_option linter.unusedSimpArgs false
set_option linter.unusedVariables false
set_option linter.unusedSectionVars false
open Go.RowKit

set_option maxRecDepth 100000 in
set_option maxHeartbeats 1600000 in
theorem gray_any (a : Int) (w : World) (n : Int) (hn : grayZ a = n) (ha : U32s a) : Calls Try.prog 9 #[.int .u32 a] w fun e w' => e = .returned (.int .i64 n) ∧ AnyLater w w' := by
  have S1 := Lib.hid (fun w => split_any a w ha)
  have a1 : 0 ≤ a / 65536 % 256 ∧ a / 65536 % 256 ≤ 255 := by omega
  have a2 : 0 ≤ a / 256 % 256 ∧ a / 256 % 256 ≤ 255 := by omega
  have a3 : 0 ≤ a % 256 ∧ a % 256 ≤ 255 := by omega
  unfold grayZ at hn
  generalize a / 65536 % 256 = p0 at *
  generalize a / 256 % 256 = p1 at *
  generalize a % 256 = p2 at *
  have HN := Lib.hid hn
  obtain ⟨u1, u2⟩ := a1
  obtain ⟨u3, u4⟩ := a2
  obtain ⟨u5, u6⟩ := a3
  clear hn ha
  go_enter Try.func9, Try.ntmps9
  go_wp2_with fail
  refine (S1.out _).mono ?_
  rintro e w1 ⟨rfl, c1⟩
  have H1 := Lib.hid c1
  clear c1
  go_wp2_with fail
  go_ret
  have h1 := H1.out
  exact ⟨ret_int HN.out, by repeat' (first | with_reducible assumption | with_reducible exact AnyLater.refl _ | with_reducible apply AnyLater.setCell | with_reducible apply AnyLater.later | with_reducible apply AnyLater.drewN | with_reducible apply AnyLater.drew | with_reducible apply AnyLater.alloc | ((try simp only [World.size_alloc, World.size_setCell, World.size_drew]); (try dsimp only); omega))⟩
/-! ### the figure of a byte -/
def dvZ (x : UInt8) : Int := match dv x with
  | some d => d
  | none => -1
theorem dvZ_some {x : UInt8} {d : Int} (h : dv x = some d) : dvZ x = d := by unfold dvZ; rw [h]
theorem dvZ_none {x : UInt8} (h : dv x = none) : dvZ x = -1 := by unfold dvZ; rw [h]
theorem fig_is : ∀ j : Fin 256, Lib.indexByte [48, 49, 50, 51, 52, 53, 54, 55, 56, 57, 97, 98, 99, 100, 101, 102] (UInt8.ofNat j.1) = dvZ (UInt8.ofNat j.1) := by decide +kernel
theorem fig_of (x : UInt8) : Lib.indexByte [48, 49, 50, 51, 52, 53, 54, 55, 56, 57, 97, 98, 99, 100, 101, 102] x = dvZ x := by
  have e : UInt8.ofNat x.toNat = x := by simp
  have h := fig_is ⟨x.toNat, x.toNat_lt⟩
  simpa only [e] using h
theorem run_asm (x : UInt8) (w : World) : (callFunc 20 #[.string ({ data := #[48, 49, 50, 51, 52, 53, 54, 55, 56, 57, 97, 98, 99, 100, 101, 102] } : ByteArray), .int .u8 (x.toNat : Int)]).run Try.prog w = .ok (.value (.int .i64 (dvZ x))) w := by
  rw [run_callFunc_extern Try.func20 (by kernel_rfl) (by kernel_rfl) (by kernel_rfl) (e := Extern.BytealgIndexByte.indexByte) (by kernel_rfl)]
  rw [Lib.run_indexByteString]
  have e : ((x.toNat : Int)).toNat.toUInt8 = x := by simp
  rw [e]
  show Result.ok (Next.value (.int .i64 (Lib.indexByte [48, 49, 50, 51, 52, 53, 54, 55, 56, 57, 97, 98, 99, 100, 101, 102] x))) w = _
  rw [fig_of]
theorem lite_any (x : UInt8) (w : World) : Calls Try.prog 19 #[.string ({ data := #[48, 49, 50, 51, 52, 53, 54, 55, 56, 57, 97, 98, 99, 100, 101, 102] } : ByteArray), .int .u8 (x.toNat : Int)] w fun e w' => e = .returned (.int .i64 (dvZ x)) ∧ w = w' := by
  have hc := fun w => run_asm x w
  go_enter Try.func19, Try.ntmps19
  go_wp2_with fail
  go_ret
  exact ⟨rfl, rfl⟩
theorem byte_any (x : UInt8) (w : World) : Calls Try.prog 18 #[.string ({ data := #[48, 49, 50, 51, 52, 53, 54, 55, 56, 57, 97, 98, 99, 100, 101, 102] } : ByteArray), .int .u8 (x.toNat : Int)] w fun e w' => e = .returned (.int .i64 (dvZ x)) ∧ w = w' := by
  have hc := Lib.hid (fun w => lite_any x w)
  go_enter Try.func18, Try.ntmps18
  go_wp2_with fail
  refine (hc.out _).mono ?_
  rintro e w' ⟨rfl, rfl⟩
  go_wp2_with fail
  go_ret
  exact ⟨rfl, rfl⟩
theorem parse_step {l : List UInt8} {i : Nat} (h : i < l.length) {a : Int} : parseF (l.drop i) a = match dv l[i] with
    | some d => parseF (l.drop (i + 1)) (a * 16 + d)
    | none => none := by
  rw [List.drop_eq_getElem_cons h]
  rfl
theorem pow_in {i : Nat} (h : i < 6) : (16 : Int) ^ i ≤ 1048576 := by
  have : i = 0 ∨ i = 1 ∨ i = 2 ∨ i = 3 ∨ i = 4 ∨ i = 5 := by omega
  rcases this with rfl | rfl | rfl | rfl | rfl | rfl <;> decide
def giveO (o : Option Int) : Value := .tuple #[.int .u32 (o.getD 0), .bool o.isSome]
theorem ret_O {o r : Option Int} (h : o = r) : Ending.returned (.tuple #[.int .u32 (o.getD 0), .bool o.isSome]) = .returned (giveO r) := by rw [h]; rfl
set_option maxRecDepth 100000 in
set_option maxHeartbeats 3200000 in
theorem parse_any (l : List UInt8) (w : World) (r : Option Int) (hr : parseL l = r) (hl : (l.length : Int) ≤ 9223372036854775807) : Calls Try.prog 12 #[.string (mkS l)] w fun e w' => e = .returned (giveO r) ∧ AnyLater w w' := by
  have hsz := mkS_size l
  by_cases h6 : l.length = 6
  · have HL := Lib.hid h6
    have HI := Lib.hid (fun (i : Nat) (h : i < l.length) w => run_at l w .i64 i h)
    have HB := Lib.hid byte_any
    have HR : Hid (parseF (l.drop 0) 0 = r) := Lib.hid (by rw [← hr]; unfold parseL; rw [if_pos h6]; rfl)
    rw [h6] at hsz
    generalize mkS l = S at *
    clear hr hl h6
    go_enter Try.func12, Try.ntmps12
    go_wp2_with fail
    go_loopg [4, 10] 6 (fun kk cv iv wr => wr = w ∧ ∃ (i : Nat) (a : Int), kk = 6 - i ∧ i ≤ 6 ∧ iv = .int .i64 i ∧ cv = .int .u32 a ∧ 0 ≤ a ∧ a < 16 ^ i ∧ parseF (l.drop i) a = r)
    case atStart => exact ⟨rfl, 0, 0, by omega, by omega, rfl, rfl, by omega, by decide, HR.out⟩
    case round =>
      obtain ⟨rfl, i, a, hk, hi, rfl, rfl, a0, a1, hp⟩ := hrel
      by_cases hlt : i < 6
      · have hil : i < l.length := by rw [HL.out]; exact hlt
        have F1 := HI.out i hil
        have hst := parse_step (l := l) hil (a := a)
        rw [hp] at hst
        have hp6 := pow_in hlt
        have hps : (16 : Int) ^ (i + 1) = 16 ^ i * 16 := Int.pow_succ ..
        have HPS := Lib.hid hps
        generalize (16 : Int) ^ i = P at *
        clear hps hp
        generalize l[i] = x at *
        have hb := HB.out x
        rcases hd : dv x with _ | d
        · rw [hd] at hst
          rw [dvZ_none hd] at hb
          have HB2 := Lib.hid hb
          have HST : Hid (none = r) := Lib.hid hst.symm
          clear hb hst hd
          go_wp2_with fail
          refine (HB2.out _).mono ?_
          rintro e w' ⟨rfl, rfl⟩
          go_wp2_with fail
          refine bodyPost_ret (v := .tuple #[.int .u32 0, .bool false]) (by simp [results, Try.results12, go_sem]) rfl ?_
          exact ⟨ret_O HST.out, AnyLater.refl _⟩
        · obtain ⟨_, d0, d1⟩ := hd_dv hd
          rw [hd] at hst
          rw [dvZ_some hd] at hb
          have hor := or_digit (q := a) (p := d) a0 (by omega) d0 d1
          have HB2 := Lib.hid hb
          have HST := Lib.hid hst
          clear hb hst hd
          go_wp2_with fail
          refine (HB2.out _).mono ?_
          rintro e w' ⟨rfl, rfl⟩
          go_wp2_with fail
          go_roundg (6 - (i + 1))
          case measure => omega
          case rel => exact ⟨rfl, i + 1, a * 16 + d, rfl, by omega, by go_num, rfl, by omega, by rw [HPS.out]; omega, HST.out.symm⟩
      · obtain rfl : i = 6 := by omega
        have HE : Hid (some a = r) := Lib.hid (by rw [← hp, List.drop_of_length_le (by rw [HL.out]; exact Nat.le_refl _)]; rfl)
        clear hp
        go_wp2_with fail
        refine bodyPost_ret (v := .tuple #[.int .u32 a, .bool true]) (by simp [results, Try.results12, go_sem]) rfl ?_
        exact ⟨ret_O HE.out, AnyLater.refl _⟩
  · obtain ⟨n, hn⟩ : ∃ n, l.length = n := ⟨_, rfl⟩
    have HR : Hid (none = r) := Lib.hid (by rw [← hr]; unfold parseL; rw [if_neg h6])
    rw [hn] at hsz hl h6
    have d6 : ((n : Int) != 6) = true := by simp; omega
    generalize mkS l = S at *
    clear hr hn
    go_enter Try.func12, Try.ntmps12
    go_wp2_with fail
    refine bodyPost_ret (v := .tuple #[.int .u32 0, .bool false]) (by simp [results, Try.results12, go_sem]) rfl ?_
    exact ⟨ret_O HR.out, AnyLater.refl _⟩
theorem scol : SCol :=
  { slow with
    gray := fun a n hn ha => gray_any a _ n hn ha
    parseY := fun l n hn => parse_any l _ (some n) hn (by have := (hex_parse hn).1; omega)
    parseN := fun l hn hl => parse_any l _ none hn hl }
end Go.Proofs.Ythhaacekfgdoeaa
