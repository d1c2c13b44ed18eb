/- face: the document's own Column of a box, by contract. -/
import Derived.Test.YtbgpjfiabefajaaFaceB
namespace Go.Proofs.Ytbgpjfiabefajaa
set_option linter.unusedSimpArgs false
set_option linter.unusedVariables false
set_option linter.unusedSectionVars false
open Go.RowKit

theorem bit_or (b : Bool) : b = true ∨ b = false := by cases b <;> simp
set_option maxRecDepth 1000000 in
set_option maxHeartbeats 6400000 in
theorem col_box (k i : Int) (w : World) (c : Int) (hc : boxZ k i = c) (hk : 0 ≤ k ∧ k ≤ 127) (hi : 0 ≤ i ∧ i ≤ 4) : Calls Try.prog 40 #[.int .i32 (k + 9472), .int .i64 i] w fun e w' => e = .returned (.int .i64 c) ∧ AnyLater w w' := by
  obtain ⟨k1, k2⟩ := hk
  obtain ⟨i1, i2⟩ := hi
  have HC := Lib.hid hc
  obtain ⟨ln, hln⟩ : ∃ b, lineB k i = b := ⟨_, rfl⟩
  obtain ⟨md, hmd⟩ : ∃ b, midB k = b := ⟨_, rfl⟩
  obtain ⟨up, hup⟩ : ∃ b, upB i k = b := ⟨_, rfl⟩
  have HLn := Lib.hid hln
  have HMd := Lib.hid hmd
  have HUp := Lib.hid hup
  clear hc hln hmd hup
  go_enter Try.func40, Try.ntmps40
  go_upto_region 17 with fail
  go_cut [10] (fun v wx => v = .bool ln ∧ wx = w)
  case first =>
    have hl := HLn.out
    unfold lineB at hl
    obtain ⟨b0, h0⟩ : ∃ b, (k % 2 == 1) = b := ⟨_, rfl⟩
    obtain ⟨b1, h1⟩ : ∃ b, (k / 2 % 2 == 1) = b := ⟨_, rfl⟩
    obtain ⟨d0, g0⟩ : ∃ b, decide (i ≤ 2) = b := ⟨_, rfl⟩
    obtain ⟨d1, g1⟩ : ∃ b, decide (2 ≤ i) = b := ⟨_, rfl⟩
    rw [h0, h1, g0, g1] at hl
    have HL := Lib.hid hl
    clear hl
    rcases b0
    · rcases b1
      · go_wp2_with fail
        go_meet
        case rel => exact ⟨by rw [← HL.out]; simp, rfl⟩
      · rcases d1
        · go_wp2_with fail
          go_meet
          case rel => exact ⟨by rw [← HL.out]; simp, rfl⟩
        · go_wp2_with fail
          go_meet
          case rel => exact ⟨by rw [← HL.out]; simp, rfl⟩
    · rcases d0
      · rcases b1
        · go_wp2_with fail
          go_meet
          case rel => exact ⟨by rw [← HL.out]; simp, rfl⟩
        · rcases d1
          · go_wp2_with fail
            go_meet
            case rel => exact ⟨by rw [← HL.out]; simp, rfl⟩
          · go_wp2_with fail
            go_meet
            case rel => exact ⟨by rw [← HL.out]; simp, rfl⟩
      · go_wp2_with fail
        go_meet
        case rel => exact ⟨by rw [← HL.out]; simp, rfl⟩
  case rest =>
    obtain ⟨rfl, hw1⟩ := hcut
    subst hw1
    go_upto_if 91 with fail
    go_cut [9] (fun v wx => v = .int .i64 (boxR k i 0) ∧ wx = wc)
    case first =>
      have HZ : Hid (boxR k i 0 = if ln = true then 8 else 0) := Lib.hid (by show (if lineB k i = true then (8 : Int) else 0) = _; rw [HLn.out])
      rcases ln
      all_goals
        go_wp2_with fail
        go_meet
        case rel => exact ⟨by rw [HZ.out]; rfl, rfl⟩
    case rest =>
      obtain ⟨rfl, hw2⟩ := hcut
      subst hw2
      have HB := Lib.hid (boxR_in k i)
      obtain ⟨z, hz⟩ : ∃ z, boxR k i 0 = z := ⟨_, rfl⟩
      rw [hz]
      have HZ0 := Lib.hid hz
      clear hz
      go_upto_region 20 with fail
      go_cut [107] (fun v wx => v = .bool up ∧ wx = wc)
      case first =>
        have hl := HUp.out
        unfold upB at hl
        obtain ⟨b4, h4⟩ : ∃ b, (k / 16 % 2 == 1) = b := ⟨_, rfl⟩
        obtain ⟨e1, h1⟩ : ∃ b, (i == 1) = b := ⟨_, rfl⟩
        obtain ⟨e2, h2⟩ : ∃ b, (i == 2) = b := ⟨_, rfl⟩
        obtain ⟨e3, h3⟩ : ∃ b, (i == 3) = b := ⟨_, rfl⟩
        rw [h4, h1, h2, h3] at hl
        have HL := Lib.hid hl
        clear hl
        rcases e2
        · rcases b4
          · go_wp2_with fail
            go_meet
            case rel => exact ⟨by rw [← HL.out]; simp, rfl⟩
          · rcases e1
            · rcases e3
              · go_wp2_with fail
                go_meet
                case rel => exact ⟨by rw [← HL.out]; simp, rfl⟩
              · go_wp2_with fail
                go_meet
                case rel => exact ⟨by rw [← HL.out]; simp, rfl⟩
            · go_wp2_with fail
              go_meet
              case rel => exact ⟨by rw [← HL.out]; simp, rfl⟩
        · go_wp2_with fail
          go_meet
          case rel => exact ⟨by rw [← HL.out]; simp, rfl⟩
      case rest =>
        obtain ⟨rfl, hw3⟩ := hcut
        subst hw3
        rcases up
        · have HE : Hid (z = c) := Lib.hid (by rw [← HC.out, ← HZ0.out]; unfold boxZ; rw [HUp.out]; rfl)
          go_wp2_with fail
          go_ret
          exact ⟨ret_int HE.out, AnyLater.refl _⟩
        · have HE : Hid (boxR k i 8 = c) := Lib.hid (by rw [← HC.out]; unfold boxZ; rw [HUp.out]; rfl)
          go_upto_region 21 with fail
          go_cut [11] (fun v wx => v = .bool md ∧ wx = wc)
          case first =>
            have hl := HMd.out
            unfold midB at hl
            obtain ⟨b0, h0⟩ : ∃ b, (k % 2 == 1) = b := ⟨_, rfl⟩
            obtain ⟨b1, h1⟩ : ∃ b, (k / 2 % 2 == 1) = b := ⟨_, rfl⟩
            rw [h0, h1] at hl
            have HL := Lib.hid hl
            clear hl
            rcases b0
            · rcases b1
              · go_wp2_with fail
                go_meet
                case rel => exact ⟨by rw [← HL.out]; simp, rfl⟩
              · go_wp2_with fail
                go_meet
                case rel => exact ⟨by rw [← HL.out]; simp, rfl⟩
            · go_wp2_with fail
              go_meet
              case rel => exact ⟨by rw [← HL.out]; simp, rfl⟩
          case rest =>
            obtain ⟨rfl, hw4⟩ := hcut
            subst hw4
            go_wp2_with fail
            go_loopg [9, 12] 8 (fun kk cv rv wr => wr = wc ∧ ∃ row : Nat, kk = 8 - row ∧ row ≤ 8 ∧ rv = .int .i64 row ∧ cv = .int .i64 (boxR k i row))
            case atStart => exact ⟨rfl, 0, by omega, by omega, rfl, by rw [HZ0.out]⟩
            case round =>
              obtain ⟨rfl, row, hkk, hrow, rfl, rfl⟩ := hrel
              obtain ⟨y, hy⟩ : ∃ y, boxR k i row = y := ⟨_, rfl⟩
              have hyb := HB.out row hrow
              have hpw : (2 : Int) ^ row ≤ 256 := by
                have : row = 0 ∨ row = 1 ∨ row = 2 ∨ row = 3 ∨ row = 4 ∨ row = 5 ∨ row = 6 ∨ row = 7 ∨ row = 8 := by omega
                rcases this with rfl | rfl | rfl | rfl | rfl | rfl | rfl | rfl | rfl <;> decide
              have hyb : 0 ≤ boxR k i row ∧ boxR k i row ≤ 300 := by omega
              clear hpw
              rw [hy] at hyb ⊢
              have HY := Lib.hid hy
              clear hy
              by_cases hlt : row < 8
              · obtain ⟨on, hon⟩ : ∃ b, onB k row = b := ⟨_, rfl⟩
                obtain ⟨tk, htk⟩ : ∃ b, takeB k i row = b := ⟨_, rfl⟩
                have HOn := Lib.hid hon
                have HTk : Hid ((on && !((row : Int) == 3 && ln)) = tk) := Lib.hid (by rw [← htk]; unfold takeB; rw [hon, HLn.out])
                have HS : Hid (boxR k i (row + 1) = y + if tk = true then 2 ^ row else 0) := Lib.hid (by show boxR k i row + (if takeB k i row = true then (2 : Int) ^ row else 0) = _; rw [HY.out, htk])
                have tri : (row < 3 ∧ decide ((row : Int) ≤ 3) = true ∧ decide (3 ≤ (row : Int)) = false ∧ ((row : Int) == 3) = false) ∨ (row = 3 ∧ decide ((row : Int) ≤ 3) = true ∧ decide (3 ≤ (row : Int)) = true ∧ ((row : Int) == 3) = true) ∨ (3 < row ∧ decide ((row : Int) ≤ 3) = false ∧ decide (3 ≤ (row : Int)) = true ∧ ((row : Int) == 3) = false) := by
                  rcases Nat.lt_trichotomy row 3 with h | h | h
                  · exact .inl ⟨h, by simp; omega, by simp; omega, by simp; omega⟩
                  · exact .inr (.inl ⟨h, by simp; omega, by simp; omega, by simp; omega⟩)
                  · exact .inr (.inr ⟨h, by simp; omega, by simp; omega, by simp; omega⟩)
                have HTri := Lib.hid tri
                clear hon htk tri
                go_upto_region 25 with fail
                go_cut [13] (fun v wx => v = .bool on ∧ wx = wr)
                case first =>
                  have hl := HOn.out
                  unfold onB at hl
                  rw [HMd.out] at hl
                  obtain ⟨b2, h2⟩ : ∃ b, (k / 4 % 2 == 1) = b := ⟨_, rfl⟩
                  obtain ⟨b3, h3⟩ : ∃ b, (k / 8 % 2 == 1) = b := ⟨_, rfl⟩
                  rw [h2, h3] at hl
                  rcases HTri.out with ⟨q, e1, e2, e3⟩ | ⟨q, e1, e2, e3⟩ | ⟨q, e1, e2, e3⟩
                  · rw [e1, e2, e3] at hl
                    have HL := Lib.hid hl
                    clear hl
                    rcases b2
                    · rcases b3
                      · rcases md
                        · go_wp2_with fail
                          go_meet
                          case rel => exact ⟨by rw [← HL.out]; simp, rfl⟩
                        · go_wp2_with fail
                          go_meet
                          case rel => exact ⟨by rw [← HL.out]; simp, rfl⟩
                      · rcases md
                        · go_wp2_with fail
                          go_meet
                          case rel => exact ⟨by rw [← HL.out]; simp, rfl⟩
                        · go_wp2_with fail
                          go_meet
                          case rel => exact ⟨by rw [← HL.out]; simp, rfl⟩
                    · go_wp2_with fail
                      go_meet
                      case rel => exact ⟨by rw [← HL.out]; simp, rfl⟩
                  · rw [e1, e2, e3] at hl
                    have HL := Lib.hid hl
                    clear hl
                    rcases b2
                    · rcases b3
                      · rcases md
                        · go_wp2_with fail
                          go_meet
                          case rel => exact ⟨by rw [← HL.out]; simp, rfl⟩
                        · go_wp2_with fail
                          go_meet
                          case rel => exact ⟨by rw [← HL.out]; simp, rfl⟩
                      · go_wp2_with fail
                        go_meet
                        case rel => exact ⟨by rw [← HL.out]; simp, rfl⟩
                    · go_wp2_with fail
                      go_meet
                      case rel => exact ⟨by rw [← HL.out]; simp, rfl⟩
                  · rw [e1, e2, e3] at hl
                    have HL := Lib.hid hl
                    clear hl
                    rcases b2
                    · rcases b3
                      · rcases md
                        · go_wp2_with fail
                          go_meet
                          case rel => exact ⟨by rw [← HL.out]; simp, rfl⟩
                        · go_wp2_with fail
                          go_meet
                          case rel => exact ⟨by rw [← HL.out]; simp, rfl⟩
                      · go_wp2_with fail
                        go_meet
                        case rel => exact ⟨by rw [← HL.out]; simp, rfl⟩
                    · rcases b3
                      · rcases md
                        · go_wp2_with fail
                          go_meet
                          case rel => exact ⟨by rw [← HL.out]; simp, rfl⟩
                        · go_wp2_with fail
                          go_meet
                          case rel => exact ⟨by rw [← HL.out]; simp, rfl⟩
                      · go_wp2_with fail
                        go_meet
                        case rel => exact ⟨by rw [← HL.out]; simp, rfl⟩
                case rest =>
                  obtain ⟨rfl, hw5⟩ := hcut
                  subst hw5
                  go_upto_region 26 with fail
                  go_cut [154] (fun v wx => v = .bool tk ∧ wx = wc)
                  case first =>
                    have hl := HTk.out
                    rcases HTri.out with ⟨q, e1, e2, e3⟩ | ⟨q, e1, e2, e3⟩ | ⟨q, e1, e2, e3⟩
                    · rw [e3] at hl
                      have HL := Lib.hid hl
                      clear hl
                      rcases on
                      · go_wp2_with fail
                        go_meet
                        case rel => exact ⟨by rw [← HL.out]; simp, rfl⟩
                      · go_wp2_with fail
                        go_meet
                        case rel => exact ⟨by rw [← HL.out]; simp, rfl⟩
                    · rw [e3] at hl
                      have HL := Lib.hid hl
                      clear hl
                      rcases on
                      · go_wp2_with fail
                        go_meet
                        case rel => exact ⟨by rw [← HL.out]; simp, rfl⟩
                      · rcases ln
                        · go_wp2_with fail
                          go_meet
                          case rel => exact ⟨by rw [← HL.out]; simp, rfl⟩
                        · go_wp2_with fail
                          go_meet
                          case rel => exact ⟨by rw [← HL.out]; simp, rfl⟩
                    · rw [e3] at hl
                      have HL := Lib.hid hl
                      clear hl
                      rcases on
                      · go_wp2_with fail
                        go_meet
                        case rel => exact ⟨by rw [← HL.out]; simp, rfl⟩
                      · go_wp2_with fail
                        go_meet
                        case rel => exact ⟨by rw [← HL.out]; simp, rfl⟩
                  case rest =>
                    obtain ⟨rfl, hw6⟩ := hcut
                    subst hw6
                    rcases tk
                    · have HZ : Hid (boxR k i (row + 1) = y) := Lib.hid (by rw [HS.out]; simp)
                      go_wp2_with fail
                      go_roundg (8 - (row + 1))
                      case measure => omega
                      case rel => exact ⟨rfl, row + 1, rfl, by omega, by go_num, by rw [HZ.out]⟩
                    · obtain ⟨p, hp⟩ : ∃ p : Int, 2 ^ row = p := ⟨_, rfl⟩
                      have hpb : 1 ≤ p ∧ p ≤ 128 := by
                        rw [← hp]
                        have : row = 0 ∨ row = 1 ∨ row = 2 ∨ row = 3 ∨ row = 4 ∨ row = 5 ∨ row = 6 ∨ row = 7 := by omega
                        rcases this with rfl | rfl | rfl | rfl | rfl | rfl | rfl | rfl <;> decide
                      have HZ : Hid (boxR k i (row + 1) = y + p) := Lib.hid (by rw [HS.out, if_pos rfl, hp])
                      have hwr : IntKind.i64.wrap (2 ^ row) = p := by rw [hp, IntKind.wrap_i64]; omega
                      clear hp
                      go_wp2_with fail
                      go_roundg (8 - (row + 1))
                      case measure => omega
                      case rel => exact ⟨rfl, row + 1, rfl, by omega, by go_num, by rw [HZ.out]⟩
              · obtain rfl : row = 8 := by omega
                have HE2 : Hid (y = c) := Lib.hid (by rw [← HY.out, HE.out])
                go_wp2_with fail
                go_ret
                exact ⟨ret_int HE2.out, AnyLater.refl _⟩
end Go.Proofs.Ytbgpjfiabefajaa
