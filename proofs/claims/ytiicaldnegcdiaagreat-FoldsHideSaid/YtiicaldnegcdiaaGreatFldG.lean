/- folds: what every law asks besides (lives): by contract. -/
import Derived.Test.YtiicaldnegcdiaaGreatFldE
import Derived.Test.YtiicaldnegcdiaaGreatFldC
import Derived.Test.YtiicaldnegcdiaaGreatTxtC
import Derived.Deep.QuietTactic
namespace Go.Proofs.YtiicaldnegcdiaaGreat
set_option linter.unusedSimpArgs false
set_option linter.unusedVariables false
set_option linter.unusedSectionVars false
open Go.RowKit

set_option maxRecDepth 100000 in
set_option maxHeartbeats 1600000 in
theorem flives (w : World) : Calls Tryz.prog 18 #[] w fun e w' => e = .returned (.bool true) ∧ AnyLater w w' := by
  have ok1 : (newT [97, 10, 98, 10, 99]).Ok := newT_ok (by unfold Bytes; decide) (by decide)
  have bs1 : (newT [97, 10, 98, 10, 99]).bs = [97, 10, 98, 10, 99] := newT_bs _
  have ln1 : (newT [97, 10, 98, 10, 99]).len = 5 := by rw [← Tr.len_bs, bs1]; rfl
  have fd1 : fds (newT [97, 10, 98, 10, 99]) = [1, 3] := by unfold fds; rw [bs1]; rfl
  have nf1 : (newT [97, 10, 98, 10, 99]).nf = 2 := by rw [← fds_len, fd1]; rfl
  have HN : Hid (∀ (w' : World) (u : Value), RN .u8 w' u [97, 10, 98, 10, 99] → Calls Tryz.prog 7 #[u, .int .i64 9] w' fun e w'' => ∃ tg g, e = .returned (.tuple #[.pointer (some ⟨tg, 0, none⟩), .int .i64 0]) ∧ AnyLater w' w'' ∧ w'.heap.size ≤ g ∧ w'.heap.size ≤ tg ∧ tg ≠ g ∧ IsTx w'' tg g 9 (newT [97, 10, 98, 10, 99])) :=
    Lib.hid (fun w' u hu => tnew_yes u [97, 10, 98, 10, 99] 9 w' hu (by unfold Bytes; decide) (by decide) ⟨by decide, by decide⟩ (by decide))
  generalize newT [97, 10, 98, 10, 99] = t1 at *
  have HA := Lib.hid (fun (w' : World) => fadd_any (.slice none 0 0) [] 0 3 5 w' (QR.void _ _ _) (by decide))
  have hA1 : addC (0, 3) [] 5 = 0 := by decide
  have hA2 : addL (0, 3) [] 5 = [(0, 3)] := by decide
  have HAd : Hid (∀ (w' : World), Calls Tryz.prog 35 #[.slice none 0 0, .agg #[.int .i64 0, .int .i64 3], .int .i64 5] w' fun e w'' => ∃ u, e = .returned (.tuple #[u, .int .i64 0]) ∧ AnyLater w' w'' ∧ QR w'' u [(0, 3)]) := Lib.hid (fun w' => (HA.out w').mono fun e w'' h => by
    obtain ⟨u, h1, h2, h3⟩ := h
    rw [hA1] at h1
    rw [hA2] at h3
    exact ⟨u, h1, h2, h3⟩)
  have HHd : Hid (∀ (w' : World) (u : Value) (tg g : Nat), QR w' u [(0, 3)] → IsTx w' tg g 9 t1 → Calls Tryz.prog 13 #[u, .pointer (some ⟨tg, 0, none⟩)] w' fun e w'' => ∃ u, e = .returned u ∧ AnyLater w' w'' ∧ RI w'' u [0]) := Lib.hid (fun w' u tg g hu h => (fheads_any u [(0, 3)] tg g 9 t1 [0] w' (by rw [fd1, ln1, nf1]; decide) hu (by decide) h ok1).mono fun e w'' h => by
    obtain ⟨u, h1, h2, h3⟩ := h
    exact ⟨u, h1, h2, h3.rn⟩)
  have HH1 : Hid (∀ (w' : World) (u : Value) (tg g : Nat), QR w' u [(0, 3)] → IsTx w' tg g 9 t1 → Calls Tryz.prog 16 #[u, .pointer (some ⟨tg, 0, none⟩), .int .i64 1] w' fun e w'' => e = .returned (.bool true) ∧ AnyLater w' w'') := Lib.hid (fun w' u tg g hu h => fhidesline_any u [(0, 3)] tg g 9 t1 1 true w' (by rw [fd1, ln1]; decide) hu (by decide) h ok1)
  have HH2 : Hid (∀ (w' : World) (u : Value) (tg g : Nat), QR w' u [(0, 3)] → IsTx w' tg g 9 t1 → Calls Tryz.prog 16 #[u, .pointer (some ⟨tg, 0, none⟩), .int .i64 2] w' fun e w'' => e = .returned (.bool false) ∧ AnyLater w' w'') := Lib.hid (fun w' u tg g hu h => fhidesline_any u [(0, 3)] tg g 9 t1 2 false w' (by rw [fd1, ln1]; decide) hu (by decide) h ok1)
  clear ok1 bs1 ln1 fd1 nf1 HA hA1 hA2
  have kc := fun (w : World) (C : Array Value) (n c : Nat) => Lib.run_convert_bytes_const (P := Tryz.prog) w 22 5 C n c Tryz.underlying22 Tryz.underlying5
  go_enter Tryz.func18, Tryz.ntmps18
  go_wp2_with fail
  refine (HN.out _ _ (RN.lit [97, 10, 98, 10, 99] (heap_new rfl) rfl)).mono ?_
  rintro e w1 ⟨tg, g, rfl, b1, -, -, -, r1⟩
  have A1 : Hid (AnyLater w w1) := Lib.hid (AnyLater.trans (by repeat' (first | with_reducible assumption | with_reducible exact AnyLater.refl _ | with_reducible apply AnyLater.setCell | with_reducible apply AnyLater.later | with_reducible apply AnyLater.drewN | with_reducible apply AnyLater.drew | with_reducible apply AnyLater.alloc | ((try simp only [World.size_alloc, World.size_setCell, World.size_drew]); (try dsimp only); omega))) b1)
  have R1 := Lib.hid r1
  clear b1 r1
  go_wp2_with fail
  refine (HAd.out _).mono ?_
  rintro e w2 ⟨u, rfl, b2, q2⟩
  have A2 := Lib.hid (A1.out.trans b2)
  have R2 := Lib.hid (R1.out.later b2)
  have Q2 := Lib.hid q2
  obtain ⟨A, cap, rfl, -⟩ := q2.form
  clear b2 q2
  simp only [List.length_cons, List.length_nil, Nat.zero_add] at *
  go_wp2_with fail
  refine (HHd.out _ _ tg g Q2.out R2.out).mono ?_
  rintro e w3 ⟨u3, rfl, b3, q3⟩
  have A3 := Lib.hid (A2.out.trans b3)
  have R3 := Lib.hid (R2.out.later b3)
  have Q3 := Lib.hid (Q2.out.later b3)
  have P3 := Lib.hid q3
  obtain ⟨A5, cap5, rfl, -, hc5⟩ := q3
  obtain ⟨b5, off5, rfl, hb5, hc5⟩ := hc5 (by decide)
  have HC5 := Lib.hid (And.intro hb5 (hc5 0 (by decide)))
  clear b3 hc5
  simp only [List.length_cons, List.length_nil, Nat.zero_add] at *
  go_wp2_with fail
  refine (HH1.out _ _ tg g Q3.out R3.out).mono ?_
  rintro e w4 ⟨rfl, b4⟩
  have A4 := Lib.hid (A3.out.trans b4)
  have B4 := Lib.hid b4
  have R4 := Lib.hid (R3.out.later b4)
  have Q4 := Lib.hid (Q3.out.later b4)
  clear b4
  go_wp2_with fail
  refine (HH2.out _ _ tg g Q4.out R4.out).mono ?_
  rintro e w5 ⟨rfl, b5'⟩
  have A6 := Lib.hid (A4.out.trans b5')
  have c5 : w5.cell? ⟨b5, off5, none⟩ = some (.int .i64 0) := cell_on (B4.out.trans b5') HC5.out.2
  clear b5'
  go_wp2_with fail
  go_ret
  exact ⟨rfl, A6.out⟩
end Go.Proofs.YtiicaldnegcdiaaGreat
