/- metric, the program: face.Metric, reach, slices.Clone of cells, lay: by contract. -/
import Derived.Test.YteplnejnhgmfiaaDoorMetL
import Derived.Test.YteplnejnhgmfiaaDoorPut
import Derived.Lib.SliceRun
namespace Go.Proofs.YteplnejnhgmfiaaDoor
set_option linter.unusedSimpArgs false
set_option linter.unusedVariables false
set_option linter.unusedSectionVars false
open Go.RowKit

set_option maxRecDepth 100000 in
theorem mmetric_any (f : Int) (w : World) (u d : Int) (hu : upF f = u) (hd : dnF f = d) (hf : 0 ≤ f ∧ f ≤ 2) : Calls Tryd.prog 71 #[.int .i64 f] w fun e w' => e = .returned (.tuple #[.int .i64 u, .int .i64 d, .bool true]) ∧ w = w' := by
  have hff : f = 0 ∨ f = 1 ∨ f = 2 := by omega
  clear hf
  rcases hff with rfl | rfl | rfl
  all_goals
    have H : Hid (_ ∧ _) := Lib.hid (And.intro hu hd)
    clear hu hd
    go_enter Tryd.func71, Tryd.ntmps71
    go_wp2_with fail
    refine bodyPost_ret (v := .tuple #[.int .i64 u, .int .i64 d, .bool true]) (by rw [← H.out.1, ← H.out.2]; simp [results, Tryd.results71, go_sem, upF, dnF]) rfl ⟨rfl, rfl⟩
set_option maxRecDepth 100000 in
set_option maxHeartbeats 1600000 in
theorem mreach_any (v : Value) (l : Cels) (w : World) (u d : Int) (hu : upL l = u) (hd : dnL l = d) (hv : FR celF w v l) (hN : CelsOk l) (hl : l.length ≤ 4000) : Calls Tryd.prog 55 #[v] w fun e w' => e = .returned (.tuple #[.int .i64 u, .int .i64 d]) ∧ AnyLater w w' := by
  obtain ⟨A, cap, rfl, hc⟩ := hv.form
  have HV := Lib.hid hv
  have HNN := Lib.hid hN
  have HS := Lib.hid (And.intro hu hd)
  have hmx : ∀ (w : World) (ts : Array TypeId) (t : TypeId) (p q : Int), (Builtin.max_ ts t #[.int .i64 p, .int .i64 q]).run Tryd.prog w = .ok (.int .i64 (max p q)) w := fun w ts t p q => by
    rw [run_max_int2]
    split
    · rw [Int.max_eq_right (by omega)]
    · rw [Int.max_eq_left (by omega)]
  obtain ⟨n, hn⟩ : ∃ n, l.length = n := ⟨_, rfl⟩
  have HL := Lib.hid hn
  have HM0 := Lib.hid (fun w => mmetric_any 0 w 7 2 rfl rfl (by decide))
  rw [hn] at HV hc hl ⊢
  clear hv hN hn hu hd
  go_enter Tryd.func55, Tryd.ntmps55
  go_wp2_with fail
  refine (HM0.out _).mono ?_
  rintro e w1 ⟨rfl, rfl⟩
  go_wp2_with fail
  go_loopg [2, 3, 16] n (fun kk uv dv iv wr => AnyLater w wr ∧ ∃ j : Nat, kk = n - j ∧ j ≤ n ∧ iv = .int .i64 j ∧ uv = .int .i64 (upL (l.take j)) ∧ dv = .int .i64 (dnL (l.take j)))
  case atStart => exact ⟨AnyLater.refl w, 0, by omega, by omega, rfl, rfl, rfl⟩
  case round =>
    obtain ⟨a_wr, j, hk, hj, rfl, rfl, rfl⟩ := hrel
    have HA := Lib.hid a_wr
    have hu := upL_in (l.take j)
    have hd := dnL_in (l.take j)
    by_cases hlt : j < n
    · have lj : j < l.length := by rw [HL.out]; exact hlt
      have i0 : (j : Int) < (n : Int) := by omega
      have HT : Hid (upL (l.take (j + 1)) = max (upL (l.take j)) (upF (faceS l[j].2.2.2)) ∧ dnL (l.take (j + 1)) = max (dnL (l.take j)) (dnF (faceS l[j].2.2.2))) := Lib.hid (by
        rw [cels_take lj, upL_snoc, dnL_snoc]; exact ⟨rfl, rfl⟩)
      obtain ⟨U, hU⟩ : ∃ U, upL (l.take j) = U := ⟨_, rfl⟩
      obtain ⟨D, hD⟩ : ∃ D, dnL (l.take j) = D := ⟨_, rfl⟩
      rw [hU] at hu HT ⊢
      rw [hD] at hd HT ⊢
      obtain ⟨b, off, rfl, hb, c0, c1, c2, c3⟩ := celAt (HV.out.later a_wr) j lj
      have hok := HNN.out l[j] (List.getElem_mem lj)
      generalize l[j] = cel at *
      obtain ⟨ca, cn, cr, cs⟩ := cel
      simp only at c0 c1 c2 c3 HT
      obtain ⟨-, -, hr, hs⟩ := hok
      have hfs := faceS_in cs
      obtain ⟨f, hf⟩ : ∃ f, faceS cs = f := ⟨_, rfl⟩
      have HF := Lib.hid (fun w => cface_any cs w f hf hs)
      rw [hf] at hfs HT
      obtain ⟨y1, hy1⟩ : ∃ y, upF f = y := ⟨_, rfl⟩
      obtain ⟨y2, hy2⟩ : ∃ y, dnF f = y := ⟨_, rfl⟩
      have HM := Lib.hid (fun w => mmetric_any f w y1 y2 hy1 hy2 hfs)
      rw [hy1, hy2] at HT
      clear hU hD hf hy1 hy2 hs hr hfs
      go_wp2_with fail
      first | refine settle_wp (fun wS => AnyLater wr wS ∧ wS.heap[wr.heap.size]? = some (.cells #[.int .i64 ca, .int .i64 cn, .int .i32 cr, .int .i64 cs] 63)) ?_ ?_ | refine settle_calls (fun wS => AnyLater wr wS ∧ wS.heap[wr.heap.size]? = some (.cells #[.int .i64 ca, .int .i64 cn, .int .i32 cr, .int .i64 cs] 63)) ?_ ?_
      · refine ⟨?_, ?_⟩
        · repeat' (first | with_reducible assumption | with_reducible exact AnyLater.refl _ | with_reducible apply AnyLater.setCell | with_reducible apply AnyLater.later | with_reducible apply AnyLater.drewN | with_reducible apply AnyLater.drew | with_reducible apply AnyLater.alloc | ((try simp only [World.size_alloc, World.size_setCell, World.size_drew]); (try dsimp only); omega))
        · ((repeat (first | with_reducible assumption | ((with_reducible apply heap_new); (try simp only [World.size_alloc, World.size_setCell, World.size_drew, World.heap_drewN]); done) | ((with_reducible apply heap_new); (try simp only [World.size_alloc, World.size_setCell, World.size_drew, World.heap_drewN]); omega) | (with_reducible refine heap_old (by (try simp only [World.size_alloc, World.size_setCell, World.size_drew, World.heap_drewN]); omega) ?_) | (with_reducible refine heap_drew ?_) | (with_reducible refine heap_far (by omega) ?_) | (with_reducible apply heap_at))); all_goals rfl)
      rintro w1 ⟨b_w1, s0_w1⟩
      have a_w1 := a_wr.trans b_w1
      have r0_w1 := own_row s0_w1
      have f0_w1 := own_free s0_w1
      have l0_w1 := own_lt s0_w1
      have z_w1 := b_w1.below.size
      have HB := Lib.hid (HA.out.trans b_w1)
      refine (HF.out _).mono ?_
      rintro e w2 ⟨rfl, rfl⟩
      go_wp2_with fail
      refine (HM.out _).mono ?_
      rintro e w2 ⟨rfl, rfl⟩
      go_wp2_with fail
      go_roundg (n - (j + 1))
      case measure => omega
      case rel => exact ⟨HB.out, j + 1, rfl, by omega, by go_num, by rw [HT.out.1], by rw [HT.out.2]⟩
    · obtain rfl : j = n := by omega
      have HE : Hid (upL (l.take j) = u ∧ dnL (l.take j) = d) := Lib.hid (by rw [← HS.out.1, ← HS.out.2, List.take_of_length_le (by rw [HL.out]; exact Nat.le_refl _)]; exact ⟨rfl, rfl⟩)
      rw [HE.out.1, HE.out.2]
      clear a_wr hu hd
      go_wp2_with fail
      refine bodyPost_ret (v := .tuple #[.int .i64 u, .int .i64 d]) (by simp [results, Tryd.results55, go_sem]) rfl ⟨rfl, HA.out⟩
set_option maxRecDepth 100000 in
theorem mclone_any (v : Value) (l : Cels) (w : World) (hv : FR celF w v l) (hl : l.length ≤ 190000) : Calls Tryd.prog 30 #[v] w fun e w' => ∃ u, e = .returned u ∧ AnyLater w w' ∧ OF celF 63 w' w.heap.size u l := by
  obtain ⟨A, cap, rfl, hc⟩ := hv.form
  have hq := fun (w : World) (n : Nat) => Lib.run_eql_slice_nil (P := Tryd.prog) w 41 63 A n cap 0 0 Tryd.underlying41
  obtain ⟨u, w2, k1, k2, k3⟩ := copyF celFT hv hl
  have K1 := Lib.hid k1
  have KK := Lib.hid (And.intro k2 k3)
  cases A with
  | none =>
    have hl0 : l = [] := by
      obtain ⟨A', c', e, h2, h3⟩ := hv
      cases e
      cases l with
      | nil => rfl
      | cons x t => obtain ⟨b, off, e, _⟩ := h3 (by simp); cases e
    subst hl0
    clear k1 k2 k3 hv KK K1
    have HE : Hid (OF celF 63 w w.heap.size (.slice none 0 0) []) := Lib.hid (OF.nil _ _ _)
    go_enter Tryd.func30, Tryd.ntmps30
    go_wp2_with fail
    go_ret
    exact ⟨_, rfl, AnyLater.refl _, HE.out⟩
  | some a =>
    clear k1 k2 k3 hv
    generalize l.length = n at *
    go_enter Tryd.func30, Tryd.ntmps30
    go_wp2_with (at_builtin; refine Lib.wpList_append_run _ rfl _ _ _ _ rfl _ _ rfl rfl _ _ K1.out ?_)
    go_ret
    exact ⟨_, rfl, KK.out.1, KK.out.2⟩
end Go.Proofs.YteplnejnhgmfiaaDoor
