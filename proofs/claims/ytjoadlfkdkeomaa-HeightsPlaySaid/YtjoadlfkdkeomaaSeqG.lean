/- seq: heights built into a tree: by contract. Trees of up to 90000 heights. -/
import Derived.Test.YtjoadlfkdkeomaaSeqL
import Derived.Test.YtjoadlfkdkeomaaFree
import Derived.LoopN
import Derived.Deep.LoopGhost
import Derived.BigRegion
import Derived.RegionTactic
namespace Go.Proofs.Ytjoadlfkdkeomaa
set_option linter.unusedSimpArgs false
set_option linter.unusedVariables false
set_option linter.unusedSectionVars false
open Go.RowKit
variable {B : Nat}

theorem OQ.block {t : TypeId} {w : World} {B : Nat} {v : Value} {l : Qs} (h : OQ t w B v l) (h0 : 0 < l.length) : ∃ g cap, v = .slice (some ⟨g, 0, none⟩) l.length cap ∧ B ≤ g := by
  rcases h.2 with ⟨_, e⟩ | ⟨g, cap, cur, e, h2, _⟩
  · omega
  · exact ⟨g, cap, e, h2⟩
/-- what is built of the heights l: its rows are new -/
def isBuilt (W : World) (l : Qs) (v : Value) (w : World) : Prop := ∃ T : Ht, isH W.heap.size T v w ∧ T.hs = l ∧ T.Fine ∧ T.lev = bldL l.length ∧ T.bks.Nodup ∧ ∀ b ∈ T.bks, W.heap.size ≤ b
theorem isBuilt_stays {W : World} {l : Qs} {v : Value} {w w' : World} (h : AnyLater w w') (s : isBuilt W l v w) : isBuilt W l v w' := by
  obtain ⟨T, h1, h2⟩ := s
  exact ⟨T, isH_stays h h1, h2⟩
theorem isBuilt.wide {W V : World} {l : Qs} {v : Value} {w : World} (s : isBuilt W l v w) (h : V.heap.size ≤ W.heap.size) : isBuilt V l v w := by
  obtain ⟨T, h1, h2, h3, h4, h5, h6⟩ := s
  exact ⟨T, h1.mono h, h2, h3, h4, h5, fun b hb => Nat.le_trans h (h6 b hb)⟩
set_option maxRecDepth 100000 in
theorem hbuild_none (A : Option Addr) (cap : Nat) (w : World) : Calls Try.prog 80 #[.slice A 0 cap] w (HAns (isBuilt w []) w) := by
  have HB : Hid (isBuilt w [] (.pointer none) w) := Lib.hid ⟨.nil, isH_none (Nat.le_refl _), rfl, Ht.Fine.nil, by rw [show ([] : Qs).length = 0 from rfl, bldL]; rfl, List.nodup_nil, fun b hb => by cases hb⟩
  go_enter Try.func80, Try.ntmps80
  go_wp2_with fail
  go_ret
  exact ⟨_, rfl, AnyLater.refl _, HB.out⟩
set_option maxRecDepth 100000 in
theorem hbuild_leaf (v : Value) (l : Qs) (w : World) (hv : QR w v l) (h0 : 0 < l.length) (hl : l.length ≤ 32) (hT : Tls l) : Calls Try.prog 80 #[v] w (HAns (isBuilt w l) w) := by
  have HC := Lib.hid (tlclone_any v l w hv (by omega))
  have HN := Lib.hid (fun (w' : World) (u : Value) (o : OQ 33 w' w.heap.size u l) => noted_leaf u l w' (OQ.rq o) (by omega) hT)
  have HE : Hid (∀ (w1 w2 : World) (u : Value) (g : Nat), OQ 33 w1 w.heap.size u l → AnyLater w w1 → w1.heap.size ≤ g → AnyLater w1 w2 → w2.heap[g]? = some (.cells #[.pointer none, .pointer none, u, .int .i64 (l.length : Int), .int .i64 (tlR l), .int .i64 (tlH l), .int .i64 1] 119) → isBuilt w l (.pointer (some ⟨g, 0, none⟩)) w2) := Lib.hid (fun w1 w2 u g o a0 hlg a hg => by
    obtain ⟨b, cap, rfl, hb⟩ := OQ.block o h0
    exact ⟨.leaf b l, ⟨(a0.trans a).below.size, _, ⟨g, cap, rfl, rfl, hg, OQ.wide (Nat.zero_le _) (OQ.later a o)⟩, fun x hx => by
      rcases List.mem_cons.1 hx with rfl | hx
      · exact Nat.le_trans a0.below.size hlg
      · obtain rfl : x = b := by simpa using hx
        exact hb⟩, rfl, ⟨trivial, h0⟩, (bldL_some h0 hl).symm, by simp [Ht.bks], fun x hx => by
      obtain rfl : x = b := by simpa [Ht.bks] using hx
      exact hb⟩)
  obtain ⟨A, cap, rfl, -⟩ := hv.form
  have HL : Hid (∀ u w1, OQ 33 w1 w.heap.size u l → ∃ A cap, u = .slice A l.length cap) := Lib.hid (fun u w1 o => by obtain ⟨A, cap, e, _⟩ := OQ.form o; exact ⟨A, cap, e⟩)
  have hne : decide (l.length = 0) = false := decide_eq_false (by omega)
  have h1 : ((l.length : Int) == 0) = false := by simp; intro h; rw [h] at h0; simp at h0
  have h2 : (l.length : Int) ≤ 32 := by omega
  clear hv hT
  generalize l.length = n at *
  go_enter Try.func80, Try.ntmps80
  go_wp2_with fail
  refine HC.out.mono ?_
  rintro e w1 ⟨u, rfl, b1, o1⟩
  have HO := Lib.hid (And.intro b1 o1)
  clear b1 o1
  obtain ⟨A2, cap2, rfl⟩ := HL.out u w1 HO.out.2
  go_wp2_with fail
  refine (HN.out w1 _ HO.out.2).mono ?_
  rintro e w2 ⟨g, rfl, hlg, b2, hg⟩
  have HG := Lib.hid (And.intro (HO.out.1.trans b2) (HE.out w1 w2 _ g HO.out.2 HO.out.1 hlg b2 hg))
  clear b2 hg hlg
  go_wp2_with fail
  go_ret
  exact ⟨_, rfl, HG.out.1, HG.out.2⟩
/-- both halves are built, the one behind the other -/
def halves (W : World) (a b : Qs) (x y : Value) (w : World) : Prop := ∃ S T : Ht, isH W.heap.size S x w ∧ isH W.heap.size T y w ∧ S.hs = a ∧ T.hs = b ∧ S.Fine ∧ T.Fine ∧ S.lev = bldL a.length ∧ T.lev = bldL b.length ∧ (S.bks ++ T.bks).Nodup ∧ ∀ b ∈ S.bks ++ T.bks, W.heap.size ≤ b
theorem halves_of {W w w' : World} {a b : Qs} {x y : Value} (hW : AnyLater W w) (h : isBuilt W a x w) (k : isBuilt w b y w') (hl : AnyLater w w') : halves W a b x y w' := by
  obtain ⟨S, h1, h2, h3, h4, h5, h6⟩ := h
  obtain ⟨T, k1, k2, k3, k4, k5, k6⟩ := k
  refine ⟨S, T, isH_stays hl h1, k1.mono hW.below.size, h2, k2, h3, k3, h4, k4, ?_, ?_⟩
  · refine List.nodup_append.2 ⟨h5, k5, fun p hp q hq e => ?_⟩
    obtain ⟨_, F, hF, _⟩ := h1
    have q1 := own_lt (hF.rows p hp).2.choose_spec
    have q2 := k6 q hq
    omega
  · intro p hp
    rcases List.mem_append.1 hp with hp | hp
    · exact h6 p hp
    · exact Nat.le_trans hW.below.size (k6 p hp)
def stB (W : World) (a b : Qs) : Nat → (Nat → Value) → World → Prop
  | 0, _, _ => True
  | 1, g, x => isBuilt W a (g 3) x
  | 2, g, x => halves W a b (g 3) (g 7) x
  | _, g, x => isBuilt W (a ++ b) (g 8) x
def HBuilds (n : Nat) : Prop := ∀ (v : Value) (l : Qs) (w : World), l.length ≤ n → QR w v l → l.length ≤ 90000 → Tls l → Calls Try.prog 80 #[v] w (HAns (isBuilt w l) w)
set_option maxRecDepth 100000 in
set_option maxHeartbeats 1600000 in
theorem hbuild_many (N : Nat) (ih : HBuilds N) (v : Value) (l : Qs) (w : World) (hN : l.length ≤ N + 1) (hv : QR w v l) (h0 : 32 < l.length) (hl : l.length ≤ 90000) (hT : Tls l) : Calls Try.prog 80 #[v] w (HAns (isBuilt w l) w) := by
  obtain ⟨h, hh⟩ : ∃ h, l.length / 2 = h := ⟨_, rfl⟩
  have lt : (l.take h).length = h := by rw [List.length_take]; omega
  have ld : (l.drop h).length = l.length - h := List.length_drop
  have eq1 : l.take h ++ l.drop h = l := List.take_append_drop ..
  obtain ⟨A1, cap1, q1, k1⟩ := hv.uptoQ pairTall h (by omega)
  obtain ⟨u2, q2, k2⟩ := hv.cutQ pairTall h (by omega)
  have HB1 := Lib.hid (fun (w' : World) (a : AnyLater w w') => ih (.slice A1 h cap1) (l.take h) w' (by omega) (q1.later a) (by omega) (hT.take h))
  have HB2 := Lib.hid (fun (w' : World) (a : AnyLater w w') => ih u2 (l.drop h) w' (by omega) (q2.later a) (by omega) (hT.drop h))
  have HT : Hid (∀ (x : World) (u y : Value), AnyLater w x → halves w (l.take h) (l.drop h) u y x → Calls Try.prog 87 #[u, y] x (HAns (isBuilt w (l.take h ++ l.drop h)) x)) := Lib.hid (fun x u y a ⟨S, T, s1, t1, s2, t2, s3, t3, s4, t4, d1, d2⟩ => by
    have n1 : S ≠ .nil := fun e => by rw [e] at s2; simp only [Ht.hs] at s2; rw [← s2] at lt; simp at lt; omega
    have n2 : T ≠ .nil := fun e => by rw [e] at t2; simp only [Ht.hs] at t2; rw [← t2] at ld; simp at ld; omega
    have hb := bldL_half (n := l.length)
    rw [hh] at hb
    rw [lt] at s4
    rw [ld] at t4
    refine (htie_any S T u y x s1 t1 ⟨⟨n1, n2, s3.2, t3.2⟩, by rw [Ht.hs, s2, t2, eq1]; exact hT, by rw [Ht.hs, s2, t2, eq1]; exact hl⟩).mono ?_
    rintro e x' ⟨z, rfl, b, hz⟩
    refine ⟨z, rfl, b, .node S T, hz, by rw [Ht.hs, s2, t2], ⟨⟨by omega, by omega, s3.1, t3.1⟩, n1, n2, s3.2, t3.2⟩, ?_, d1, d2⟩
    rw [Ht.lev, eq1, bldL_many h0, hh]
    omega)
  obtain ⟨A, cap, rfl, -⟩ := hv.form
  obtain ⟨A2, cap2, rfl, -⟩ := q2.form
  rw [ld] at HB2 k2
  rw [eq1] at HT
  have HE := Lib.hid eq1
  have h1 : ((l.length : Int) == 0) = false := by simp; intro h; rw [h] at h0; simp at h0
  have h2 : decide ((l.length : Int) ≤ 32) = false := decide_eq_false (by omega)
  have h3 : (l.length : Int) / 2 = (h : Int) := by omega
  have h4 : h ≤ l.length := by omega
  clear hv hT ih q1 q2 lt ld eq1 h0 hN hh
  generalize hn : l.length = n at *
  clear hn
  obtain ⟨a, ha⟩ : ∃ a, l.take h = a := ⟨_, rfl⟩
  obtain ⟨b, hb⟩ : ∃ b, l.drop h = b := ⟨_, rfl⟩
  rw [ha] at HB1 HT HE
  rw [hb] at HB2 HT HE
  clear ha hb
  go_enter Try.func80, Try.ntmps80
  go_wp2_with fail
  apply wp_region_chain 9 [(3, undef), (7, undef), (8, undef)] [⟨3, 10, fun _ _ => True⟩, ⟨7, 14, fun _ _ => True⟩, ⟨8, 15, fun _ _ => True⟩] (AnyLater w) (stB w a b) (by kernel_rfl) (by kernel_rfl) (by kernel_rfl) (by simp) (by kernel_rfl) (AnyLater.refl w).drew (fun _ => trivial)
  case hlex =>
    intro U hU
    simp only [actFrom, actOp, List.lookup, Nat.reduceBEq, Nat.reduceLeDiff, Nat.reduceAdd, if_false, if_true]
    repeat (go_big_quiet_step (fail))
    exact wpQuiet_nil rfl
  case hact =>
    intro i hi o ho
    have hj3 : i = 0 ∨ i = 1 ∨ i = 2 := by simp at hi; omega
    rcases hj3 with rfl | rfl | rfl
    · cases ho
      refine ⟨rfl, fun g x hC hS => ?_⟩
      simp only [fillAll, Act.put, List.setIfInBounds_toArray, List.set_cons_zero, List.set_cons_succ]
      refine chain_go ?_ ((HB1.out x hC).mono fun e x' ⟨u, h1, h2, h3⟩ => ⟨u, h1, hC.trans h2, .inl ⟨_, List.mem_of_getElem? (i := 0) rfl, rfl⟩, h3.wide hC.below.size⟩)
      simp [go_sem, execOp]
    · cases ho
      refine ⟨rfl, fun g x hC hS => ?_⟩
      have hS2 : isBuilt w a (g 3) x := hS
      simp only [fillAll, Act.put, List.setIfInBounds_toArray, List.set_cons_zero, List.set_cons_succ]
      refine chain_go ?_ ((HB2.out x hC).mono fun e x' ⟨u, h1, h2, h3⟩ => ⟨u, h1, hC.trans h2, .inl ⟨_, List.mem_of_getElem? (i := 1) rfl, rfl⟩, halves_of hC hS2 h3 h2⟩)
      simp [go_sem, execOp]
    · cases ho
      refine ⟨rfl, fun g x hC hS => ?_⟩
      have hS2 : halves w a b (g 3) (g 7) x := hS
      simp only [fillAll, Act.put, List.setIfInBounds_toArray, List.set_cons_zero, List.set_cons_succ]
      refine chain_go ?_ ((HT.out x (g 3) (g 7) hC hS2).mono fun e x' ⟨u, h1, h2, h3⟩ => ⟨u, h1, hC.trans h2, .inl ⟨_, List.mem_of_getElem? (i := 2) rfl, rfl⟩, by show isBuilt w (a ++ b) u x'; rw [HE.out]; exact h3⟩)
      simp [go_sem, execOp]
  case htail =>
    intro g x hC hS
    have hS2 : isBuilt w (a ++ b) (g 8) x := hS
    rw [HE.out] at hS2
    have HZ := Lib.hid (And.intro hC hS2)
    clear hC hS hS2
    simp only [fillAll, Act.put, List.setIfInBounds_toArray, List.set_cons_zero, List.set_cons_succ, List.drop_succ_cons, List.drop_zero, List.drop_nil]
    generalize g 8 = u at *
    go_wp2_with fail
    go_ret
    exact ⟨_, rfl, HZ.out.1, HZ.out.2⟩
theorem hbuilds (n : Nat) : HBuilds n := by
  induction n with
  | zero =>
    intro v l w hn hv hl hT
    obtain rfl := List.eq_nil_of_length_eq_zero (Nat.le_zero.1 hn)
    obtain ⟨A, cap, rfl, _⟩ := hv.form
    exact hbuild_none A cap w
  | succ n ih =>
    intro v l w hn hv hl hT
    by_cases h0 : l.length = 0
    · obtain rfl := List.eq_nil_of_length_eq_zero h0
      obtain ⟨A, cap, rfl, _⟩ := hv.form
      exact hbuild_none A cap w
    · by_cases h1 : l.length ≤ 32
      · exact hbuild_leaf v l w hv (by omega) h1 hT
      · exact hbuild_many n ih v l w hn hv (by omega) hl hT
/-- a tree of heights -/
theorem hbuild_any (v : Value) (l : Qs) (w : World) (hv : QR w v l) (hl : l.length ≤ 90000) (hT : Tls l) : Calls Try.prog 80 #[v] w (HAns (isBuilt w l) w) := hbuilds l.length v l w (Nat.le_refl _) hv hl hT
end Go.Proofs.Ytjoadlfkdkeomaa
