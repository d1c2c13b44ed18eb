/- fault: path, which gathers the places of all Faults of an error; and Path. -/
import Derived.Test.YtfocpgnhbabeiaaDoorFaultH
import Derived.Test.YtfocpgnhbabeiaaDoorOwn
import Derived.Deep.RegionLaw
import Derived.BigRegion
import Derived.OwnWalk
namespace Go.Proofs.YtfocpgnhbabeiaaDoor
set_option linter.unusedSimpArgs false
set_option linter.unusedVariables false
set_option linter.unusedSectionVars false
open Go.RowKit Go.Extern.Stop Go.Stop Go.Extern

theorem info_int : (Tryd.prog.info? 3).map (fun i => (i.zero, i.size, i.bytes)) = some (some (.int .i64 0), 1, 8) := by kernel_rfl
theorem neqSame (a : Addr) (w : World) : (binOp .neq 28 (.iface 41 (.pointer (some a))) (.iface 41 (.pointer (some a)))).run Tryd.prog w = .ok (.bool false) w := by
  obtain ⟨i, hi, hcmp⟩ := Option.map_eq_some_iff.1 (show (Tryd.prog.info? 41).map (·.comparable) = some true by kernel_rfl)
  obtain ⟨j, hj, hjs⟩ := Option.map_eq_some_iff.1 (show (Tryd.prog.info? 45).map (·.size) = some 2 by kernel_rfl)
  simp only [binOp]
  simp [Op.equal, Op.maxDepth, run_equalIn_iface_ptr_same w 9998 a Tryd.underlying28 Tryd.underlying41 hi hcmp hj]
set_option maxRecDepth 100000 in
set_option maxHeartbeats 1600000 in
theorem path_chain (ps : List Int) (c : Int) (er : Value) (lb : Nat) (W w : World) (hW : AnyLater W w) (hc : Chain W ps c er) (hg : Glob W) (hlb : W.heap.size ≤ lb) (hl : w.heap[lb]? = some (.cells #[.slice none 0 0] 22)) (hn : ps.length < 131072) :
    Calls Tryd.prog 25 #[er, .pointer (some ⟨lb, 0, none⟩)] w fun e w' => e = .returned (.tuple #[]) ∧ AnyLater W w' ∧ ∃ v, w'.heap[lb]? = some (.cells #[v] 22) ∧ w'.ownsRow W.heap.size 3 1 v ps.length (ps.map (Value.int .i64)) := by
  obtain ⟨i0, hi0, hz0, hz1, hz2⟩ := info_parts info_int
  have qn := neqSame
  have ll : lb < w.heap.size := own_lt hl
  have HS := Lib.hid (And.intro hW (And.intro hc (And.intro hg hl)))
  clear hW hc hg hl
  go_enter Tryd.func25, Tryd.ntmps25
  go_wp2_with fail
  go_loopg [0] ps.length (fun k e1 wr => ∃ (done qs : List Int) (v x : Value), ps = done ++ qs ∧ k = qs.length ∧ Chain W qs c e1 ∧ AnyLater W wr ∧ wr.heap[w.heap.size]? = some (.cells #[x] 41) ∧ wr.heap[lb]? = some (.cells #[v] 22) ∧ wr.ownsRow W.heap.size 3 1 v done.length (done.map (Value.int .i64)))
  case atStart =>
    obtain ⟨hW, hc, hg, hl⟩ := HS.out
    exact ⟨[], ps, .slice none 0 0, .pointer none, rfl, rfl, hc, hW.alloc _, heap_new rfl, heap_old ll hl, rfl, .inl ⟨rfl, rfl⟩⟩
  case round =>
    obtain ⟨done, qs, v, x, hps, hk, hq, ha, sF, sl, ho⟩ := hrel
    have hgl := HS.out.2.2.1
    cases qs with
    | nil =>
      obtain rfl := hq
      have C := Lib.hid (As_code_F c w.heap.size wr (hgl.later ha))
      have HR := Lib.hid (And.intro hps (And.intro ha (And.intro sl ho)))
      clear hps ha sF sl ho hk
      go_wp2_with fail
      refine C.out.mono ?_
      rintro e w1 ⟨rfl, hw⟩
      have HW := Lib.hid hw
      clear hw
      go_wp2_with fail
      go_end0
      obtain ⟨hps, ha, sl, ho⟩ := HR.out
      rw [List.append_nil] at hps
      subst hps
      exact ⟨rfl, ha.trans HW.out, v, any_own HW.out sl, owns_later HW.out ho⟩
    | cons q qs =>
      obtain ⟨b, e', rfl, hb, hq⟩ := hq
      obtain ⟨tq, vq, rfl⟩ := hq.iface
      have C := Lib.hid (As_fault_F b w.heap.size x wr (hgl.later ha) (own_row sF 0) (own_free sF 0))
      have HR := Lib.hid (And.intro hps (And.intro hk (And.intro ha (And.intro sF (And.intro sl (And.intro ho (And.intro hb hq)))))))
      clear hps hk ha sF sl ho hb hq
      go_wp2_with fail
      refine C.out.mono ?_
      rintro e w1 ⟨rfl, hw⟩
      obtain ⟨hps, hk, ha, sF, sl, ho, hb, hq⟩ := HR.out
      have nl : lb ≠ w.heap.size := by omega
      have nb : b ≠ w.heap.size := by have := own_lt hb; omega
      have nlb : lb ≠ b := by have := own_lt hb; omega
      have nbl : b ≠ lb := nlb.symm
      have nwl : w.heap.size ≠ lb := nl.symm
      have a1 : AnyLater W w1 := (ha.setCell (p := ⟨w.heap.size, 0, none⟩) (by dsimp only; omega) _).trans hw
      have sF1 : w1.heap[w.heap.size]? = some (.cells #[.pointer (some ⟨b, 0, none⟩)] 41) := any_own hw (heap_at sF rfl)
      have sl1 : w1.heap[lb]? = some (.cells #[v] 22) := any_own hw (heap_far nl sl)
      have sb1 : w1.heap[b]? = some (.cells #[.int .i64 q, .iface tq vq] 45) := any_own a1 hb
      have ho1 := owns_later hw (owns_set sF (by decide) (.pointer (some ⟨b, 0, none⟩)) 0 ho)
      have rF := own_row sF1 0
      have rl := own_row sl1 0
      have fl := own_free sl1 0
      have rb := own_row sb1 0
      have rb1 := own_row sb1 1
      have hd : done.length < 131072 := by subst hps; simp only [List.length_append, List.length_cons] at hn; omega
      have hWl : W.heap.size ≤ w1.heap.size := a1.below.size
      have HO := Lib.hid ho1
      have oF := owns_ne ho1 sF1 (by decide)
      have ol := owns_ne ho1 sl1 (by decide)
      have ob := owns_ne ho1 sb1 (by decide)
      have lF := own_lt sF1
      have lL := own_lt sl1
      have lB := own_lt sb1
      have HR2 := Lib.hid (And.intro hps (And.intro hk (And.intro a1 (And.intro sF1 (And.intro sl1 (And.intro ho1 (And.intro sb1 hq)))))))
      clear hps hk ha sF sl ho hb hq hw a1 sF1 sl1 sb1 ho1 HR C
      go_wp2_with fail
      refine wp_loop_rounds 1 ?_
      rw [rounds_succ]
      go_wp2_with fail
      go_region_law
        ((refine step_append_lies _ (by rfl) _ _ _ (by rfl) W.heap.size 3 i0 _ 1 8 Tryd.underlying22 hi0 hz0 hz1 hz2 rfl (by omega) v done.length (done.map (Value.int .i64)) (by rfl) ((HO.out.alloc _).drew)
            ⟨w1.heap.size, 0, none⟩ 1 1 [.int .i64 q] (by rfl) (by rfl) (World.news_of_block (cs := #[.int .i64 q]) (t := 3) (fr := (0, 0)) (heap_alloc_new w1 _)) (by simp [Value.oneCell'])
            (by omega) (by unfold maxLen; omega) (by omega) (by simp; omega) (w1.heap.size + 1) (by simp) ?_; intro gg cap w2 hown2 hgrow hat hlt; have k1 : w2.cell? ⟨lb, 0, none⟩ = some v := (hgrow.cell_far ⟨lb, 0, none⟩ (by simp only [World.size_alloc, World.size_drew]; omega) (Ne.symm ol)).trans (by rw [World.cell?_drew, World.cell?_alloc_lt _ _ ⟨lb, 0, none⟩ lL]; exact rl); have k2 : w2.frozen? ⟨lb, 0, none⟩ = false := (hgrow.frozen_far ⟨lb, 0, none⟩ (by simp only [World.size_alloc, World.size_drew]; omega) (Ne.symm ol)).trans (by rw [World.frozen?_drew, World.frozen?_alloc_old _ _ ⟨lb, 0, none⟩ (by (try dsimp only); omega)]; exact fl); have k3 : w2.cell? ⟨w.heap.size, 0, none⟩ = some (.pointer (some ⟨b, 0, none⟩)) := (hgrow.cell_far ⟨w.heap.size, 0, none⟩ (by simp only [World.size_alloc, World.size_drew]; omega) (Ne.symm oF)).trans (by rw [World.cell?_drew, World.cell?_alloc_lt _ _ ⟨w.heap.size, 0, none⟩ lF]; exact rF); have k4 : w2.cell? ⟨b, 1, none⟩ = some (.iface tq vq) := (hgrow.cell_far ⟨b, 1, none⟩ (by simp only [World.size_alloc, World.size_drew]; omega) (Ne.symm ob)).trans (by rw [World.cell?_drew, World.cell?_alloc_lt _ _ ⟨b, 1, none⟩ lB]; exact rb1)))
      all_goals
        go_wp2_with fail
        go_roundg qs.length
        case measure => have hk := HR2.out.2.1; subst hk; simp
        case rel =>
          obtain ⟨hps, hk, a1, sF1, sl1, ho1, sb1, hq⟩ := HR2.out
          have a2 : AnyLater W w2 := grown_later ((a1.alloc _).drew) hgrow (owns_base ho1)
          have sF2 := grown_block hgrow (heap_drew (heap_old lF sF1)) oF
          have sl2 := grown_block hgrow (heap_drew (heap_old lL sl1)) ol
          refine ⟨done ++ [q], qs, .slice (some ⟨gg, 0, none⟩) (done.length + 1) cap, .pointer (some ⟨b, 0, none⟩), by rw [hps]; simp, rfl, hq, a2.setCell hlb _, heap_far nwl sF2, heap_at sl2 rfl, ?_⟩
          rw [List.length_append, List.map_append]
          exact owns_set sl2 (by decide) _ 0 hown2

/-! ### Path -/
theorem path_calls (caps : Array Value) (w : World) : (callFunc 24 caps).run Tryd.prog w = .ok (.enter 24 caps) w := by kernel_rfl
theorem path_do (ps : List Int) (c : Int) (er : Value) (g k : Nat) (W w : World) (hW : AnyLater W w) (hgl : Glob W) (hc : Chain W ps c er) (hgv : w.heap[g]? = some (.cells #[er] 28)) (hk : W.heap.size ≤ k) (hl : w.heap[k]? = some (.cells #[.slice none 0 0] 22)) (hn : ps.length < 131072) :
    Calls Tryd.prog 24 #[.pointer (some ⟨g, 0, none⟩), .pointer (some ⟨k, 0, none⟩)] w fun e w' => e = .returned (.tuple #[]) ∧ AnyLater W w' ∧ ∃ v, w'.heap[k]? = some (.cells #[v] 22) ∧ w'.ownsRow W.heap.size 3 1 v ps.length (ps.map (Value.int .i64)) := by
  have r0 : w.cell? ⟨g, 0, none⟩ = some er := own_row hgv 0
  have C := Lib.hid (path_chain ps c er k W w hW hc hgl hk hl hn)
  clear hgv hk hgl hc hW hl
  go_enter Tryd.func24, Tryd.ntmps24
  go_wp2_with fail
  refine C.out.mono ?_
  rintro e w1 ⟨rfl, hw⟩
  have HW := Lib.hid hw
  clear hw
  go_wp2_with fail
  go_end0
  exact ⟨rfl, HW.out⟩
/-- Path: new memory that holds the places -/
def IsPath (W : World) (ps : List Int) (e : Ending) (w' : World) : Prop := ∃ v, e = .returned v ∧ AnyLater W w' ∧ w'.ownsRow W.heap.size 3 1 v ps.length (ps.map (Value.int .i64))
theorem Path_chain (ps : List Int) (c : Int) (er : Value) (w : World) (hg : Glob w) (hc : Chain w ps c er) (h1 : ps.length < 131072) :
    Calls Tryd.prog 11 #[er] w (IsPath w ps) := by
  have hmf : ∀ (fn : Fn) (first cap : Array Value) (w : World), (Instr.makeFunc fn first cap).run Tryd.prog w = .ok (.func fn first cap) w := fun _ _ _ _ => rfl
  obtain ⟨tq, vq, rfl⟩ := hc.iface
  have HC := Lib.hid hc
  have HG := Lib.hid hg
  clear hc hg
  go_enter Tryd.func11, Tryd.ntmps11
  go_wp2_with fail
  first | refine settle_wp (fun wS => AnyLater w wS ∧ wS.heap[w.heap.size]? = some (.cells #[.iface tq vq] 28) ∧ wS.heap[w.heap.size + 1]? = some (.cells #[.slice none 0 0] 22)) ?_ ?_ | refine settle_calls (fun wS => AnyLater w wS ∧ wS.heap[w.heap.size]? = some (.cells #[.iface tq vq] 28) ∧ wS.heap[w.heap.size + 1]? = some (.cells #[.slice none 0 0] 22)) ?_ ?_
  · refine ⟨?_, ?_, ?_⟩
    · repeat' (first | with_reducible assumption | with_reducible exact AnyLater.refl _ | with_reducible apply AnyLater.setCell | with_reducible apply AnyLater.later | with_reducible apply AnyLater.drewN | with_reducible apply AnyLater.drew | with_reducible apply AnyLater.alloc | ((try simp only [World.size_alloc, World.size_setCell, World.size_drew]); (try dsimp only); omega))
    · ((repeat (first | with_reducible assumption | ((with_reducible apply heap_new); (try simp only [World.size_alloc, World.size_setCell, World.size_drew, World.heap_drewN]); done) | ((with_reducible apply heap_new); (try simp only [World.size_alloc, World.size_setCell, World.size_drew, World.heap_drewN]); omega) | (with_reducible refine heap_old (by (try simp only [World.size_alloc, World.size_setCell, World.size_drew, World.heap_drewN]); omega) ?_) | (with_reducible refine heap_drew ?_) | (with_reducible refine heap_far (by omega) ?_) | (with_reducible apply heap_at))); all_goals rfl)
    · ((repeat (first | with_reducible assumption | ((with_reducible apply heap_new); (try simp only [World.size_alloc, World.size_setCell, World.size_drew, World.heap_drewN]); done) | ((with_reducible apply heap_new); (try simp only [World.size_alloc, World.size_setCell, World.size_drew, World.heap_drewN]); omega) | (with_reducible refine heap_old (by (try simp only [World.size_alloc, World.size_setCell, World.size_drew, World.heap_drewN]); omega) ?_) | (with_reducible refine heap_drew ?_) | (with_reducible refine heap_far (by omega) ?_) | (with_reducible apply heap_at))); all_goals rfl)
  rintro w1 ⟨b_w1, s0_w1, s1_w1⟩
  have a_w1 := b_w1
  have r0_w1 := own_row s0_w1
  have f0_w1 := own_free s0_w1
  have l0_w1 := own_lt s0_w1
  have r1_w1 := own_row s1_w1
  have f1_w1 := own_free s1_w1
  have l1_w1 := own_lt s1_w1
  have z_w1 := b_w1.below.size
  have C := look_chain ps c _ 24 #[.pointer (some ⟨w.heap.size, 0, none⟩), .pointer (some ⟨w.heap.size + 1, 0, none⟩)] w1 (fun w2 => AnyLater w w2 ∧ ∃ v, w2.heap[w.heap.size + 1]? = some (.cells #[v] 22) ∧ w2.ownsRow w.heap.size 3 1 v ps.length (ps.map (Value.int .i64))) (HC.out.later a_w1) h1 (fun _ => path_calls _ _) (fun w2 h2 => path_do ps c _ _ _ w w2 (a_w1.trans h2) HG.out HC.out (any_own h2 s0_w1) (by omega) (any_own h2 s1_w1) h1)
  refine C.mono ?_
  rintro e w2 ⟨rfl, a2, v, s2, o2⟩
  have r := own_row s2 0
  have H := Lib.hid (And.intro a2 o2)
  clear s2 C a2 o2
  go_wp2_with fail
  go_ret
  exact ⟨v, rfl, H.out⟩
end Go.Proofs.YtfocpgnhbabeiaaDoor
