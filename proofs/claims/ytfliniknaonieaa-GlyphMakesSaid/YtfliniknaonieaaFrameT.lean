/- frame: the program's Shift and Lay, by contract: pixels that are copied over. -/
import Derived.Test.YtfliniknaonieaaFrameS
import Derived.Laws.CopyRow
import Derived.Laws.IdiomCopy
namespace Go.Proofs.Ytfliniknaonieaa
set_option linter.unusedSimpArgs false
set_option linter.unusedVariables false
set_option linter.unusedSectionVars false
open Go.RowKit

/-! ### what copy leaves -/
theorem mid_get (L : List Value) (off : Nat) (cs : List Value) (hfit : off + cs.length ≤ L.length) (k : Nat) :
    (L.take off ++ cs ++ L.drop (off + cs.length))[k]? = if off ≤ k ∧ k < off + cs.length then cs[k - off]? else L[k]? := by
  rw [List.append_assoc]
  by_cases h1 : k < off
  · rw [if_neg (by omega), List.getElem?_append_left (by rw [List.length_take]; omega), List.getElem?_take_of_lt h1]
  · rw [List.getElem?_append_right (by rw [List.length_take]; omega)]
    have e : (L.take off).length = off := by rw [List.length_take]; omega
    rw [e]
    by_cases h2 : k < off + cs.length
    · rw [if_pos (by omega), List.getElem?_append_left (by omega)]
    · rw [if_neg (by omega), List.getElem?_append_right (by omega), List.getElem?_drop]
      congr 1
      omega
theorem pix_size : (Try.prog.info? 33).map (·.size) = some 1 := by kernel_rfl
theorem add_off (b o j : Nat) : (⟨b, o, none⟩ : Addr).add j = ⟨b, o + j, none⟩ := by unfold Addr.add; split <;> simp_all
/-- pixels that read as L copied into a block that is known whole -/
theorem run_copyP (w : World) (q off dLen dCap : Nat) (cells : Array Value) (v : Value) (L : List Int) (hg : w.heap[q]? = some (.cells cells 33)) (hr : RU w v L) (hfit : off + Nat.min L.length dLen ≤ cells.size) :
    ∃ cells2, (∀ ty, (Builtin.copy_ #[34, 34] ty #[.slice (some ⟨q, off, none⟩) dLen dCap, v]).run Try.prog w = .ok (.int .i64 (Nat.min L.length dLen : Nat)) (w.setRow q cells2)) ∧
      ∀ k, cells2[k]? = if off ≤ k ∧ k < off + Nat.min L.length dLen then (L[k - off]?).map (Value.int .u32) else cells[k]? := by
  obtain ⟨A, cap, rfl, h2, h3⟩ := hr
  obtain ⟨n, hn⟩ : ∃ n, Nat.min L.length dLen = n := ⟨_, rfl⟩
  rw [hn] at hfit ⊢
  have hnL : n ≤ L.length := by rw [← hn]; exact Nat.min_le_left _ _
  rcases Nat.eq_zero_or_pos n with h0 | h0
  · subst h0
    refine ⟨cells, fun ty => ?_, fun k => by rw [if_neg (by omega)]⟩
    rw [run_copy_none (P := Try.prog) w 34 34 ty 33 _ _ _ _ _ _ Try.underlying34 pix_size hn, setRow_self w q cells _ _ hg]
    rfl
  · obtain ⟨b, o, rfl, hb, hc⟩ := h3 (by omega)
    have hlen : ((L.take n).map (Value.int .u32)).length = n := by rw [List.length_map, List.length_take]; omega
    refine ⟨(cells.toList.take off ++ (L.take n).map (Value.int .u32) ++ cells.toList.drop (off + ((L.take n).map (Value.int .u32)).length)).toArray, fun ty => ?_, fun k => ?_⟩
    · rw [run_copy_row (P := Try.prog) w 34 34 ty 33 q off dLen dCap ⟨b, o, none⟩ L.length cap cells 33 ((L.take n).map (Value.int .u32)) Try.underlying34 pix_size hg (by rw [hlen, ← hn]) ?_ (by rw [hlen]; exact hfit) (by intro u hu; obtain ⟨z, _, rfl⟩ := List.mem_map.1 hu; rfl)]
      · rw [hlen]; rfl
      · intro j u hu
        have hj : j < n := by
          rcases Nat.lt_or_ge j n with h | h
          · exact h
          · rw [List.getElem?_eq_none (by rw [hlen]; exact h)] at hu; cases hu
        rw [add_off, hc j (by omega), ← hu]
        simp [hj, show j < L.length by omega]
    · rw [List.getElem?_toArray, mid_get _ _ _ (by rw [hlen]; simpa using hfit), hlen]
      by_cases hk : off ≤ k ∧ k < off + n
      · rw [if_pos hk, if_pos hk, List.getElem?_map, List.getElem?_take_of_lt (by omega)]
      · rw [if_neg hk, if_neg hk, Array.getElem?_toList]
theorem keeps_setRow {S : Nat → Prop} (w : World) (q : Nat) (cs : Array Value) (hq : S q) : Keeps S w (w.setRow q cs) :=
  ⟨rfl, rfl, rfl, by simp [World.setRow], fun k _ hn => setRow_other w q k cs (fun e => hn (by rw [e]; exact hq))⟩
theorem FrA.setPix {w : World} {a : Nat} {m : FM} {S : Nat → Prop} {q cap : Nat} {cells cells2 : Array Value} {rows2 : Pix} (h : FrA w a m S (some ⟨q, 0, none⟩) cap) (sq : S q) (hq : w.heap[q]? = some (.cells cells 33)) (hl : rows2.length = m.rows.length) (hw : (⟨m.w, rows2, m.n⟩ : FM).Ok) (hp : PixF cells2 m.w m.rows.length (px rows2)) :
    FrA (w.setRow q cells2) a ⟨m.w, rows2, m.n⟩ S (some ⟨q, 0, none⟩) cap := by
  have hne : a ≠ q := by
    rintro rfl
    have := h.top
    rw [hq] at this
    cases this
  refine ⟨h.here, ?_, hw, by show m.w * rows2.length ≤ cap; rw [hl]; exact h.room, fun _ => ⟨q, cells2, rfl, sq, setRow_heap w q cells cells2 _ _ hq, by show PixF cells2 m.w rows2.length _; rw [hl]; exact hp⟩, fun k hk => ?_⟩
  · show (w.setRow q cells2).heap[a]? = some (Obj.cells #[.int .i64 m.w, .int .i64 (rows2.length : Int), .slice _ (m.w * rows2.length) cap, .int .i64 m.n] 67)
    rw [hl, setRow_other w q a cells2 hne]
    exact h.top
  · have := h.below k hk
    simpa [World.setRow] using this
theorem FrA.setN {w : World} {a : Nat} {m : FM} {S : Nat → Prop} {A : Option Addr} {cap : Nat} (h : FrA w a m S A cap) (n : Int) : FrA (w.setCell ⟨a, 3, none⟩ (.int .i64 n)) a ⟨m.w, m.rows, n⟩ S A cap := by
  refine ⟨h.here, heap_at h.top rfl, ⟨h.ok.wide⟩, h.room, fun h0 => ?_, fun k hk => by rw [World.size_setCell]; exact h.below k hk⟩
  obtain ⟨q, cells, e, sq, hq, hp⟩ := h.pix h0
  refine ⟨q, cells, e, sq, heap_far ?_ hq, hp⟩
  rintro rfl
  have := h.top
  rw [hq] at this
  cases this
theorem PixF.size {cells : Array Value} {W H : Nat} {f : Nat → Nat → Int} (h : PixF cells W H f) : W * H ≤ cells.size := by
  rcases Nat.eq_zero_or_pos (W * H) with h0 | h0
  · omega
  · obtain ⟨h1, h2, h3⟩ := flat_in (W := W) (H := H) (k := W * H - 1) (by omega)
    have := h _ _ h1 h2
    rw [h3] at this
    rcases Nat.lt_or_ge (W * H - 1) cells.size with h4 | h4
    · omega
    · rw [Array.getElem?_eq_none h4] at this; cases this

/-! ### Shift -/
theorem cutFrom_run (A : Option Addr) (n cap l : Nat) (w : World) (h1 : l ≤ n) :
    (Instr.sliceAt 34 (.slice A n cap) (some (.int .i64 (l : Int))) none none).run Try.prog w = .ok (.slice (if cap = l then A else A.map (fun x => x.add l)) (n - l) (cap - l)) w := by
  rw [run_sliceAt_slice w _ _ _ _ _ Try.underlying34, run_slice_l w _ A n cap Try.underlying34 .i64 (l : Int) (by omega) (by omega)]
  have hz : ∀ w, (Go.sizeOf (Try.prog.elem 34)).run Try.prog w = .ok 1 w := fun w => by simp [go_sem]
  rw [hz]
  simp [Result.andThen, sliced]
theorem px_shift {d : Int} {rows : Pix} {i j : Nat} (hi : i < rows.length) : px (shiftR d rows) i j = px rows (fromY rows.length d i) j := by
  unfold px
  have h1 : (shiftR d rows).getD i [] = rows.getD (fromY rows.length d i) [] := by
    rw [List.getD_eq_getElem?_getD, List.getD_eq_getElem?_getD, List.getElem?_eq_getElem (by rw [shiftR_len]; exact hi), List.getElem?_eq_getElem (fromY_lt d hi), shiftR_get d rows i hi]
  rw [h1]
theorem shift_none {d : Int} {m : FM} (h : (m.rows.length : Int) ≤ d ∨ d ≤ -(m.rows.length : Int)) : shiftM d m = m := by
  unfold shiftM
  have : shiftR d m.rows = m.rows := by
    apply List.ext_getElem (shiftR_len _ _)
    intro i h1 h2
    rw [shiftR_get d m.rows i h2]
    have e : fromY m.rows.length d i = i := by unfold fromY; rw [if_neg (by omega)]
    simp only [e]
  rw [this]
/-- down by e rows -/
theorem copy_down {w : World} {a : Nat} {m : FM} {S : Nat → Prop} {A : Option Addr} {cap e : Nat} (h : FrA w a m S A cap) (he : e < m.rows.length) :
    ∃ w2, (∀ ty, (Builtin.copy_ #[34, 34] ty #[.slice (if cap = e * m.w then A else A.map (fun x => x.add (e * m.w))) (m.w * m.rows.length - e * m.w) (cap - e * m.w), .slice A (m.w * m.rows.length) cap]).run Try.prog w = .ok (.int .i64 ((m.w * m.rows.length - e * m.w : Nat) : Int)) w2) ∧
      Keeps S w w2 ∧ FrA w2 a (shiftM (e : Int) m) S A cap := by
  have hrow := idx_row (W := m.w) he
  have hroom := h.room
  rcases Nat.eq_zero_or_pos m.w with h0 | h0
  · refine ⟨w, fun ty => ?_, Keeps.refl _ _, ?_⟩
    · rw [run_copy_none (P := Try.prog) w 34 34 ty 33 _ _ _ _ _ _ Try.underlying34 pix_size (by simp [h0])]
      simp [h0, goInt]
    · refine ⟨h.here, ?_, shiftM_ok h.ok, ?_, fun h1 => ?_, h.below⟩
      · show _ = some (Obj.cells #[.int .i64 m.w, .int .i64 ((shiftR (e : Int) m.rows).length : Int), .slice A (m.w * (shiftR (e : Int) m.rows).length) cap, .int .i64 m.n] 67)
        rw [shiftR_len]
        exact h.top
      · show m.w * (shiftR (e : Int) m.rows).length ≤ cap
        rw [shiftR_len]
        exact h.room
      · have h1 : 0 < m.w * (shiftR (e : Int) m.rows).length := h1
        rw [h0, Nat.zero_mul] at h1
        omega
  · obtain ⟨q, cells, rfl, sq, hq, hp⟩ := h.pix (mul_pos_lt he h0)
    have hsz := hp.size
    have hru := h.allRU
    have hmin : Nat.min (flatL m.w m.rows).length (m.w * m.rows.length - e * m.w) = m.w * m.rows.length - e * m.w := by rw [flatL_len]; exact Nat.min_eq_right (Nat.sub_le _ _)
    obtain ⟨cells2, k1, k2⟩ := run_copyP w q (e * m.w) (m.w * m.rows.length - e * m.w) (cap - e * m.w) cells _ _ hq hru (by rw [hmin]; omega)
    rw [hmin] at k1 k2
    refine ⟨w.setRow q cells2, fun ty => ?_, keeps_setRow w q cells2 sq, ?_⟩
    · rw [if_neg (by omega)]
      have := k1 ty
      simp only [Option.map_some, add_off, Nat.zero_add]
      exact this
    · refine h.setPix sq hq (shiftR_len _ _) (shiftM_ok h.ok) (fun i j hi hj => ?_)
      have hij := flat_idx hi hj
      rw [k2, px_shift hi]
      by_cases hie : e ≤ i
      · have hm := Nat.mul_le_mul_right m.w hie
        have e1 : i * m.w + j - e * m.w = (i - e) * m.w + j := by rw [Nat.sub_mul]; omega
        have e2 : fromY m.rows.length (e : Int) i = i - e := by unfold fromY; rw [if_pos (by omega)]; omega
        rw [if_pos (by omega), e1, e2, List.getElem?_eq_getElem (by rw [flatL_len]; exact (flat_idx (by omega) hj).1), flatL_at (by omega) hj]
        rfl
      · have hm := Nat.mul_le_mul_right m.w (show i + 1 ≤ e by omega)
        rw [Nat.add_mul, Nat.one_mul] at hm
        have e2 : fromY m.rows.length (e : Int) i = i := by unfold fromY; rw [if_neg (by omega)]
        rw [if_neg (by omega), e2, hp i j hi hj]
/-- up by e rows -/
theorem copy_up {w : World} {a : Nat} {m : FM} {S : Nat → Prop} {A : Option Addr} {cap e : Nat} (h : FrA w a m S A cap) (he : e < m.rows.length) :
    ∃ w2, (∀ ty, (Builtin.copy_ #[34, 34] ty #[.slice A (m.w * m.rows.length) cap, .slice (if cap = e * m.w then A else A.map (fun x => x.add (e * m.w))) (m.w * m.rows.length - e * m.w) (cap - e * m.w)]).run Try.prog w = .ok (.int .i64 ((m.w * m.rows.length - e * m.w : Nat) : Int)) w2) ∧
      Keeps S w w2 ∧ FrA w2 a (shiftM (-(e : Int)) m) S A cap := by
  have hrow := idx_row (W := m.w) he
  have hroom := h.room
  rcases Nat.eq_zero_or_pos m.w with h0 | h0
  · refine ⟨w, fun ty => ?_, Keeps.refl _ _, ?_⟩
    · rw [run_copy_none (P := Try.prog) w 34 34 ty 33 _ _ _ _ _ _ Try.underlying34 pix_size (by simp [h0])]
      simp [h0, goInt]
    · refine ⟨h.here, ?_, shiftM_ok h.ok, ?_, fun h1 => ?_, h.below⟩
      · show _ = some (Obj.cells #[.int .i64 m.w, .int .i64 ((shiftR (-(e : Int)) m.rows).length : Int), .slice A (m.w * (shiftR (-(e : Int)) m.rows).length) cap, .int .i64 m.n] 67)
        rw [shiftR_len]
        exact h.top
      · show m.w * (shiftR (-(e : Int)) m.rows).length ≤ cap
        rw [shiftR_len]
        exact h.room
      · have h1 : 0 < m.w * (shiftR (-(e : Int)) m.rows).length := h1
        rw [h0, Nat.zero_mul] at h1
        omega
  · obtain ⟨q, cells, rfl, sq, hq, hp⟩ := h.pix (mul_pos_lt he h0)
    have hsz := hp.size
    have hlen : ((flatL m.w m.rows).drop (e * m.w)).length = m.w * m.rows.length - e * m.w := by rw [List.length_drop, flatL_len]
    have hru : RU w (.slice (some ⟨q, e * m.w, none⟩) (m.w * m.rows.length - e * m.w) (cap - e * m.w)) ((flatL m.w m.rows).drop (e * m.w)) := by
      refine ⟨some ⟨q, e * m.w, none⟩, cap - e * m.w, by rw [hlen], by rw [hlen]; omega, fun _ => ⟨q, e * m.w, rfl, own_lt hq, fun j hj => ?_⟩⟩
      rw [own_row hq, List.getElem_drop, hp.flat]
    have hmin : Nat.min ((flatL m.w m.rows).drop (e * m.w)).length (m.w * m.rows.length) = m.w * m.rows.length - e * m.w := by rw [hlen]; exact Nat.min_eq_left (Nat.sub_le _ _)
    obtain ⟨cells2, k1, k2⟩ := run_copyP w q 0 (m.w * m.rows.length) cap cells _ _ hq hru (by rw [hmin]; omega)
    rw [hmin] at k1 k2
    refine ⟨w.setRow q cells2, fun ty => ?_, keeps_setRow w q cells2 sq, ?_⟩
    · rw [if_neg (by omega)]
      have := k1 ty
      simp only [Option.map_some, add_off, Nat.zero_add]
      exact this
    · refine h.setPix sq hq (shiftR_len _ _) (shiftM_ok h.ok) (fun i j hi hj => ?_)
      have hij := flat_idx hi hj
      rw [k2, px_shift hi]
      by_cases hie : i + e < m.rows.length
      · have hm := flat_idx (W := m.w) hie hj
        have e1 : e * m.w + (i * m.w + j - 0) = (i + e) * m.w + j := by rw [Nat.add_mul]; omega
        have e0 : (i + e) * m.w = i * m.w + e * m.w := Nat.add_mul _ _ _
        have e2 : fromY m.rows.length (-(e : Int)) i = i + e := by unfold fromY; rw [if_pos (by omega)]; omega
        rw [if_pos (by omega), e2, List.getElem?_drop, e1, List.getElem?_eq_getElem (by rw [flatL_len]; exact hm.1), flatL_at hie hj]
        rfl
      · have hm := Nat.mul_le_mul_right m.w (show m.rows.length ≤ i + e by omega)
        rw [Nat.add_mul, Nat.mul_comm m.rows.length] at hm
        have e2 : fromY m.rows.length (-(e : Int)) i = i := by unfold fromY; rw [if_neg (by omega)]
        rw [if_neg (by omega), e2, hp i j hi hj]
end Go.Proofs.Ytfliniknaonieaa
