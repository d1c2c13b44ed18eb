/- band: the sort of bands by where they begin, by the library's contract. -/
import Derived.Test.YtgfmfkjebnllnaaBandR
import Derived.Test.YtgfmfkjebnllnaaBandL
import Derived.Shelf.SlSortCmp.WholeK
namespace Go.Proofs.Ytgfmfkjebnllnaa
set_option linter.unusedSimpArgs false
set_option linter.unusedVariables false
set_option linter.unusedSectionVars false
open Go.RowKit Go.Sort Go.Shelf Go.Lib

def encP (x : Int × Int) : List Value := [.int .i64 x.1, .int .i64 x.2]
def cfP (x y : Int × Int) : Int := cmpZ x.1 y.1
theorem ltP (x y : Int × Int) : ltOf cfP x y = decide (x.1 < y.1) := by
  unfold ltOf cfP cmpZ
  by_cases h1 : x.1 < y.1
  · simp [h1]
  · by_cases h2 : y.1 < x.1 <;> simp [h1, h2]
theorem swoP : SWO (ltOf cfP) where
  irrefl x := by rw [ltP]; simp
  trans x y z h1 h2 := by rw [ltP] at *; simp at *; omega
  ntrans x y z h1 h2 := by rw [ltP] at *; simp at *; omega

set_option maxHeartbeats 1000000 in
theorem order_clo (x y : Int × Int) (W : World) : Calls Try.prog 34 #[.agg #[.int .i64 x.1, .int .i64 x.2], .agg #[.int .i64 y.1, .int .i64 y.2]] W fun e w' => e = .returned (.int .i64 (cfP x y)) ∧ ∃ q os', w' = grow (W.drewN q) os' := by
  have hcon := fun W' => compare_any x.1 y.1 W'
  unfold cfP
  generalize cmpZ x.1 y.1 = r at hcon ⊢
  go_enter Try.func34, Try.ntmps34
  go_wp2_with (go_at_call 35; refine (hcon _).mono ?_; rintro e w' ⟨rfl, rfl⟩)
  go_ret
  exact ⟨rfl, 0, _, by rw [alloc_eq_grow, alloc_eq_grow, grow_grow]; rfl⟩

theorem flat_get (L : Array (Int × Int)) (i : Nat) (h : i < L.size) : (flatK encP 2 L)[i * 2]! = .int .i64 L[i].1 ∧ (flatK encP 2 L)[i * 2 + 1]! = .int .i64 L[i].2 := by
  rw [get_flatK _ _ _ _ (by omega), get_flatK _ _ _ _ (by omega), show i * 2 / 2 = i by omega, show (i * 2 + 1) / 2 = i by omega, show i * 2 % 2 = 0 by omega, show (i * 2 + 1) % 2 = 1 by omega, getElem!_pos L i h]
  exact ⟨rfl, rfl⟩
theorem holds_of {w : World} {g : Nat} {cur : Array Value} {L : Bands} (hg : w.heap[g]? = some (.cells cur 39)) (hc : CellsB cur L) : HoldsK encP 2 w g 0 L.toArray := by
  intro j hj
  rw [size_flatK, List.size_toArray] at hj
  have hk : j / 2 < L.length := by omega
  obtain ⟨q0, q1⟩ := flat_get L.toArray (j / 2) (by simpa using hk)
  refine ⟨?_, own_free hg _⟩
  rw [own_row hg, Nat.zero_add]
  rcases Nat.mod_two_eq_zero_or_one j with hm | hm
  · have e : j = j / 2 * 2 := by omega
    rw [e, (hc _ hk).1, q0]; rfl
  · have e : j = j / 2 * 2 + 1 := by omega
    rw [e, (hc _ hk).2, q1]; rfl
/-- what the sort leaves of the block -/
theorem sort_block {w : World} {g m : Nat} {cur : Array Value} {d : Array (Int × Int)} {os : Array Obj} (hg : w.heap[g]? = some (.cells cur 39)) : (sortWorldK encP 2 w g 0 m d os).heap[g]? = some (.cells (putCells id 0 (flatK encP 2 d) cur) 39) := by
  have hlt := own_lt hg
  unfold sortWorldK putRowK putRow
  rw [heap_grow_old _ _ (by simpa [mapBlock, Sort.ahead] using hlt)]
  unfold mapBlock
  show (w.heap.modify g _)[g]? = _
  rw [Array.getElem?_modify, if_pos rfl, hg]
  rfl
theorem sort_cells {cur : Array Value} {d : Array (Int × Int)} (hs : d.size * 2 ≤ cur.size) : (putCells id 0 (flatK encP 2 d) cur).size = cur.size ∧ CellsB (putCells id 0 (flatK encP 2 d) cur) d.toList := by
  have hg : ∀ k, k < d.size * 2 → (putCells id 0 (flatK encP 2 d) cur)[k]? = some (flatK encP 2 d)[k]! := by
    intro k hk
    unfold putCells
    rw [Array.getElem?_mapIdx, Array.getElem?_eq_getElem (by omega), Option.map_some, if_pos ⟨Nat.zero_le _, by rw [size_flatK]; omega⟩]
    rfl
  refine ⟨by simp [putCells], fun i hi => ?_⟩
  have hi' : i < d.size := by simpa using hi
  obtain ⟨q0, q1⟩ := flat_get d i hi'
  rw [hg _ (by omega), hg _ (by omega), q0, q1]
  exact ⟨rfl, rfl⟩
theorem sort_later {W w : World} {g m : Nat} {d : Array (Int × Int)} {os : Array Obj} (h : AnyLater W w) (hWg : W.heap.size ≤ g) : AnyLater W (sortWorldK encP 2 w g 0 m d os) := by
  have hb := h.below
  refine .of ⟨hb.os, hb.tape, hb.output, ?_, fun k hk => ?_⟩
  · have := hb.size
    unfold sortWorldK putRowK putRow
    rw [size_grow]
    simp only [mapBlock, Sort.ahead, Array.size_modify]
    omega
  · have hk2 : k < w.heap.size := Nat.lt_of_lt_of_le hk hb.size
    rw [← hb.block k hk]
    unfold sortWorldK putRowK putRow
    rw [heap_grow_old _ _ (by simpa [mapBlock, Sort.ahead] using hk2)]
    unfold mapBlock
    show (w.heap.modify g _)[k]? = _
    rw [Array.getElem?_modify, if_neg (by omega)]
/-- slices.SortFunc of bands that a block holds -/
theorem sort_any (g cap : Nat) (cur : Array Value) (L : Bands) (W w : World) (hW : AnyLater W w) (hWg : W.heap.size ≤ g) (hg : w.heap[g]? = some (.cells cur 39)) (hs : L.length * 2 ≤ cur.size) (hc : CellsB cur L) (hn : L.length ≤ 100000) :
    Calls Try.prog 33 #[.slice (some ⟨g, 0, none⟩) L.length cap, .func (.func 34) #[] #[]] w fun e w' => e = .returned (.tuple #[]) ∧ ∃ cur' L', AnyLater W w' ∧ w'.heap[g]? = some (.cells cur' 39) ∧ cur'.size = cur.size ∧ CellsB cur' L' ∧ L'.Perm L ∧ Sorted L' := by
  have eg : ∀ args w, (callFunc 34 args).run Try.prog w = .ok (.enter 34 args) w := enters_of Try.func34 (by kernel_rfl) rfl
  have hcm : CmpLays Try.prog 34 #[] encP 2 cfP g 0 L.toArray.size w := fun _ _ _ _ x y => order_clo x y _
  have hcon := AnyQ.slices_SortFunc sortLay 2 Try.isAgg39 Try.sizeOf39 encP (fun _ => rfl) (fun x v hv => by simp [encP] at hv; rcases hv with rfl | rfl <;> rfl) cfP swoP 34 #[] g 0 cap L.toArray w eg hcm (holds_of hg hc) (own_lt hg) (by simp; omega)
  change Calls Try.prog 33 _ _ _ at hcon
  rw [List.size_toArray] at hcon
  refine hcon.mono ?_
  rintro e w' ⟨rfl, d, m, os, hp, hso, rfl⟩
  obtain ⟨p1, _, p3⟩ := hp
  have p5 : d.size = L.length := by rw [p1, List.size_toArray]
  have p4 : d.extract 0 L.length = d := by rw [← p5]; simp
  rw [p4] at p3
  obtain ⟨q1, q2⟩ := sort_cells (cur := cur) (d := d) (by omega)
  refine ⟨rfl, _, d.toList, sort_later hW hWg, sort_block hg, q1, q2, by simpa using p3, fun i j hj hij => ?_⟩
  have hj' : j < d.size := by simpa using hj
  have := hso i j (Nat.zero_le _) hij (by omega)
  rw [ltP, getElem!_pos d i (by omega), getElem!_pos d j hj'] at this
  simpa using this
end Go.Proofs.Ytgfmfkjebnllnaa
