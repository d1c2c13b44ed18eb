/- What the library says of the sort asks how its functions lie in this program: told here, a field a fact. No condition. band: the sort of bands by where they begin, by the library's contract. band: changed by contract: what a function makes of each band, brought within the edges, sorted and made one. band: changed of any bands, Tidy, Height, and append of bands, by contract. band: Grow and Concat of the library at bands, Join, Move, and the gaps of bands, by contract. band: Meet and Less by contract. band: Has and Good by contract; all eight functions at once. -/
import Derived.Shelf.SlLaysF0
import Derived.Ground.SlsfProg
import Derived.Shelf.SlGeneric
import Derived.Test.YtiicaldnegcdiaaGreatChecked
import Derived.Test.YtiicaldnegcdiaaGreatBandsA
import Derived.Shelf.SlSortCmp.WholeK
import Derived.Shelf.SlSortCmp.NoneTotal
import Derived.Lib.AppendZeros
import Derived.Deep.Upon
namespace Go.Proofs.YtiicaldnegcdiaaGreat
open Go.Shelf
def sortLay_ren : Go.Shelf.Ren := ⟨fun | 6 => 60 | 15 => 77 | 14 => 76 | 28 => 92 | 29 => 93 | 20 => 84 | 21 => 85 | 22 => 86 | 23 => 87 | 24 => 88 | 25 => 89 | 26 => 90 | 27 => 91 | 46 => 99 | 47 => 100 | 48 => 101 | 49 => 102 | 50 => 103 | 57 => 111 | n => n, fun | 22 => 34 | 24 => 56 | 25 => 98 | 3 => 3 | 39 => 114 | 0 => 0 | 53 => 126 | 55 => 128 | 4 => 4 | 46 => 120 | 45 => 119 | 50 => 63 | 5 => 5 | 9 => 9 | 66 => 132 | 70 => 136 | 76 => 140 | 77 => 102 | n => n, fun | n => n⟩
theorem sortLay : Go.Proofs.SlLaysF0.n6 Tryz.prog sortLay_ren := {
  mixed := by kernel_rfl
  f6 := ⟨Tryz.f60.name, by decide, Tryz.func60.trans (congrArg some (by kernel_rfl))⟩
  f14 := ⟨Tryz.f76.name, by decide, Tryz.func76.trans (congrArg some (by kernel_rfl))⟩
  f15 := Tryz.func77.trans (congrArg some (by kernel_rfl))
  f20 := ⟨Tryz.f84.name, by decide, Tryz.func84.trans (congrArg some (by kernel_rfl))⟩
  f21 := ⟨Tryz.f85.name, by decide, Tryz.func85.trans (congrArg some (by kernel_rfl))⟩
  f22 := ⟨Tryz.f86.name, by decide, Tryz.func86.trans (congrArg some (by kernel_rfl))⟩
  f23 := ⟨Tryz.f87.name, by decide, Tryz.func87.trans (congrArg some (by kernel_rfl))⟩
  f24 := ⟨Tryz.f88.name, by decide, Tryz.func88.trans (congrArg some (by kernel_rfl))⟩
  f25 := ⟨Tryz.f89.name, by decide, Tryz.func89.trans (congrArg some (by kernel_rfl))⟩
  f26 := ⟨Tryz.f90.name, by decide, Tryz.func90.trans (congrArg some (by kernel_rfl))⟩
  f27 := ⟨Tryz.f91.name, by decide, Tryz.func91.trans (congrArg some (by kernel_rfl))⟩
  f28 := Tryz.func92.trans (congrArg some (by kernel_rfl))
  f29 := Tryz.func93.trans (congrArg some (by kernel_rfl))
  f46 := ⟨Tryz.f99.name, by decide, Tryz.func99.trans (congrArg some (by kernel_rfl))⟩
  f47 := Tryz.func100.trans (congrArg some (by kernel_rfl))
  f48 := Tryz.func101.trans (congrArg some (by kernel_rfl))
  f49 := ⟨Tryz.f102.name, by decide, Tryz.func102.trans (congrArg some (by kernel_rfl))⟩
  f50 := ⟨Tryz.f103.name, by decide, Tryz.func103.trans (congrArg some (by kernel_rfl))⟩
  f57 := ⟨Tryz.f111.name, by decide, Tryz.func111.trans (congrArg some (by kernel_rfl))⟩
  t0 := Tryz.underlying0
  a0 := Tryz.isAgg0
  z0 := Tryz.sizeOf0
  v0 := Tryz.zeroValue0
  t3 := Tryz.underlying3
  a3 := Tryz.isAgg3
  z3 := Tryz.sizeOf3
  v3 := Tryz.zeroValue3
  t4 := Tryz.underlying4
  a4 := Tryz.isAgg4
  z4 := Tryz.sizeOf4
  v4 := Tryz.zeroValue4
  t5 := Tryz.underlying5
  a5 := Tryz.isAgg5
  z5 := Tryz.sizeOf5
  v5 := Tryz.zeroValue5
  t9 := Tryz.underlying9
  a9 := Tryz.isAgg9
  z9 := Tryz.sizeOf9
  v9 := Tryz.zeroValue9
  t22 := Tryz.underlying34
  a22 := Tryz.isAgg34
  z22 := Tryz.sizeOf34
  v22 := Tryz.zeroValue34
  t25 := Tryz.underlying98
  a25 := Tryz.isAgg98
  z25 := Tryz.sizeOf98
  v25 := Tryz.zeroValue98
  t39 := Tryz.underlying114
  a39 := Tryz.isAgg114
  z39 := Tryz.sizeOf114
  v39 := Tryz.zeroValue114
  t45 := Tryz.underlying119
  a45 := Tryz.isAgg119
  z45 := Tryz.sizeOf119
  v45 := Tryz.zeroValue119
  t46 := Tryz.underlying120
  a46 := Tryz.isAgg120
  z46 := Tryz.sizeOf120
  v46 := Tryz.zeroValue120
  t50 := Tryz.underlying63
  a50 := Tryz.isAgg63
  z50 := Tryz.sizeOf63
  v50 := Tryz.zeroValue63
  t53 := Tryz.underlying126
  a53 := Tryz.isAgg126
  z53 := Tryz.sizeOf126
  v53 := Tryz.zeroValue126
  t55 := Tryz.underlying128
  a55 := Tryz.isAgg128
  z55 := Tryz.sizeOf128
  v55 := Tryz.zeroValue128
  t66 := Tryz.underlying132
  a66 := Tryz.isAgg132
  z66 := Tryz.sizeOf132
  v66 := Tryz.zeroValue132
  t70 := Tryz.underlying136
  a70 := Tryz.isAgg136
  z70 := Tryz.sizeOf136
  v70 := Tryz.zeroValue136
  t76 := Tryz.underlying140
  a76 := Tryz.isAgg140
  z76 := Tryz.sizeOf140
  v76 := Tryz.zeroValue140
  t77 := Tryz.underlying102
  a77 := Tryz.isAgg102
  z77 := Tryz.sizeOf102
  v77 := Tryz.zeroValue102 }
end Go.Proofs.YtiicaldnegcdiaaGreat
namespace Go.Proofs.YtiicaldnegcdiaaGreat
set_option linter.unusedSimpArgs false
set_option linter.unusedVariables false
set_option linter.unusedSectionVars false
open Go.RowKit Go.Sort Go.Shelf Go.Lib

def encP (x : Int × Int) : List Value := [.int .i64 x.1, .int .i64 x.2]
def cfP (x y : Int × Int) : Int := cmpZ x.1 y.1
theorem ltP (x y : Int × Int) : ltOf cfP x y = decide (x.1 < y.1) := by
  unfold ltOf cfP cmpZ
  by_cases h1 : x.1 < y.1
  · simp [h1]
  · by_cases h2 : y.1 < x.1 <;> simp [h1, h2]
theorem swoP : SWO (ltOf cfP) where
  irrefl x := by rw [ltP]; simp
  trans x y z h1 h2 := by rw [ltP] at *; simp at *; omega
  ntrans x y z h1 h2 := by rw [ltP] at *; simp at *; omega

set_option maxHeartbeats 1000000 in
theorem order_clo (x y : Int × Int) (W : World) : Calls Tryz.prog 61 #[.agg #[.int .i64 x.1, .int .i64 x.2], .agg #[.int .i64 y.1, .int .i64 y.2]] W fun e w' => e = .returned (.int .i64 (cfP x y)) ∧ ∃ q os', w' = grow (W.drewN q) os' := by
  have hcon := fun W' => compare_any x.1 y.1 W'
  unfold cfP
  generalize cmpZ x.1 y.1 = r at hcon ⊢
  go_enter Tryz.func61, Tryz.ntmps61
  go_wp2_with (go_at_call 62; refine (hcon _).mono ?_; rintro e w' ⟨rfl, rfl⟩)
  go_ret
  exact ⟨rfl, 0, _, by rw [alloc_eq_grow, alloc_eq_grow, grow_grow]; rfl⟩

theorem flat_get (L : Array (Int × Int)) (i : Nat) (h : i < L.size) : (flatK encP 2 L)[i * 2]! = .int .i64 L[i].1 ∧ (flatK encP 2 L)[i * 2 + 1]! = .int .i64 L[i].2 := by
  rw [get_flatK _ _ _ _ (by omega), get_flatK _ _ _ _ (by omega), show i * 2 / 2 = i by omega, show (i * 2 + 1) / 2 = i by omega, show i * 2 % 2 = 0 by omega, show (i * 2 + 1) % 2 = 1 by omega, getElem!_pos L i h]
  exact ⟨rfl, rfl⟩
theorem holds_of {w : World} {g : Nat} {cur : Array Value} {L : Bands} (hg : w.heap[g]? = some (.cells cur 56)) (hc : CellsB cur L) : HoldsK encP 2 w g 0 L.toArray := by
  intro j hj
  rw [size_flatK, List.size_toArray] at hj
  have hk : j / 2 < L.length := by omega
  obtain ⟨q0, q1⟩ := flat_get L.toArray (j / 2) (by simpa using hk)
  refine ⟨?_, own_free hg _⟩
  rw [own_row hg, Nat.zero_add]
  rcases Nat.mod_two_eq_zero_or_one j with hm | hm
  · have e : j = j / 2 * 2 := by omega
    rw [e, (hc _ hk).1, q0]; rfl
  · have e : j = j / 2 * 2 + 1 := by omega
    rw [e, (hc _ hk).2, q1]; rfl
/-- what the sort leaves of the block -/
theorem sort_block {w : World} {g m : Nat} {cur : Array Value} {d : Array (Int × Int)} {os : Array Obj} (hg : w.heap[g]? = some (.cells cur 56)) : (sortWorldK encP 2 w g 0 m d os).heap[g]? = some (.cells (putCells id 0 (flatK encP 2 d) cur) 56) := by
  have hlt := own_lt hg
  unfold sortWorldK putRowK putRow
  rw [heap_grow_old _ _ (by simpa [mapBlock, Sort.ahead] using hlt)]
  unfold mapBlock
  show (w.heap.modify g _)[g]? = _
  rw [Array.getElem?_modify, if_pos rfl, hg]
  rfl
theorem sort_cells {cur : Array Value} {d : Array (Int × Int)} (hs : d.size * 2 ≤ cur.size) : (putCells id 0 (flatK encP 2 d) cur).size = cur.size ∧ CellsB (putCells id 0 (flatK encP 2 d) cur) d.toList := by
  have hg : ∀ k, k < d.size * 2 → (putCells id 0 (flatK encP 2 d) cur)[k]? = some (flatK encP 2 d)[k]! := by
    intro k hk
    unfold putCells
    rw [Array.getElem?_mapIdx, Array.getElem?_eq_getElem (by omega), Option.map_some, if_pos ⟨Nat.zero_le _, by rw [size_flatK]; omega⟩]
    rfl
  refine ⟨by simp [putCells], fun i hi => ?_⟩
  have hi' : i < d.size := by simpa using hi
  obtain ⟨q0, q1⟩ := flat_get d i hi'
  rw [hg _ (by omega), hg _ (by omega), q0, q1]
  exact ⟨rfl, rfl⟩
theorem sort_later {W w : World} {g m : Nat} {d : Array (Int × Int)} {os : Array Obj} (h : AnyLater W w) (hWg : W.heap.size ≤ g) : AnyLater W (sortWorldK encP 2 w g 0 m d os) := by
  have hb := h.below
  refine .of ⟨hb.os, hb.tape, hb.output, ?_, fun k hk => ?_⟩
  · have := hb.size
    unfold sortWorldK putRowK putRow
    rw [size_grow]
    simp only [mapBlock, Sort.ahead, Array.size_modify]
    omega
  · have hk2 : k < w.heap.size := Nat.lt_of_lt_of_le hk hb.size
    rw [← hb.block k hk]
    unfold sortWorldK putRowK putRow
    rw [heap_grow_old _ _ (by simpa [mapBlock, Sort.ahead] using hk2)]
    unfold mapBlock
    show (w.heap.modify g _)[k]? = _
    rw [Array.getElem?_modify, if_neg (by omega)]
/-- slices.SortFunc of bands that a block holds -/
theorem sort_any (g cap : Nat) (cur : Array Value) (L : Bands) (W w : World) (hW : AnyLater W w) (hWg : W.heap.size ≤ g) (hg : w.heap[g]? = some (.cells cur 56)) (hs : L.length * 2 ≤ cur.size) (hc : CellsB cur L) (hn : L.length ≤ 100000) :
    Calls Tryz.prog 60 #[.slice (some ⟨g, 0, none⟩) L.length cap, .func (.func 61) #[] #[]] w fun e w' => e = .returned (.tuple #[]) ∧ ∃ cur' L', AnyLater W w' ∧ w'.heap[g]? = some (.cells cur' 56) ∧ cur'.size = cur.size ∧ CellsB cur' L' ∧ L'.Perm L ∧ Sorted L' := by
  have eg : ∀ args w, (callFunc 61 args).run Tryz.prog w = .ok (.enter 61 args) w := enters_of Tryz.func61 (by kernel_rfl) rfl
  have hcm : CmpLays Tryz.prog 61 #[] encP 2 cfP g 0 L.toArray.size w := fun _ _ _ _ x y => order_clo x y _
  have hcon := AnyQ.slices_SortFunc sortLay 2 Tryz.isAgg56 Tryz.sizeOf56 encP (fun _ => rfl) (fun x v hv => by simp [encP] at hv; rcases hv with rfl | rfl <;> rfl) cfP swoP 61 #[] g 0 cap L.toArray w eg hcm (holds_of hg hc) (own_lt hg) (by simp; omega)
  change Calls Tryz.prog 60 _ _ _ at hcon
  rw [List.size_toArray] at hcon
  refine hcon.mono ?_
  rintro e w' ⟨rfl, d, m, os, hp, hso, rfl⟩
  obtain ⟨p1, _, p3⟩ := hp
  have p5 : d.size = L.length := by rw [p1, List.size_toArray]
  have p4 : d.extract 0 L.length = d := by rw [← p5]; simp
  rw [p4] at p3
  obtain ⟨q1, q2⟩ := sort_cells (cur := cur) (d := d) (by omega)
  refine ⟨rfl, _, d.toList, sort_later hW hWg, sort_block hg, q1, q2, by simpa using p3, fun i j hj hij => ?_⟩
  have hj' : j < d.size := by simpa using hj
  have := hso i j (Nat.zero_le _) hij (by omega)
  rw [ltP, getElem!_pos d i (by omega), getElem!_pos d j hj'] at this
  simpa using this
end Go.Proofs.YtiicaldnegcdiaaGreat
namespace Go.Proofs.YtiicaldnegcdiaaGreat
set_option linter.unusedSimpArgs false
set_option linter.unusedVariables false
set_option linter.unusedSectionVars false
open Go.RowKit

/-- what is picked of l: the bands that h makes, if they have rows -/
def pickB (h : Int × Int → Int × Int) (l : Bands) : Bands := (l.map fun b => h (edgeB b)).filter fun c => decide (c.1 < c.2)
theorem pickB_nil (h : Int × Int → Int × Int) : pickB h [] = [] := rfl
theorem pickB_take {h : Int × Int → Int × Int} {l : Bands} {j : Nat} (hj : j < l.length) : pickB h (l.take (j + 1)) = pickB h (l.take j) ++ (if (h (edgeB l[j])).1 < (h (edgeB l[j])).2 then [h (edgeB l[j])] else []) := by
  unfold pickB
  rw [List.take_succ_eq_append_getElem hj, List.map_append, List.filter_append]
  congr 1
  rw [List.map_cons, List.map_nil, List.filter_cons, List.filter_nil]
  split <;> split <;> simp_all
theorem pickB_len (h : Int × Int → Int × Int) (l : Bands) : (pickB h l).length ≤ l.length := by
  unfold pickB
  exact Nat.le_trans (List.length_filter_le _ _) (by rw [List.length_map]; exact Nat.le_refl _)
theorem pickB_full {h : Int × Int → Int × Int} (hin : ∀ b, -1073741824 ≤ (h (edgeB b)).1 ∧ (h (edgeB b)).2 ≤ 1073741824) (l : Bands) : Full (pickB h l) := by
  intro c hc
  obtain ⟨h1, h2⟩ := List.mem_filter.1 hc
  obtain ⟨b, _, rfl⟩ := List.mem_map.1 h1
  have := hin b
  have := of_decide_eq_true h2
  omega
theorem pickB_rows {h : Int × Int → Int × Int} (hin : ∀ b, -1073741824 ≤ (h (edgeB b)).1 ∧ (h (edgeB b)).2 ≤ 1073741824) (l : Bands) (y : Int) : inB (pickB h l) y = l.any fun b => decide ((h (edgeB b)).1 ≤ y ∧ y < (h (edgeB b)).2) := by
  rw [inB_full (pickB_full hin l), Bool.eq_iff_iff, List.any_eq_true, List.any_eq_true]
  constructor
  · rintro ⟨c, hc, hy⟩
    obtain ⟨h1, h2⟩ := List.mem_filter.1 hc
    obtain ⟨b, hb, rfl⟩ := List.mem_map.1 h1
    exact ⟨b, hb, hy⟩
  · rintro ⟨b, hb, hy⟩
    have := of_decide_eq_true hy
    exact ⟨_, List.mem_filter.2 ⟨List.mem_map.2 ⟨b, hb, rfl⟩, decide_eq_true (by omega)⟩, hy⟩
theorem perm_inB {A B : Bands} (h : A.Perm B) (y : Int) : inB A y = inB B y := by
  unfold inB
  rw [Bool.eq_iff_iff, List.any_eq_true, List.any_eq_true]
  exact ⟨fun ⟨b, hb, hy⟩ => ⟨b, h.mem_iff.1 hb, hy⟩, fun ⟨b, hb, hy⟩ => ⟨b, h.mem_iff.2 hb, hy⟩⟩

set_option maxRecDepth 100000 in
theorem merged_nil (w : World) : Calls Tryz.prog 63 #[.slice none 0 0] w fun e w' => e = .returned (.slice none 0 0) ∧ w = w' := by
  go_enter Tryz.func63, Tryz.ntmps63
  go_wp2_with fail
  refine wp_loop_rounds 1 ?_
  rw [rounds_succ]
  go_wp2_with fail
  go_ret
  exact ⟨rfl, rfl⟩

/-- sorted, then made one -/
def Merged (W : World) (K : Bands) (e : Ending) (w' : World) : Prop := ∃ v T, e = .returned v ∧ AnyLater W w' ∧ OB w' W.heap.size v T ∧ GoodL T ∧ ∀ y, inB T y = inB K y
/-- a closure that answers with what h makes of a band -/
def Makes (w : World) (gc : Nat) (cb : Array Value) (h : Int × Int → Int × Int) : Prop := ∀ (b1 b2 : Int), (-1073741824 ≤ b1 ∧ b1 ≤ 1073741824 ∧ -1073741824 ≤ b2 ∧ b2 ≤ 1073741824) → ∀ w', AnyLater w w' →
  Calls Tryz.prog gc (#[.agg #[.int .i64 b1, .int .i64 b2]] ++ cb) w' fun e w'' => e = .returned (.agg #[.int .i64 (h (b1, b2)).1, .int .i64 (h (b1, b2)).2]) ∧ AnyLater w' w''

set_option maxRecDepth 100000 in
set_option maxHeartbeats 3200000 in
theorem changed_some (b off n cap gc : Nat) (cb : Array Value) (h : Int × Int → Int × Int) (l : Bands) (w : World) (hl : l.length = n) (h0 : 0 < n) (hn : n ≤ 100000) (hb : b < w.heap.size) (hc : ∀ (j : Nat) (h : j < l.length), w.cell? ⟨b, off + j * 2, none⟩ = some (.int .i64 l[j].1) ∧ w.cell? ⟨b, off + j * 2 + 1, none⟩ = some (.int .i64 l[j].2))
    (hin : ∀ b, -1073741824 ≤ (h (edgeB b)).1 ∧ (h (edgeB b)).2 ≤ 1073741824) (hcf : ∀ args w, (callFunc gc args).run Tryz.prog w = .ok (.enter gc args) w) (hdo : Makes w gc cb h) :
    Calls Tryz.prog 40 #[.slice (some ⟨b, off, none⟩) n cap, .func (.func gc) #[] cb] w (Merged w (pickB h l)) := by
  obtain ⟨i0, hi0, hz0, hz1, hz2⟩ := info_parts info_band
  have HL := Lib.hid hl
  have HC := Lib.hid hc
  have HI := Lib.hid hin
  have HD := Lib.hid hdo
  clear hl hc hin hdo
  go_enter Tryz.func40, Tryz.ntmps40
  go_wp2_with fail
  go_loopg [5, 11] n (fun k v i wr => ∃ j : Nat, k = n - j ∧ j ≤ n ∧ i = .int .i64 j ∧ AnyLater w wr ∧ OB wr w.heap.size v (pickB h (l.take j)))
  case atStart => exact ⟨0, by omega, by omega, rfl, AnyLater.refl w, ⟨rfl, .inl ⟨rfl, rfl⟩⟩⟩
  case round =>
    obtain ⟨j, hk, hj, rfl, a_wr, ho⟩ := hrel
    have HO := Lib.hid ho
    clear ho
    by_cases hlt : j < n
    · have lj : j < l.length := by rw [HL.out]; exact hlt
      have c0 : wr.cell? ⟨b, off + j * 2, none⟩ = some (.int .i64 l[j].1) := (a_wr.below.cell hb).trans (HC.out j lj).1
      have c1 : wr.cell? ⟨b, off + j * 2 + 1, none⟩ = some (.int .i64 l[j].2) := (a_wr.below.cell hb).trans (HC.out j lj).2
      have HT := Lib.hid (pickB_take (h := h) lj)
      have HLen : Hid ((pickB h (l.take j)).length ≤ 100000) := Lib.hid (by have := pickB_len h (l.take j); rw [List.length_take] at this; omega)
      generalize l[j] = x at *
      obtain ⟨f, t⟩ := x
      simp only at c0 c1
      obtain ⟨r1, hr1⟩ : ∃ r, clZ f (-1073741824) 1073741824 = r := ⟨_, rfl⟩
      obtain ⟨r2, hr2⟩ : ∃ r, clZ t (-1073741824) 1073741824 = r := ⟨_, rfl⟩
      have he : edgeB (f, t) = (r1, r2) := by unfold edgeB clB; rw [hr1, hr2]
      have hri := edge_in (f, t)
      rw [he] at hri HT
      have HR := Lib.hid (And.intro hr1 (And.intro hr2 hri))
      obtain ⟨y1, hy1⟩ : ∃ r, (h (r1, r2)).1 = r := ⟨_, rfl⟩
      obtain ⟨y2, hy2⟩ : ∃ r, (h (r1, r2)).2 = r := ⟨_, rfl⟩
      have hy : h (r1, r2) = (y1, y2) := Prod.ext hy1 hy2
      rw [hy] at HT
      have HY := Lib.hid hy
      clear hr1 hr2 he hri hy1 hy2 hy
      go_wp2_with fail
      first | refine settle_wp (fun wS => AnyLater wr wS ∧ wS.heap[wr.heap.size]? = some (.cells #[.int .i64 f, .int .i64 t] 56)) ?_ ?_ | refine settle_calls (fun wS => AnyLater wr wS ∧ wS.heap[wr.heap.size]? = some (.cells #[.int .i64 f, .int .i64 t] 56)) ?_ ?_
      · refine ⟨?_, ?_⟩
        · repeat' (first | with_reducible assumption | with_reducible exact AnyLater.refl _ | with_reducible apply AnyLater.setCell | with_reducible apply AnyLater.later | with_reducible apply AnyLater.drewN | with_reducible apply AnyLater.drew | with_reducible apply AnyLater.alloc | ((try simp only [World.size_alloc, World.size_setCell, World.size_drew]); (try dsimp only); omega))
        · ((repeat (first | with_reducible assumption | ((with_reducible apply heap_new); (try simp only [World.size_alloc, World.size_setCell, World.size_drew, World.heap_drewN]); done) | ((with_reducible apply heap_new); (try simp only [World.size_alloc, World.size_setCell, World.size_drew, World.heap_drewN]); omega) | (with_reducible refine heap_old (by (try simp only [World.size_alloc, World.size_setCell, World.size_drew, World.heap_drewN]); omega) ?_) | (with_reducible refine heap_drew ?_) | (with_reducible refine heap_far (by omega) ?_) | (with_reducible apply heap_at))); all_goals rfl)
      rintro w1 ⟨b_w1, s0_w1⟩
      have a_w1 := a_wr.trans b_w1
      have r0_w1 := own_row s0_w1
      have f0_w1 := own_free s0_w1
      have l0_w1 := own_lt s0_w1
      have z_w1 := b_w1.below.size
      refine (within_any f t _ _ r1 r2 w1 HR.out.1 HR.out.2.1).mono ?_
      rintro e w2 ⟨rfl, b_w2⟩
      have z_w2 := b_w2.below.size
      have a_w2 := a_w1.trans b_w2
      have s0_w2 := any_own b_w2 s0_w1
      have r0_w2 := own_row s0_w2
      have f0_w2 := own_free s0_w2
      have l0_w2 := own_lt s0_w2
      (try clear r0_w1); (try clear f0_w1)
      go_wp2_with fail
      have HD2 := Lib.hid (HD.out r1 r2 HR.out.2.2 w2 a_w2)
      rw [HY.out] at HD2
      refine (HD2.out).mono ?_
      rintro e w3 ⟨rfl, b_w3⟩
      have z_w3 := b_w3.below.size
      have a_w3 := a_w2.trans b_w3
      have s0_w3 := any_own b_w3 s0_w2
      have r0_w3 := own_row s0_w3
      have f0_w3 := own_free s0_w3
      have l0_w3 := own_lt s0_w3
      (try clear r0_w2); (try clear f0_w2)
      go_wp2_with fail
      first | refine settle_wp (fun wS => AnyLater w3 wS ∧ wS.heap[w3.heap.size]? = some (.cells #[.int .i64 y1, .int .i64 y2] 56)) ?_ ?_ | refine settle_calls (fun wS => AnyLater w3 wS ∧ wS.heap[w3.heap.size]? = some (.cells #[.int .i64 y1, .int .i64 y2] 56)) ?_ ?_
      · refine ⟨?_, ?_⟩
        · repeat' (first | with_reducible assumption | with_reducible exact AnyLater.refl _ | with_reducible apply AnyLater.setCell | with_reducible apply AnyLater.later | with_reducible apply AnyLater.drewN | with_reducible apply AnyLater.drew | with_reducible apply AnyLater.alloc | ((try simp only [World.size_alloc, World.size_setCell, World.size_drew]); (try dsimp only); omega))
        · ((repeat (first | with_reducible assumption | ((with_reducible apply heap_new); (try simp only [World.size_alloc, World.size_setCell, World.size_drew, World.heap_drewN]); done) | ((with_reducible apply heap_new); (try simp only [World.size_alloc, World.size_setCell, World.size_drew, World.heap_drewN]); omega) | (with_reducible refine heap_old (by (try simp only [World.size_alloc, World.size_setCell, World.size_drew, World.heap_drewN]); omega) ?_) | (with_reducible refine heap_drew ?_) | (with_reducible refine heap_far (by omega) ?_) | (with_reducible apply heap_at))); all_goals rfl)
      rintro w4 ⟨b_w4, s1_w4⟩
      have a_w4 := a_w3.trans b_w4
      have s0_w4 := any_own b_w4 s0_w3
      have r0_w4 := own_row s0_w4
      have f0_w4 := own_free s0_w4
      have l0_w4 := own_lt s0_w4
      (try clear r0_w3); (try clear f0_w3)
      have r1_w4 := own_row s1_w4
      have f1_w4 := own_free s1_w4
      have l1_w4 := own_lt s1_w4
      have z_w4 := b_w4.below.size
      by_cases hf : y1 < y2
      · have hf1 : decide (y1 < y2) = true := decide_eq_true hf
        refine (filled_any y1 y2 w4 true hf1).mono ?_
        rintro e w5 ⟨rfl, b_w5⟩
        have z_w5 := b_w5.below.size
        have a_w5 := a_w4.trans b_w5
        have s0_w5 := any_own b_w5 s0_w4
        have s1_w5 := any_own b_w5 s1_w4
        have r0_w5 := own_row s0_w5
        have f0_w5 := own_free s0_w5
        have l0_w5 := own_lt s0_w5
        have r1_w5 := own_row s1_w5
        have f1_w5 := own_free s1_w5
        have l1_w5 := own_lt s1_w5
        (try clear r0_w4); (try clear f0_w4)
        (try clear r1_w4); (try clear f1_w4)
        have HO5 := Lib.hid ((HO.out.later ((b_w1.trans b_w2).trans (b_w3.trans (b_w4.trans b_w5)))).later ((AnyLater.refl w5).alloc (.cells #[.int .i64 y1, .int .i64 y2] 56)))
        have HN1 := Lib.hid (World.news_of_block (w := w5.alloc (.cells #[.int .i64 y1, .int .i64 y2] 56)) (cs := #[.int .i64 y1, .int .i64 y2]) (t := 56) (fr := (0, 0)) (heap_new rfl))
        have HB : Hid ((pickB h (l.take j)).length + 1 ≤ maxLen ∧ ((pickB h (l.take j)).length + 1) * 16 ≤ 140737488355328 ∧ w.heap.size ≤ (w5.alloc (.cells #[.int .i64 y1, .int .i64 y2] 56)).heap.size) := Lib.hid ⟨by have := HLen.out; unfold maxLen; omega, by have := HLen.out; omega, (a_w5.alloc _).below.size⟩
        have HS : Hid (pickB h (l.take (j + 1)) = pickB h (l.take j) ++ [(y1, y2)]) := Lib.hid (by rw [HT.out, if_pos hf])
        have HAL := Lib.hid (And.intro (a_w5.alloc (.cells #[.int .i64 y1, .int .i64 y2] 56)) (owns_base HO.out))
        clear HT hf hf1
        go_wp2_with (at_builtin; refine wpList_append_own _ rfl _ _ 34 rfl w.heap.size 56 i0 (.agg #[.int .i64 0, .int .i64 0]) 2 16 Tryz.underlying34 hi0 hz0 hz1 hz2 rfl (by decide) _ (pickB h (l.take j)).length (flatB (pickB h (l.take j))) rfl HO5.out ⟨w5.heap.size, 0, none⟩ 1 1 [.int .i64 y1, .int .i64 y2] rfl rfl HN1.out (by simp [Value.oneCell']) HB.out.1 HB.out.2.1 HB.out.2.2 ?_; intro v' w6 hown1 hgrow hnil; have S : Hid (AnyLater w w6 ∧ OB w6 w.heap.size v' (pickB h (l.take (j + 1)))) := Lib.hid ⟨grown_later HAL.out.1 hgrow HAL.out.2, by rw [HS.out]; unfold OB; rw [List.length_append, flatB_append]; exact hown1⟩; clear hown1 hgrow hnil)
        go_roundg (n - (j + 1))
        case measure => omega
        case rel => exact ⟨j + 1, rfl, hlt, by go_num, S.out⟩
      · have hf1 : decide (y1 < y2) = false := decide_eq_false hf
        refine (filled_any y1 y2 w4 false hf1).mono ?_
        rintro e w5 ⟨rfl, b_w5⟩
        have z_w5 := b_w5.below.size
        have a_w5 := a_w4.trans b_w5
        have s0_w5 := any_own b_w5 s0_w4
        have s1_w5 := any_own b_w5 s1_w4
        have r0_w5 := own_row s0_w5
        have f0_w5 := own_free s0_w5
        have l0_w5 := own_lt s0_w5
        have r1_w5 := own_row s1_w5
        have f1_w5 := own_free s1_w5
        have l1_w5 := own_lt s1_w5
        (try clear r0_w4); (try clear f0_w4)
        (try clear r1_w4); (try clear f1_w4)
        have HS : Hid (pickB h (l.take (j + 1)) = pickB h (l.take j)) := Lib.hid (by rw [HT.out, if_neg hf, List.append_nil])
        have HO5 := Lib.hid (HO.out.later ((b_w1.trans b_w2).trans (b_w3.trans (b_w4.trans b_w5))))
        clear HT hf hf1
        go_wp2_with fail
        go_roundg (n - (j + 1))
        case measure => omega
        case rel => exact ⟨j + 1, rfl, hlt, by go_num, a_w5, by rw [HS.out]; exact HO5.out⟩
    · obtain rfl : j = n := by omega
      have ho := HO.out
      have ht : l.take j = l := List.take_of_length_le (Nat.le_of_eq HL.out)
      rw [ht] at ho
      have HF := Lib.hid (And.intro (pickB_full HI.out l) (pickB_len h l))
      generalize pickB h l = K at *
      clear HO ht
      rcases ho.2 with ⟨rfl, hk0⟩ | ⟨gb, cap2, cur, rfl, q1, q2, q3, q4, q5, q6⟩
      · have HK : Hid (K = []) := Lib.hid (List.eq_nil_of_length_eq_zero hk0)
        clear ho
        go_wp2_with fail
        refine (AnyF.slices_SortFunc_none sortLay none 0 _ wr).mono ?_
        rintro e w' ⟨rfl, rfl⟩
        go_wp2_with fail
        refine (merged_nil _).mono ?_
        rintro e w' ⟨rfl, rfl⟩
        go_wp2_with fail
        go_ret
        exact ⟨_, [], rfl, a_wr, ⟨rfl, .inl ⟨rfl, rfl⟩⟩, GoodL.nil, fun y => by rw [HK.out]⟩
      · have HQ := Lib.hid (And.intro q1 (And.intro q4 q5))
        have hcu := CellsB.of_take q6
        have hle : K.length ≤ 100000 := by have := HF.out.2; have := HL.out; omega
        have HS := Lib.hid (sort_any gb cap2 cur K w wr a_wr q1 q2 (by rw [q5]; omega) hcu hle)
        clear ho q1 q2 q4 q5 q6 hcu
        go_wp2_with fail
        refine HS.out.mono ?_
        rintro e w1 ⟨rfl, cur1, L, a_w1, s0_w1, k1, k2, k3, k4⟩
        have HK := Lib.hid (And.intro k1 (And.intro k2 (And.intro k3 k4)))
        have HP : Hid (L.length = K.length) := Lib.hid k3.length_eq
        clear k1 k2 k3 k4 HS
        go_wp2_with fail
        refine (merged_block gb K.length cap2 cur1 L w w1 a_w1 HQ.out.1 s0_w1 HP.out hle q3 HQ.out.2.1 (by rw [HK.out.1, HQ.out.2.2]) HK.out.2.1 (fun c hc => HF.out.1 c (HK.out.2.2.1.mem_iff.1 hc)) HK.out.2.2.2).mono ?_
        rintro e w2 ⟨v, T, rfl, a_w2, o2, g2, r2⟩
        have HE := Lib.hid (And.intro o2 (And.intro g2 r2))
        clear o2 g2 r2
        go_wp2_with fail
        go_ret
        exact ⟨_, T, rfl, a_w2, HE.out.1, HE.out.2.1, fun y => (HE.out.2.2 y).trans (perm_inB HK.out.2.2.1 y)⟩
end Go.Proofs.YtiicaldnegcdiaaGreat
namespace Go.Proofs.YtiicaldnegcdiaaGreat
set_option linter.unusedSimpArgs false
set_option linter.unusedVariables false
set_option linter.unusedSectionVars false
open Go.RowKit

set_option maxRecDepth 100000 in
set_option maxHeartbeats 1600000 in
theorem changed_none (A : Option Addr) (cap gc : Nat) (cb : Array Value) (w : World) :
    Calls Tryz.prog 40 #[.slice A 0 cap, .func (.func gc) #[] cb] w (Merged w []) := by
  go_enter Tryz.func40, Tryz.ntmps40
  go_wp2_with fail
  refine wp_loop_rounds 1 ?_
  rw [rounds_succ]
  go_wp2_with fail
  refine (AnyF.slices_SortFunc_none sortLay none 0 _ w).mono ?_
  rintro e w' ⟨rfl, rfl⟩
  go_wp2_with fail
  refine (merged_nil _).mono ?_
  rintro e w' ⟨rfl, rfl⟩
  go_wp2_with fail
  go_ret
  exact ⟨_, [], rfl, AnyLater.refl _, ⟨rfl, .inl ⟨rfl, rfl⟩⟩, GoodL.nil, fun y => rfl⟩
theorem changed_any (v : Value) (gc : Nat) (cb : Array Value) (h : Int × Int → Int × Int) (l : Bands) (w : World) (hr : RB w v l) (hn : l.length ≤ 100000)
    (hin : ∀ b, -1073741824 ≤ (h (edgeB b)).1 ∧ (h (edgeB b)).2 ≤ 1073741824) (hcf : ∀ args w, (callFunc gc args).run Tryz.prog w = .ok (.enter gc args) w) (hdo : Makes w gc cb h) :
    Calls Tryz.prog 40 #[v, .func (.func gc) #[] cb] w (Merged w (pickB h l)) := by
  obtain ⟨A, cap, rfl, h2, h3⟩ := hr
  rcases Nat.eq_zero_or_pos l.length with h0 | h0
  · obtain rfl := List.eq_nil_of_length_eq_zero h0
    exact changed_none A cap gc cb w
  · obtain ⟨b, off, rfl, hb, hc⟩ := h3 h0
    exact changed_some b off _ cap gc cb h l w rfl h0 hn hb hc hin hcf hdo

/-! ### Tidy -/
theorem tidy_makes (w : World) : Makes w 41 #[] id := fun b1 b2 _ w' _ => same_clo b1 b2 w'
theorem tidy_any (v : Value) (l : Bands) (w : World) (hr : RB w v l) (hn : l.length ≤ 100000) : Calls Tryz.prog 25 #[v] w (Told w (inB l)) := by
  have hcf : ∀ args w, (callFunc 41 args).run Tryz.prog w = .ok (.enter 41 args) w := enters_of Tryz.func41 (by kernel_rfl) rfl
  have hin : ∀ b, -1073741824 ≤ (id (edgeB b)).1 ∧ (id (edgeB b)).2 ≤ 1073741824 := fun b => by have := edge_in b; exact ⟨this.1, this.2.2.2⟩
  have hq : ∀ y, inB (pickB id l) y = inB l y := fun y => by
    rw [pickB_rows hin]
    unfold inB
    congr 1
    funext b
    rw [decide_eq_decide]
    exact edge_rows b y
  have H := Lib.hid (changed_any v _ #[] id l w hr hn hin hcf (tidy_makes w))
  have HQ := Lib.hid hq
  clear hr hin hcf hq
  go_enter Tryz.func25, Tryz.ntmps25
  go_wp2_with fail
  refine H.out.mono ?_
  rintro e w1 ⟨v1, T, rfl, a_w1, o1, g1, r1⟩
  have HE := Lib.hid (And.intro o1.reads (And.intro g1 r1))
  clear o1 g1 r1
  go_wp2_with fail
  go_ret
  exact ⟨_, T, rfl, a_w1, HE.out.1, HE.out.2.1, fun y => (HE.out.2.2 y).trans (HQ.out y)⟩
theorem told_len {T l : Bands} (hg : GoodL T) (hr : ∀ y, inB T y = inB l y) (hn : l.length ≤ 5000) : T.length ≤ 5001 := by have := len_one hg hr; omega

/-! ### Height -/
set_option maxRecDepth 100000 in
set_option maxHeartbeats 1600000 in
theorem height_any (v : Value) (l T : Bands) (w : World) (hr : RB w v l) (hn : l.length ≤ 5000) (hT : GoodL T) (hy : ∀ y, inB T y = inB l y) :
    Calls Tryz.prog 15 #[v] w fun e w' => e = .returned (.int .i64 (heightL T)) ∧ AnyLater w w' := by
  have H := Lib.hid (tidy_any v l w hr (by omega))
  have HT := Lib.hid (And.intro hT (And.intro hy (told_len hT hy hn)))
  clear hr hn hT hy
  go_enter Tryz.func15, Tryz.ntmps15
  go_wp2_with fail
  refine H.out.mono ?_
  rintro e w1 ⟨v1, T1, rfl, a_w1, hr, hg, hy⟩
  obtain rfl : T1 = T := good_unique hg HT.out.1 (fun y => (hy y).trans (HT.out.2.1 y).symm)
  obtain ⟨A, cap, rfl, h2, h3⟩ := hr
  clear hy hg H h2
  rcases Nat.eq_zero_or_pos T1.length with h0 | h0
  · obtain rfl := List.eq_nil_of_length_eq_zero h0
    clear h3 h0
    simp only [List.length_nil]
    go_wp2_with fail
    refine wp_loop_rounds 1 ?_
    rw [rounds_succ]
    go_wp2_with fail
    go_ret
    exact ⟨rfl, a_w1⟩
  · obtain ⟨b, off, rfl, hb, hc⟩ := h3 h0
    have HC := Lib.hid hc
    obtain ⟨n, hn⟩ : ∃ n, T1.length = n := ⟨_, rfl⟩
    have HN := Lib.hid hn
    have kn : n ≤ 5001 := by rw [← hn]; exact HT.out.2.2
    rw [hn]
    clear hc h3 h0 hn
    go_wp2_with fail
    go_loopg [3, 9] n (fun k v i wr => ∃ j : Nat, k = n - j ∧ j ≤ n ∧ i = .int .i64 j ∧ v = .int .i64 (sumB (T1.take j)) ∧ AnyLater w1 wr)
    case atStart => exact ⟨0, by omega, by omega, rfl, rfl, AnyLater.refl _⟩
    case round =>
      obtain ⟨j, hk, hj, rfl, rfl, a_wr⟩ := hrel
      by_cases hlt : j < n
      · have lj : j < T1.length := by rw [HN.out]; exact hlt
        have c0 : wr.cell? ⟨b, off + j * 2, none⟩ = some (.int .i64 T1[j].1) := (a_wr.below.cell hb).trans (HC.out j lj).1
        have c1 : wr.cell? ⟨b, off + j * 2 + 1, none⟩ = some (.int .i64 T1[j].2) := (a_wr.below.cell hb).trans (HC.out j lj).2
        have hs := sumB_in HT.out.1 j (by omega)
        have hs2 := Lib.hid (sumB_take lj)
        have hb2 := HT.out.1.1 _ (List.getElem_mem lj)
        have HAW := Lib.hid (a_w1.trans a_wr)
        generalize T1[j] = x at *
        generalize sumB (T1.take j) = s at *
        obtain ⟨f, t⟩ := x
        simp only at c0 c1 hb2
        obtain ⟨b1, b2, b3⟩ := hb2
        obtain ⟨s1, s2⟩ := hs
        have s3 : s ≤ 20000000000000 := by omega
        clear s2
        go_wp2_with fail
        go_roundg (n - (j + 1))
        case measure => omega
        case rel => exact ⟨j + 1, rfl, hlt, by go_num, by rw [hs2.out], by repeat' (first | with_reducible assumption | with_reducible exact AnyLater.refl _ | with_reducible apply AnyLater.setCell | with_reducible apply AnyLater.later | with_reducible apply AnyLater.drewN | with_reducible apply AnyLater.drew | with_reducible apply AnyLater.alloc | ((try simp only [World.size_alloc, World.size_setCell, World.size_drew]); (try dsimp only); omega))⟩
      · obtain rfl : j = n := by omega
        have HE : Hid (sumB (T1.take j) = heightL T1) := Lib.hid (by rw [List.take_of_length_le (Nat.le_of_eq HN.out)]; rfl)
        go_wp2_with fail
        go_ret
        exact ⟨ret_int HE.out, a_w1.trans a_wr⟩

/-! ### append of bands -/
/-- append(x, y...) at bands, x a row of the call's own -/
theorem run_append_bands {w : World} {B : Nat} {v v2 : Value} {l l2 : Bands} (ty : TypeId) (hB : B ≤ w.heap.size) (ho : OB w B v l) (hr : RB w v2 l2) (hn : l.length + l2.length ≤ 200000) :
    ∃ v' w', (Builtin.append_ #[34, 34] ty #[v, v2]).run Tryz.prog w = .ok v' w' ∧ OB w' B v' (l ++ l2) ∧ ∀ W, AnyLater W w → W.heap.size ≤ B → AnyLater W w' := by
  obtain ⟨i0, hi0, hz0, hz1, hz2⟩ := info_parts info_band
  obtain ⟨A, cap, rfl, h2, h3⟩ := hr
  rcases Nat.eq_zero_or_pos l2.length with h0 | h0
  · obtain rfl := List.eq_nil_of_length_eq_zero h0
    cases A with
    | none =>
      have hs := Src.ofNil (P := Tryz.prog) w (size := i0.size) Tryz.underlying34 cap
      obtain ⟨a0, c0, hv, hle⟩ : ∃ a0 c0, v = .slice a0 l.length c0 ∧ l.length ≤ c0 := by
        rcases ho.2 with ⟨rfl, hk⟩ | ⟨g, c, cur, rfl, _, _, q, _⟩
        · exact ⟨none, 0, by rw [hk], by omega⟩
        · exact ⟨_, c, rfl, q⟩
      refine ⟨v, w, ?_, by rw [List.append_nil]; exact ho, fun W h _ => h⟩
      subst hv
      exact run_append_nothing (P := Tryz.prog) w 34 34 ty 56 i0 Tryz.underlying34 hi0 a0 _ c0 hle _ hs
    | some ad =>
      obtain ⟨v', w', k1, k2, k3, _⟩ := run_append_own (P := Tryz.prog) w B 34 ty 56 i0 (.agg #[.int .i64 0, .int .i64 0]) 2 16 Tryz.underlying34 hi0 hz0 hz1 hz2 rfl (by decide) v l.length (flatB l) ho ad 0 cap [] rfl (by simp) (by simp) (by unfold maxLen; simp at hn; omega) (by simp at hn; omega) hB
      exact ⟨v', w', k1, by unfold OB; rw [List.append_nil]; simpa using k2, fun W h hW => grown_later h k3 (fun k hk => Nat.le_trans hW (owns_base ho k hk))⟩
  · obtain ⟨b, off, rfl, hb, hc⟩ := h3 h0
    obtain ⟨v', w', k1, k2, k3, _⟩ := run_append_own (P := Tryz.prog) w B 34 ty 56 i0 (.agg #[.int .i64 0, .int .i64 0]) 2 16 Tryz.underlying34 hi0 hz0 hz1 hz2 rfl (by decide) v l.length (flatB l) ho ⟨b, off, none⟩ l2.length cap (flatB l2) (flatB_length l2) (RB.cells (AnyLater.refl w) (fun _ => hb) hc) (flatB_one l2) (by unfold maxLen; omega) (by omega) hB
    exact ⟨v', w', k1, by unfold OB; rw [List.length_append, flatB_append]; exact k2, fun W h hW => grown_later h k3 (fun k hk => Nat.le_trans hW (owns_base ho k hk))⟩
end Go.Proofs.YtiicaldnegcdiaaGreat
namespace Go.Proofs.YtiicaldnegcdiaaGreat
set_option linter.unusedSimpArgs false
set_option linter.unusedVariables false
set_option linter.unusedSectionVars false
open Go.RowKit

/-! ### Grow and Concat -/
/-! ### Join -/
/-! ### gaps -/
theorem gapsB_drop {T : Bands} {j : Nat} (hj : j < T.length) (f : Int) : gapsB f (T.drop j) = (f, T[j].1) :: gapsB T[j].2 (T.drop (j + 1)) := by
  rw [List.drop_eq_getElem_cons hj, gapsB]
theorem owns_lt {w : World} {B : Nat} {v : Value} {l : Bands} (o : OB w B v l) {k : Nat} (h : w.heap.size ≤ k) : v.ownBlock ≠ some k := by
  rcases o.2 with ⟨rfl, _⟩ | ⟨g, cap, cur, rfl, h2, h3, _⟩
  · intro e; cases e
  · intro e
    obtain rfl : g = k := by simpa [Value.ownBlock] using e
    have := own_lt h3
    omega
set_option maxRecDepth 100000 in
set_option maxHeartbeats 3200000 in
theorem gaps_any (v : Value) (l : Bands) (w : World) (hr : RB w v l) (hn : l.length ≤ 5000) :
    Calls Tryz.prog 45 #[v] w fun e w' => ∃ v' T, e = .returned v' ∧ AnyLater w w' ∧ RB w' v' (gapsB (-1073741824) T) ∧ GoodL T ∧ ∀ y, inB T y = inB l y := by
  obtain ⟨i0, hi0, hz0, hz1, hz2⟩ := info_parts info_band
  have H := Lib.hid (tidy_any v l w hr (by omega))
  have HN0 := Lib.hid hn
  clear hr hn
  go_enter Tryz.func45, Tryz.ntmps45
  go_wp2_with fail
  refine H.out.mono ?_
  rintro e w1 ⟨v1, T, rfl, a_w1, hr, hg, hy⟩
  have HT := Lib.hid (And.intro hg (And.intro hy (told_len hg hy HN0.out)))
  obtain ⟨A, cap, rfl, h2, h3⟩ := hr
  obtain ⟨n, hn⟩ : ∃ n, T.length = n := ⟨_, rfl⟩
  have HN := Lib.hid hn
  have kn : n ≤ 5001 := by rw [← hn]; exact HT.out.2.2
  have H3 := Lib.hid h3
  rw [hn]
  clear hy hg H h2 h3 hn
  go_wp2_with fail
  go_loopg [3, 4, 10] n (fun k v fr i wr => ∃ (j : Nat) (f : Int) (K : Bands), k = n - j ∧ j ≤ n ∧ i = .int .i64 j ∧ fr = .int .i64 f ∧ AnyLater w1 wr ∧ OB wr w1.heap.size v K ∧ K.length = j ∧ K ++ gapsB f (T.drop j) = gapsB (-1073741824) T)
  case atStart => exact ⟨0, -1073741824, [], by omega, by omega, rfl, rfl, AnyLater.refl _, ⟨rfl, .inl ⟨rfl, rfl⟩⟩, rfl, rfl⟩
  case round =>
    obtain ⟨j, fr, K, hk, hj, rfl, rfl, b_wr, ho, hKl, hK⟩ := hrel
    by_cases hlt : j < n
    · have lj : j < T.length := by rw [HN.out]; exact hlt
      obtain ⟨b, off, rfl, hb, hc⟩ := H3.out (by omega)
      have c0 : wr.cell? ⟨b, off + j * 2, none⟩ = some (.int .i64 T[j].1) := (b_wr.below.cell hb).trans (hc j lj).1
      have c1 : wr.cell? ⟨b, off + j * 2 + 1, none⟩ = some (.int .i64 T[j].2) := (b_wr.below.cell hb).trans (hc j lj).2
      have hd := gapsB_drop lj fr
      rw [hd] at hK
      clear hd hc
      generalize T[j] = x at *
      obtain ⟨f, t⟩ := x
      simp only at c0 c1 hK
      have HK : Hid ((K ++ [(fr, f)]).length = j + 1 ∧ (K ++ [(fr, f)]) ++ gapsB t (T.drop (j + 1)) = gapsB (-1073741824) T) := Lib.hid ⟨by rw [List.length_append, hKl]; rfl, by rw [← hK, List.append_assoc]; rfl⟩
      have HAL := Lib.hid (And.intro ((b_wr.alloc (.cells #[.int .i64 f, .int .i64 t] 56)).alloc (.cells #[.int .i64 fr, .int .i64 f] 56)) (owns_base ho))
      have HNE := Lib.hid (owns_lt ho (Nat.le_refl _))
      have HO := Lib.hid (ho.later (((AnyLater.refl wr).alloc (.cells #[.int .i64 f, .int .i64 t] 56)).alloc (.cells #[.int .i64 fr, .int .i64 f] 56)))
      have HN1 := Lib.hid (World.news_of_block (B := wr.heap.size + 1) (w := (wr.alloc (.cells #[.int .i64 f, .int .i64 t] 56)).alloc (.cells #[.int .i64 fr, .int .i64 f] 56)) (cs := #[.int .i64 fr, .int .i64 f]) (t := 56) (fr := (0, 0)) (heap_new (by simp)))
      have HBX : Hid (((wr.alloc (.cells #[.int .i64 f, .int .i64 t] 56)).alloc (.cells #[.int .i64 fr, .int .i64 f] 56)).heap[wr.heap.size]? = some (.cells #[.int .i64 f, .int .i64 t] 56)) := Lib.hid (heap_old (by simp) (heap_new rfl))
      have HB : Hid (K.length + 1 ≤ maxLen ∧ (K.length + 1) * 16 ≤ 140737488355328 ∧ w1.heap.size ≤ ((wr.alloc (.cells #[.int .i64 f, .int .i64 t] 56)).alloc (.cells #[.int .i64 fr, .int .i64 f] 56)).heap.size) := Lib.hid ⟨by unfold maxLen; omega, by omega, HAL.out.1.below.size⟩
      clear hK hKl ho
      go_wp2_with (at_builtin; refine wpList_append_own _ rfl _ _ 34 rfl w1.heap.size 56 i0 (.agg #[.int .i64 0, .int .i64 0]) 2 16 Tryz.underlying34 hi0 hz0 hz1 hz2 rfl (by decide) _ K.length (flatB K) rfl HO.out ⟨wr.heap.size + 1, 0, none⟩ 1 1 [.int .i64 fr, .int .i64 f] rfl rfl HN1.out (by simp [Value.oneCell']) HB.out.1 HB.out.2.1 HB.out.2.2 ?_; intro v' w6 hown1 hgrow hnil; have S : Hid (AnyLater w1 w6 ∧ OB w6 w1.heap.size v' (K ++ [(fr, f)])) := Lib.hid ⟨grown_later HAL.out.1 hgrow HAL.out.2, by unfold OB; rw [List.length_append, flatB_append]; exact hown1⟩; have r_w6 := own_row (grown_block hgrow HBX.out HNE.out); clear hown1 hgrow hnil)
      go_roundg (n - (j + 1))
      case measure => omega
      case rel => exact ⟨j + 1, t, K ++ [(fr, f)], rfl, hlt, by go_num, rfl, S.out.1, S.out.2, HK.out.1, HK.out.2⟩
    · obtain rfl : j = n := by omega
      have HK : Hid (K ++ [(fr, 1073741824)] = gapsB (-1073741824) T) := Lib.hid (by rw [← hK, List.drop_of_length_le (Nat.le_of_eq HN.out)]; rfl)
      have HAL := Lib.hid (And.intro (b_wr.alloc (.cells #[.int .i64 fr, .int .i64 1073741824] 56)) (owns_base ho))
      have HO := Lib.hid (ho.later ((AnyLater.refl wr).alloc (.cells #[.int .i64 fr, .int .i64 1073741824] 56)))
      have HN1 := Lib.hid (World.news_of_block (w := wr.alloc (.cells #[.int .i64 fr, .int .i64 1073741824] 56)) (cs := #[.int .i64 fr, .int .i64 1073741824]) (t := 56) (fr := (0, 0)) (heap_new rfl))
      have HB : Hid (K.length + 1 ≤ maxLen ∧ (K.length + 1) * 16 ≤ 140737488355328 ∧ w1.heap.size ≤ (wr.alloc (.cells #[.int .i64 fr, .int .i64 1073741824] 56)).heap.size) := Lib.hid ⟨by unfold maxLen; omega, by omega, HAL.out.1.below.size⟩
      clear hK hKl ho
      go_wp2_with (at_builtin; refine wpList_append_own _ rfl _ _ 34 rfl w1.heap.size 56 i0 (.agg #[.int .i64 0, .int .i64 0]) 2 16 Tryz.underlying34 hi0 hz0 hz1 hz2 rfl (by decide) _ K.length (flatB K) rfl HO.out ⟨wr.heap.size, 0, none⟩ 1 1 [.int .i64 fr, .int .i64 1073741824] rfl rfl HN1.out (by simp [Value.oneCell']) HB.out.1 HB.out.2.1 HB.out.2.2 ?_; intro v' w6 hown1 hgrow hnil; have S : Hid (AnyLater w1 w6 ∧ OB w6 w1.heap.size v' (K ++ [(fr, 1073741824)])) := Lib.hid ⟨grown_later HAL.out.1 hgrow HAL.out.2, by unfold OB; rw [List.length_append, flatB_append]; exact hown1⟩; clear hown1 hgrow hnil)
      go_ret
      exact ⟨_, rfl, a_w1.trans S.out.1, T, by rw [← HK.out]; exact S.out.2.reads, HT.out.1, HT.out.2.1⟩

/-! ### Move -/
def moveH (D F T : Int) (c : Int × Int) : Int × Int := clB (c.1 + D, c.2 + D) F T
theorem clampB_clZ (y : Int) : clZ y (-1073741824) 1073741824 = clampB y := by unfold clZ clampB; split <;> (try split) <;> omega
theorem clampB_in (y : Int) : -1073741824 ≤ clampB y ∧ clampB y ≤ 1073741824 := by unfold clampB; omega
theorem moveH_in {D F T : Int} (hF : -1073741824 ≤ F ∧ F ≤ 1073741824) (hT : -1073741824 ≤ T ∧ T ≤ 1073741824) (b : Int × Int) : -1073741824 ≤ (moveH D F T b).1 ∧ (moveH D F T b).2 ≤ 1073741824 := by
  unfold moveH clB clZ
  constructor <;> simp only <;> split <;> (try split) <;> omega
theorem moveH_rows (D F T : Int) (l : Bands) (y : Int) : (l.any fun b => decide ((moveH D F T (edgeB b)).1 ≤ y ∧ y < (moveH D F T (edgeB b)).2)) = (inB l (y - D) && decide (F ≤ y ∧ y < T)) := by
  have h1 : ∀ b : Int × Int, decide ((moveH D F T (edgeB b)).1 ≤ y ∧ y < (moveH D F T (edgeB b)).2) = (decide (b.1 ≤ y - D ∧ y - D < b.2 ∧ -1073741824 ≤ y - D ∧ y - D < 1073741824) && decide (F ≤ y ∧ y < T)) := by
    intro b
    have e := edge_rows b (y - D)
    have m : ((moveH D F T (edgeB b)).1 ≤ y ∧ y < (moveH D F T (edgeB b)).2) ↔ ((edgeB b).1 + D ≤ y ∧ y < (edgeB b).2 + D ∧ F ≤ y ∧ y < T) := clZ_rows
    rw [← Bool.decide_and, decide_eq_decide, m, ← e]
    omega
  unfold inB
  induction l with
  | nil => simp
  | cons b l ih => rw [List.any_cons, List.any_cons, ih, h1, Bool.and_or_distrib_right]
end Go.Proofs.YtiicaldnegcdiaaGreat
namespace Go.Proofs.YtiicaldnegcdiaaGreat
set_option linter.unusedSimpArgs false
set_option linter.unusedVariables false
set_option linter.unusedSectionVars false
open Go.RowKit

theorem rb_tail {w : World} {b off n cap : Nat} {x : Int × Int} {A : Bands} (h : RB w (.slice (some ⟨b, off, none⟩) (n + 1) cap) (x :: A)) (hn : A.length = n) {A2 : Option Addr} {c2 : Nat} (hc2 : c2 = cap - 1) (hA : cap ≠ 1 → A2 = some ⟨b, off + 2, none⟩) : RB w (.slice A2 n c2) A := by
  obtain ⟨A0, c0, e, p1, p2⟩ := h
  cases e
  simp only [List.length_cons] at p1 p2
  subst hc2
  refine ⟨A2, cap - 1, by rw [hn], by omega, fun h0 => ?_⟩
  obtain ⟨b1, off1, e, hb, hc⟩ := p2 (by omega)
  cases e
  refine ⟨b, off + 2, hA (by omega), hb, fun j hj => ?_⟩
  have := hc (j + 1) (by omega)
  simp only [List.getElem_cons_succ] at this
  rw [show off + 2 + j * 2 = off + (j + 1) * 2 by omega]
  exact this

set_option maxRecDepth 100000 in
set_option maxHeartbeats 6400000 in
theorem meet_any (v v2 : Value) (l l2 : Bands) (w : World) (h : RB w v l) (h2 : RB w v2 l2) (hn : l.length ≤ 5000) (hn2 : l2.length ≤ 5010) : Calls Tryz.prog 44 #[v, v2] w (Told w fun y => inB l y && inB l2 y) := by
  obtain ⟨i0, hi0, hz0, hz1, hz2⟩ := info_parts info_band
  have H1 := Lib.hid (tidy_any v l w h (by omega))
  have H2 := Lib.hid (And.intro h2 (And.intro hn hn2))
  clear h h2 hn hn2
  go_enter Tryz.func44, Tryz.ntmps44
  go_wp2_with fail
  refine H1.out.mono ?_
  rintro e w1 ⟨va, TA, rfl, a_w1, ra, ga, ya⟩
  have H3 := Lib.hid (And.intro ra (And.intro ga ya))
  have H4 := Lib.hid (tidy_any v2 l2 w1 (H2.out.1.later a_w1) (by have := H2.out; omega))
  clear ra ga ya
  go_wp2_with fail
  refine H4.out.mono ?_
  rintro e w2 ⟨vb, TB, rfl, b_w2, rb, gb, yb⟩
  have H5 := Lib.hid (And.intro (H3.out.1.later b_w2) rb)
  obtain ⟨hG, hR⟩ := meetB_both _ TA TB (Nat.le_refl _) H3.out.2.1 gb
  have HL : Hid ((meetB TA TB).length ≤ 20000) := Lib.hid (by
    have := meetB_len _ TA TB (Nat.le_refl _)
    have := len_one H3.out.2.1 H3.out.2.2
    have := len_one gb yb
    have := H2.out
    omega)
  have HM : Hid (GoodL (meetB TA TB) ∧ ∀ y, inB (meetB TA TB) y = (inB l y && inB l2 y)) := Lib.hid ⟨hG, fun y => by rw [hR, H3.out.2.2, yb]⟩
  have HW := Lib.hid (a_w1.trans b_w2)
  clear rb gb yb hG hR H4
  go_wp2_with fail
  go_loopg [0, 1, 5] (TA.length + TB.length) (fun k a b v wr => ∃ A B K : Bands, k = A.length + B.length ∧ AnyLater w2 wr ∧ RB w2 a A ∧ RB w2 b B ∧ OB wr w2.heap.size v K ∧ K ++ meetB A B = meetB TA TB)
  case atStart => exact ⟨TA, TB, [], rfl, AnyLater.refl _, H5.out.1, H5.out.2, ⟨rfl, .inl ⟨rfl, rfl⟩⟩, rfl⟩
  case round =>
    obtain ⟨A, B, K, hk, a_wr, hA, hB, ho, hK⟩ := hrel
    have HA := Lib.hid hA
    have HB := Lib.hid hB
    obtain ⟨A0, ca, rfl, p1, p2⟩ := hA
    obtain ⟨B0, cb, rfl, q1, q2⟩ := hB
    have HO := Lib.hid ho
    have HK := Lib.hid hK
    have HKL : Hid (K.length + 1 ≤ 20001) := Lib.hid (by have := HL.out; rw [← hK, List.length_append] at this; omega)
    clear ho hK
    cases A with
    | nil =>
      simp only [List.length_nil]
      go_wp2_with fail
      go_ret
      exact ⟨_, _, rfl, HW.out.trans a_wr, HO.out.reads, by
        have e := HK.out
        rw [meetB_nil, List.append_nil] at e
        rw [e]
        exact HM.out⟩
    | cons x A1 =>
      have k1 : (0 : Int) < (A1.length : Int) + 1 := by omega
      cases B with
      | nil =>
        simp only [List.length_nil, List.length_cons]
        go_wp2_with fail
        go_ret
        exact ⟨_, _, rfl, HW.out.trans a_wr, HO.out.reads, by
          have e := HK.out
          rw [meetB_nil2, List.append_nil] at e
          rw [e]
          exact HM.out⟩
      | cons y B1 =>
        have k2 : (0 : Int) < (B1.length : Int) + 1 := by omega
        obtain ⟨b1, off1, rfl, hb1, hc1⟩ := p2 (by simp)
        obtain ⟨b2, off2, rfl, hb2, hc2⟩ := q2 (by simp)
        obtain ⟨c0_w2, c1_w2⟩ := hc1 0 (by simp)
        obtain ⟨d0_w2, d1_w2⟩ := hc2 0 (by simp)
        obtain ⟨x1, x2⟩ := x
        obtain ⟨y1, y2⟩ := y
        simp only [Nat.zero_mul, Nat.add_zero, List.getElem_cons_zero] at c0_w2 c1_w2 d0_w2 d1_w2
        simp only [List.length_cons] at p1 q1 hk ⊢
        have HS := Lib.hid (meetB_cons (x1, x2) (y1, y2) A1 B1)
        obtain ⟨r1, hr1⟩ : ∃ r, clZ x1 y1 y2 = r := ⟨_, rfl⟩
        obtain ⟨r2, hr2⟩ : ∃ r, clZ x2 y1 y2 = r := ⟨_, rfl⟩
        have HC : Hid (clB (x1, x2) y1 y2 = (r1, r2)) := Lib.hid (by unfold clB; rw [hr1, hr2])
        have HN1 := Lib.hid (rfl : A1.length = A1.length)
        obtain ⟨n1, hn1⟩ : ∃ n, A1.length = n := ⟨_, rfl⟩
        obtain ⟨n2, hn2⟩ : ∃ n, B1.length = n := ⟨_, rfl⟩
        have HN := Lib.hid (And.intro hn1 hn2)
        have HA1 := Lib.hid (HA.out)
        have HB1 := Lib.hid (HB.out)
        simp only [List.length_cons, hn1, hn2] at HA1 HB1
        rw [hn1] at k1 p1 hk
        rw [hn2] at k2 q1 hk
        rw [hn1, hn2]
        clear hn1 hn2 hc1 hc2 p2 q2 HN1 HA HB
        have c0 := cell_on a_wr c0_w2
        have c1 := cell_on a_wr c1_w2
        have d0 := cell_on a_wr d0_w2
        have d1 := cell_on a_wr d1_w2
        go_wp2_with fail
        apply wp_region_mem (13) [⟨12, 6, isVar (.cells #[.int .i64 0, .int .i64 0] 56)⟩] (by kernel_rfl) (by kernel_rfl) (by simp)
        case hstab =>
          intro e he v x y hxy hv
          simp only [List.mem_cons, List.not_mem_nil, or_false] at he
          rcases he with rfl
          · exact isVar_stays hxy hv
        case hlex =>
          intro U
          have q_c0 := fun (v : Later (later U)) => cell_on (AnyLater.trans ⟨U, rfl⟩ ⟨v, rfl⟩) c0
          have q_c1 := fun (v : Later (later U)) => cell_on (AnyLater.trans ⟨U, rfl⟩ ⟨v, rfl⟩) c1
          have q_d0 := fun (v : Later (later U)) => cell_on (AnyLater.trans ⟨U, rfl⟩ ⟨v, rfl⟩) d0
          have q_d1 := fun (v : Later (later U)) => cell_on (AnyLater.trans ⟨U, rfl⟩ ⟨v, rfl⟩) d1
          simp only [absFrom, absOp, idx, List.map_cons, List.map_nil, List.contains_cons, List.contains_nil, Nat.reduceBEq, Bool.or_false, Bool.false_or, Bool.true_or, Bool.or_true, Bool.false_eq_true, Nat.reduceLeDiff, Nat.reduceAdd, if_false, if_true]
          repeat (go_big_quiet_step (first | (go_at_call 29; exact in_later (within_any _ _ _ _ _ _ _ (by assumption) (by assumption)))))
          exact wpQuiet_nil rfl
        case hown =>
          intro e he o ho
          simp only [List.mem_cons, List.not_mem_nil, or_false] at he
          rcases he with rfl
          · cases ho; exact step_var (fun r x => by simp [go_sem, execOp])
        case htail =>
          intro g u hst hne
          have b_w3 : AnyLater wr (later u) := ⟨u, rfl⟩
          generalize later u = w3 at *
          clear u
          obtain ⟨⟨b6, e6, s0_w3⟩, o6_w3⟩ := hst _ (List.mem_of_getElem? (i := 0) rfl)
          dsimp only at e6 o6_w3
          have o6_w3 := o6_w3 b6 (by rw [e6]; rfl)
          clear hst hne
          simp only [fillAll, Act.put, List.setIfInBounds_toArray, List.set_cons_zero, List.set_cons_succ, List.drop_succ_cons, List.drop_zero]
          rw [e6]
          clear e6
          have z_w3 := b_w3.below.size
          have a_w3 := a_wr.trans b_w3
          have r0_w3 := own_row s0_w3
          have f0_w3 := own_free s0_w3
          have l0_w3 := own_lt s0_w3
          have c0_w3 := cell_on b_w3 c0
          have c1_w3 := cell_on b_w3 c1
          have d0_w3 := cell_on b_w3 d0
          have d1_w3 := cell_on b_w3 d1
          go_wp2_with fail
          first | refine settle_wp (fun wS => AnyLater wr wS ∧ wS.heap[b6]? = some (.cells #[.int .i64 r1, .int .i64 r2] 56)) ?_ ?_ | refine settle_calls (fun wS => AnyLater wr wS ∧ wS.heap[b6]? = some (.cells #[.int .i64 r1, .int .i64 r2] 56)) ?_ ?_
          · refine ⟨?_, ?_⟩
            · repeat' (first | with_reducible assumption | with_reducible exact AnyLater.refl _ | with_reducible apply AnyLater.setCell | with_reducible apply AnyLater.later | with_reducible apply AnyLater.drewN | with_reducible apply AnyLater.drew | with_reducible apply AnyLater.alloc | ((try simp only [World.size_alloc, World.size_setCell, World.size_drew]); (try dsimp only); omega))
            · ((repeat (first | with_reducible assumption | ((with_reducible apply heap_new); (try simp only [World.size_alloc, World.size_setCell, World.size_drew, World.heap_drewN]); done) | ((with_reducible apply heap_new); (try simp only [World.size_alloc, World.size_setCell, World.size_drew, World.heap_drewN]); omega) | (with_reducible refine heap_old (by (try simp only [World.size_alloc, World.size_setCell, World.size_drew, World.heap_drewN]); omega) ?_) | (with_reducible refine heap_drew ?_) | (with_reducible refine heap_far (by omega) ?_) | (with_reducible apply heap_at))); all_goals rfl)
          rintro w4 ⟨b_w4, s0_w4⟩
          have a_w4 := a_wr.trans b_w4
          have r0_w4 := own_row s0_w4
          have f0_w4 := own_free s0_w4
          have l0_w4 := own_lt s0_w4
          have z_w4 := b_w4.below.size
          have hz : b6 < w4.heap.size := own_lt s0_w4
          by_cases hf : r1 < r2
          · have hf1 : decide (r1 < r2) = true := decide_eq_true hf
            refine (filled_any r1 r2 w4 true hf1).mono ?_
            rintro e w5 ⟨rfl, b_w5⟩
            have z_w5 := b_w5.below.size
            have a_w5 := a_w4.trans b_w5
            have s0_w5 := any_own b_w5 s0_w4
            have r0_w5 := own_row s0_w5
            have f0_w5 := own_free s0_w5
            have l0_w5 := own_lt s0_w5
            (try clear r0_w4); (try clear f0_w4)
            have HO5 := Lib.hid ((HO.out.later (b_w4.trans b_w5)).later ((AnyLater.refl w5).alloc (.cells #[.int .i64 r1, .int .i64 r2] 56)))
            have HB5 := Lib.hid (World.news_of_block (w := w5.alloc (.cells #[.int .i64 r1, .int .i64 r2] 56)) (cs := #[.int .i64 r1, .int .i64 r2]) (t := 56) (fr := (0, 0)) (heap_new rfl))
            have HAL := Lib.hid (And.intro (a_w5.alloc (.cells #[.int .i64 r1, .int .i64 r2] 56)) (owns_base HO.out))
            have HQ : Hid (K.length + 1 ≤ maxLen ∧ (K.length + 1) * 16 ≤ 140737488355328 ∧ w2.heap.size ≤ (w5.alloc (.cells #[.int .i64 r1, .int .i64 r2] 56)).heap.size) := Lib.hid ⟨by have := HKL.out; unfold maxLen; omega, by have := HKL.out; omega, HAL.out.1.below.size⟩
            have HS1 : Hid ((K ++ [(r1, r2)]) ++ (if x2 < y2 then meetB A1 ((y1, y2) :: B1) else meetB ((x1, x2) :: A1) B1) = meetB TA TB) := Lib.hid (by
              rw [← HK.out, HS.out, HC.out, if_pos hf, List.append_assoc])
            clear hf1
            go_wp2_with (at_builtin; refine wpList_append_own _ rfl _ _ 34 rfl w2.heap.size 56 i0 (.agg #[.int .i64 0, .int .i64 0]) 2 16 Tryz.underlying34 hi0 hz0 hz1 hz2 rfl (by decide) _ K.length (flatB K) rfl HO5.out ⟨w5.heap.size, 0, none⟩ 1 1 [.int .i64 r1, .int .i64 r2] rfl rfl HB5.out (by simp [Value.oneCell']) HQ.out.1 HQ.out.2.1 HQ.out.2.2 ?_; intro v' w6 hown1 hgrow hnil; have a_w6 := grown_later HAL.out.1 hgrow HAL.out.2; have S : Hid (OB w6 w2.heap.size v' (K ++ [(r1, r2)])) := Lib.hid (by unfold OB; rw [List.length_append, flatB_append]; exact hown1); clear hown1 hgrow hnil)
            have c_w6 := cell_on a_w6 c1_w2
            have d_w6 := cell_on a_w6 d1_w2
            by_cases hlt : x2 < y2
            · have hlt2 := hlt
              apply wp_region_mem (9) [] (by kernel_rfl) (by kernel_rfl) (by simp)
              case hstab =>
                intro e he v x y hxy hv
                simp only [List.mem_cons, List.not_mem_nil, or_false] at he
              case hlex =>
                intro U
                have q_c_w6 := fun (v : Later (later U)) => cell_on (AnyLater.trans ⟨U, rfl⟩ ⟨v, rfl⟩) c_w6
                have q_d_w6 := fun (v : Later (later U)) => cell_on (AnyLater.trans ⟨U, rfl⟩ ⟨v, rfl⟩) d_w6
                simp only [absFrom, absOp, idx, List.map_cons, List.map_nil, List.contains_cons, List.contains_nil, Nat.reduceBEq, Bool.or_false, Bool.false_or, Bool.true_or, Bool.or_true, Bool.false_eq_true, Nat.reduceLeDiff, Nat.reduceAdd, if_false, if_true]
                repeat (go_big_quiet_step (first | fail))
                exact wpQuiet_nil rfl
              case hown =>
                intro e he o ho
                simp only [List.mem_cons, List.not_mem_nil, or_false] at he
              case htail =>
                intro g u hst hne
                have b_w7 : AnyLater w6 (later u) := ⟨u, rfl⟩
                generalize later u = w7 at *
                clear u
                clear hst hne
                simp only [fillAll, Act.put, List.setIfInBounds_toArray, List.set_cons_zero, List.set_cons_succ, List.drop_succ_cons, List.drop_zero]
                have z_w7 := b_w7.below.size
                have a_w7 := a_w6.trans b_w7
                have c_w6_w7 := cell_on b_w7 c_w6
                have d_w6_w7 := cell_on b_w7 d_w6
                go_wp2_with fail
                all_goals
                  go_roundg (n1 + (n2 + 1))
                  case measure => omega
                  case rel => exact ⟨A1, (y1, y2) :: B1, (K ++ [(r1, r2)]), by rw [List.length_cons, HN.out.1, HN.out.2], a_w7, rb_tail HA1.out HN.out.1 (by omega) (by intro hne; first | rfl | (exfalso; omega)), HB1.out, S.out.later b_w7, by have e := HS1.out; rwa [if_pos hlt2] at e⟩
            · have hlt2 := hlt
              apply wp_region_mem (9) [] (by kernel_rfl) (by kernel_rfl) (by simp)
              case hstab =>
                intro e he v x y hxy hv
                simp only [List.mem_cons, List.not_mem_nil, or_false] at he
              case hlex =>
                intro U
                have q_c_w6 := fun (v : Later (later U)) => cell_on (AnyLater.trans ⟨U, rfl⟩ ⟨v, rfl⟩) c_w6
                have q_d_w6 := fun (v : Later (later U)) => cell_on (AnyLater.trans ⟨U, rfl⟩ ⟨v, rfl⟩) d_w6
                simp only [absFrom, absOp, idx, List.map_cons, List.map_nil, List.contains_cons, List.contains_nil, Nat.reduceBEq, Bool.or_false, Bool.false_or, Bool.true_or, Bool.or_true, Bool.false_eq_true, Nat.reduceLeDiff, Nat.reduceAdd, if_false, if_true]
                repeat (go_big_quiet_step (first | fail))
                exact wpQuiet_nil rfl
              case hown =>
                intro e he o ho
                simp only [List.mem_cons, List.not_mem_nil, or_false] at he
              case htail =>
                intro g u hst hne
                have b_w7 : AnyLater w6 (later u) := ⟨u, rfl⟩
                generalize later u = w7 at *
                clear u
                clear hst hne
                simp only [fillAll, Act.put, List.setIfInBounds_toArray, List.set_cons_zero, List.set_cons_succ, List.drop_succ_cons, List.drop_zero]
                have z_w7 := b_w7.below.size
                have a_w7 := a_w6.trans b_w7
                have c_w6_w7 := cell_on b_w7 c_w6
                have d_w6_w7 := cell_on b_w7 d_w6
                go_wp2_with fail
                all_goals
                  go_roundg (n1 + 1 + n2)
                  case measure => omega
                  case rel => exact ⟨(x1, x2) :: A1, B1, (K ++ [(r1, r2)]), by rw [List.length_cons, HN.out.1, HN.out.2], a_w7, HA1.out, rb_tail HB1.out HN.out.2 (by omega) (by intro hne; first | rfl | (exfalso; omega)), S.out.later b_w7, by have e := HS1.out; rwa [if_neg (by omega)] at e⟩
          · have hf1 : decide (r1 < r2) = false := decide_eq_false hf
            refine (filled_any r1 r2 w4 false hf1).mono ?_
            rintro e w6 ⟨rfl, b_w6⟩
            have z_w6 := b_w6.below.size
            have a_w6 := a_w4.trans b_w6
            have s0_w6 := any_own b_w6 s0_w4
            have r0_w6 := own_row s0_w6
            have f0_w6 := own_free s0_w6
            have l0_w6 := own_lt s0_w6
            (try clear r0_w4); (try clear f0_w4)
            have S := Lib.hid (HO.out.later (b_w4.trans b_w6))
            have HS1 : Hid (K ++ (if x2 < y2 then meetB A1 ((y1, y2) :: B1) else meetB ((x1, x2) :: A1) B1) = meetB TA TB) := Lib.hid (by
              rw [← HK.out, HS.out, HC.out, if_neg hf, List.nil_append])
            clear hf1
            go_wp2_with fail
            have c_w6 := cell_on a_w6 c1_w2
            have d_w6 := cell_on a_w6 d1_w2
            by_cases hlt : x2 < y2
            · have hlt2 := hlt
              apply wp_region_mem (9) [] (by kernel_rfl) (by kernel_rfl) (by simp)
              case hstab =>
                intro e he v x y hxy hv
                simp only [List.mem_cons, List.not_mem_nil, or_false] at he
              case hlex =>
                intro U
                have q_c_w6 := fun (v : Later (later U)) => cell_on (AnyLater.trans ⟨U, rfl⟩ ⟨v, rfl⟩) c_w6
                have q_d_w6 := fun (v : Later (later U)) => cell_on (AnyLater.trans ⟨U, rfl⟩ ⟨v, rfl⟩) d_w6
                simp only [absFrom, absOp, idx, List.map_cons, List.map_nil, List.contains_cons, List.contains_nil, Nat.reduceBEq, Bool.or_false, Bool.false_or, Bool.true_or, Bool.or_true, Bool.false_eq_true, Nat.reduceLeDiff, Nat.reduceAdd, if_false, if_true]
                repeat (go_big_quiet_step (first | fail))
                exact wpQuiet_nil rfl
              case hown =>
                intro e he o ho
                simp only [List.mem_cons, List.not_mem_nil, or_false] at he
              case htail =>
                intro g u hst hne
                have b_w7 : AnyLater w6 (later u) := ⟨u, rfl⟩
                generalize later u = w7 at *
                clear u
                clear hst hne
                simp only [fillAll, Act.put, List.setIfInBounds_toArray, List.set_cons_zero, List.set_cons_succ, List.drop_succ_cons, List.drop_zero]
                have z_w7 := b_w7.below.size
                have a_w7 := a_w6.trans b_w7
                have c_w6_w7 := cell_on b_w7 c_w6
                have d_w6_w7 := cell_on b_w7 d_w6
                go_wp2_with fail
                all_goals
                  go_roundg (n1 + (n2 + 1))
                  case measure => omega
                  case rel => exact ⟨A1, (y1, y2) :: B1, K, by rw [List.length_cons, HN.out.1, HN.out.2], a_w7, rb_tail HA1.out HN.out.1 (by omega) (by intro hne; first | rfl | (exfalso; omega)), HB1.out, S.out.later b_w7, by have e := HS1.out; rwa [if_pos hlt2] at e⟩
            · have hlt2 := hlt
              apply wp_region_mem (9) [] (by kernel_rfl) (by kernel_rfl) (by simp)
              case hstab =>
                intro e he v x y hxy hv
                simp only [List.mem_cons, List.not_mem_nil, or_false] at he
              case hlex =>
                intro U
                have q_c_w6 := fun (v : Later (later U)) => cell_on (AnyLater.trans ⟨U, rfl⟩ ⟨v, rfl⟩) c_w6
                have q_d_w6 := fun (v : Later (later U)) => cell_on (AnyLater.trans ⟨U, rfl⟩ ⟨v, rfl⟩) d_w6
                simp only [absFrom, absOp, idx, List.map_cons, List.map_nil, List.contains_cons, List.contains_nil, Nat.reduceBEq, Bool.or_false, Bool.false_or, Bool.true_or, Bool.or_true, Bool.false_eq_true, Nat.reduceLeDiff, Nat.reduceAdd, if_false, if_true]
                repeat (go_big_quiet_step (first | fail))
                exact wpQuiet_nil rfl
              case hown =>
                intro e he o ho
                simp only [List.mem_cons, List.not_mem_nil, or_false] at he
              case htail =>
                intro g u hst hne
                have b_w7 : AnyLater w6 (later u) := ⟨u, rfl⟩
                generalize later u = w7 at *
                clear u
                clear hst hne
                simp only [fillAll, Act.put, List.setIfInBounds_toArray, List.set_cons_zero, List.set_cons_succ, List.drop_succ_cons, List.drop_zero]
                have z_w7 := b_w7.below.size
                have a_w7 := a_w6.trans b_w7
                have c_w6_w7 := cell_on b_w7 c_w6
                have d_w6_w7 := cell_on b_w7 d_w6
                go_wp2_with fail
                all_goals
                  go_roundg (n1 + 1 + n2)
                  case measure => omega
                  case rel => exact ⟨(x1, x2) :: A1, B1, K, by rw [List.length_cons, HN.out.1, HN.out.2], a_w7, HA1.out, rb_tail HB1.out HN.out.2 (by omega) (by intro hne; first | rfl | (exfalso; omega)), S.out.later b_w7, by have e := HS1.out; rwa [if_neg (by omega)] at e⟩

/-! ### Less -/
set_option maxHeartbeats 1600000 in
theorem less_any (v v2 : Value) (l l2 : Bands) (w : World) (h : RB w v l) (h2 : RB w v2 l2) (hn : l.length ≤ 5000) (hn2 : l2.length ≤ 5000) : Calls Tryz.prog 27 #[v, v2] w (Told w fun y => inB l y && !inB l2 y) := by
  have H1 := Lib.hid (gaps_any v2 l2 w h2 hn2)
  have H2 := Lib.hid (And.intro h (And.intro hn hn2))
  clear h h2 hn hn2
  go_enter Tryz.func27, Tryz.ntmps27
  go_wp2_with fail
  refine H1.out.mono ?_
  rintro e w1 ⟨v3, T, rfl, a_w1, r1, g1, y1⟩
  have HG := Lib.hid (gaps_not g1 y1 l)
  have H3 := Lib.hid (meet_any v v3 l (gapsB (-1073741824) T) w1 (H2.out.1.later a_w1) r1 H2.out.2.1 (by
    rw [gapsB_len]
    have := len_one g1 y1
    have := H2.out.2.2
    omega))
  clear r1 g1 y1
  go_wp2_with fail
  refine H3.out.mono ?_
  rintro e w2 ⟨v4, T2, rfl, b_w2, r2, g2, y2⟩
  have HE := Lib.hid (And.intro r2 (And.intro g2 y2))
  clear r2 g2 y2
  go_wp2_with fail
  go_ret
  exact ⟨_, T2, rfl, a_w1.trans b_w2, HE.out.1, HE.out.2.1, fun y => (HE.out.2.2 y).trans (HG.out y)⟩
end Go.Proofs.YtiicaldnegcdiaaGreat
namespace Go.Proofs.YtiicaldnegcdiaaGreat
set_option linter.unusedSimpArgs false
set_option linter.unusedVariables false
set_option linter.unusedSectionVars false
open Go.RowKit

/-! ### Has -/
/-- a closure that answers whether p holds of a band -/
def Tests (w : World) (gc : Nat) (cb : Array Value) (p : Int × Int → Bool) : Prop := ∀ (b1 b2 : Int) (w' : World), AnyLater w w' →
  Calls Tryz.prog gc (#[.agg #[.int .i64 b1, .int .i64 b2]] ++ cb) w' fun e w'' => e = .returned (.bool (p (b1, b2))) ∧ AnyLater w' w''
def Found (w : World) (c : Bool) (e : Ending) (w' : World) : Prop := ∃ k : Int, e = .returned (.int .i64 k) ∧ decide (0 ≤ k) = c ∧ AnyLater w w'
set_option maxRecDepth 100000 in
set_option maxHeartbeats 1600000 in
theorem index_none (A : Option Addr) (cap gc : Nat) (cb : Array Value) (w : World) : Calls Tryz.prog 52 #[.slice A 0 cap, .func (.func gc) #[] cb] w (Found w false) := by
  go_enter Tryz.func52, Tryz.ntmps52
  go_wp2_with fail
  refine wp_loop_rounds 1 ?_
  rw [rounds_succ]
  go_wp2_with fail
  go_ret
  exact ⟨_, rfl, by decide, AnyLater.refl _⟩
set_option maxRecDepth 100000 in
set_option maxHeartbeats 1600000 in
theorem index_some (b off n cap gc : Nat) (cb : Array Value) (p : Int × Int → Bool) (l : Bands) (w : World) (hl : l.length = n) (hn : n ≤ 100000) (hb : b < w.heap.size) (hc : ∀ (j : Nat) (h : j < l.length), w.cell? ⟨b, off + j * 2, none⟩ = some (.int .i64 l[j].1) ∧ w.cell? ⟨b, off + j * 2 + 1, none⟩ = some (.int .i64 l[j].2))
    (hcf : ∀ args w, (callFunc gc args).run Tryz.prog w = .ok (.enter gc args) w) (hdo : Tests w gc cb p) :
    Calls Tryz.prog 52 #[.slice (some ⟨b, off, none⟩) n cap, .func (.func gc) #[] cb] w (Found w (l.any p)) := by
  have HL := Lib.hid hl
  have HC := Lib.hid hc
  have HD := Lib.hid hdo
  clear hl hc hdo
  go_enter Tryz.func52, Tryz.ntmps52
  go_wp2_with fail
  go_loopg [8] n (fun k i wr => ∃ j : Nat, k = n - j ∧ j ≤ n ∧ i = .int .i64 j ∧ AnyLater w wr ∧ (l.take j).any p = false)
  case atStart => exact ⟨0, by omega, by omega, rfl, AnyLater.refl _, by simp⟩
  case round =>
    obtain ⟨j, hk, hj, rfl, a_wr, hf⟩ := hrel
    have HF := Lib.hid hf
    clear hf
    by_cases hlt : j < n
    · have lj : j < l.length := by rw [HL.out]; exact hlt
      have c0 : wr.cell? ⟨b, off + j * 2, none⟩ = some (.int .i64 l[j].1) := (a_wr.below.cell hb).trans (HC.out j lj).1
      have c1 : wr.cell? ⟨b, off + j * 2 + 1, none⟩ = some (.int .i64 l[j].2) := (a_wr.below.cell hb).trans (HC.out j lj).2
      have HT : Hid ((l.take (j + 1)).any p = ((l.take j).any p || p l[j])) := Lib.hid (by rw [List.take_succ_eq_append_getElem lj, List.any_append]; simp)
      have HH : Hid (p l[j] = true → l.any p = true) := Lib.hid (fun h => List.any_eq_true.2 ⟨_, List.getElem_mem lj, h⟩)
      generalize l[j] = x at *
      obtain ⟨f, t⟩ := x
      simp only at c0 c1
      cases hp : p (f, t) with
      | true =>
        have HD1 := Lib.hid (HD.out f t wr a_wr)
        rw [hp] at HD1
        have HE := Lib.hid (HH.out hp)
        clear hp HT HH
        go_wp2_with fail
        refine HD1.out.mono ?_
        rintro e w1 ⟨rfl, b_w1⟩
        go_wp2_with fail
        go_ret
        exact ⟨_, rfl, by rw [HE.out]; exact decide_eq_true (by omega), a_wr.trans b_w1⟩
      | false =>
        have HD1 := Lib.hid (HD.out f t wr a_wr)
        rw [hp] at HD1
        have HE : Hid ((l.take (j + 1)).any p = false) := Lib.hid (by rw [HT.out, HF.out, hp]; rfl)
        clear hp HT HH
        go_wp2_with fail
        refine HD1.out.mono ?_
        rintro e w1 ⟨rfl, b_w1⟩
        go_wp2_with fail
        go_roundg (n - (j + 1))
        case measure => omega
        case rel => exact ⟨j + 1, rfl, hlt, by go_num, a_wr.trans b_w1, HE.out⟩
    · obtain rfl : j = n := by omega
      have HE : Hid (l.any p = false) := Lib.hid (by
        have := HF.out
        rwa [List.take_of_length_le (Nat.le_of_eq HL.out)] at this)
      go_wp2_with fail
      go_ret
      exact ⟨_, rfl, by rw [HE.out]; decide, a_wr⟩
theorem contains_any (v fv : Value) (w : World) (c : Bool) (h : Calls Tryz.prog 52 #[v, fv] w (Found w c)) : Calls Tryz.prog 33 #[v, fv] w fun e w' => e = .returned (.bool c) ∧ AnyLater w w' := by
  have H := Lib.hid h
  clear h
  go_enter Tryz.func33, Tryz.ntmps33
  go_wp2_with fail
  refine H.out.mono ?_
  rintro e w1 ⟨k, rfl, hk, b_w1⟩
  have HK := Lib.hid hk
  clear hk
  go_wp2_with fail
  go_ret
  exact ⟨ret_bool HK.out, b_w1⟩
theorem has_any (v : Value) (l : Bands) (y : Int) (w : World) (c : Bool) (hcc : inB l y = c) (hr : RB w v l) (hn : l.length ≤ 100000) :
    Calls Tryz.prog 17 #[v, .int .i64 y] w fun e w' => e = .returned (.bool c) ∧ AnyLater w w' := by
  have hcf : ∀ args w, (callFunc 34 args).run Tryz.prog w = .ok (.enter 34 args) w := enters_of Tryz.func34 (by kernel_rfl) rfl
  have hq : l.any (fun b => hasOne b y) = c := by
    rw [← hcc]
    unfold inB
    congr 1
    funext b
    unfold hasOne
    rw [decide_eq_decide]
    exact edge_rows b y
  have a1 := (AnyLater.refl w).alloc (.cells #[.int .i64 y] 3)
  have hH : Calls Tryz.prog 52 #[v, .func (.func 34) #[] #[.pointer (some ⟨w.heap.size, 0, none⟩)]] (w.alloc (.cells #[.int .i64 y] 3)) (Found (w.alloc (.cells #[.int .i64 y] 3)) c) := by
    obtain ⟨A, cap, rfl, h2, h3⟩ := hr.later a1
    rcases Nat.eq_zero_or_pos l.length with h0 | h0
    · obtain rfl := List.eq_nil_of_length_eq_zero h0
      rw [← hq]
      exact index_none A cap _ _ _
    · obtain ⟨b, off, rfl, hb, hc⟩ := h3 h0
      rw [← hq]
      refine index_some b off _ cap _ _ (fun b => hasOne b y) l _ rfl hn hb hc hcf fun b1 b2 w' hw' => ?_
      have := has_clo b1 b2 y w.heap.size _ w' (any_own hw' (heap_new rfl)) rfl
      simpa using this
  have H := Lib.hid hH
  have HA := Lib.hid a1
  clear hcf hq a1 hH hr hcc
  go_enter Tryz.func17, Tryz.ntmps17
  go_wp2_with fail
  refine (contains_any _ _ _ _ H.out).mono ?_
  rintro e w1 ⟨rfl, b_w1⟩
  go_wp2_with fail
  go_ret
  exact ⟨rfl, HA.out.trans b_w1⟩

/-! ### Good -/
set_option maxRecDepth 100000 in
set_option maxHeartbeats 1600000 in
theorem good_none (A : Option Addr) (cap : Nat) (w : World) : Calls Tryz.prog 14 #[.slice A 0 cap] w fun e w' => e = .returned (.bool true) ∧ AnyLater w w' := by
  go_enter Tryz.func14, Tryz.ntmps14
  go_wp2_with fail
  refine wp_loop_rounds 1 ?_
  rw [rounds_succ]
  go_wp2_with fail
  go_ret
  exact ⟨rfl, AnyLater.refl _⟩
set_option maxRecDepth 100000 in
set_option maxHeartbeats 6400000 in
theorem good_some (b off n cap : Nat) (l : Bands) (w : World) (c : Bool) (hcc : c = true ↔ GoodL l) (hl : l.length = n) (hn : n ≤ 100000) (hb : b < w.heap.size) (hc : ∀ (j : Nat) (h : j < l.length), w.cell? ⟨b, off + j * 2, none⟩ = some (.int .i64 l[j].1) ∧ w.cell? ⟨b, off + j * 2 + 1, none⟩ = some (.int .i64 l[j].2)) :
    Calls Tryz.prog 14 #[.slice (some ⟨b, off, none⟩) n cap] w fun e w' => e = .returned (.bool c) ∧ AnyLater w w' := by
  have HL := Lib.hid hl
  have HC := Lib.hid hc
  have HNo : Hid (¬ GoodL l → false = c) := Lib.hid (fun h => by cases c with | false => rfl | true => exact absurd (hcc.1 rfl) h)
  have HYes : Hid (GoodL l → true = c) := Lib.hid (fun h => (hcc.2 h).symm)
  have gb := guard_band
  have nb := neqBand
  clear hl hc hcc
  go_enter Tryz.func14, Tryz.ntmps14
  go_wp2_with fail
  go_loopg [7] n (fun k i wr => ∃ j : Nat, k = n - j ∧ j ≤ n ∧ i = .int .i64 j ∧ AnyLater w wr ∧ GoodL (l.take j))
  case atStart => exact ⟨0, by omega, by omega, rfl, AnyLater.refl _, by rw [List.take_zero]; exact GoodL.nil⟩
  case round =>
    obtain ⟨j, hk, hj, rfl, a_wr, hf⟩ := hrel
    have HF := Lib.hid hf
    clear hf
    by_cases hlt : j < n
    · have lj : j < l.length := by rw [HL.out]; exact hlt
      have c0 : wr.cell? ⟨b, off + j * 2, none⟩ = some (.int .i64 l[j].1) := (a_wr.below.cell hb).trans (HC.out j lj).1
      have c1 : wr.cell? ⟨b, off + j * 2 + 1, none⟩ = some (.int .i64 l[j].2) := (a_wr.below.cell hb).trans (HC.out j lj).2
      have HG := Lib.hid (fun h => good_sub (l := l) lj h)
      have HT := Lib.hid (fun h1 h2 => good_one (l := l) lj HF.out h1 h2)
      obtain ⟨x, hx⟩ : ∃ x, l[j] = x := ⟨_, rfl⟩
      rw [hx] at HG HT c0 c1
      obtain ⟨f, t⟩ := x
      simp only at c0 c1 HG HT
      clear hx
      by_cases h1 : f < t
      · have e1 : decide (f < t) = true := decide_eq_true h1
        obtain ⟨r1, hr1⟩ : ∃ r, clZ f (-1073741824) 1073741824 = r := ⟨_, rfl⟩
        obtain ⟨r2, hr2⟩ : ∃ r, clZ t (-1073741824) 1073741824 = r := ⟨_, rfl⟩
        have he : edgeB (f, t) = (r1, r2) := by unfold edgeB clB; rw [hr1, hr2]
        by_cases h2 : f = r1 ∧ t = r2
        · obtain ⟨rfl, rfl⟩ := h2
          have hin : -1073741824 ≤ f ∧ t ≤ 1073741824 := by have := edge_in (f, t); rw [he] at this; exact ⟨this.1, this.2.2.2⟩
          cases j with
          | zero =>
            have HJ : Hid (GoodL (l.take (0 + 1))) := Lib.hid (HT.out (by omega) (fun i h => by omega))
            clear HG HT he hin
            simp only [Nat.zero_mul, Nat.add_zero] at c0 c1
            go_wp2_with fail
            first | refine settle_wp (fun wS => AnyLater wr wS ∧ wS.heap[wr.heap.size]? = some (.cells #[.int .i64 f, .int .i64 t] 56)) ?_ ?_ | refine settle_calls (fun wS => AnyLater wr wS ∧ wS.heap[wr.heap.size]? = some (.cells #[.int .i64 f, .int .i64 t] 56)) ?_ ?_
            · refine ⟨?_, ?_⟩
              · repeat' (first | with_reducible assumption | with_reducible exact AnyLater.refl _ | with_reducible apply AnyLater.setCell | with_reducible apply AnyLater.later | with_reducible apply AnyLater.drewN | with_reducible apply AnyLater.drew | with_reducible apply AnyLater.alloc | ((try simp only [World.size_alloc, World.size_setCell, World.size_drew]); (try dsimp only); omega))
              · ((repeat (first | with_reducible assumption | ((with_reducible apply heap_new); (try simp only [World.size_alloc, World.size_setCell, World.size_drew, World.heap_drewN]); done) | ((with_reducible apply heap_new); (try simp only [World.size_alloc, World.size_setCell, World.size_drew, World.heap_drewN]); omega) | (with_reducible refine heap_old (by (try simp only [World.size_alloc, World.size_setCell, World.size_drew, World.heap_drewN]); omega) ?_) | (with_reducible refine heap_drew ?_) | (with_reducible refine heap_far (by omega) ?_) | (with_reducible apply heap_at))); all_goals rfl)
            rintro w1 ⟨b_w1, s0_w1⟩
            have a_w1 := a_wr.trans b_w1
            have r0_w1 := own_row s0_w1
            have f0_w1 := own_free s0_w1
            have l0_w1 := own_lt s0_w1
            have z_w1 := b_w1.below.size
            apply wp_region_mem (24) [] (by kernel_rfl) (by kernel_rfl) (by simp)
            case hstab =>
              intro e he v x y hxy hv
              simp only [List.mem_cons, List.not_mem_nil, or_false] at he
            case hlex =>
              intro U
              have q0 := fun (v : Later (later U)) => own_row (any_own ⟨v, rfl⟩ (any_own ⟨U, rfl⟩ s0_w1))
              simp only [absFrom, absOp, idx, List.map_cons, List.map_nil, List.contains_cons, List.contains_nil, Nat.reduceBEq, Bool.or_false, Bool.false_or, Bool.true_or, Bool.or_true, Bool.false_eq_true, Nat.reduceLeDiff, Nat.reduceAdd, if_false, if_true]
              repeat (go_big_quiet_step (first | (go_at_call 28; exact in_later (filled_any _ _ _ _ (by assumption))) | (go_at_call 29; exact in_later (within_any _ _ _ _ _ _ _ (by assumption) (by assumption)))))
              exact wpQuiet_nil rfl
            case hown =>
              intro e he o ho
              simp only [List.mem_cons, List.not_mem_nil, or_false] at he
            case htail =>
              intro g u hst hne
              have b_w2 : AnyLater w1 (later u) := ⟨u, rfl⟩
              generalize later u = w2 at *
              clear u
              clear hst hne
              simp only [fillAll, Act.put, List.setIfInBounds_toArray, List.set_cons_zero, List.set_cons_succ, List.drop_succ_cons, List.drop_zero]
              have z_w2 := b_w2.below.size
              have a_w2 := a_w1.trans b_w2
              have s0_w2 := any_own b_w2 s0_w1
              have r0_w2 := own_row s0_w2
              have f0_w2 := own_free s0_w2
              have l0_w2 := own_lt s0_w2
              (try clear r0_w1); (try clear f0_w1)
              go_wp2_with fail
              go_roundg (n - (0 + 1))
              case measure => omega
              case rel => exact ⟨0 + 1, rfl, hlt, by go_num, a_w2, HJ.out⟩
          | succ i =>
            have li : i < l.length := by omega
            have u0 : wr.cell? ⟨b, off + i * 2 + 1, none⟩ = some (.int .i64 l[i].2) := (a_wr.below.cell hb).trans (HC.out i li).2
            have HG2 : Hid (GoodL l → l[i].2 < f) := Lib.hid (fun h => (HG.out h).2 i rfl)
            have HT2 : Hid (l[i].2 < f → GoodL (l.take (i + 1 + 1))) := Lib.hid (fun h => HT.out (by omega) (fun k hk => by
              obtain rfl : k = i := by omega
              exact h))
            clear HG HT he hin
            generalize l[i].2 = u at *
            have ki : (0 : Int) < (i : Int) + 1 := by omega
            by_cases h3 : f ≤ u
            · have HX := Lib.hid (HNo.out (fun h => by have := HG2.out h; omega))
              clear HG2 HT2
              go_wp2_with fail
              first | refine settle_wp (fun wS => AnyLater wr wS ∧ wS.heap[wr.heap.size]? = some (.cells #[.int .i64 f, .int .i64 t] 56)) ?_ ?_ | refine settle_calls (fun wS => AnyLater wr wS ∧ wS.heap[wr.heap.size]? = some (.cells #[.int .i64 f, .int .i64 t] 56)) ?_ ?_
              · refine ⟨?_, ?_⟩
                · repeat' (first | with_reducible assumption | with_reducible exact AnyLater.refl _ | with_reducible apply AnyLater.setCell | with_reducible apply AnyLater.later | with_reducible apply AnyLater.drewN | with_reducible apply AnyLater.drew | with_reducible apply AnyLater.alloc | ((try simp only [World.size_alloc, World.size_setCell, World.size_drew]); (try dsimp only); omega))
                · ((repeat (first | with_reducible assumption | ((with_reducible apply heap_new); (try simp only [World.size_alloc, World.size_setCell, World.size_drew, World.heap_drewN]); done) | ((with_reducible apply heap_new); (try simp only [World.size_alloc, World.size_setCell, World.size_drew, World.heap_drewN]); omega) | (with_reducible refine heap_old (by (try simp only [World.size_alloc, World.size_setCell, World.size_drew, World.heap_drewN]); omega) ?_) | (with_reducible refine heap_drew ?_) | (with_reducible refine heap_far (by omega) ?_) | (with_reducible apply heap_at))); all_goals rfl)
              rintro w1 ⟨b_w1, s0_w1⟩
              have a_w1 := a_wr.trans b_w1
              have r0_w1 := own_row s0_w1
              have f0_w1 := own_free s0_w1
              have l0_w1 := own_lt s0_w1
              have z_w1 := b_w1.below.size
              have u_w1 := cell_on b_w1 u0
              apply wp_region_mem (24) [] (by kernel_rfl) (by kernel_rfl) (by simp)
              case hstab =>
                intro e he v x y hxy hv
                simp only [List.mem_cons, List.not_mem_nil, or_false] at he
              case hlex =>
                intro U
                have q0 := fun (v : Later (later U)) => own_row (any_own ⟨v, rfl⟩ (any_own ⟨U, rfl⟩ s0_w1))
                have q_u_w1 := fun (v : Later (later U)) => cell_on (AnyLater.trans ⟨U, rfl⟩ ⟨v, rfl⟩) u_w1
                simp only [absFrom, absOp, idx, List.map_cons, List.map_nil, List.contains_cons, List.contains_nil, Nat.reduceBEq, Bool.or_false, Bool.false_or, Bool.true_or, Bool.or_true, Bool.false_eq_true, Nat.reduceLeDiff, Nat.reduceAdd, if_false, if_true]
                repeat (go_big_quiet_step (first | (go_at_call 28; exact in_later (filled_any _ _ _ _ (by assumption))) | (go_at_call 29; exact in_later (within_any _ _ _ _ _ _ _ (by assumption) (by assumption)))))
                exact wpQuiet_nil rfl
              case hown =>
                intro e he o ho
                simp only [List.mem_cons, List.not_mem_nil, or_false] at he
              case htail =>
                intro g u hst hne
                have b_w2 : AnyLater w1 (later u) := ⟨u, rfl⟩
                generalize later u = w2 at *
                clear u
                clear hst hne
                simp only [fillAll, Act.put, List.setIfInBounds_toArray, List.set_cons_zero, List.set_cons_succ, List.drop_succ_cons, List.drop_zero]
                have z_w2 := b_w2.below.size
                have a_w2 := a_w1.trans b_w2
                have s0_w2 := any_own b_w2 s0_w1
                have r0_w2 := own_row s0_w2
                have f0_w2 := own_free s0_w2
                have l0_w2 := own_lt s0_w2
                (try clear r0_w1); (try clear f0_w1)
                have u_w1_w2 := cell_on b_w2 u_w1
                go_wp2_with fail
                go_ret
                exact ⟨ret_bool HX.out, a_w2⟩
            · have HJ := Lib.hid (HT2.out (by omega))
              clear HG2 HT2
              go_wp2_with fail
              first | refine settle_wp (fun wS => AnyLater wr wS ∧ wS.heap[wr.heap.size]? = some (.cells #[.int .i64 f, .int .i64 t] 56)) ?_ ?_ | refine settle_calls (fun wS => AnyLater wr wS ∧ wS.heap[wr.heap.size]? = some (.cells #[.int .i64 f, .int .i64 t] 56)) ?_ ?_
              · refine ⟨?_, ?_⟩
                · repeat' (first | with_reducible assumption | with_reducible exact AnyLater.refl _ | with_reducible apply AnyLater.setCell | with_reducible apply AnyLater.later | with_reducible apply AnyLater.drewN | with_reducible apply AnyLater.drew | with_reducible apply AnyLater.alloc | ((try simp only [World.size_alloc, World.size_setCell, World.size_drew]); (try dsimp only); omega))
                · ((repeat (first | with_reducible assumption | ((with_reducible apply heap_new); (try simp only [World.size_alloc, World.size_setCell, World.size_drew, World.heap_drewN]); done) | ((with_reducible apply heap_new); (try simp only [World.size_alloc, World.size_setCell, World.size_drew, World.heap_drewN]); omega) | (with_reducible refine heap_old (by (try simp only [World.size_alloc, World.size_setCell, World.size_drew, World.heap_drewN]); omega) ?_) | (with_reducible refine heap_drew ?_) | (with_reducible refine heap_far (by omega) ?_) | (with_reducible apply heap_at))); all_goals rfl)
              rintro w1 ⟨b_w1, s0_w1⟩
              have a_w1 := a_wr.trans b_w1
              have r0_w1 := own_row s0_w1
              have f0_w1 := own_free s0_w1
              have l0_w1 := own_lt s0_w1
              have z_w1 := b_w1.below.size
              have u_w1 := cell_on b_w1 u0
              apply wp_region_mem (24) [] (by kernel_rfl) (by kernel_rfl) (by simp)
              case hstab =>
                intro e he v x y hxy hv
                simp only [List.mem_cons, List.not_mem_nil, or_false] at he
              case hlex =>
                intro U
                have q0 := fun (v : Later (later U)) => own_row (any_own ⟨v, rfl⟩ (any_own ⟨U, rfl⟩ s0_w1))
                have q_u_w1 := fun (v : Later (later U)) => cell_on (AnyLater.trans ⟨U, rfl⟩ ⟨v, rfl⟩) u_w1
                simp only [absFrom, absOp, idx, List.map_cons, List.map_nil, List.contains_cons, List.contains_nil, Nat.reduceBEq, Bool.or_false, Bool.false_or, Bool.true_or, Bool.or_true, Bool.false_eq_true, Nat.reduceLeDiff, Nat.reduceAdd, if_false, if_true]
                repeat (go_big_quiet_step (first | (go_at_call 28; exact in_later (filled_any _ _ _ _ (by assumption))) | (go_at_call 29; exact in_later (within_any _ _ _ _ _ _ _ (by assumption) (by assumption)))))
                exact wpQuiet_nil rfl
              case hown =>
                intro e he o ho
                simp only [List.mem_cons, List.not_mem_nil, or_false] at he
              case htail =>
                intro g u hst hne
                have b_w2 : AnyLater w1 (later u) := ⟨u, rfl⟩
                generalize later u = w2 at *
                clear u
                clear hst hne
                simp only [fillAll, Act.put, List.setIfInBounds_toArray, List.set_cons_zero, List.set_cons_succ, List.drop_succ_cons, List.drop_zero]
                have z_w2 := b_w2.below.size
                have a_w2 := a_w1.trans b_w2
                have s0_w2 := any_own b_w2 s0_w1
                have r0_w2 := own_row s0_w2
                have f0_w2 := own_free s0_w2
                have l0_w2 := own_lt s0_w2
                (try clear r0_w1); (try clear f0_w1)
                have u_w1_w2 := cell_on b_w2 u_w1
                go_wp2_with fail
                go_roundg (n - (i + 1 + 1))
                case measure => omega
                case rel => exact ⟨i + 1 + 1, rfl, hlt, by go_num, a_w2, HJ.out⟩
        · have hd : (f == r1 && t == r2) = false := by
            rw [Bool.and_eq_false_iff]
            by_cases h3 : f = r1
            · right; simp; exact fun e => h2 ⟨h3, e⟩
            · left; simpa using h3
          have HX := Lib.hid (HNo.out (fun h => h2 (by
            have q := (HG.out h).1
            have q2 := edge_same (b := (f, t)) (by simp only; omega)
            rw [he] at q2
            exact ⟨(Prod.mk.inj q2).1.symm, (Prod.mk.inj q2).2.symm⟩)))
          clear HG HT he h2
          go_wp2_with fail
          first | refine settle_wp (fun wS => AnyLater wr wS ∧ wS.heap[wr.heap.size]? = some (.cells #[.int .i64 f, .int .i64 t] 56)) ?_ ?_ | refine settle_calls (fun wS => AnyLater wr wS ∧ wS.heap[wr.heap.size]? = some (.cells #[.int .i64 f, .int .i64 t] 56)) ?_ ?_
          · refine ⟨?_, ?_⟩
            · repeat' (first | with_reducible assumption | with_reducible exact AnyLater.refl _ | with_reducible apply AnyLater.setCell | with_reducible apply AnyLater.later | with_reducible apply AnyLater.drewN | with_reducible apply AnyLater.drew | with_reducible apply AnyLater.alloc | ((try simp only [World.size_alloc, World.size_setCell, World.size_drew]); (try dsimp only); omega))
            · ((repeat (first | with_reducible assumption | ((with_reducible apply heap_new); (try simp only [World.size_alloc, World.size_setCell, World.size_drew, World.heap_drewN]); done) | ((with_reducible apply heap_new); (try simp only [World.size_alloc, World.size_setCell, World.size_drew, World.heap_drewN]); omega) | (with_reducible refine heap_old (by (try simp only [World.size_alloc, World.size_setCell, World.size_drew, World.heap_drewN]); omega) ?_) | (with_reducible refine heap_drew ?_) | (with_reducible refine heap_far (by omega) ?_) | (with_reducible apply heap_at))); all_goals rfl)
          rintro w1 ⟨b_w1, s0_w1⟩
          have a_w1 := a_wr.trans b_w1
          have r0_w1 := own_row s0_w1
          have f0_w1 := own_free s0_w1
          have l0_w1 := own_lt s0_w1
          have z_w1 := b_w1.below.size
          apply wp_region_mem (24) [] (by kernel_rfl) (by kernel_rfl) (by simp)
          case hstab =>
            intro e he v x y hxy hv
            simp only [List.mem_cons, List.not_mem_nil, or_false] at he
          case hlex =>
            intro U
            have q0 := fun (v : Later (later U)) => own_row (any_own ⟨v, rfl⟩ (any_own ⟨U, rfl⟩ s0_w1))
            simp only [absFrom, absOp, idx, List.map_cons, List.map_nil, List.contains_cons, List.contains_nil, Nat.reduceBEq, Bool.or_false, Bool.false_or, Bool.true_or, Bool.or_true, Bool.false_eq_true, Nat.reduceLeDiff, Nat.reduceAdd, if_false, if_true]
            repeat (go_big_quiet_step (first | (go_at_call 28; exact in_later (filled_any _ _ _ _ (by assumption))) | (go_at_call 29; exact in_later (within_any _ _ _ _ _ _ _ (by assumption) (by assumption)))))
            exact wpQuiet_nil rfl
          case hown =>
            intro e he o ho
            simp only [List.mem_cons, List.not_mem_nil, or_false] at he
          case htail =>
            intro g u hst hne
            have b_w2 : AnyLater w1 (later u) := ⟨u, rfl⟩
            generalize later u = w2 at *
            clear u
            clear hst hne
            simp only [fillAll, Act.put, List.setIfInBounds_toArray, List.set_cons_zero, List.set_cons_succ, List.drop_succ_cons, List.drop_zero]
            have z_w2 := b_w2.below.size
            have a_w2 := a_w1.trans b_w2
            have s0_w2 := any_own b_w2 s0_w1
            have r0_w2 := own_row s0_w2
            have f0_w2 := own_free s0_w2
            have l0_w2 := own_lt s0_w2
            (try clear r0_w1); (try clear f0_w1)
            go_wp2_with fail
            go_ret
            exact ⟨ret_bool HX.out, a_w2⟩
      · have e1 : decide (f < t) = false := decide_eq_false h1
        have HX := Lib.hid (HNo.out (fun h => by have := (HG.out h).1; omega))
        clear HG HT
        go_wp2_with fail
        first | refine settle_wp (fun wS => AnyLater wr wS ∧ wS.heap[wr.heap.size]? = some (.cells #[.int .i64 f, .int .i64 t] 56)) ?_ ?_ | refine settle_calls (fun wS => AnyLater wr wS ∧ wS.heap[wr.heap.size]? = some (.cells #[.int .i64 f, .int .i64 t] 56)) ?_ ?_
        · refine ⟨?_, ?_⟩
          · repeat' (first | with_reducible assumption | with_reducible exact AnyLater.refl _ | with_reducible apply AnyLater.setCell | with_reducible apply AnyLater.later | with_reducible apply AnyLater.drewN | with_reducible apply AnyLater.drew | with_reducible apply AnyLater.alloc | ((try simp only [World.size_alloc, World.size_setCell, World.size_drew]); (try dsimp only); omega))
          · ((repeat (first | with_reducible assumption | ((with_reducible apply heap_new); (try simp only [World.size_alloc, World.size_setCell, World.size_drew, World.heap_drewN]); done) | ((with_reducible apply heap_new); (try simp only [World.size_alloc, World.size_setCell, World.size_drew, World.heap_drewN]); omega) | (with_reducible refine heap_old (by (try simp only [World.size_alloc, World.size_setCell, World.size_drew, World.heap_drewN]); omega) ?_) | (with_reducible refine heap_drew ?_) | (with_reducible refine heap_far (by omega) ?_) | (with_reducible apply heap_at))); all_goals rfl)
        rintro w1 ⟨b_w1, s0_w1⟩
        have a_w1 := a_wr.trans b_w1
        have r0_w1 := own_row s0_w1
        have f0_w1 := own_free s0_w1
        have l0_w1 := own_lt s0_w1
        have z_w1 := b_w1.below.size
        apply wp_region_mem (24) [] (by kernel_rfl) (by kernel_rfl) (by simp)
        case hstab =>
          intro e he v x y hxy hv
          simp only [List.mem_cons, List.not_mem_nil, or_false] at he
        case hlex =>
          intro U
          have q0 := fun (v : Later (later U)) => own_row (any_own ⟨v, rfl⟩ (any_own ⟨U, rfl⟩ s0_w1))
          simp only [absFrom, absOp, idx, List.map_cons, List.map_nil, List.contains_cons, List.contains_nil, Nat.reduceBEq, Bool.or_false, Bool.false_or, Bool.true_or, Bool.or_true, Bool.false_eq_true, Nat.reduceLeDiff, Nat.reduceAdd, if_false, if_true]
          repeat (go_big_quiet_step (first | (go_at_call 28; exact in_later (filled_any _ _ _ _ (by assumption))) | (go_at_call 29; exact in_later (within_any _ _ _ _ _ _ _ (by assumption) (by assumption)))))
          exact wpQuiet_nil rfl
        case hown =>
          intro e he o ho
          simp only [List.mem_cons, List.not_mem_nil, or_false] at he
        case htail =>
          intro g u hst hne
          have b_w2 : AnyLater w1 (later u) := ⟨u, rfl⟩
          generalize later u = w2 at *
          clear u
          clear hst hne
          simp only [fillAll, Act.put, List.setIfInBounds_toArray, List.set_cons_zero, List.set_cons_succ, List.drop_succ_cons, List.drop_zero]
          have z_w2 := b_w2.below.size
          have a_w2 := a_w1.trans b_w2
          have s0_w2 := any_own b_w2 s0_w1
          have r0_w2 := own_row s0_w2
          have f0_w2 := own_free s0_w2
          have l0_w2 := own_lt s0_w2
          (try clear r0_w1); (try clear f0_w1)
          go_wp2_with fail
          go_ret
          exact ⟨ret_bool HX.out, a_w2⟩
    · obtain rfl : j = n := by omega
      have HX := Lib.hid (HYes.out (by have := HF.out; rwa [List.take_of_length_le (Nat.le_of_eq HL.out)] at this))
      go_wp2_with fail
      go_ret
      exact ⟨ret_bool HX.out, a_wr⟩
theorem good_any (v : Value) (l : Bands) (w : World) (c : Bool) (hcc : c = true ↔ GoodL l) (hr : RB w v l) (hn : l.length ≤ 100000) :
    Calls Tryz.prog 14 #[v] w fun e w' => e = .returned (.bool c) ∧ AnyLater w w' := by
  obtain ⟨A, cap, rfl, h2, h3⟩ := hr
  rcases Nat.eq_zero_or_pos l.length with h0 | h0
  · obtain rfl := List.eq_nil_of_length_eq_zero h0
    rw [hcc.2 GoodL.nil]
    exact good_none A cap w
  · obtain ⟨b, off, rfl, hb, hc⟩ := h3 h0
    exact good_some b off _ cap l w c hcc rfl hn hb hc

end Go.Proofs.YtiicaldnegcdiaaGreat
