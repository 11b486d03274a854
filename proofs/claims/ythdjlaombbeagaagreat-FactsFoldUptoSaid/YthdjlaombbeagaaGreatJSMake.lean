/-
  CONTRACTS: SortedFunc (of spans), Make (of spans that are there).
-/
import Derived.Shelf.SlSortCmp.NoneTotal
import Derived.Test.YthdjlaombbeagaaGreatJSortG
import Derived.Test.YthdjlaombbeagaaGreatJSCollect
import Derived.Test.YthdjlaombbeagaaGreatJLeaf
namespace Go.Proofs.YthdjlaombbeagaaGreat
open Go.RowKit Go.Shelf
open Go.Sort (SWO SortedIn PermIn grow grow_grow alloc_eq_grow putRow mapBlock flatK get_flatK size_flatK HoldsK putRowK holdsK_putRowK)

def cfS (x y : Sp) : Int := ordI x.1 y.1
theorem ltS (x y : Sp) : ltOf cfS x y = decide (x.1 < y.1) := by
  unfold ltOf cfS ordI
  by_cases h1 : x.1 < y.1
  · simp [h1]
  · by_cases h2 : y.1 < x.1 <;> simp [h1, h2]
theorem swoS : SWO (ltOf cfS) where
  irrefl x := by rw [ltS]; simp
  trans x y z h1 h2 := by rw [ltS] at *; simp at *; omega
  ntrans x y z h1 h2 := by rw [ltS] at *; simp at *; omega
set_option maxHeartbeats 1000000 in
theorem make1_any (x y : Sp) (W : World) : Calls Tryz.prog 69 #[.agg #[.int .i64 x.1, .int .i64 x.2], .agg #[.int .i64 y.1, .int .i64 y.2]] W fun e w' => e = .returned (.int .i64 (cfS x y)) ∧ ∃ q os', w' = grow (W.drewN q) os' := by
  have hcon := fun W' => cmpI64_any x.1 y.1 W'
  have HR : Hid (cfS x y = ordI x.1 y.1) := rfl
  obtain ⟨r, hr⟩ : ∃ r, ordI x.1 y.1 = r := ⟨_, rfl⟩
  rw [hr] at hcon HR
  have HC := Lib.hid hcon
  clear hr hcon
  go_enter Tryz.func69, Tryz.ntmps69
  go_wp2_with fail
  refine (HC.out _).mono ?_
  rintro e w' ⟨rfl, rfl⟩
  go_wp2
  go_ret
  exact ⟨by rw [HR.out]; rfl, 0, _, by rw [alloc_eq_grow, alloc_eq_grow, grow_grow]; rfl⟩
theorem cmpLaysS (blk off size : Nat) (w : World) : CmpLays Tryz.prog 69 #[] cellsS 2 cfS blk off size w :=
  fun _ _ _ _ x y => make1_any x y _

theorem flatK_at (l : List Sp) (t : Nat) (ht : t < l.length * 2) : (flatK cellsS 2 l.toArray)[t]! = ((l.flatMap cellsS)[t]?).getD default := by
  rw [get_flatK _ _ _ _ (by simpa using ht)]
  have e : t = t / 2 * 2 + t % 2 := by omega
  have hj : t / 2 < l.length := by omega
  have h2 := flatS (l := l) (j := t / 2) (i := t % 2) (by omega)
  rw [← e] at h2
  rw [h2, List.getElem?_eq_getElem hj]
  have h3 : (l.toArray)[t / 2]! = l[t / 2] := by
    rw [getElem!_pos _ _ (by simpa using hj)]; simp
  rw [h3]
  have h4 : t % 2 < (cellsS l[t / 2]).length := by show _ < 2; omega
  simp only [Option.bind_some]
  rw [List.getElem?_eq_getElem h4, getElem!_pos (cellsS l[t / 2]) (t % 2) h4]
  rfl
theorem holds_own {W : World} {B g cap : Nat} {l : List Sp} (h : OwnS W B (.slice (some ⟨g, 0, none⟩) l.length cap) l) : HoldsK cellsS 2 W g 0 l.toArray := fun j hj => by
  have hr : W.ownsRow B 88 2 (.slice (some ⟨g, 0, none⟩) l.length cap) l.length (l.flatMap cellsS) := h
  have hj2 : j < l.length * 2 := by rw [size_flatK] at hj; simpa using hj
  have hjl : j < (l.flatMap cellsS).length := by rw [flatS_len]; exact hj2
  rw [Nat.zero_add, hr.cellAt j hj2, flatK_at l j hj2, List.getElem?_eq_getElem hjl]
  exact ⟨rfl, hr.frozenAt j⟩
theorem sls_holds {W : World} {g : Nat} {d : Array Sp} (hg : g < W.heap.size) (h : HoldsK cellsS 2 W g 0 d) : SlS W W.heap.size (some ⟨g, 0, none⟩) d.toList := fun _ => by
  refine ⟨g, 0, rfl, hg, fun j s hs => ?_⟩
  obtain ⟨hj, e⟩ := List.getElem?_eq_some_iff.1 hs
  have hjd : j < d.size := by simpa using hj
  have k : ∀ i, i < 2 → W.cell? ⟨g, 0 + j * 2 + i, none⟩ = (cellsS s)[i]? := fun i hi => by
    have h1 := (h (j * 2 + i) (by rw [size_flatK]; omega)).1
    have h2 := flatK_at d.toList (j * 2 + i) (by simp; omega)
    rw [Array.toArray_toList] at h2
    rw [h2, flatS hi, hs] at h1
    have h4 : i < (cellsS s).length := by show _ < 2; omega
    rw [show 0 + j * 2 + i = 0 + (j * 2 + i) from by omega, h1, Option.bind_some, List.getElem?_eq_getElem h4]
    rfl
  exact ⟨k 0 (by omega), k 1 (by omega)⟩
theorem sort_below {w : World} {n0 blk n : Nat} {d : Array Sp} {os : Array Obj} (h1 : n0 ≤ blk) (h2 : blk < w.heap.size) : Below n0 w (sortWorldK cellsS 2 w blk 0 n d os) := by
  have hsz : (putRowK cellsS 2 (Sort.ahead w n) blk 0 d).heap.size = w.heap.size := by simp [putRowK, putRow, mapBlock, Sort.ahead]
  refine ⟨rfl, rfl, rfl, ?_, fun k hk => ?_⟩
  · show w.heap.size ≤ ((putRowK cellsS 2 (Sort.ahead w n) blk 0 d).heap ++ os).size
    rw [Array.size_append, hsz]; omega
  · show ((putRowK cellsS 2 (Sort.ahead w n) blk 0 d).heap ++ os)[k]? = _
    rw [Array.getElem?_append_left (by rw [hsz]; omega)]
    show (w.heap.modify blk _)[k]? = _
    rw [Array.getElem?_modify, if_neg (by omega)]
theorem sort_holds {w : World} {blk n : Nat} {d d' : Array Sp} {os : Array Obj} (h2 : blk < w.heap.size) (h : HoldsK cellsS 2 w blk 0 d) (hs : d'.size = d.size) : HoldsK cellsS 2 (sortWorldK cellsS 2 w blk 0 n d' os) blk 0 d' := by
  have h3 : HoldsK cellsS 2 (putRowK cellsS 2 (Sort.ahead w n) blk 0 d') blk 0 d' := holdsK_putRowK cellsS 2 (Sort.ahead w n) blk 0 d d' h hs
  have hsz : (putRowK cellsS 2 (Sort.ahead w n) blk 0 d').heap.size = w.heap.size := by simp [putRowK, putRow, mapBlock, Sort.ahead]
  have hb : (sortWorldK cellsS 2 w blk 0 n d' os).heap[blk]? = (putRowK cellsS 2 (Sort.ahead w n) blk 0 d').heap[blk]? := Array.getElem?_append_left (by rw [hsz]; exact h2)
  intro j hj
  have h4 := h3 j hj
  rw [World.cell?_of_block (w := putRowK cellsS 2 (Sort.ahead w n) blk 0 d') (a := ⟨blk, 0 + j, none⟩) hb, World.frozen?_of_block (w := putRowK cellsS 2 (Sort.ahead w n) blk 0 d') (a := ⟨blk, 0 + j, none⟩) hb]
  exact h4
/-- rising by where they begin -/
def RiseS (l : List Sp) : Prop := l.Pairwise fun p q => p.1 ≤ q.1
theorem rise_of {d : Array Sp} (h : SortedIn (ltOf cfS) 0 d.size d) : RiseS d.toList := by
  refine List.pairwise_iff_getElem.2 fun i j hi hj hij => ?_
  have hi' : i < d.size := by simpa using hi
  have hj' : j < d.size := by simpa using hj
  have h1 := h i j (by omega) hij hj'
  rw [ltS, decide_eq_false_iff_not, getElem!_pos d j hj', getElem!_pos d i hi'] at h1
  simp only [Array.getElem_toList]
  omega

set_option maxRecDepth 100000 in
set_option maxHeartbeats 1000000 in
theorem sortedF_any (Bv : Nat) (A : Option Addr) (c : Nat) (l : List Sp) (w : World) (hBv : Bv < w.heap.size) (hs : SlS w w.heap.size A l) (hl : l.length ≤ 100000) (h0 : 0 < l.length) (hb : w.cell? ⟨Bv, 0, none⟩ = some (.slice A l.length c)) :
    Calls Tryz.prog 67 #[.func (.func 105) #[] #[.pointer (some ⟨Bv, 0, none⟩)], .func (.func 69) #[] #[]] w fun e w' =>
      ∃ A' c' l', e = .returned (.slice A' l'.length c') ∧ SlS w' w'.heap.size A' l' ∧ l'.Perm l ∧ RiseS l' ∧ Below w.heap.size w w' := by
  have HC := Lib.hid (collect_any Bv A c l w hBv hs hl hb)
  clear hs hb
  go_enter Tryz.func67, Tryz.ntmps67
  go_wp2_with fail
  refine HC.out.mono ?_
  rintro e w1 ⟨v, rfl, ho, hb1⟩
  obtain ⟨m, hm⟩ : ∃ m, l.length = m + 1 := ⟨l.length - 1, by omega⟩
  obtain ⟨g, cap, rfl⟩ := ownsRow_succ (OwnS.row ho hm)
  rw [← hm] at ho
  rw [← hm]
  have hgl := (ho.lt g rfl)
  have eg : ∀ args w, (callFunc 69 args).run Tryz.prog w = .ok (.enter 69 args) w := enters_of Tryz.func69 (by kernel_rfl) rfl
  have hcon := AnyQ.slices_SortFunc Tryz.sortSpan 2 Tryz.isAgg88 Tryz.sizeOf88 cellsS (fun _ => rfl) cellsS_one cfS swoS 69 #[] g 0 cap l.toArray w1 eg (cmpLaysS g 0 _ w1) (holds_own ho) hgl.2 (by simp; omega)
  change Calls Tryz.prog 104 #[.slice (some ⟨g, 0, none⟩) l.length cap, _] _ _ at hcon
  have HCON := Lib.hid hcon
  have HH := Lib.hid (holds_own ho)
  have HB1 := Lib.hid hb1
  clear hcon ho hb1 hm
  go_wp2_with fail
  refine HCON.out.mono ?_
  rintro e w2 ⟨rfl, d', nn, os, hp, hsd, rfl⟩
  have hsz : d'.size = l.length := by have := hp.1; simpa using this
  have hpm : d'.toList.Perm l := by
    have h9 := hp.2.2
    rw [show l.toArray.size = d'.size from hp.1.symm, Array.extract_size] at h9
    have e1 : l.toArray.extract 0 d'.size = l.toArray := by rw [hsz]; simp
    rw [e1] at h9
    simpa using h9
  have hrs : RiseS d'.toList := rise_of (by rw [hsz]; simpa using hsd)
  have HE := Lib.hid (show ∃ A' c' l', Ending.returned (.slice (some ⟨g, 0, none⟩) l.length cap) = .returned (.slice A' l'.length c') ∧ SlS (sortWorldK cellsS 2 w1 g 0 nn d' os) (sortWorldK cellsS 2 w1 g 0 nn d' os).heap.size A' l' ∧ l'.Perm l ∧ RiseS l' ∧ Below w.heap.size w (sortWorldK cellsS 2 w1 g 0 nn d' os) from
    ⟨some ⟨g, 0, none⟩, cap, d'.toList, by rw [show d'.toList.length = l.length from by simpa using hsz], sls_holds (Nat.lt_of_lt_of_le hgl.2 (sort_below (n0 := 0) (Nat.zero_le _) hgl.2).size) (sort_holds hgl.2 HH.out (by simpa using hp.1)), hpm, hrs, HB1.out.trans (sort_below hgl.1 hgl.2)⟩)
  clear hp hsd hsz hpm hrs
  go_wp2
  go_ret
  exact HE.out
set_option maxRecDepth 100000 in
set_option maxHeartbeats 1000000 in
theorem sortedF_none (Bv : Nat) (A : Option Addr) (c : Nat) (w : World) (hBv : Bv < w.heap.size) (hb : w.cell? ⟨Bv, 0, none⟩ = some (.slice A 0 c)) :
    Calls Tryz.prog 67 #[.func (.func 105) #[] #[.pointer (some ⟨Bv, 0, none⟩)], .func (.func 69) #[] #[]] w fun e w' =>
      ∃ A' c', e = .returned (.slice A' 0 c') ∧ Below w.heap.size w w' := by
  have HC := Lib.hid (collect_any Bv A c [] w hBv (fun h => absurd rfl h) (by simp) hb)
  clear hb
  go_enter Tryz.func67, Tryz.ntmps67
  go_wp2_with fail
  refine HC.out.mono ?_
  rintro e w1 ⟨v, rfl, ho, hb1⟩
  obtain ⟨A9, c9, rfl, _, _, _⟩ := ho.sls
  have HB1 := Lib.hid hb1
  clear ho hb1
  have hcon := AnyF.slices_SortFunc_none Tryz.sortSpan A9 c9 (.func (.func 69) #[] #[]) w1
  change Calls Tryz.prog 104 #[.slice A9 0 c9, _] _ _ at hcon
  have HCON := Lib.hid hcon
  clear hcon
  simp only [List.length_nil]
  go_wp2_with fail
  refine HCON.out.mono ?_
  rintro e w2 ⟨rfl, rfl⟩
  go_wp2
  go_ret
  exact ⟨_, _, rfl, HB1.out⟩
theorem sortedF_all (Bv : Nat) (A : Option Addr) (c : Nat) (l : List Sp) (w : World) (hBv : Bv < w.heap.size) (hs : SlS w w.heap.size A l) (hl : l.length ≤ 100000) (hb : w.cell? ⟨Bv, 0, none⟩ = some (.slice A l.length c)) :
    Calls Tryz.prog 67 #[.func (.func 105) #[] #[.pointer (some ⟨Bv, 0, none⟩)], .func (.func 69) #[] #[]] w fun e w' =>
      ∃ A' c' l', e = .returned (.slice A' l'.length c') ∧ SlS w' w'.heap.size A' l' ∧ l'.Perm l ∧ RiseS l' ∧ Below w.heap.size w w' := by
  cases l with
  | nil => exact (sortedF_none Bv A c w hBv hb).mono fun e w' ⟨A', c', he, h⟩ => ⟨A', c', [], he, fun h => absurd rfl h, List.Perm.refl _, List.Pairwise.nil, h⟩
  | cons s r => exact sortedF_any Bv A c (s :: r) w hBv hs hl (by simp) hb
end Go.Proofs.YthdjlaombbeagaaGreat
