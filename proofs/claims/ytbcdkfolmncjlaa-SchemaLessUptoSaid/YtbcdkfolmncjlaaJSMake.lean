/-
  CONTRACTS: SortedFunc (of spans), Make (of spans that are there).
-/
import Derived.Shelf.SlSortCmp.WholeK
import Derived.Test.YtbcdkfolmncjlaaJSCollect
import Derived.Test.YtbcdkfolmncjlaaJLeaf
namespace Go.Proofs.Ytbcdkfolmncjlaa
open Go.RowKit Go.Shelf
open Go.Sort (SWO SortedIn PermIn grow grow_grow alloc_eq_grow putRow mapBlock flatK get_flatK size_flatK HoldsK putRowK holdsK_putRowK)

def cfS (x y : Sp) : Int := ordI x.1 y.1
theorem ltS (x y : Sp) : ltOf cfS x y = decide (x.1 < y.1) := by
  unfold ltOf cfS ordI
  by_cases h1 : x.1 < y.1
  · simp [h1]
  · by_cases h2 : y.1 < x.1 <;> simp [h1, h2]
theorem swoS : SWO (ltOf cfS) where
  irrefl x := by rw [ltS]; simp
  trans x y z h1 h2 := by rw [ltS] at *; simp at *; omega
  ntrans x y z h1 h2 := by rw [ltS] at *; simp at *; omega
theorem flatK_at (l : List Sp) (t : Nat) (ht : t < l.length * 2) : (flatK cellsS 2 l.toArray)[t]! = ((l.flatMap cellsS)[t]?).getD default := by
  rw [get_flatK _ _ _ _ (by simpa using ht)]
  have e : t = t / 2 * 2 + t % 2 := by omega
  have hj : t / 2 < l.length := by omega
  have h2 := flatS (l := l) (j := t / 2) (i := t % 2) (by omega)
  rw [← e] at h2
  rw [h2, List.getElem?_eq_getElem hj]
  have h3 : (l.toArray)[t / 2]! = l[t / 2] := by
    rw [getElem!_pos _ _ (by simpa using hj)]; simp
  rw [h3]
  have h4 : t % 2 < (cellsS l[t / 2]).length := by show _ < 2; omega
  simp only [Option.bind_some]
  rw [List.getElem?_eq_getElem h4, getElem!_pos (cellsS l[t / 2]) (t % 2) h4]
  rfl
theorem holds_own {W : World} {B g cap : Nat} {l : List Sp} (h : OwnS W B (.slice (some ⟨g, 0, none⟩) l.length cap) l) : HoldsK cellsS 2 W g 0 l.toArray := fun j hj => by
  have hr : W.ownsRow B 34 2 (.slice (some ⟨g, 0, none⟩) l.length cap) l.length (l.flatMap cellsS) := h
  have hj2 : j < l.length * 2 := by rw [size_flatK] at hj; simpa using hj
  have hjl : j < (l.flatMap cellsS).length := by rw [flatS_len]; exact hj2
  rw [Nat.zero_add, hr.cellAt j hj2, flatK_at l j hj2, List.getElem?_eq_getElem hjl]
  exact ⟨rfl, hr.frozenAt j⟩
theorem sls_holds {W : World} {g : Nat} {d : Array Sp} (hg : g < W.heap.size) (h : HoldsK cellsS 2 W g 0 d) : SlS W W.heap.size (some ⟨g, 0, none⟩) d.toList := fun _ => by
  refine ⟨g, 0, rfl, hg, fun j s hs => ?_⟩
  obtain ⟨hj, e⟩ := List.getElem?_eq_some_iff.1 hs
  have hjd : j < d.size := by simpa using hj
  have k : ∀ i, i < 2 → W.cell? ⟨g, 0 + j * 2 + i, none⟩ = (cellsS s)[i]? := fun i hi => by
    have h1 := (h (j * 2 + i) (by rw [size_flatK]; omega)).1
    have h2 := flatK_at d.toList (j * 2 + i) (by simp; omega)
    rw [Array.toArray_toList] at h2
    rw [h2, flatS hi, hs] at h1
    have h4 : i < (cellsS s).length := by show _ < 2; omega
    rw [show 0 + j * 2 + i = 0 + (j * 2 + i) from by omega, h1, Option.bind_some, List.getElem?_eq_getElem h4]
    rfl
  exact ⟨k 0 (by omega), k 1 (by omega)⟩
theorem sort_below {w : World} {n0 blk n : Nat} {d : Array Sp} {os : Array Obj} (h1 : n0 ≤ blk) (h2 : blk < w.heap.size) : Below n0 w (sortWorldK cellsS 2 w blk 0 n d os) := by
  have hsz : (putRowK cellsS 2 (Sort.ahead w n) blk 0 d).heap.size = w.heap.size := by simp [putRowK, putRow, mapBlock, Sort.ahead]
  refine ⟨rfl, rfl, rfl, ?_, fun k hk => ?_⟩
  · show w.heap.size ≤ ((putRowK cellsS 2 (Sort.ahead w n) blk 0 d).heap ++ os).size
    rw [Array.size_append, hsz]; omega
  · show ((putRowK cellsS 2 (Sort.ahead w n) blk 0 d).heap ++ os)[k]? = _
    rw [Array.getElem?_append_left (by rw [hsz]; omega)]
    show (w.heap.modify blk _)[k]? = _
    rw [Array.getElem?_modify, if_neg (by omega)]
theorem sort_holds {w : World} {blk n : Nat} {d d' : Array Sp} {os : Array Obj} (h2 : blk < w.heap.size) (h : HoldsK cellsS 2 w blk 0 d) (hs : d'.size = d.size) : HoldsK cellsS 2 (sortWorldK cellsS 2 w blk 0 n d' os) blk 0 d' := by
  have h3 : HoldsK cellsS 2 (putRowK cellsS 2 (Sort.ahead w n) blk 0 d') blk 0 d' := holdsK_putRowK cellsS 2 (Sort.ahead w n) blk 0 d d' h hs
  have hsz : (putRowK cellsS 2 (Sort.ahead w n) blk 0 d').heap.size = w.heap.size := by simp [putRowK, putRow, mapBlock, Sort.ahead]
  have hb : (sortWorldK cellsS 2 w blk 0 n d' os).heap[blk]? = (putRowK cellsS 2 (Sort.ahead w n) blk 0 d').heap[blk]? := Array.getElem?_append_left (by rw [hsz]; exact h2)
  intro j hj
  have h4 := h3 j hj
  rw [World.cell?_of_block (w := putRowK cellsS 2 (Sort.ahead w n) blk 0 d') (a := ⟨blk, 0 + j, none⟩) hb, World.frozen?_of_block (w := putRowK cellsS 2 (Sort.ahead w n) blk 0 d') (a := ⟨blk, 0 + j, none⟩) hb]
  exact h4
/-- rising by where they begin -/
def RiseS (l : List Sp) : Prop := l.Pairwise fun p q => p.1 ≤ q.1
theorem rise_of {d : Array Sp} (h : SortedIn (ltOf cfS) 0 d.size d) : RiseS d.toList := by
  refine List.pairwise_iff_getElem.2 fun i j hi hj hij => ?_
  have hi' : i < d.size := by simpa using hi
  have hj' : j < d.size := by simpa using hj
  have h1 := h i j (by omega) hij hj'
  rw [ltS, decide_eq_false_iff_not, getElem!_pos d j hj', getElem!_pos d i hi'] at h1
  simp only [Array.getElem_toList]
  omega

end Go.Proofs.Ytbcdkfolmncjlaa
