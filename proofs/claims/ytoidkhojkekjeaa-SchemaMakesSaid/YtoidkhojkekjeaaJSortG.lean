/-
  PLAIN AND WORLD FACTS: slices of structs of any kind, and what a sort leaves.
-/
import Derived.Shelf.SlSortCmp.WholeK
import Derived.Test.YtoidkhojkekjeaaJORdNum
namespace Go.Proofs.Ytoidkhojkekjeaa
open Go.RowKit Go.Shelf
open Go.Sort (SWO SortedIn PermIn grow grow_grow alloc_eq_grow putRow mapBlock flatK get_flatK size_flatK HoldsK putRowK holdsK_putRowK)

section
variable {α : Type} [Inhabited α] {enc : α → List Value} {k : Nat}
omit [Inhabited α] in
theorem flatG (hk : ∀ x, (enc x).length = k) {l : List α} {j i : Nat} (hi : i < k) : (l.flatMap enc)[j * k + i]? = l[j]?.bind fun x => (enc x)[i]? := by
  induction l generalizing j with
  | nil => simp
  | cons x l ih =>
    cases j with
    | zero =>
      rw [List.flatMap_cons, Nat.zero_mul, Nat.zero_add, List.getElem?_append_left (by rw [hk]; exact hi)]
      simp
    | succ j =>
      have e : (j + 1) * k + i = k + (j * k + i) := by rw [Nat.succ_mul]; omega
      rw [List.flatMap_cons, e, List.getElem?_append_right (by rw [hk]; omega), hk, Nat.add_sub_cancel_left, ih]
      simp
omit [Inhabited α] in
theorem flatG_len (hk : ∀ x, (enc x).length = k) (l : List α) : (l.flatMap enc).length = l.length * k := by
  induction l with
  | nil => simp
  | cons x l ih => rw [List.flatMap_cons, List.length_append, ih, hk, List.length_cons, Nat.succ_mul]; omega
theorem flatK_atG (hk : ∀ x, (enc x).length = k) (hk0 : 0 < k) (l : List α) (t : Nat) (ht : t < l.length * k) : (flatK enc k l.toArray)[t]! = ((l.flatMap enc)[t]?).getD default := by
  rw [get_flatK _ _ _ _ (by simpa using ht)]
  have e : t = t / k * k + t % k := by rw [Nat.mul_comm]; exact (Nat.div_add_mod t k).symm
  have hm : t % k < k := Nat.mod_lt _ hk0
  have hj : t / k < l.length := Nat.div_lt_of_lt_mul (by rw [Nat.mul_comm]; exact ht)
  have h2 := flatG hk (l := l) (j := t / k) (i := t % k) hm
  rw [← e] at h2
  rw [h2, List.getElem?_eq_getElem hj]
  have h3 : (l.toArray)[t / k]! = l[t / k] := by
    rw [getElem!_pos _ _ (by simpa using hj)]; simp
  rw [h3]
  have h4 : t % k < (enc l[t / k]).length := by rw [hk]; exact hm
  simp only [Option.bind_some]
  rw [List.getElem?_eq_getElem h4, getElem!_pos (enc l[t / k]) (t % k) h4]
  rfl
theorem holds_ownG (hk : ∀ x, (enc x).length = k) (hk0 : 0 < k) {ty : TypeId} {W : World} {B g cap : Nat} {l : List α} (hr : W.ownsRow B ty k (.slice (some ⟨g, 0, none⟩) l.length cap) l.length (l.flatMap enc)) : HoldsK enc k W g 0 l.toArray := fun j hj => by
  have hj2 : j < l.length * k := by rw [size_flatK] at hj; simpa using hj
  have hjl : j < (l.flatMap enc).length := by rw [flatG_len hk]; exact hj2
  rw [Nat.zero_add, hr.cellAt j hj2, flatK_atG hk hk0 l j hj2, List.getElem?_eq_getElem hjl]
  exact ⟨rfl, hr.frozenAt j⟩
theorem cells_holdsG (hk : ∀ x, (enc x).length = k) (hk0 : 0 < k) {W : World} {g : Nat} {d : Array α} (h : HoldsK enc k W g 0 d) {j : Nat} {x : α} (hx : d.toList[j]? = some x) {i : Nat} (hi : i < k) : W.cell? ⟨g, j * k + i, none⟩ = (enc x)[i]? ∧ W.frozen? ⟨g, j * k + i, none⟩ = false := by
  obtain ⟨hj, e⟩ := List.getElem?_eq_some_iff.1 hx
  have hjd : j < d.size := by simpa using hj
  have hb : j * k + i < d.size * k := by
    have h9 : (j + 1) * k ≤ d.size * k := Nat.mul_le_mul_right k hjd
    rw [Nat.succ_mul] at h9
    omega
  have h1 := h (j * k + i) (by rw [size_flatK]; exact hb)
  have h2 := flatK_atG hk hk0 d.toList (j * k + i) (by simpa using hb)
  rw [Array.toArray_toList] at h2
  rw [h2, flatG hk hi, hx, Nat.zero_add] at h1
  have h4 : i < (enc x).length := by rw [hk]; exact hi
  refine ⟨?_, h1.2⟩
  rw [h1.1, Option.bind_some, List.getElem?_eq_getElem h4]
  rfl
theorem sort_belowG {w : World} {n0 blk n : Nat} {d : Array α} {os : Array Obj} (h1 : n0 ≤ blk) (h2 : blk < w.heap.size) : Below n0 w (sortWorldK enc k w blk 0 n d os) := by
  have hsz : (putRowK enc k (Sort.ahead w n) blk 0 d).heap.size = w.heap.size := by simp [putRowK, putRow, mapBlock, Sort.ahead]
  refine ⟨rfl, rfl, rfl, ?_, fun j hj => ?_⟩
  · show w.heap.size ≤ ((putRowK enc k (Sort.ahead w n) blk 0 d).heap ++ os).size
    rw [Array.size_append, hsz]; omega
  · show ((putRowK enc k (Sort.ahead w n) blk 0 d).heap ++ os)[j]? = _
    rw [Array.getElem?_append_left (by rw [hsz]; omega)]
    show (w.heap.modify blk _)[j]? = _
    rw [Array.getElem?_modify, if_neg (by omega)]
theorem sort_holdsG {w : World} {blk n : Nat} {d d' : Array α} {os : Array Obj} (h2 : blk < w.heap.size) (h : HoldsK enc k w blk 0 d) (hs : d'.size = d.size) : HoldsK enc k (sortWorldK enc k w blk 0 n d' os) blk 0 d' := by
  have h3 : HoldsK enc k (putRowK enc k (Sort.ahead w n) blk 0 d') blk 0 d' := holdsK_putRowK enc k (Sort.ahead w n) blk 0 d d' h hs
  have hsz : (putRowK enc k (Sort.ahead w n) blk 0 d').heap.size = w.heap.size := by simp [putRowK, putRow, mapBlock, Sort.ahead]
  have hb : (sortWorldK enc k w blk 0 n d' os).heap[blk]? = (putRowK enc k (Sort.ahead w n) blk 0 d').heap[blk]? := Array.getElem?_append_left (by rw [hsz]; exact h2)
  intro j hj
  have h4 := h3 j hj
  rw [World.cell?_of_block (w := putRowK enc k (Sort.ahead w n) blk 0 d') (a := ⟨blk, 0 + j, none⟩) hb, World.frozen?_of_block (w := putRowK enc k (Sort.ahead w n) blk 0 d') (a := ⟨blk, 0 + j, none⟩) hb]
  exact h4
end
end Go.Proofs.Ytoidkhojkekjeaa
