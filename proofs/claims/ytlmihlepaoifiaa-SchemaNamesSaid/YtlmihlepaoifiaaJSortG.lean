import Derived.Shelf.SlGeneric
import Derived.Shelf.SlSortCmp.WholeK
import Derived.Ground.SlsfProg
import Derived.Test.YtlmihlepaoifiaaProg
import Derived.Shelf.SlSortCmp.NoneTotal
import Derived.Deep.QuietTactic
import Derived.BigQuiet
import Derived.Deep.Draws
import Derived.Test.YtlmihlepaoifiaaJOEnd
/- Contracts of library functions at this program, laid by the tool. -/
namespace Go.Proofs
open Go.Shelf
def Try.sortStr_ren : Go.Shelf.Ren := ⟨fun | 6 => 49 | 15 => 60 | 14 => 59 | 28 => 77 | 29 => 78 | 20 => 69 | 21 => 70 | 22 => 71 | 23 => 72 | 24 => 73 | 25 => 74 | 26 => 75 | 27 => 76 | 46 => 87 | 47 => 88 | 48 => 89 | 49 => 90 | 50 => 91 | 57 => 93 | n => n, fun | 22 => 68 | 24 => 82 | 25 => 70 | 3 => 3 | 39 => 94 | 0 => 0 | 53 => 112 | 55 => 114 | 4 => 4 | 46 => 105 | 45 => 104 | 50 => 109 | 5 => 5 | 9 => 9 | 66 => 126 | 70 => 130 | 76 => 133 | 77 => 134 | n => n, fun | n => n⟩
theorem Try.sortStr : Go.Proofs.SlLaysF0.n6 Try.prog Try.sortStr_ren := {
  mixed := by kernel_rfl
  f6 := ⟨Try.f49.name, by decide, Try.func49.trans (congrArg some (by kernel_rfl))⟩
  f14 := ⟨Try.f59.name, by decide, Try.func59.trans (congrArg some (by kernel_rfl))⟩
  f15 := Try.func60.trans (congrArg some (by kernel_rfl))
  f20 := ⟨Try.f69.name, by decide, Try.func69.trans (congrArg some (by kernel_rfl))⟩
  f21 := ⟨Try.f70.name, by decide, Try.func70.trans (congrArg some (by kernel_rfl))⟩
  f22 := ⟨Try.f71.name, by decide, Try.func71.trans (congrArg some (by kernel_rfl))⟩
  f23 := ⟨Try.f72.name, by decide, Try.func72.trans (congrArg some (by kernel_rfl))⟩
  f24 := ⟨Try.f73.name, by decide, Try.func73.trans (congrArg some (by kernel_rfl))⟩
  f25 := ⟨Try.f74.name, by decide, Try.func74.trans (congrArg some (by kernel_rfl))⟩
  f26 := ⟨Try.f75.name, by decide, Try.func75.trans (congrArg some (by kernel_rfl))⟩
  f27 := ⟨Try.f76.name, by decide, Try.func76.trans (congrArg some (by kernel_rfl))⟩
  f28 := Try.func77.trans (congrArg some (by kernel_rfl))
  f29 := Try.func78.trans (congrArg some (by kernel_rfl))
  f46 := ⟨Try.f87.name, by decide, Try.func87.trans (congrArg some (by kernel_rfl))⟩
  f47 := Try.func88.trans (congrArg some (by kernel_rfl))
  f48 := Try.func89.trans (congrArg some (by kernel_rfl))
  f49 := ⟨Try.f90.name, by decide, Try.func90.trans (congrArg some (by kernel_rfl))⟩
  f50 := ⟨Try.f91.name, by decide, Try.func91.trans (congrArg some (by kernel_rfl))⟩
  f57 := ⟨Try.f93.name, by decide, Try.func93.trans (congrArg some (by kernel_rfl))⟩
  t0 := Try.underlying0
  a0 := Try.isAgg0
  z0 := Try.sizeOf0
  v0 := Try.zeroValue0
  t3 := Try.underlying3
  a3 := Try.isAgg3
  z3 := Try.sizeOf3
  v3 := Try.zeroValue3
  t4 := Try.underlying4
  a4 := Try.isAgg4
  z4 := Try.sizeOf4
  v4 := Try.zeroValue4
  t5 := Try.underlying5
  a5 := Try.isAgg5
  z5 := Try.sizeOf5
  v5 := Try.zeroValue5
  t9 := Try.underlying9
  a9 := Try.isAgg9
  z9 := Try.sizeOf9
  v9 := Try.zeroValue9
  t22 := Try.underlying68
  a22 := Try.isAgg68
  z22 := Try.sizeOf68
  v22 := Try.zeroValue68
  t25 := Try.underlying70
  a25 := Try.isAgg70
  z25 := Try.sizeOf70
  v25 := Try.zeroValue70
  t39 := Try.underlying94
  a39 := Try.isAgg94
  z39 := Try.sizeOf94
  v39 := Try.zeroValue94
  t45 := Try.underlying104
  a45 := Try.isAgg104
  z45 := Try.sizeOf104
  v45 := Try.zeroValue104
  t46 := Try.underlying105
  a46 := Try.isAgg105
  z46 := Try.sizeOf105
  v46 := Try.zeroValue105
  t50 := Try.underlying109
  a50 := Try.isAgg109
  z50 := Try.sizeOf109
  v50 := Try.zeroValue109
  t53 := Try.underlying112
  a53 := Try.isAgg112
  z53 := Try.sizeOf112
  v53 := Try.zeroValue112
  t55 := Try.underlying114
  a55 := Try.isAgg114
  z55 := Try.sizeOf114
  v55 := Try.zeroValue114
  t66 := Try.underlying126
  a66 := Try.isAgg126
  z66 := Try.sizeOf126
  v66 := Try.zeroValue126
  t70 := Try.underlying130
  a70 := Try.isAgg130
  z70 := Try.sizeOf130
  v70 := Try.zeroValue130
  t76 := Try.underlying133
  a76 := Try.isAgg133
  z76 := Try.sizeOf133
  v76 := Try.zeroValue133
  t77 := Try.underlying134
  a77 := Try.isAgg134
  z77 := Try.sizeOf134
  v77 := Try.zeroValue134 }
end Go.Proofs

/-
  PLAIN AND WORLD FACTS: slices of structs of any kind, and what a sort leaves.
-/
namespace Go.Proofs.Ytlmihlepaoifiaa
open Go.RowKit Go.Shelf
open Go.Sort (SWO SortedIn PermIn grow grow_grow alloc_eq_grow putRow mapBlock flatK get_flatK size_flatK HoldsK putRowK holdsK_putRowK)

section
variable {α : Type} [Inhabited α] {enc : α → List Value} {k : Nat}
omit [Inhabited α] in
theorem flatG (hk : ∀ x, (enc x).length = k) {l : List α} {j i : Nat} (hi : i < k) : (l.flatMap enc)[j * k + i]? = l[j]?.bind fun x => (enc x)[i]? := by
  induction l generalizing j with
  | nil => simp
  | cons x l ih =>
    cases j with
    | zero =>
      rw [List.flatMap_cons, Nat.zero_mul, Nat.zero_add, List.getElem?_append_left (by rw [hk]; exact hi)]
      simp
    | succ j =>
      have e : (j + 1) * k + i = k + (j * k + i) := by rw [Nat.succ_mul]; omega
      rw [List.flatMap_cons, e, List.getElem?_append_right (by rw [hk]; omega), hk, Nat.add_sub_cancel_left, ih]
      simp
omit [Inhabited α] in
theorem flatG_len (hk : ∀ x, (enc x).length = k) (l : List α) : (l.flatMap enc).length = l.length * k := by
  induction l with
  | nil => simp
  | cons x l ih => rw [List.flatMap_cons, List.length_append, ih, hk, List.length_cons, Nat.succ_mul]; omega
theorem flatK_atG (hk : ∀ x, (enc x).length = k) (hk0 : 0 < k) (l : List α) (t : Nat) (ht : t < l.length * k) : (flatK enc k l.toArray)[t]! = ((l.flatMap enc)[t]?).getD default := by
  rw [get_flatK _ _ _ _ (by simpa using ht)]
  have e : t = t / k * k + t % k := by rw [Nat.mul_comm]; exact (Nat.div_add_mod t k).symm
  have hm : t % k < k := Nat.mod_lt _ hk0
  have hj : t / k < l.length := Nat.div_lt_of_lt_mul (by rw [Nat.mul_comm]; exact ht)
  have h2 := flatG hk (l := l) (j := t / k) (i := t % k) hm
  rw [← e] at h2
  rw [h2, List.getElem?_eq_getElem hj]
  have h3 : (l.toArray)[t / k]! = l[t / k] := by
    rw [getElem!_pos _ _ (by simpa using hj)]; simp
  rw [h3]
  have h4 : t % k < (enc l[t / k]).length := by rw [hk]; exact hm
  simp only [Option.bind_some]
  rw [List.getElem?_eq_getElem h4, getElem!_pos (enc l[t / k]) (t % k) h4]
  rfl
theorem holds_ownG (hk : ∀ x, (enc x).length = k) (hk0 : 0 < k) {ty : TypeId} {W : World} {B g cap : Nat} {l : List α} (hr : W.ownsRow B ty k (.slice (some ⟨g, 0, none⟩) l.length cap) l.length (l.flatMap enc)) : HoldsK enc k W g 0 l.toArray := fun j hj => by
  have hj2 : j < l.length * k := by rw [size_flatK] at hj; simpa using hj
  have hjl : j < (l.flatMap enc).length := by rw [flatG_len hk]; exact hj2
  rw [Nat.zero_add, hr.cellAt j hj2, flatK_atG hk hk0 l j hj2, List.getElem?_eq_getElem hjl]
  exact ⟨rfl, hr.frozenAt j⟩
theorem cells_holdsG (hk : ∀ x, (enc x).length = k) (hk0 : 0 < k) {W : World} {g : Nat} {d : Array α} (h : HoldsK enc k W g 0 d) {j : Nat} {x : α} (hx : d.toList[j]? = some x) {i : Nat} (hi : i < k) : W.cell? ⟨g, j * k + i, none⟩ = (enc x)[i]? ∧ W.frozen? ⟨g, j * k + i, none⟩ = false := by
  obtain ⟨hj, e⟩ := List.getElem?_eq_some_iff.1 hx
  have hjd : j < d.size := by simpa using hj
  have hb : j * k + i < d.size * k := by
    have h9 : (j + 1) * k ≤ d.size * k := Nat.mul_le_mul_right k hjd
    rw [Nat.succ_mul] at h9
    omega
  have h1 := h (j * k + i) (by rw [size_flatK]; exact hb)
  have h2 := flatK_atG hk hk0 d.toList (j * k + i) (by simpa using hb)
  rw [Array.toArray_toList] at h2
  rw [h2, flatG hk hi, hx, Nat.zero_add] at h1
  have h4 : i < (enc x).length := by rw [hk]; exact hi
  refine ⟨?_, h1.2⟩
  rw [h1.1, Option.bind_some, List.getElem?_eq_getElem h4]
  rfl
theorem sort_belowG {w : World} {n0 blk n : Nat} {d : Array α} {os : Array Obj} (h1 : n0 ≤ blk) (h2 : blk < w.heap.size) : Below n0 w (sortWorldK enc k w blk 0 n d os) := by
  have hsz : (putRowK enc k (Sort.ahead w n) blk 0 d).heap.size = w.heap.size := by simp [putRowK, putRow, mapBlock, Sort.ahead]
  refine ⟨rfl, rfl, rfl, ?_, fun j hj => ?_⟩
  · show w.heap.size ≤ ((putRowK enc k (Sort.ahead w n) blk 0 d).heap ++ os).size
    rw [Array.size_append, hsz]; omega
  · show ((putRowK enc k (Sort.ahead w n) blk 0 d).heap ++ os)[j]? = _
    rw [Array.getElem?_append_left (by rw [hsz]; omega)]
    show (w.heap.modify blk _)[j]? = _
    rw [Array.getElem?_modify, if_neg (by omega)]
theorem sort_holdsG {w : World} {blk n : Nat} {d d' : Array α} {os : Array Obj} (h2 : blk < w.heap.size) (h : HoldsK enc k w blk 0 d) (hs : d'.size = d.size) : HoldsK enc k (sortWorldK enc k w blk 0 n d' os) blk 0 d' := by
  have h3 : HoldsK enc k (putRowK enc k (Sort.ahead w n) blk 0 d') blk 0 d' := holdsK_putRowK enc k (Sort.ahead w n) blk 0 d d' h hs
  have hsz : (putRowK enc k (Sort.ahead w n) blk 0 d').heap.size = w.heap.size := by simp [putRowK, putRow, mapBlock, Sort.ahead]
  have hb : (sortWorldK enc k w blk 0 n d' os).heap[blk]? = (putRowK enc k (Sort.ahead w n) blk 0 d').heap[blk]? := Array.getElem?_append_left (by rw [hsz]; exact h2)
  intro j hj
  have h4 := h3 j hj
  rw [World.cell?_of_block (w := putRowK enc k (Sort.ahead w n) blk 0 d') (a := ⟨blk, 0 + j, none⟩) hb, World.frozen?_of_block (w := putRowK enc k (Sort.ahead w n) blk 0 d') (a := ⟨blk, 0 + j, none⟩) hb]
  exact h4
end
end Go.Proofs.Ytlmihlepaoifiaa
