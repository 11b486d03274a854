import Derived.Shelf.SlGeneric
import Derived.Shelf.SlSortCmp.WholeK
import Derived.Ground.SlsfProg
import Derived.Test.YtlmihlepaoifiaaGreatProg
import Derived.Shelf.SlSortCmp.NoneTotal
import Derived.Test.YtlmihlepaoifiaaGreatJORdNum
/- Contracts of library functions at this program, laid by the tool. -/
namespace Go.Proofs
open Go.Shelf
def Tryz.sortStr_ren : Go.Shelf.Ren := ⟨fun | 6 => 49 | 15 => 68 | 14 => 67 | 28 => 88 | 29 => 89 | 20 => 80 | 21 => 81 | 22 => 82 | 23 => 83 | 24 => 84 | 25 => 85 | 26 => 86 | 27 => 87 | 46 => 99 | 47 => 100 | 48 => 101 | 49 => 102 | 50 => 103 | 57 => 107 | n => n, fun | 22 => 59 | 24 => 77 | 25 => 61 | 3 => 3 | 39 => 102 | 0 => 0 | 53 => 120 | 55 => 122 | 4 => 4 | 46 => 113 | 45 => 112 | 50 => 117 | 5 => 5 | 9 => 9 | 66 => 130 | 70 => 134 | 76 => 137 | 77 => 138 | n => n, fun | n => n⟩
theorem Tryz.sortStr : Go.Proofs.SlLaysF0.n6 Tryz.prog Tryz.sortStr_ren := {
  mixed := by kernel_rfl
  f6 := ⟨Tryz.f49.name, by decide, Tryz.func49.trans (congrArg some (by kernel_rfl))⟩
  f14 := ⟨Tryz.f67.name, by decide, Tryz.func67.trans (congrArg some (by kernel_rfl))⟩
  f15 := Tryz.func68.trans (congrArg some (by kernel_rfl))
  f20 := ⟨Tryz.f80.name, by decide, Tryz.func80.trans (congrArg some (by kernel_rfl))⟩
  f21 := ⟨Tryz.f81.name, by decide, Tryz.func81.trans (congrArg some (by kernel_rfl))⟩
  f22 := ⟨Tryz.f82.name, by decide, Tryz.func82.trans (congrArg some (by kernel_rfl))⟩
  f23 := ⟨Tryz.f83.name, by decide, Tryz.func83.trans (congrArg some (by kernel_rfl))⟩
  f24 := ⟨Tryz.f84.name, by decide, Tryz.func84.trans (congrArg some (by kernel_rfl))⟩
  f25 := ⟨Tryz.f85.name, by decide, Tryz.func85.trans (congrArg some (by kernel_rfl))⟩
  f26 := ⟨Tryz.f86.name, by decide, Tryz.func86.trans (congrArg some (by kernel_rfl))⟩
  f27 := ⟨Tryz.f87.name, by decide, Tryz.func87.trans (congrArg some (by kernel_rfl))⟩
  f28 := Tryz.func88.trans (congrArg some (by kernel_rfl))
  f29 := Tryz.func89.trans (congrArg some (by kernel_rfl))
  f46 := ⟨Tryz.f99.name, by decide, Tryz.func99.trans (congrArg some (by kernel_rfl))⟩
  f47 := Tryz.func100.trans (congrArg some (by kernel_rfl))
  f48 := Tryz.func101.trans (congrArg some (by kernel_rfl))
  f49 := ⟨Tryz.f102.name, by decide, Tryz.func102.trans (congrArg some (by kernel_rfl))⟩
  f50 := ⟨Tryz.f103.name, by decide, Tryz.func103.trans (congrArg some (by kernel_rfl))⟩
  f57 := ⟨Tryz.f107.name, by decide, Tryz.func107.trans (congrArg some (by kernel_rfl))⟩
  t0 := Tryz.underlying0
  a0 := Tryz.isAgg0
  z0 := Tryz.sizeOf0
  v0 := Tryz.zeroValue0
  t3 := Tryz.underlying3
  a3 := Tryz.isAgg3
  z3 := Tryz.sizeOf3
  v3 := Tryz.zeroValue3
  t4 := Tryz.underlying4
  a4 := Tryz.isAgg4
  z4 := Tryz.sizeOf4
  v4 := Tryz.zeroValue4
  t5 := Tryz.underlying5
  a5 := Tryz.isAgg5
  z5 := Tryz.sizeOf5
  v5 := Tryz.zeroValue5
  t9 := Tryz.underlying9
  a9 := Tryz.isAgg9
  z9 := Tryz.sizeOf9
  v9 := Tryz.zeroValue9
  t22 := Tryz.underlying59
  a22 := Tryz.isAgg59
  z22 := Tryz.sizeOf59
  v22 := Tryz.zeroValue59
  t25 := Tryz.underlying61
  a25 := Tryz.isAgg61
  z25 := Tryz.sizeOf61
  v25 := Tryz.zeroValue61
  t39 := Tryz.underlying102
  a39 := Tryz.isAgg102
  z39 := Tryz.sizeOf102
  v39 := Tryz.zeroValue102
  t45 := Tryz.underlying112
  a45 := Tryz.isAgg112
  z45 := Tryz.sizeOf112
  v45 := Tryz.zeroValue112
  t46 := Tryz.underlying113
  a46 := Tryz.isAgg113
  z46 := Tryz.sizeOf113
  v46 := Tryz.zeroValue113
  t50 := Tryz.underlying117
  a50 := Tryz.isAgg117
  z50 := Tryz.sizeOf117
  v50 := Tryz.zeroValue117
  t53 := Tryz.underlying120
  a53 := Tryz.isAgg120
  z53 := Tryz.sizeOf120
  v53 := Tryz.zeroValue120
  t55 := Tryz.underlying122
  a55 := Tryz.isAgg122
  z55 := Tryz.sizeOf122
  v55 := Tryz.zeroValue122
  t66 := Tryz.underlying130
  a66 := Tryz.isAgg130
  z66 := Tryz.sizeOf130
  v66 := Tryz.zeroValue130
  t70 := Tryz.underlying134
  a70 := Tryz.isAgg134
  z70 := Tryz.sizeOf134
  v70 := Tryz.zeroValue134
  t76 := Tryz.underlying137
  a76 := Tryz.isAgg137
  z76 := Tryz.sizeOf137
  v76 := Tryz.zeroValue137
  t77 := Tryz.underlying138
  a77 := Tryz.isAgg138
  z77 := Tryz.sizeOf138
  v77 := Tryz.zeroValue138 }
end Go.Proofs

/-
  PLAIN AND WORLD FACTS: slices of structs of any kind, and what a sort leaves.
-/
namespace Go.Proofs.YtlmihlepaoifiaaGreat
open Go.RowKit Go.Shelf
open Go.Sort (SWO SortedIn PermIn grow grow_grow alloc_eq_grow putRow mapBlock flatK get_flatK size_flatK HoldsK putRowK holdsK_putRowK)

section
variable {α : Type} [Inhabited α] {enc : α → List Value} {k : Nat}
omit [Inhabited α] in
theorem flatG (hk : ∀ x, (enc x).length = k) {l : List α} {j i : Nat} (hi : i < k) : (l.flatMap enc)[j * k + i]? = l[j]?.bind fun x => (enc x)[i]? := by
  induction l generalizing j with
  | nil => simp
  | cons x l ih =>
    cases j with
    | zero =>
      rw [List.flatMap_cons, Nat.zero_mul, Nat.zero_add, List.getElem?_append_left (by rw [hk]; exact hi)]
      simp
    | succ j =>
      have e : (j + 1) * k + i = k + (j * k + i) := by rw [Nat.succ_mul]; omega
      rw [List.flatMap_cons, e, List.getElem?_append_right (by rw [hk]; omega), hk, Nat.add_sub_cancel_left, ih]
      simp
omit [Inhabited α] in
theorem flatG_len (hk : ∀ x, (enc x).length = k) (l : List α) : (l.flatMap enc).length = l.length * k := by
  induction l with
  | nil => simp
  | cons x l ih => rw [List.flatMap_cons, List.length_append, ih, hk, List.length_cons, Nat.succ_mul]; omega
theorem flatK_atG (hk : ∀ x, (enc x).length = k) (hk0 : 0 < k) (l : List α) (t : Nat) (ht : t < l.length * k) : (flatK enc k l.toArray)[t]! = ((l.flatMap enc)[t]?).getD default := by
  rw [get_flatK _ _ _ _ (by simpa using ht)]
  have e : t = t / k * k + t % k := by rw [Nat.mul_comm]; exact (Nat.div_add_mod t k).symm
  have hm : t % k < k := Nat.mod_lt _ hk0
  have hj : t / k < l.length := Nat.div_lt_of_lt_mul (by rw [Nat.mul_comm]; exact ht)
  have h2 := flatG hk (l := l) (j := t / k) (i := t % k) hm
  rw [← e] at h2
  rw [h2, List.getElem?_eq_getElem hj]
  have h3 : (l.toArray)[t / k]! = l[t / k] := by
    rw [getElem!_pos _ _ (by simpa using hj)]; simp
  rw [h3]
  have h4 : t % k < (enc l[t / k]).length := by rw [hk]; exact hm
  simp only [Option.bind_some]
  rw [List.getElem?_eq_getElem h4, getElem!_pos (enc l[t / k]) (t % k) h4]
  rfl
theorem holds_ownG (hk : ∀ x, (enc x).length = k) (hk0 : 0 < k) {ty : TypeId} {W : World} {B g cap : Nat} {l : List α} (hr : W.ownsRow B ty k (.slice (some ⟨g, 0, none⟩) l.length cap) l.length (l.flatMap enc)) : HoldsK enc k W g 0 l.toArray := fun j hj => by
  have hj2 : j < l.length * k := by rw [size_flatK] at hj; simpa using hj
  have hjl : j < (l.flatMap enc).length := by rw [flatG_len hk]; exact hj2
  rw [Nat.zero_add, hr.cellAt j hj2, flatK_atG hk hk0 l j hj2, List.getElem?_eq_getElem hjl]
  exact ⟨rfl, hr.frozenAt j⟩
theorem cells_holdsG (hk : ∀ x, (enc x).length = k) (hk0 : 0 < k) {W : World} {g : Nat} {d : Array α} (h : HoldsK enc k W g 0 d) {j : Nat} {x : α} (hx : d.toList[j]? = some x) {i : Nat} (hi : i < k) : W.cell? ⟨g, j * k + i, none⟩ = (enc x)[i]? ∧ W.frozen? ⟨g, j * k + i, none⟩ = false := by
  obtain ⟨hj, e⟩ := List.getElem?_eq_some_iff.1 hx
  have hjd : j < d.size := by simpa using hj
  have hb : j * k + i < d.size * k := by
    have h9 : (j + 1) * k ≤ d.size * k := Nat.mul_le_mul_right k hjd
    rw [Nat.succ_mul] at h9
    omega
  have h1 := h (j * k + i) (by rw [size_flatK]; exact hb)
  have h2 := flatK_atG hk hk0 d.toList (j * k + i) (by simpa using hb)
  rw [Array.toArray_toList] at h2
  rw [h2, flatG hk hi, hx, Nat.zero_add] at h1
  have h4 : i < (enc x).length := by rw [hk]; exact hi
  refine ⟨?_, h1.2⟩
  rw [h1.1, Option.bind_some, List.getElem?_eq_getElem h4]
  rfl
theorem sort_belowG {w : World} {n0 blk n : Nat} {d : Array α} {os : Array Obj} (h1 : n0 ≤ blk) (h2 : blk < w.heap.size) : Below n0 w (sortWorldK enc k w blk 0 n d os) := by
  have hsz : (putRowK enc k (Sort.ahead w n) blk 0 d).heap.size = w.heap.size := by simp [putRowK, putRow, mapBlock, Sort.ahead]
  refine ⟨rfl, rfl, rfl, ?_, fun j hj => ?_⟩
  · show w.heap.size ≤ ((putRowK enc k (Sort.ahead w n) blk 0 d).heap ++ os).size
    rw [Array.size_append, hsz]; omega
  · show ((putRowK enc k (Sort.ahead w n) blk 0 d).heap ++ os)[j]? = _
    rw [Array.getElem?_append_left (by rw [hsz]; omega)]
    show (w.heap.modify blk _)[j]? = _
    rw [Array.getElem?_modify, if_neg (by omega)]
theorem sort_holdsG {w : World} {blk n : Nat} {d d' : Array α} {os : Array Obj} (h2 : blk < w.heap.size) (h : HoldsK enc k w blk 0 d) (hs : d'.size = d.size) : HoldsK enc k (sortWorldK enc k w blk 0 n d' os) blk 0 d' := by
  have h3 : HoldsK enc k (putRowK enc k (Sort.ahead w n) blk 0 d') blk 0 d' := holdsK_putRowK enc k (Sort.ahead w n) blk 0 d d' h hs
  have hsz : (putRowK enc k (Sort.ahead w n) blk 0 d').heap.size = w.heap.size := by simp [putRowK, putRow, mapBlock, Sort.ahead]
  have hb : (sortWorldK enc k w blk 0 n d' os).heap[blk]? = (putRowK enc k (Sort.ahead w n) blk 0 d').heap[blk]? := Array.getElem?_append_left (by rw [hsz]; exact h2)
  intro j hj
  have h4 := h3 j hj
  rw [World.cell?_of_block (w := putRowK enc k (Sort.ahead w n) blk 0 d') (a := ⟨blk, 0 + j, none⟩) hb, World.frozen?_of_block (w := putRowK enc k (Sort.ahead w n) blk 0 d') (a := ⟨blk, 0 + j, none⟩) hb]
  exact h4
end
end Go.Proofs.YtlmihlepaoifiaaGreat
