import Derived.RangeFuncNested
import Derived.OwnWalkIn
import Derived.Test.YtkoknogefmfmnaaJSAdd
import Derived.Test.YtkoknogefmfmnaaJOKeyW
import Derived.Laws.EntriesVeiled
import Derived.Shelf.SlSortCmp.NoneTotal
import Derived.Test.YtkoknogefmfmnaaJSortG
import Derived.Test.YtkoknogefmfmnaaJLeaf
/-
  CONTRACT: told (two sets' spans together).
-/
namespace Go.Proofs.Ytkoknogefmfmnaa
open Go.RowKit Go.Shelf

/-- what the iterator hands on -/
def toldV (x : Sp × Nat) : Array Value := #[.agg #[.int .i64 x.1.1, .int .i64 x.1.2], .int .i64 (x.2 : Int)]
/-- One round of the loop that is handed spans. -/
def HandsS (B l N : Nat) (J Jx : List (Sp × Nat) → World → Prop) : Prop :=
  ∀ m pre (x : Sp × Nat) W, J pre W → pre.length < N → YieldAt Fence.wide m Try.prog l #[.agg #[.int .i64 x.1.1, .int .i64 x.1.2], .int .i64 (x.2 : Int)] W fun e W' =>
    (e = .returned (.bool true) ∧ J (pre ++ [x]) W' ∧ Below B W W') ∨ (e = .returned (.bool false) ∧ Jx (pre ++ [x]) W')
theorem abides_to {α : Type} {B : Nat} {J : List α → World → Prop} (hJ : AbidesFrom B J) {p : List α} {w w' : World} (h : J p w) (hb : Below w.heap.size w w') : J p w' :=
  hJ p w w' none h ⟨hb.os, hb.tape, hb.output, hb.size, fun k hk _ => hb.block k hk⟩ (fun r e => by cases e)
theorem turn_in64 {l : List Sp} {t : Int} (h : Live l t) (ht : t ≤ maxT) (hm : minT ≤ t) : minT ≤ turnI l t ∧ turnI l t ≤ maxT := by
  by_cases h1 : t < maxT
  · have := turn_gt h h1; omega
  · cases l with
    | nil => exact ⟨by show minT ≤ maxT; decide, Int.le_refl _⟩
    | cons s r => have := live_max h (by simp); omega
theorem told_step0 {a b ca cb : List Sp} {t T : Int} {pre : List (Sp × Nat)} (h : ∀ r, Told ca cb t r → Told a b minT (pre ++ r)) (hT : toI ca cb t = T) (hn : ¬ (ca = [] ∧ cb = [])) (ha : begunB ca t = false) (hb : begunB cb t = false) :
    ∀ r, Told (behindL ca T) (behindL cb T) T r → Told a b minT (pre ++ r) := fun r hr => by
  subst hT
  have := h _ (Told.next hn hr)
  rw [ha, hb] at this
  exact this
theorem told_step1 {a b ca cb : List Sp} {t T : Int} {pre : List (Sp × Nat)} {x y : Bool} {who : Nat} (h : ∀ r, Told ca cb t r → Told a b minT (pre ++ r)) (hT : toI ca cb t = T) (hn : ¬ (ca = [] ∧ cb = [])) (ha : begunB ca t = x) (hb : begunB cb t = y) (hw : whoN x y = who) (h0 : who ≠ 0) :
    ∀ r, Told (behindL ca T) (behindL cb T) T r → Told a b minT (pre ++ [((t, T), who)] ++ r) := fun r hr => by
  subst hT
  have := h _ (Told.next hn hr)
  rw [ha, hb, hw, if_neg h0] at this
  rwa [List.append_assoc]
theorem SlS.back {W W' : World} {A : Option Addr} {l : List Sp} (B : Nat) (h : SlS W' B A l) (hb : Below B W W') : SlS W B A l := fun hl => by
  obtain ⟨b, o, e, hlt, hc⟩ := h hl
  exact ⟨b, o, e, hlt, fun j s hs => ⟨(hb.cell (p := ⟨b, _, none⟩) hlt).symm.trans (hc j s hs).c0, (hb.cell (p := ⟨b, _, none⟩) hlt).symm.trans (hc j s hs).c1⟩⟩
theorem whole_len {l : List Sp} : ((l.length : Int) = 0) = (l = []) := by
  refine propext ⟨fun h => List.length_eq_zero_iff.1 (by omega), fun h => by rw [h]; rfl⟩

end Go.Proofs.Ytkoknogefmfmnaa

/-
  CONTRACTS: told's value hands on what two sets have; told.
-/
namespace Go.Proofs.Ytkoknogefmfmnaa
open Go.RowKit Go.Shelf

/-- which owners are wanted -/
def wantsOr (_ : Nat) : Bool := true
def wantsAnd (n : Nat) : Bool := n == 3
def wantsMinus (n : Nat) : Bool := n == 1
end Go.Proofs.Ytkoknogefmfmnaa

/-
  CONTRACTS: chosen; Or, And, Minus.
-/
namespace Go.Proofs.Ytkoknogefmfmnaa
open Go.RowKit Go.Shelf
attribute [local go_sem] Oper.semAt_some

def SpBox (W : World) (g : Nat) (s : Sp) : Prop := W.heap[g]? = some (.cells #[.int .i64 s.1, .int .i64 s.2] 127 (0, 0))
theorem SpBox.cell {W : World} {g : Nat} {s : Sp} (h : SpBox W g s) (j : Nat) : W.cell? ⟨g, j, none⟩ = (#[Value.int .i64 s.1, .int .i64 s.2])[j]? := by unfold SpBox at h; simp [World.cell?, h]
theorem SpBox.kept {W W' : World} {g : Nat} {s : Sp} {row : Option Nat} (h : SpBox W g s) (hg : W.grownBy W' row) (hr : ∀ r, row = some r → ∃ o : Obj, W.heap[r]? = some o ∧ o.isCells = false) : SpBox W' g s := by
  refine (hg.block g (Array.getElem?_eq_some_iff.1 h).1 fun e => ?_).trans h
  obtain ⟨o, ho, hc⟩ := hr g e.symm
  rw [show W.heap[g]? = _ from h] at ho
  cases ho
  simp [Obj.isCells] at hc
def chosenL (f : Nat → Bool) (a b l : List Sp) : Prop := ∃ r, Told a b minT r ∧ l = pickL f [] r
/-- What choosing answers. -/
def ChEnd (W : World) (f : Nat → Bool) (a b : List Sp) (e : Ending) (W' : World) : Prop :=
  ((setB a = true ∧ setB b = true ∧ ∃ l v, chosenL f a b l ∧ l.length ≤ 2 * a.length + 2 * b.length ∧ e = .returned (.tuple #[v, .int .i64 0]) ∧ OwnS W' W.heap.size v l) ∨
   ((setB a && setB b) = false ∧ e = .returned (.tuple #[.slice none 0 0, .int .i64 30]))) ∧ Below W.heap.size W W'
theorem live_of {l : List Sp} (h : setB l = true) (hk : ∀ s ∈ l, SpOk s) : Live l minT := by
  have hs : SetL l := of_decide_eq_true h
  exact ⟨hs, fun s hm => by have := hk s hm; have := hs.2 s hm; unfold SpOk at *; omega⟩

theorem isSet_is (A : Option Addr) (c : Nat) (l : List Sp) (w : World) (v : Bool) (hv : setB l = v) (hs : SlS w w.heap.size A l) (hl : l.length ≤ 100000) :
    Calls Try.prog 109 #[.slice A l.length c] w fun e w' => e = .returned (.bool v) ∧ Below w.heap.size w w' := by
  subst hv; exact isSet_any A c l w hs hl

end Go.Proofs.Ytkoknogefmfmnaa

/-
  CONTRACTS: slices.Values, AppendSeq, Collect (of spans).
-/
namespace Go.Proofs.Ytkoknogefmfmnaa
open Go.RowKit Go.Shelf
attribute [local go_sem] Oper.semAt_some

/-- One round of the loop that is handed spans. -/
def HandsV (B l N : Nat) (J Jx : List Sp → World → Prop) : Prop :=
  ∀ m pre (x : Sp) W, J pre W → pre.length < N → YieldAt Fence.wide m Try.prog l #[.agg #[.int .i64 x.1, .int .i64 x.2]] W fun e W' =>
    (e = .returned (.bool true) ∧ J (pre ++ [x]) W' ∧ Below B W W') ∨ (e = .returned (.bool false) ∧ Jx (pre ++ [x]) W')

/-- what stands behind some rounds of AppendSeq -/
def VMid (w : World) (N : Nat) (pre : List Sp) (W : World) : Prop :=
  ∃ v, Boxed W w.heap.size 128 v ∧ OwnS W w.heap.size v pre ∧ Below w.heap.size w W ∧ pre.length ≤ N
theorem vMid_own (w : World) (N : Nat) : OwnFrom (w.heap.size + 1) (VMid w N) := fun pre X Y row ⟨v, g1, g2, g6, g8⟩ hg hr => by
  have hne : ∀ b, b < w.heap.size + 1 → some b ≠ row := fun b hb e => by have := (hr b e.symm).1; omega
  exact ⟨v, g1.kept hg (hne _ (by omega)), g2.kept hg (fun r e => (hr r e).2), g6.grown hg g6.size (fun j ej => by have := (hr j ej).1; omega), g8⟩
theorem VMid.alloc {w : World} {N : Nat} {pre : List Sp} {W : World} (h : VMid w N pre W) (o : Obj) : VMid w N pre (W.alloc o) := by
  obtain ⟨v, g1, g2, g6, g8⟩ := h
  exact ⟨v, g1.alloc _, g2.alloc _, g6.alloc g6.size _, g8⟩

end Go.Proofs.Ytkoknogefmfmnaa

/-
  CONTRACTS: SortedFunc (of spans), Make (of spans that are there).
-/
namespace Go.Proofs.Ytkoknogefmfmnaa
open Go.RowKit Go.Shelf
open Go.Sort (SWO SortedIn PermIn grow grow_grow alloc_eq_grow putRow mapBlock flatK get_flatK size_flatK HoldsK putRowK holdsK_putRowK)

def cfS (x y : Sp) : Int := ordI x.1 y.1
theorem ltS (x y : Sp) : ltOf cfS x y = decide (x.1 < y.1) := by
  unfold ltOf cfS ordI
  by_cases h1 : x.1 < y.1
  · simp [h1]
  · by_cases h2 : y.1 < x.1 <;> simp [h1, h2]
theorem swoS : SWO (ltOf cfS) where
  irrefl x := by rw [ltS]; simp
  trans x y z h1 h2 := by rw [ltS] at *; simp at *; omega
  ntrans x y z h1 h2 := by rw [ltS] at *; simp at *; omega
theorem flatK_at (l : List Sp) (t : Nat) (ht : t < l.length * 2) : (flatK cellsS 2 l.toArray)[t]! = ((l.flatMap cellsS)[t]?).getD default := by
  rw [get_flatK _ _ _ _ (by simpa using ht)]
  have e : t = t / 2 * 2 + t % 2 := by omega
  have hj : t / 2 < l.length := by omega
  have h2 := flatS (l := l) (j := t / 2) (i := t % 2) (by omega)
  rw [← e] at h2
  rw [h2, List.getElem?_eq_getElem hj]
  have h3 : (l.toArray)[t / 2]! = l[t / 2] := by
    rw [getElem!_pos _ _ (by simpa using hj)]; simp
  rw [h3]
  have h4 : t % 2 < (cellsS l[t / 2]).length := by show _ < 2; omega
  simp only [Option.bind_some]
  rw [List.getElem?_eq_getElem h4, getElem!_pos (cellsS l[t / 2]) (t % 2) h4]
  rfl
theorem holds_own {W : World} {B g cap : Nat} {l : List Sp} (h : OwnS W B (.slice (some ⟨g, 0, none⟩) l.length cap) l) : HoldsK cellsS 2 W g 0 l.toArray := fun j hj => by
  have hr : W.ownsRow B 127 2 (.slice (some ⟨g, 0, none⟩) l.length cap) l.length (l.flatMap cellsS) := h
  have hj2 : j < l.length * 2 := by rw [size_flatK] at hj; simpa using hj
  have hjl : j < (l.flatMap cellsS).length := by rw [flatS_len]; exact hj2
  rw [Nat.zero_add, hr.cellAt j hj2, flatK_at l j hj2, List.getElem?_eq_getElem hjl]
  exact ⟨rfl, hr.frozenAt j⟩
theorem sls_holds {W : World} {g : Nat} {d : Array Sp} (hg : g < W.heap.size) (h : HoldsK cellsS 2 W g 0 d) : SlS W W.heap.size (some ⟨g, 0, none⟩) d.toList := fun _ => by
  refine ⟨g, 0, rfl, hg, fun j s hs => ?_⟩
  obtain ⟨hj, e⟩ := List.getElem?_eq_some_iff.1 hs
  have hjd : j < d.size := by simpa using hj
  have k : ∀ i, i < 2 → W.cell? ⟨g, 0 + j * 2 + i, none⟩ = (cellsS s)[i]? := fun i hi => by
    have h1 := (h (j * 2 + i) (by rw [size_flatK]; omega)).1
    have h2 := flatK_at d.toList (j * 2 + i) (by simp; omega)
    rw [Array.toArray_toList] at h2
    rw [h2, flatS hi, hs] at h1
    have h4 : i < (cellsS s).length := by show _ < 2; omega
    rw [show 0 + j * 2 + i = 0 + (j * 2 + i) from by omega, h1, Option.bind_some, List.getElem?_eq_getElem h4]
    rfl
  exact ⟨k 0 (by omega), k 1 (by omega)⟩
theorem sort_below {w : World} {n0 blk n : Nat} {d : Array Sp} {os : Array Obj} (h1 : n0 ≤ blk) (h2 : blk < w.heap.size) : Below n0 w (sortWorldK cellsS 2 w blk 0 n d os) := by
  have hsz : (putRowK cellsS 2 (Sort.ahead w n) blk 0 d).heap.size = w.heap.size := by simp [putRowK, putRow, mapBlock, Sort.ahead]
  refine ⟨rfl, rfl, rfl, ?_, fun k hk => ?_⟩
  · show w.heap.size ≤ ((putRowK cellsS 2 (Sort.ahead w n) blk 0 d).heap ++ os).size
    rw [Array.size_append, hsz]; omega
  · show ((putRowK cellsS 2 (Sort.ahead w n) blk 0 d).heap ++ os)[k]? = _
    rw [Array.getElem?_append_left (by rw [hsz]; omega)]
    show (w.heap.modify blk _)[k]? = _
    rw [Array.getElem?_modify, if_neg (by omega)]
theorem sort_holds {w : World} {blk n : Nat} {d d' : Array Sp} {os : Array Obj} (h2 : blk < w.heap.size) (h : HoldsK cellsS 2 w blk 0 d) (hs : d'.size = d.size) : HoldsK cellsS 2 (sortWorldK cellsS 2 w blk 0 n d' os) blk 0 d' := by
  have h3 : HoldsK cellsS 2 (putRowK cellsS 2 (Sort.ahead w n) blk 0 d') blk 0 d' := holdsK_putRowK cellsS 2 (Sort.ahead w n) blk 0 d d' h hs
  have hsz : (putRowK cellsS 2 (Sort.ahead w n) blk 0 d').heap.size = w.heap.size := by simp [putRowK, putRow, mapBlock, Sort.ahead]
  have hb : (sortWorldK cellsS 2 w blk 0 n d' os).heap[blk]? = (putRowK cellsS 2 (Sort.ahead w n) blk 0 d').heap[blk]? := Array.getElem?_append_left (by rw [hsz]; exact h2)
  intro j hj
  have h4 := h3 j hj
  rw [World.cell?_of_block (w := putRowK cellsS 2 (Sort.ahead w n) blk 0 d') (a := ⟨blk, 0 + j, none⟩) hb, World.frozen?_of_block (w := putRowK cellsS 2 (Sort.ahead w n) blk 0 d') (a := ⟨blk, 0 + j, none⟩) hb]
  exact h4
/-- rising by where they begin -/
def RiseS (l : List Sp) : Prop := l.Pairwise fun p q => p.1 ≤ q.1
theorem rise_of {d : Array Sp} (h : SortedIn (ltOf cfS) 0 d.size d) : RiseS d.toList := by
  refine List.pairwise_iff_getElem.2 fun i j hi hj hij => ?_
  have hi' : i < d.size := by simpa using hi
  have hj' : j < d.size := by simpa using hj
  have h1 := h i j (by omega) hij hj'
  rw [ltS, decide_eq_false_iff_not, getElem!_pos d j hj', getElem!_pos d i hi'] at h1
  simp only [Array.getElem_toList]
  omega

end Go.Proofs.Ytkoknogefmfmnaa
