import Derived.Laws.ResultCell
import Derived.Test.YtbcdkfolmncjlaaJOArgs
import Derived.Test.YtbcdkfolmncjlaaJORdRead
import Derived.Test.YtbcdkfolmncjlaaJSTold
import Derived.Shelf.RegionOpen
/-
  CONTRACTS over datoms: placesOf, has, part.
-/
namespace Go.Proofs.Ytbcdkfolmncjlaa
open Go.RowKit

/-- where E, A and V stand, in a slot -/
def plcV (o : Int) : Value := if o = 1 then .agg #[.int .i64 (0 : Int), .int .i64 (1 : Int), .int .i64 (2 : Int)] else if o = 2 then .agg #[.int .i64 (1 : Int), .int .i64 (0 : Int), .int .i64 (2 : Int)] else if o = 3 then .agg #[.int .i64 (2 : Int), .int .i64 (0 : Int), .int .i64 (1 : Int)] else if o = 4 then .agg #[.int .i64 (2 : Int), .int .i64 (1 : Int), .int .i64 (0 : Int)] else .agg #[.int .i64 (0 : Int), .int .i64 (0 : Int), .int .i64 (0 : Int)]
theorem plcV_is {o : Int} (h : isO o = true) : plcV o = .agg #[.int .i64 ((plE o : Nat) : Int), .int .i64 ((plA o : Nat) : Int), .int .i64 ((plV o : Nat) : Int)] := by
  rcases isO_cases h with rfl | rfl | rfl | rfl <;> rfl
/-- what a datom has at a place, E, A and V at any three -/
def partPl (pe pa pv : Nat) (d : Dat) (i : Nat) : PartP :=
  if i = pe then numP d.e else if i = pa then numP d.a else if i = pv then valP d else if i = 3 then numP d.t else if i = 4 then numP (cutN d.add) else if i = 5 then numP d.fr else numP d.til
theorem partD_is (o : Int) (d : Dat) (i : Nat) : partD o d i = partPl (plE o) (plA o) (plV o) d i := rfl
end Go.Proofs.Ytbcdkfolmncjlaa

/-
  CONTRACTS over datoms: told (the iterator over a datom's parts), compareParts.
-/
namespace Go.Proofs.Ytbcdkfolmncjlaa
open Go.RowKit Go.Shelf

/-- the places, in their order -/
def allF : List (Fin 7) := List.finRange 7
theorem allF_len : allF.length = 7 := by decide
theorem allF_all : ∀ i : Fin 7, allF[i.val]? = some i := by decide
theorem allF_at (i : Nat) (h : i < 7) : allF[i]? = some ⟨i, h⟩ := allF_all ⟨i, h⟩
theorem allF_take (i : Nat) (h : i < 7) : allF.take (i + 1) = allF.take i ++ [⟨i, h⟩] := by
  have h1 : i < allF.length := by rw [allF_len]; exact h
  rw [List.take_succ_eq_append_getElem h1]
  have h2 := allF_at i h
  rw [List.getElem?_eq_getElem h1] at h2
  rw [Option.some.inj h2]
/-- a prefix of what is told, with one more -/
theorem allF_pre {pre : List (Fin 7)} {x : Fin 7} (h : pre ++ [x] <+: allF) : pre.length = x.val ∧ pre <+: allF := by
  refine ⟨?_, (List.prefix_append _ _).trans h⟩
  obtain ⟨r, hr⟩ := h
  have hl : pre.length < 7 := by
    have := congrArg List.length hr
    rw [allF_len] at this
    simp at this
    omega
  have h1 := allF_at pre.length hl
  rw [← hr, List.append_assoc, List.getElem?_append_right (Nat.le_refl _), Nat.sub_self] at h1
  have h2 : x = ⟨pre.length, hl⟩ := by simpa using h1
  rw [h2]

theorem DatAt.c0 {W : World} {b : Nat} {d : Dat} (h : DatAt W b d) : W.cell? ⟨b, 0, none⟩ = some (.int .i64 d.e) := h.cell 0
theorem DatAt.c1 {W : World} {b : Nat} {d : Dat} (h : DatAt W b d) : W.cell? ⟨b, 1, none⟩ = some (.int .i64 d.a) := h.cell 1
theorem DatAt.c2 {W : World} {b : Nat} {d : Dat} (h : DatAt W b d) : W.cell? ⟨b, 2, none⟩ = some (.int .i64 d.k) := h.cell 2
theorem DatAt.c3 {W : World} {b : Nat} {d : Dat} (h : DatAt W b d) : W.cell? ⟨b, 3, none⟩ = some (.int .i64 d.m) := h.cell 3
theorem DatAt.c4 {W : World} {b : Nat} {d : Dat} (h : DatAt W b d) : W.cell? ⟨b, 4, none⟩ = some (.string d.s) := h.cell 4
theorem DatAt.c5 {W : World} {b : Nat} {d : Dat} (h : DatAt W b d) : W.cell? ⟨b, 5, none⟩ = some (.int .i64 d.t) := h.cell 5
theorem DatAt.c6 {W : World} {b : Nat} {d : Dat} (h : DatAt W b d) : W.cell? ⟨b, 6, none⟩ = some (.bool d.add) := h.cell 6
theorem DatAt.c7 {W : World} {b : Nat} {d : Dat} (h : DatAt W b d) : W.cell? ⟨b, 7, none⟩ = some (.int .i64 d.fr) := h.cell 7
theorem DatAt.c8 {W : World} {b : Nat} {d : Dat} (h : DatAt W b d) : W.cell? ⟨b, 8, none⟩ = some (.int .i64 d.til) := h.cell 8
/-- What lay below n₀, and in two blocks, lies. -/
structure Keep2 (n₀ Ba Bd : Nat) (A B : World) : Prop where
  low : Below n₀ A B
  b1 : B.heap[Ba]? = A.heap[Ba]?
  b2 : B.heap[Bd]? = A.heap[Bd]?
theorem Keep2.refl (n₀ Ba Bd : Nat) (A : World) : Keep2 n₀ Ba Bd A A := ⟨Below.refl _ _, rfl, rfl⟩
theorem Keep2.trans {n₀ Ba Bd : Nat} {A B C : World} (h : Keep2 n₀ Ba Bd A B) (k : Keep2 n₀ Ba Bd B C) : Keep2 n₀ Ba Bd A C := ⟨h.low.trans k.low, k.b1.trans h.b1, k.b2.trans h.b2⟩
theorem keep2_b {n₀ Ba Bd : Nat} {w : World} (hn : n₀ ≤ w.heap.size) (h1 : Ba < w.heap.size) (h2 : Bd < w.heap.size) (W : World) (l : Nat) (o o' : Obj) (hl : w.heap.size ≤ l) (h : W.heap[l]? = some o) (g1 : o.isCells = false) (g2 : o.isWalk = false) : Keep2 n₀ Ba Bd W (W.putObj l o') :=
  ⟨belowK_b hn W l o o' hl h g1 g2, (belowK_b (n₀ := w.heap.size) (Nat.le_refl _) W l o o' hl h g1 g2).block Ba h1, (belowK_b (n₀ := w.heap.size) (Nat.le_refl _) W l o o' hl h g1 g2).block Bd h2⟩
theorem keep2_below {n₀ Ba Bd : Nat} {W W' : World} (h : Below W.heap.size W W') (hn : n₀ ≤ W.heap.size) (h1 : Ba < W.heap.size) (h2 : Bd < W.heap.size) : Keep2 n₀ Ba Bd W W' := ⟨h.mono hn, h.block Ba h1, h.block Bd h2⟩
/-- One round of the loop that is handed places and parts. -/
def HandsP (pe pa pv : Nat) (d : Dat) (l n₀ Ba Bd N : Nat) (J Jx : List (Fin 7) → World → Prop) : Prop :=
  ∀ m pre (x : Fin 7) W, J pre W → pre.length < N → YieldAt Fence.wide m Try.prog l #[.int .i64 ((x.val : Nat) : Int), .agg #[.bool (partPl pe pa pv d x.val).v, .int .i64 (partPl pe pa pv d x.val).n, .int .i64 (partPl pe pa pv d x.val).k, .int .i64 (partPl pe pa pv d x.val).m, .string (partPl pe pa pv d x.val).s]] W fun e W' =>
    (e = .returned (.bool true) ∧ J (pre ++ [x]) W' ∧ Keep2 n₀ Ba Bd W W') ∨ (e = .returned (.bool false) ∧ Jx (pre ++ [x]) W')

end Go.Proofs.Ytbcdkfolmncjlaa

/-
  CONTRACT over datoms: Compare.
-/
namespace Go.Proofs.Ytbcdkfolmncjlaa
open Go.RowKit Go.Shelf
attribute [local go_sem] Oper.semAt_some

theorem DatAt.kept {W W' : World} {b : Nat} {d : Dat} {row : Option Nat} (h : DatAt W b d) (hg : W.grownBy W' row) (hr : some b ≠ row) : DatAt W' b d := (hg.block b h.lt hr).trans h
/-- the parts, E, A and V at any three places -/
def partsPl (pe pa pv : Nat) (d : Dat) : List PartP := (List.range 7).map (partPl pe pa pv d)
theorem partsPl_is (o : Int) (d : Dat) : partsPl (plE o) (plA o) (plV o) d = partsD o d := rfl
theorem partsPl_len (pe pa pv : Nat) (d : Dat) : (partsPl pe pa pv d).length = 7 := by unfold partsPl; simp
theorem partsPl_get (pe pa pv : Nat) (d : Dat) (i : Nat) (h : i < (partsPl pe pa pv d).length) : (partsPl pe pa pv d)[i] = partPl pe pa pv d i := by
  simp only [partsPl, List.getElem_map, List.getElem_range]
def DStop (w : World) (bs pe pa pv : Nat) (a b : Dat) (cd : Code) (pre : List (Fin 7)) (W : World) : Prop :=
  cd = .exit 0 ∧ Below w.heap.size w W ∧ ∃ g : Int, Boxed W bs 3 (.int .i64 g) ∧ (pre <+: allF → ordPF (partsPl pe pa pv a) (partsPl pe pa pv b) 0 = g)
theorem dStop_own (w : World) (bs pe pa pv n : Nat) (a b : Dat) (h0 : w.heap.size ≤ n) (h1 : bs < n) (cd : Code) : OwnFrom n (DStop w bs pe pa pv a b cd) := fun pre X Y row ⟨e, g4, g, g1, g5⟩ hg hr => by
  have hne : ∀ b, b < n → some b ≠ row := fun b hb e => by have := (hr b e.symm).1; omega
  exact ⟨e, g4.grown hg g4.size (fun j ej => by have := (hr j ej).1; omega), g, g1.kept hg (hne _ h1), g5⟩

theorem boxed_next {W W' : World} {b B : Nat} {t : TypeId} {v : Value} (h : Boxed W b t v) (hb : Below B W W') (hB : b < B) : Boxed W' b t v := boxed_below h hb hB
end Go.Proofs.Ytbcdkfolmncjlaa
