import Derived.RangeFuncNested
import Derived.RangeFuncBox
import Derived.Shelf.Abstract
import Derived.Shelf.RegionOpen
import Derived.OwnWalkIn
import Derived.TacticsInMore
import Derived.LoopNIn
import Derived.LoopIn
import Derived.Laws.EntriesVeiled
import Derived.Test.YtofmfainhflmmaaJZSortM
import Derived.Test.YtofmfainhflmmaaJZGath
import Derived.RangeFuncLeaves
import Derived.RangeFuncRecord
import Derived.RangeFuncOwn
/-
  CONTRACT: the rows that agree (the iterator agreeing$1).
-/
namespace Go.Proofs.Ytofmfainhflmmaa
open Go.RowKit Go.Shelf
attribute [local go_sem] Oper.semAt_some

theorem wide_deepJ (k : Nat) : Fence.wide.depth.isSome = true → 1 ≤ k := fun h => by cases h
theorem wide_roomJ (k : Nat) : Fence.wide.room k := fun d h => by cases h
theorem RoundIn.anyDepth {m m' : Nat} {P : Program} {l : Nat} {f : FuncId} {tmps : Array Value} {assign body : Code} {w : World} {R : Ending → World → Prop}
    (h : RoundIn Fence.wide m P l f tmps assign body w R) : RoundIn Fence.wide m' P l f tmps assign body w R := ⟨h.1, fun c cs _ => h.2 c cs (wide_roomJ _)⟩
theorem YieldAt.anyDepth {m : Nat} (m' : Nat) {P : Program} {l : Nat} {args : Array Value} {W : World} {R : Ending → World → Prop} (h : YieldAt Fence.wide m P l args W R) : YieldAt Fence.wide m' P l args W R := by
  obtain ⟨fn, tmps, assign, body, hy, hR⟩ := h
  exact ⟨fn, tmps, assign, body, hy, RoundIn.anyDepth hR⟩
theorem abides_toJ {α : Type} {B : Nat} {J : List α → World → Prop} (hJ : AbidesFrom B J) {p : List α} {w w' : World} (h : J p w) (hb : Below w.heap.size w w') : J p w' :=
  hJ p w w' none h ⟨hb.os, hb.tape, hb.output, hb.size, fun k hk _ => hb.block k hk⟩ (fun r e => by cases e)
/-- the rows that agree -/
def agR (IB IA : List Nat) (M : List Rw) (x : List Vl) : List Rw := M.filter fun y => agO IB IA y.l x == 0
theorem ag_splitR {IB IA : List Nat} {x : List Vl} : ∀ {M : List Rw}, M.Pairwise (fun y z => ordM IB y.l z.l ≤ 0) →
    M.drop (M.countP fun y => decide (agO IB IA y.l x < 0)) = agR IB IA M x ++ M.filter fun y => decide (0 < agO IB IA y.l x)
  | [], _ => rfl
  | y :: r, h => by
    obtain ⟨h1, h2⟩ := List.pairwise_cons.1 h
    have ih := ag_splitR (IA := IA) (x := x) h2
    by_cases hy : agO IB IA y.l x < 0
    · rw [List.countP_cons, if_pos (by simpa using hy), List.drop_succ_cons, ih]
      unfold agR
      rw [List.filter_cons, if_neg (by simp; omega), List.filter_cons, if_neg (by simp; omega)]
    · have h0 : (r.countP fun y => decide (agO IB IA y.l x < 0)) = 0 := by
        rw [List.countP_eq_zero]
        intro z hz hz2
        exact hy (ag_lt (h1 z hz) (by simpa using hz2))
      rw [List.countP_cons, if_neg (by simpa using hy), h0]
      rw [h0, List.drop_zero] at ih
      rw [Nat.zero_add, List.drop_zero]
      unfold agR at ih ⊢
      by_cases h3 : agO IB IA y.l x = 0
      · rw [List.filter_cons, if_pos (by simpa using h3), List.filter_cons, if_neg (by simp; omega), List.cons_append, ← ih]
      · have h4 : 0 < agO IB IA y.l x := by omega
        have hr : ∀ z ∈ r, 0 < agO IB IA z.l x := fun z hz => by
          rcases Int.lt_or_le 0 (agO IB IA z.l x) with h5 | h5
          · exact h5
          · have := ag_up (IA := IA) (x := x) (h1 z hz) h5
            omega
        have hf : (r.filter fun y => agO IB IA y.l x == 0) = [] := by
          rw [List.filter_eq_nil_iff]
          intro z hz hz2
          have := hr z hz
          have : agO IB IA z.l x = 0 := by simpa using hz2
          omega
        rw [List.filter_cons, if_neg (by simpa using h3), hf, List.nil_append, List.filter_cons, if_pos (by simpa using h4)]
        congr 1
        symm
        rw [List.filter_eq_self]
        intro z hz
        simpa using hr z hz
/-- what lies below n₀, and in two blocks, is kept -/
structure KeepJ (n₀ Ba Bd : Nat) (A B : World) : Prop where
  low : Below n₀ A B
  b1 : B.heap[Ba]? = A.heap[Ba]?
  b2 : B.heap[Bd]? = A.heap[Bd]?
theorem KeepJ.refl (n₀ Ba Bd : Nat) (A : World) : KeepJ n₀ Ba Bd A A := ⟨Below.refl _ _, rfl, rfl⟩
theorem KeepJ.trans {n₀ Ba Bd : Nat} {A B C : World} (h : KeepJ n₀ Ba Bd A B) (k : KeepJ n₀ Ba Bd B C) : KeepJ n₀ Ba Bd A C := ⟨h.low.trans k.low, k.b1.trans h.b1, k.b2.trans h.b2⟩
theorem keepJ_below {n₀ Ba Bd : Nat} {W W' : World} (h : Below W.heap.size W W') (hn : n₀ ≤ W.heap.size) (h1 : Ba < W.heap.size) (h2 : Bd < W.heap.size) : KeepJ n₀ Ba Bd W W' := ⟨h.mono hn, h.block Ba h1, h.block Bd h2⟩
/-- what the iterator reads -/
structure AgF (n₀ Bm Bx bm B : Nat) (A A' A4 : Option Addr) (c c' cap : Nat) (IB IA : List Nat) (M : List Rw) (x : Rw) (W : World) : Prop where
  n : n₀ ≤ W.heap.size
  lm : bm < n₀
  pm : W.heap[Bm]? = some (.cells #[.pointer (some ⟨bm, 0, none⟩)] 81 (0, 0))
  px : W.heap[Bx]? = some (.cells #[cellR x] 46 (0, 0))
  a0 : W.cell? ⟨bm, 0, none⟩ = some (.slice A' IA.length c')
  a1 : W.cell? ⟨bm, 1, none⟩ = some (.slice A IB.length c)
  a3 : W.cell? ⟨bm, 3, none⟩ = some (.slice A4 M.length cap)
  sB : Sl1 natV W n₀ A IB
  sA : Sl1 natV W n₀ A' IA
  o : Own1 46 cellR W B (.slice A4 M.length cap) M
  g : ∀ a, A4 = some a → a.block < n₀
  r : ∀ y ∈ M, RwOk W n₀ y
  rx : RwOk W n₀ x
theorem AgF.keep {n₀ Bm Bx bm B : Nat} {A A' A4 : Option Addr} {c c' cap : Nat} {IB IA : List Nat} {M : List Rw} {x : Rw} {W W' : World} (h : AgF n₀ Bm Bx bm B A A' A4 c c' cap IB IA M x W) (k : KeepJ n₀ Bm Bx W W') : AgF n₀ Bm Bx bm B A A' A4 c c' cap IB IA M x W' where
  n := Nat.le_trans h.n k.low.size
  lm := h.lm
  pm := k.b1.trans h.pm
  px := k.b2.trans h.px
  a0 := (k.low.cell (p := ⟨bm, 0, none⟩) h.lm).trans h.a0
  a1 := (k.low.cell (p := ⟨bm, 1, none⟩) h.lm).trans h.a1
  a3 := (k.low.cell (p := ⟨bm, 3, none⟩) h.lm).trans h.a3
  sB := h.sB.next k.low (Nat.le_refl _)
  sA := h.sA.next k.low (Nat.le_refl _)
  o := by
    refine ⟨h.o.1, ?_⟩
    rcases h.o.2 with h0 | ⟨g, cap', cur, h1, h2, h3, h4⟩
    · exact .inl h0
    · refine .inr ⟨g, cap', cur, h1, h2, (k.low.block g ?_).trans h3, h4⟩
      injection h1 with h1 _ _
      exact h.g _ h1
  g := h.g
  r := fun y hy => (h.r y hy).next k.low (Nat.le_refl _)
  rx := h.rx.next k.low (Nat.le_refl _)
theorem AgF.lts {n₀ Bm Bx bm B : Nat} {A A' A4 : Option Addr} {c c' cap : Nat} {IB IA : List Nat} {M : List Rw} {x : Rw} {W : World} (h : AgF n₀ Bm Bx bm B A A' A4 c c' cap IB IA M x W) : Bm < W.heap.size ∧ Bx < W.heap.size := ⟨(Array.getElem?_eq_some_iff.1 h.pm).1, (Array.getElem?_eq_some_iff.1 h.px).1⟩
theorem AgF.below {n₀ Bm Bx bm B : Nat} {A A' A4 : Option Addr} {c c' cap : Nat} {IB IA : List Nat} {M : List Rw} {x : Rw} {W W' : World} (h : AgF n₀ Bm Bx bm B A A' A4 c c' cap IB IA M x W) (hb : Below W.heap.size W W') : AgF n₀ Bm Bx bm B A A' A4 c c' cap IB IA M x W' := h.keep (keepJ_below hb h.n h.lts.1 h.lts.2)
theorem AgF.mts {n₀ Bm Bx bm B : Nat} {A A' A4 : Option Addr} {c c' cap : Nat} {IB IA : List Nat} {M : List Rw} {x : Rw} {W : World} (h : AgF n₀ Bm Bx bm B A A' A4 c c' cap IB IA M x W) : MtS Bm bm 1 (.slice A IB.length c) W ∧ MtS Bm bm 0 (.slice A' IA.length c') W := by
  have h1 : W.cell? ⟨Bm, 0, none⟩ = some (.pointer (some ⟨bm, 0, none⟩)) := by have := h.pm; simp [World.cell?, this]
  exact ⟨⟨h1, h.a1⟩, ⟨h1, h.a0⟩⟩
end Go.Proofs.Ytofmfainhflmmaa

/-
  A FUNCTION IN WHOSE LOOP A RANGE OVER A FUNCTION STANDS leaves with a mark for each round: all of them are shut, one by one.
-/
namespace Go.Proofs.Ytofmfainhflmmaa
open Go.RowKit

def markD (D : Nat) : Deferred := { target := .collected D, args := #[] }
/-- what is left when marks are shut -/
structure OffD (Ds : List Nat) (W W' : World) : Prop where
  os : W'.os = W.os
  tape : W'.tape = W.tape
  output : W'.output = W.output
  size : W'.heap.size = W.heap.size
  b : ∀ j, j ∉ Ds → W'.heap[j]? = W.heap[j]?
theorem offD_refl (Ds : List Nat) (W : World) : OffD Ds W W := ⟨rfl, rfl, rfl, rfl, fun _ _ => rfl⟩
theorem offD_put (D : Nat) (W : World) (o : Obj) : OffD [D] W (W.putObj D o) := by
  have h := grownBy_putObj' W D o
  have hs : (W.putObj D o).heap.size = W.heap.size := by simp [World.putObj]
  refine ⟨h.os, h.tape, h.output, hs, fun j hj => ?_⟩
  rcases Nat.lt_or_ge j W.heap.size with hl | hl
  · exact h.block j hl (fun e => hj (by injection e with e; rw [e]; exact List.mem_singleton.2 rfl))
  · rw [Array.getElem?_eq_none (by omega), Array.getElem?_eq_none (by omega)]
theorem OffD.cons {D : Nat} {Ds : List Nat} {W W1 W2 : World} (h : OffD [D] W W1) (k : OffD Ds W1 W2) : OffD (D :: Ds) W W2 :=
  ⟨k.os.trans h.os, k.tape.trans h.tape, k.output.trans h.output, k.size.trans h.size, fun j hj => (k.b j (fun hm => hj (List.mem_cons_of_mem _ hm))).trans (h.b j (fun hm => hj (by rw [List.mem_singleton.1 hm]; exact List.mem_cons_self ..)))⟩
/-- marks that stand open -/
def MarksAt (lo : Nat) (Ds : List Nat) (W : World) : Prop := Ds.Nodup ∧ ∀ D ∈ Ds, lo ≤ D ∧ W.heap[D]? = some (.deferred (some []))
theorem MarksAt.nil (lo : Nat) (W : World) : MarksAt lo [] W := ⟨List.nodup_nil, fun D h => by cases h⟩
theorem OffD.below {lo : Nat} {Ds : List Nat} {W0 W W' : World} (h : OffD Ds W0 W') (hm : MarksAt lo Ds W) (hb : Below lo W W0) : Below lo W W' :=
  ⟨h.os.trans hb.os, h.tape.trans hb.tape, h.output.trans hb.output, by rw [h.size]; exact hb.size, fun j hj => (h.b j (fun hd => by have := (hm.2 j hd).1; omega)).trans (hb.block j hj)⟩
/-- a block of cells is no mark -/
theorem OffD.cells {lo : Nat} {Ds : List Nat} {W W' : World} (h : OffD Ds W W') (hm : MarksAt lo Ds W) {j : Nat} {cs : Array Value} {t : TypeId} {fr : Nat × Nat} (hj : W.heap[j]? = some (.cells cs t fr)) : W'.heap[j]? = some (.cells cs t fr) :=
  (h.b j (fun hd => by rw [(hm.2 j hd).2] at hj; cases hj)).trans hj
theorem OffD.owns {lo : Nat} {Ds : List Nat} {W W' : World} (h : OffD Ds W W') (hm : MarksAt lo Ds W) {B : Nat} {t : TypeId} {k n : Nat} {v : Value} {xs : List Value} (ho : W.ownsRow B t k v n xs) : W'.ownsRow B t k v n xs := by
  refine ⟨ho.1, ?_⟩
  rcases ho.2 with h0 | ⟨g, cap, cur, h1, h2, h3, h4⟩
  · exact .inl h0
  · exact .inr ⟨g, cap, cur, h1, h2, h.cells hm h3, h4⟩
theorem OffD.cell {lo : Nat} {Ds : List Nat} {W W' : World} (h : OffD Ds W W') (hm : MarksAt lo Ds W) {a : Addr} {v : Value} (hc : W.cell? a = some v) : W'.cell? a = some v := by
  have hb : W'.heap[a.block]? = W.heap[a.block]? := h.b a.block (fun hd => by
    unfold World.cell? at hc
    rw [(hm.2 _ hd).2] at hc
    cases hc)
  rw [World.cell?_of_block hb]
  exact hc
variable {P : Program} {F : Fence} {n : Nat}
theorem leaves_marks {fn : Func} {tmps : Array Value} {R : Ending → World → Prop} {lo : Nat} : ∀ (Ds : List Nat) (W : World), MarksAt lo Ds W →
    (∀ W', OffD Ds W W' → LeavesInM F n P fn tmps R [] .returning W') → LeavesInM F n P fn tmps R (Ds.map markD) .returning W
  | [], W, _, h => h W (offD_refl _ _)
  | D :: Ds, W, hm, h => by
    have hD := (hm.2 D (List.mem_cons_self ..)).2
    refine ⟨by simp, .inl ⟨D, _, rfl, run_takeDeferred hD, ?_⟩⟩
    have hn := List.nodup_cons.1 hm.1
    have hm' : MarksAt lo Ds (W.putObj D (.deferred none)) := ⟨hn.2, fun E hE => ⟨(hm.2 E (List.mem_cons_of_mem _ hE)).1, by
      rw [(offD_put D W (.deferred none)).b E (fun he => hn.1 (by rw [← List.mem_singleton.1 he]; exact hE))]
      exact (hm.2 E (List.mem_cons_of_mem _ hE)).2⟩⟩
    exact leaves_marks Ds _ hm' fun W' hW' => h W' ((offD_put D W (.deferred none)).cons hW')
end Go.Proofs.Ytofmfainhflmmaa
