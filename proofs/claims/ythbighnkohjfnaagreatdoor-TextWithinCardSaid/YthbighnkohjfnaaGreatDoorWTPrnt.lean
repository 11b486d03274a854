/-
  CONTRACT: the print of nodes (appendNode, appendNodes): a row of bytes of the call's own that grows; what is shown, in lists.
-/
import Derived.Test.YthbighnkohjfnaaGreatDoorWTMayL
import Derived.Test.YthbighnkohjfnaaGreatDoorJTClose
import Derived.Test.YthbighnkohjfnaaGreatDoorJReadHex
import Derived.Test.YthbighnkohjfnaaGreatDoorJSpells
namespace Go.Proofs.YthbighnkohjfnaaGreatDoor
open Go.RowKit

/-- a row of bytes of the call's own; below lo all is kept, and all blocks that are none of bytes -/
structure OwB (lo : Nat) (v : Value) (l : List UInt8) (W0 w : World) : Prop where
  row : w.ownsRow lo 5 1 v l.length (Lib.byteCells l)
  bel : Below lo W0 w
  oth : Lib.OthersKept 5 none W0 w
  le : lo ≤ w.heap.size
theorem ownsB_same {W W' : World} {lo n : Nat} {v : Value} {xs : List Value} (h : W.ownsRow lo 5 1 v n xs) (hk : ∀ g, v.ownBlock = some g → W'.heap[g]? = W.heap[g]?) : W'.ownsRow lo 5 1 v n xs := by
  refine ⟨h.1, ?_⟩
  rcases h.2 with hn | ⟨g, cap, cur, rfl, hb, hgg, rest⟩
  · exact .inl hn
  · exact .inr ⟨g, cap, cur, rfl, hb, (hk g rfl).trans hgg, rest⟩
section
variable {lo : Nat} {v : Value} {l : List UInt8} {W0 w : World}
theorem OwB.next {W' : World} (h : OwB lo v l W0 w) (hb : Below w.heap.size w W') : OwB lo v l W0 W' :=
  ⟨ownsB_same h.row fun g hg => hb.block g (h.row.lt g hg).2, h.bel.trans (hb.mono h.le), (fun k o hk hb9 ho => (hb.block k (Array.getElem?_eq_some_iff.1 (h.oth k o hk hb9 ho)).1).trans (h.oth k o hk hb9 ho)), Nat.le_trans h.le hb.size⟩
theorem OwB.alloc (h : OwB lo v l W0 w) (o : Obj) : OwB lo v l W0 (w.alloc o) := h.next ((Below.refl _ _).alloc (Nat.le_refl _) o)
theorem OwB.trans {v' : Value} {l' : List UInt8} {w' : World} (h : OwB lo v l W0 w) (k : OwB lo v' l' w w') : OwB lo v' l' W0 w' := ⟨k.row, h.bel.trans k.bel, h.oth.trans k.oth, k.le⟩
theorem OwB.start (h : OwB lo v l W0 w) : OwB lo v l w w := ⟨h.row, Below.refl _ _, Lib.OthersKept.refl _ _ _, h.le⟩
theorem OwB.grow {v' : Value} {l' : List UInt8} {w' : World} (h : OwB lo v l W0 w) (hr : w'.ownsRow lo 5 1 v' l'.length (Lib.byteCells l')) (hg : w.grownBy w' v.ownBlock) : OwB lo v' l' W0 w' :=
  ⟨hr, h.bel.grown hg h.le (fun k hk => (h.row.lt k hk).1), h.oth.grown hg (fun g hg' => by
    rcases h.row.2 with ⟨rfl, _⟩ | ⟨g', cap, cur, rfl, _, hgb, _⟩
    · simp [Value.ownBlock] at hg'
    · have e2 : g' = g := by simpa [Value.ownBlock] using hg'
      subst e2
      exact ⟨_, _, hgb⟩), Nat.le_trans h.le hg.size⟩
/-- a node's copy stays while bytes are appended -/
theorem OwB.node {w' : World} {v' : Value} {l' : List UInt8} (k : OwB lo v' l' w w') {q : Nat} {a b c : Int} {s t : ByteArray} {A : Option Addr} {n m : Nat} {x y : Int} (h : NdB w q a b c s t A n m x y) : NdB w' q a b c s t A n m x y :=
  k.oth q _ h (by simp) (fun c fz e => by injection e with _ e2; exact absurd e2 (by decide))
end
theorem wpList_app_str {ops : Array Oper} {rest : List Oper} {o : Oper} {a : Act} {w : World} {Q : Exit → Act → World → Prop} (hgd : o.guard = none) (sl x : Operand) (ho : o.op = .call { callee := .builtin .append, args := #[sl, x], argTypes := #[61, 9] })
    {lo : Nat} {v : Value} {l : List UInt8} {W0 : World} (hs : a.eval sl = v) (hb : OwB lo v l W0 w) (s : ByteArray) (hx : a.eval x = .string s) (hlen : l.length + s.size ≤ 140737488355328)
    (h : ∀ v' w', OwB lo v' (l ++ s.data.toList) W0 w' → wpList Tryz.prog ops Q rest (a.put o.dst v') w') : wpList Tryz.prog ops Q (o :: rest) a w := by
  obtain ⟨i0, hi, hz0, hz1, hz2⟩ := info_parts info8
  have hl : s.data.toList.length = s.size := Array.length_toList
  refine Lib.wpList_append_own_string w hgd sl x 61 9 ho lo 5 i0 Tryz.underlying61 Tryz.underlying9 hi hz0 hz1 hz2 v l.length (Lib.byteCells l) hs hb.row s hx (Nat.le_trans hlen (by decide)) hlen hb.le ?_
  intro v' w' h1 h2 _
  refine h v' w' (hb.grow ?_ h2)
  rw [List.length_append, hl, Lib.byteCells_append]
  exact h1
theorem wpList_app_byte {ops : Array Oper} {rest : List Oper} {o : Oper} {a : Act} {w : World} {Q : Exit → Act → World → Prop} (hgd : o.guard = none) (sl x : Operand) (ho : o.op = .call { callee := .builtin .append, args := #[sl, x], argTypes := #[61, 61] })
    {lo : Nat} {v : Value} {l : List UInt8} {W0 : World} (hs : a.eval sl = v) (hb : OwB lo v l W0 w) (c : UInt8) (hx : a.eval x = .slice (some ⟨w.heap.size, 0, none⟩) 1 1) (hlen : l.length + 1 ≤ 140737488355328)
    (h : ∀ v' w', OwB lo v' (l ++ [c]) W0 w' → wpList Tryz.prog ops Q rest (a.put o.dst v') w') : wpList Tryz.prog ops Q (o :: rest) a (w.alloc (.cells #[.int .u8 (c.toNat : Int)] 5)) := by
  obtain ⟨i0, hi, hz0, hz1, hz2⟩ := info_parts info8
  have hb' := hb.alloc (.cells #[.int .u8 (c.toNat : Int)] 5)
  refine wpList_append_own_at (w := w.alloc (.cells #[.int .u8 (c.toNat : Int)] 5)) hgd sl x 61 ho lo 5 i0 (.int .u8 0) 1 1 Tryz.underlying61 hi hz0 hz1 hz2 rfl (by decide) v l.length (Lib.byteCells l) hs hb'.row ⟨w.heap.size, 0, none⟩ 1 1 (Lib.byteCells [c]) hx rfl ?_ (Lib.byteCells_one _) (Nat.le_trans hlen (by decide)) (by omega) hb'.le ?_
  · intro j u hj
    match j, hj with
    | 0, hj => simp [Lib.byteCells] at hj; subst hj; simp [Addr.add]
    | (j + 1), hj => simp [Lib.byteCells] at hj
  · intro v' w' h1 h2 _ _
    refine h v' w' (hb'.grow ?_ h2)
    rw [List.length_append, Lib.byteCells_append]
    exact h1
mutual
/-- a node's print -/
def prN : Nd → List UInt8
  | .mk k vk vn vs s kids _ _ => if k = 1 then txtL vk vn vs else if k = 2 then s.data.toList else (if k = 3 then 40 else if k = 4 then 91 else 123) :: (prL kids ++ [if k = 3 then 41 else if k = 4 then 93 else 125])
def prL : List Nd → List UInt8
  | [] => []
  | x :: l => prN x ++ prR l
/-- behind others -/
def prR : List Nd → List UInt8
  | [] => []
  | x :: l => 32 :: (prN x ++ prR l)
end
end Go.Proofs.YthbighnkohjfnaaGreatDoor
