/-
  CONTRACTS: nodes of a name, of a value (both sides).
-/
import Derived.Test.YtdjdlfndmeegnaaDoorKLeaf
namespace Go.Proofs.YtdjdlfndmeegnaaDoor
open Go.RowKit

/-- a block of the call's own, in which a value's node stands first -/
def Fr (lo : Nat) (W : World) (b : Nat) : Prop := lo ≤ b ∧ b < W.heap.size ∧ W.cell? ⟨b, 0, none⟩ = some (.int .i64 1)
theorem Fr.keep {lo lo' : Nat} {W W' : World} {b : Nat} (h : Fr lo W b) (hk : W'.heap[b]? = W.heap[b]?) (hs : W.heap.size ≤ W'.heap.size) (hl : lo' ≤ lo) : Fr lo' W' b :=
  ⟨by have := h.1; omega, by have := h.2.1; omega, Eq.trans (by unfold World.cell?; rw [hk]) h.2.2⟩
theorem SlN.fr {d : Nat} {lo lo' : Nat} {W W' : World} {A : Option Addr} {l : List Nd} (h : SlN d W (Fr lo W) A l) (hk : ∀ b, Fr lo W b → W'.heap[b]? = W.heap[b]?) (hs : W.heap.size ≤ W'.heap.size) (hl : lo' ≤ lo) : SlN d W' (Fr lo' W') A l :=
  (h.keep hk).mono fun b hb => hb.keep (hk b hb) hs hl
/-- what a node's maker answers -/
def NdEnd (W : World) (d : Nat) (x : Nd) (e : Ending) (w' : World) : Prop :=
  ∃ K c, e = .returned (.agg #[.int .i64 x.k, .int .i64 x.vk, .int .i64 x.vn, .string x.vs, .string x.s, .slice K x.kids.length c, .int .i64 x.ln, .int .i64 x.co]) ∧ SlN d w' (Fr W.heap.size w') K x.kids ∧ Below W.heap.size W w'
theorem Blk.fz {W : World} {b : Nat} {cs : Array Value} {t : TypeId} (h : Blk W b cs t) (j : Nat) : W.frozen? ⟨b, j, none⟩ = false := by unfold Blk at h; simp [World.frozen?, h]
theorem arr8 {cs : Array Value} (h : cs.size = 8) : ∃ c0 c1 c2 c3 c4 c5 c6 c7, cs = #[c0, c1, c2, c3, c4, c5, c6, c7] := by
  obtain ⟨l⟩ := cs
  match l, h with
  | [c0, c1, c2, c3, c4, c5, c6, c7], _ => exact ⟨c0, c1, c2, c3, c4, c5, c6, c7, rfl⟩
theorem Blk.set8 {W : World} {b : Nat} {c0 c1 c2 c3 c4 c5 c6 c7 : Value} {t : TypeId} (h : Blk W b #[c0, c1, c2, c3, c4, c5, c6, c7] t) (u0 u1 u2 u3 u4 u5 u6 u7 : Value) :
    Blk ((((((((W.setCell ⟨b, 0, none⟩ u0).setCell ⟨b, 1, none⟩ u1).setCell ⟨b, 2, none⟩ u2).setCell ⟨b, 3, none⟩ u3).setCell ⟨b, 4, none⟩ u4).setCell ⟨b, 5, none⟩ u5).setCell ⟨b, 6, none⟩ u6).setCell ⟨b, 7, none⟩ u7) b #[u0, u1, u2, u3, u4, u5, u6, u7] t :=
  (heap_setCell_same _ _ _ _ _ _ (heap_setCell_same _ _ _ _ _ _ (heap_setCell_same _ _ _ _ _ _ (heap_setCell_same _ _ _ _ _ _ (heap_setCell_same _ _ _ _ _ _ (heap_setCell_same _ _ _ _ _ _ (heap_setCell_same _ _ _ _ _ _ (heap_setCell_same _ _ _ _ _ _ h)))))))).trans (by simp)
theorem Blk.off8 {W : World} {b b' : Nat} {cs : Array Value} {t : TypeId} (h : Blk W b' cs t) (hn : b' ≠ b) (u0 u1 u2 u3 u4 u5 u6 u7 : Value) : Blk ((((((((W.setCell ⟨b, 0, none⟩ u0).setCell ⟨b, 1, none⟩ u1).setCell ⟨b, 2, none⟩ u2).setCell ⟨b, 3, none⟩ u3).setCell ⟨b, 4, none⟩ u4).setCell ⟨b, 5, none⟩ u5).setCell ⟨b, 6, none⟩ u6).setCell ⟨b, 7, none⟩ u7) b' cs t :=
  (Below.heap_setCell _ ⟨b, 7, none⟩ u7 b' hn).trans ((Below.heap_setCell _ ⟨b, 6, none⟩ u6 b' hn).trans ((Below.heap_setCell _ ⟨b, 5, none⟩ u5 b' hn).trans ((Below.heap_setCell _ ⟨b, 4, none⟩ u4 b' hn).trans ((Below.heap_setCell _ ⟨b, 3, none⟩ u3 b' hn).trans ((Below.heap_setCell _ ⟨b, 2, none⟩ u2 b' hn).trans ((Below.heap_setCell _ ⟨b, 1, none⟩ u1 b' hn).trans ((Below.heap_setCell _ ⟨b, 0, none⟩ u0 b' hn).trans (h))))))))
theorem heap_off8 {W : World} {b b' : Nat} (hn : b' ≠ b) (u0 u1 u2 u3 u4 u5 u6 u7 : Value) : ((((((((W.setCell ⟨b, 0, none⟩ u0).setCell ⟨b, 1, none⟩ u1).setCell ⟨b, 2, none⟩ u2).setCell ⟨b, 3, none⟩ u3).setCell ⟨b, 4, none⟩ u4).setCell ⟨b, 5, none⟩ u5).setCell ⟨b, 6, none⟩ u6).setCell ⟨b, 7, none⟩ u7).heap[b']? = W.heap[b']? :=
  (Below.heap_setCell _ ⟨b, 7, none⟩ u7 b' hn).trans ((Below.heap_setCell _ ⟨b, 6, none⟩ u6 b' hn).trans ((Below.heap_setCell _ ⟨b, 5, none⟩ u5 b' hn).trans ((Below.heap_setCell _ ⟨b, 4, none⟩ u4 b' hn).trans ((Below.heap_setCell _ ⟨b, 3, none⟩ u3 b' hn).trans ((Below.heap_setCell _ ⟨b, 2, none⟩ u2 b' hn).trans ((Below.heap_setCell _ ⟨b, 1, none⟩ u1 b' hn).trans ((Below.heap_setCell _ ⟨b, 0, none⟩ u0 b' hn).trans (rfl))))))))
theorem size_set8 {W : World} {b : Nat} (u0 u1 u2 u3 u4 u5 u6 u7 : Value) : ((((((((W.setCell ⟨b, 0, none⟩ u0).setCell ⟨b, 1, none⟩ u1).setCell ⟨b, 2, none⟩ u2).setCell ⟨b, 3, none⟩ u3).setCell ⟨b, 4, none⟩ u4).setCell ⟨b, 5, none⟩ u5).setCell ⟨b, 6, none⟩ u6).setCell ⟨b, 7, none⟩ u7).heap.size = W.heap.size := by simp
theorem below_set8 {W : World} {B b : Nat} (hb : B ≤ b) (u0 u1 u2 u3 u4 u5 u6 u7 : Value) : Below B W ((((((((W.setCell ⟨b, 0, none⟩ u0).setCell ⟨b, 1, none⟩ u1).setCell ⟨b, 2, none⟩ u2).setCell ⟨b, 3, none⟩ u3).setCell ⟨b, 4, none⟩ u4).setCell ⟨b, 5, none⟩ u5).setCell ⟨b, 6, none⟩ u6).setCell ⟨b, 7, none⟩ u7) :=
  (((((((((Below.refl B W).setCell (p := ⟨b, 0, none⟩) hb _).setCell (p := ⟨b, 1, none⟩) hb _).setCell (p := ⟨b, 2, none⟩) hb _).setCell (p := ⟨b, 3, none⟩) hb _).setCell (p := ⟨b, 4, none⟩) hb _).setCell (p := ⟨b, 5, none⟩) hb _).setCell (p := ⟨b, 6, none⟩) hb _).setCell (p := ⟨b, 7, none⟩) hb _)

set_option maxRecDepth 100000 in
set_option maxHeartbeats 1000000 in
/-- CONTRACT: claim.nameNode. -/
theorem nameNode_any (s : ByteArray) (w : World) : Calls Tryd.prog 15 #[.string s] w fun e w' => e = .returned (.agg #[.int .i64 2, .int .i64 0, .int .i64 0, .string ⟨#[]⟩, .string s, .slice none 0 0, .int .i64 0, .int .i64 0]) ∧ Below w.heap.size w w' := by
  go_enter Tryd.func15, Tryd.ntmps15
  go_wp2
  refine bodyPost_ret (v := .agg #[.int .i64 2, .int .i64 0, .int .i64 0, .string ⟨#[]⟩, .string s, .slice none 0 0, .int .i64 0, .int .i64 0]) ?_ rfl ⟨rfl, ?_⟩
  · rw [results_cell_k rfl]
    go_simp
  · exact (Below.refl _ _).alloc (Nat.le_refl _) _

set_option maxRecDepth 100000 in
set_option maxHeartbeats 1000000 in
/-- CONTRACT: daybookref08.name. -/
theorem refName_any (s : ByteArray) (w : World) : Calls Tryd.prog 43 #[.string s] w fun e w' => e = .returned (.agg #[.int .i64 2, .int .i64 0, .int .i64 0, .string ⟨#[]⟩, .string s, .slice none 0 0, .int .i64 0, .int .i64 0]) ∧ Below w.heap.size w w' := by
  go_enter Tryd.func43, Tryd.ntmps43
  go_wp2
  refine bodyPost_ret (v := .agg #[.int .i64 2, .int .i64 0, .int .i64 0, .string ⟨#[]⟩, .string s, .slice none 0 0, .int .i64 0, .int .i64 0]) ?_ rfl ⟨rfl, ?_⟩
  · rw [results_cell_k rfl]
    go_simp
  · exact (Below.refl _ _).alloc (Nat.le_refl _) _

set_option maxRecDepth 100000 in
set_option maxHeartbeats 1000000 in
/-- CONTRACT: claim.valueNode. -/
theorem valueNode_any (k n : Int) (s : ByteArray) (w : World) : Calls Tryd.prog 18 #[.agg #[.int .i64 k, .int .i64 n, .string s]] w fun e w' => e = .returned (.agg #[.int .i64 1, .int .i64 k, .int .i64 n, .string s, .string ⟨#[]⟩, .slice none 0 0, .int .i64 0, .int .i64 0]) ∧ Below w.heap.size w w' := by
  go_enter Tryd.func18, Tryd.ntmps18
  go_wp2
  refine bodyPost_ret (v := .agg #[.int .i64 1, .int .i64 k, .int .i64 n, .string s, .string ⟨#[]⟩, .slice none 0 0, .int .i64 0, .int .i64 0]) ?_ rfl ⟨rfl, ?_⟩
  · rw [results_cell_k rfl]
    go_simp
  · exact ((Below.refl _ _).alloc (Nat.le_refl _) _).alloc (by simp) _

set_option maxRecDepth 100000 in
set_option maxHeartbeats 1000000 in
/-- CONTRACT: daybookref08.value. -/
theorem refValue_any (k n : Int) (s : ByteArray) (w : World) : Calls Tryd.prog 45 #[.agg #[.int .i64 k, .int .i64 n, .string s]] w fun e w' => e = .returned (.agg #[.int .i64 1, .int .i64 k, .int .i64 n, .string s, .string ⟨#[]⟩, .slice none 0 0, .int .i64 0, .int .i64 0]) ∧ Below w.heap.size w w' := by
  go_enter Tryd.func45, Tryd.ntmps45
  go_wp2
  refine bodyPost_ret (v := .agg #[.int .i64 1, .int .i64 k, .int .i64 n, .string s, .string ⟨#[]⟩, .slice none 0 0, .int .i64 0, .int .i64 0]) ?_ rfl ⟨rfl, ?_⟩
  · rw [results_cell_k rfl]
    go_simp
  · exact ((Below.refl _ _).alloc (Nat.le_refl _) _).alloc (by simp) _

end Go.Proofs.YtdjdlfndmeegnaaDoor
