/-
  WORDS FOR SLICES OF BYTES: a row of the call's own; a slice that came in; slices.Clone.
-/
import Derived.Test.YtohpilamoglhcaaPure
import Derived.Test.YtohpilamoglhcaaProg
import Derived.Laws.IdiomStrings
import Derived.Laws.OwnMore
import Derived.Lib.SmallJoins
import Derived.Lib.BufferRead
import Derived.Lib.Hide
import Derived.OwnWalk
import Derived.WalkKit
import Derived.ProofKit
import Derived.WalkMore
import Derived.WalkSpells
import Derived.Lib.SliceRun
namespace Go.Proofs.Ytohpilamoglhcaa
open Go.RowKit

theorem info8 : (Try.prog.info? 5).map (fun i => (i.zero, i.size, i.bytes)) = some (some (.int .u8 0), 1, 1) := by kernel_rfl
/-- bytes as cells -/
def cellsL (l : List UInt8) : List Value := l.map (fun c : UInt8 => Value.int .u8 c.toNat)
theorem cellsL_len (l : List UInt8) : (cellsL l).length = l.length := List.length_map _
theorem cellsL_app (l m : List UInt8) : cellsL (l ++ m) = cellsL l ++ cellsL m := List.map_append
theorem cellsL_one (l : List UInt8) : ∀ u ∈ cellsL l, u.oneCell' = true := by
  intro u hu
  obtain ⟨c, _, rfl⟩ := List.mem_map.1 hu
  rfl
theorem cellsL_at {l : List UInt8} {j : Nat} {u : Value} (h : (cellsL l)[j]? = some u) : ∃ c, l[j]? = some c ∧ u = .int .u8 c.toNat := by
  unfold cellsL at h
  rw [List.getElem?_map] at h
  cases hl : l[j]? with
  | none => rw [hl] at h; cases h
  | some c => rw [hl] at h; exact ⟨c, rfl, by simpa using h.symm⟩

/-- a slice of bytes in blocks from B on, which the call has to itself -/
def OwnB (W : World) (B : Nat) (v : Value) (l : List UInt8) : Prop := W.ownsRow B 5 1 v l.length (cellsL l)
theorem ownB_nil (W : World) (B : Nat) : OwnB W B (.slice none 0 0) [] := World.ownsRow_nil _ _ _ _
theorem OwnB.next {W W' : World} {B : Nat} {v : Value} {l : List UInt8} (h : OwnB W B v l) (hb : Below W.heap.size W W') : OwnB W' B v l := by
  refine World.ownsRow.kept (row := none) h ⟨hb.os, hb.tape, hb.output, hb.size, fun k hk _ => hb.block k hk⟩ ?_
  rcases h.2 with ⟨rfl, _⟩ | ⟨g, cap, cur, rfl, _, _⟩
  · exact .inl rfl
  · exact .inr (by simp [Value.ownBlock])
theorem OwnB.alloc {W : World} {B : Nat} {v : Value} {l : List UInt8} (h : OwnB W B v l) (o : Obj) : OwnB (W.alloc o) B v l := World.ownsRow.alloc h o
theorem OwnB.from_ {W : World} {B B' : Nat} {v : Value} {l : List UInt8} (h : OwnB W B v l) (hB : B' ≤ B) : OwnB W B' v l := by
  refine ⟨h.1, ?_⟩
  rcases h.2 with h0 | ⟨g, cap, cur, e, hb, r⟩
  · exact .inl h0
  · exact .inr ⟨g, cap, cur, e, by omega, r⟩
/-- below B nothing is turned by what grows such a row -/
theorem below_own {W w1 : World} {B : Nat} {v : Value} {l : List UInt8} (h : OwnB W B v l) (hg : W.grownBy w1 v.ownBlock) (hB : B ≤ W.heap.size) : Below B W w1 :=
  (Below.refl B W).grown hg hB (fun k hk => (World.ownsRow.lt h k hk).1)
/-- a block of another type is none of such a row's -/
theorem blk_own {W : World} {b B : Nat} {t : TypeId} {cs : Array Value} {fr : Nat × Nat} {v : Value} {l : List UInt8} (hb : W.heap[b]? = some (.cells cs t fr)) (ht : t ≠ 5) (h : OwnB W B v l) : some b ≠ v.ownBlock := by
  rcases h.2 with ⟨rfl, _⟩ | ⟨g, cap, cur, rfl, _, hgb, _⟩
  · simp [Value.ownBlock]
  · intro e
    have e2 : b = g := by simpa [Value.ownBlock] using e
    subst e2
    rw [hb] at hgb
    injection hgb with hgb
    injection hgb with _ hgb _
    exact ht hgb
theorem add0 (b j : Nat) : (⟨b, 0, none⟩ : Addr).add j = ⟨b, j, none⟩ := by unfold Addr.add; split <;> simp_all
/-- the cells of a new block -/
theorem cell_lit (W : World) (cs : Array Value) (t : TypeId) (j : Nat) (u : Value) (h : cs.toList[j]? = some u) : (W.alloc (.cells cs t)).cell? ((⟨W.heap.size, 0, none⟩ : Addr).add j) = some u := by
  rw [add0]
  simp only [World.cell?, heap_alloc_new]
  simpa using h
/-- a text of such a row -/
theorem ownB_string (W : World) (v : Value) (B : Nat) (l : List UInt8) (h : OwnB W B v l) : (convert 57 9 v).run Try.prog W = .ok (.string ⟨l.toArray⟩) W := by
  have hr : W.ownsRow B 5 1 v l.length (l.map (fun c : UInt8 => Value.int .u8 c.toNat)) := h
  rcases hr.2 with ⟨rfl, h0⟩ | ⟨g, cap, cur, rfl, _, hg, _, _, _, ht⟩
  · obtain rfl : l = [] := List.length_eq_zero_iff.1 h0
    exact Lib.run_convert_nil_bytes W _ _ _ 0 Try.underlying57 Try.underlying5 Try.underlying9
  · refine run_convert_bytes_back W _ _ _ ⟨g, 0, none⟩ cap l Try.underlying57 Try.underlying5 Try.underlying9 (fun j hj => ?_)
    have h1 := hr.cellAt j (by omega)
    rw [List.getElem?_map, List.getElem?_eq_getElem hj] at h1
    rw [add0]; simpa using h1

/-- What a call that appends leaves. -/
def App (W : World) (B : Nat) (l : List UInt8) (e : Ending) (w' : World) : Prop := ∃ v', e = .returned v' ∧ OwnB w' B v' l ∧ Below B W w'

theorem app_mk {W w' : World} {B : Nat} {l : List UInt8} {v' : Value} (h : w'.ownsRow B 5 1 v' l.length (cellsL l)) (hb : Below B W w') : App W B l (.returned v') w' := ⟨v', rfl, h, hb⟩
/-- a slice that reads as these bytes, in blocks below B -/
def SlB (W : World) (B : Nat) (A : Option Addr) (l : List UInt8) : Prop :=
  l ≠ [] → ∃ a, A = some a ∧ a.block < B ∧ ∀ (j : Nat) (x : UInt8), l[j]? = some x → W.cell? (a.add j) = some (.int .u8 x.toNat)
theorem add_block (a : Addr) (j : Nat) : (a.add j).block = a.block := by unfold Addr.add; split <;> rfl
theorem SlB.next {W W' : World} {B : Nat} {A : Option Addr} {l : List UInt8} (h : SlB W B A l) {B' : Nat} (hb : Below B' W W') (hB : B ≤ B') : SlB W' B A l := fun hl => by
  obtain ⟨a, e, hlt, hc⟩ := h hl
  exact ⟨a, e, hlt, fun j x hx => (hb.cell (p := a.add j) (by rw [add_block]; omega)).trans (hc j x hx)⟩
theorem SlB.take {W : World} {B : Nat} {A : Option Addr} {l : List UInt8} (h : SlB W B A l) (n : Nat) : SlB W B A (l.take n) := fun hl => by
  have h0 : l ≠ [] := fun e => hl (by rw [e]; simp)
  obtain ⟨a, e, hlt, hc⟩ := h h0
  refine ⟨a, e, hlt, fun j x hx => hc j x ?_⟩
  rw [List.getElem?_take] at hx
  split at hx
  · exact hx
  · cases hx
theorem SlB.of_own {W : World} {B : Nat} {A : Option Addr} {n c : Nat} {l : List UInt8} (h : OwnB W B (.slice A n c) l) : n = l.length ∧ SlB W W.heap.size A l := by
  rcases h.2 with ⟨e, h0⟩ | ⟨g, cap, cur, e, _, hg, _⟩
  · injection e with _ e _
    exact ⟨by omega, fun hl => absurd (List.length_eq_zero_iff.1 h0) hl⟩
  · injection e with e1 e2 e3
    subst e1 e2 e3
    refine ⟨rfl, fun _ => ⟨_, rfl, (Array.getElem?_eq_some_iff.1 hg).1, fun j x hx => ?_⟩⟩
    rw [add0]
    have hr : W.ownsRow B 5 1 (.slice (some ⟨g, 0, none⟩) l.length c) l.length (cellsL l) := h
    have hj : j < l.length := (List.getElem?_eq_some_iff.1 hx).1
    rw [hr.cellAt j (by omega)]
    unfold cellsL
    rw [List.getElem?_map, hx]; rfl
theorem slB_string {W : World} {B : Nat} {A : Option Addr} {l : List UInt8} (h : SlB W B A l) (c : Nat) : (convert 57 9 (.slice A l.length c)).run Try.prog W = .ok (.string ⟨l.toArray⟩) W := by
  cases A with
  | none =>
    have h0 : l = [] := by
      by_cases hl : l = []
      · exact hl
      · obtain ⟨a, e, _⟩ := h hl
        cases e
    subst h0
    exact Lib.run_convert_nil_bytes W _ _ _ c Try.underlying57 Try.underlying5 Try.underlying9
  | some a =>
    refine run_convert_bytes_back W _ _ _ a c l Try.underlying57 Try.underlying5 Try.underlying9 (fun j hj => ?_)
    have hl : l ≠ [] := fun e => by rw [e] at hj; simp at hj
    obtain ⟨a', e, _, hc⟩ := h hl
    injection e with e
    subst e
    exact hc j _ (List.getElem?_eq_getElem hj)

set_option maxRecDepth 100000 in
set_option maxHeartbeats 1000000 in
theorem clone_any (a : Addr) (c : Nat) (l : List UInt8) (W : World) (hs : SlB W W.heap.size (some a) l) (hl : l.length ≤ 100000) :
    Calls Try.prog 79 #[.slice (some a) l.length c] W (App W W.heap.size l) := by
  obtain ⟨i0, hi, hz0, hz1, hz2⟩ := info_parts info8
  have hmx : 200000 ≤ maxLen := by decide
  have hc : Hid (∀ (o : Obj) j u, (cellsL l)[j]? = some u → (W.alloc o).cell? (a.add j) = some u) := fun o j u hu => by
    obtain ⟨x, hx, rfl⟩ := cellsL_at hu
    have hne : l ≠ [] := fun e => by rw [e] at hx; cases hx
    obtain ⟨a', e, hlt, hcc⟩ := hs hne
    injection e with e
    subst e
    rw [World.cell?_alloc_lt _ _ _ (by rw [add_block]; exact hlt)]
    exact hcc j x hx
  have ho : Hid (OwnB (W.alloc (.cells #[] 5)) W.heap.size (.slice (some ⟨W.heap.size, 0, none⟩) 0 0) []) :=
    World.ownsRow_lit W #[] 0 (Nat.le_refl _) (by decide) rfl
  have hq := @Lib.run_eql_slice_nil
  clear hs
  go_enter Try.func79, Try.ntmps79
  go_wp2_with (at_builtin; refine wpList_append_own _ rfl _ _ 57 rfl W.heap.size 5 i0 (.int .u8 0) 1 1 Try.underlying57 hi hz0 hz1 hz2 rfl (by decide) _ _ _ rfl ho.out a l.length c (cellsL l) rfl (by rw [cellsL_len]; omega) (hc.out _) (cellsL_one _) (by simp; omega) (by simp; omega) (by simp) ?_; intro v' w3 hown' hgrow _)
  go_ret
  refine app_mk (by rw [← cellsL_app] at hown'; simpa using hown') (((Below.refl _ _).alloc (Nat.le_refl _) _).trans (below_own ho.out hgrow (by simp)))
end Go.Proofs.Ytohpilamoglhcaa
