import Derived.Lib.Hide
import Derived.LoopTactic
import Derived.Deep.LoopGhost
import Derived.Laws.BitsAllLaws
import Derived.OwnWalk
import Derived.Test.YtbcdkfolmncjlaaJLeaf
import Derived.Laws.IdiomStrings
import Derived.Laws.OwnMore
import Derived.Lib.SmallJoins
import Derived.Lib.BufferRead
/-
  CONTRACTS: eight (a number's bytes in an array).
-/
namespace Go.Proofs.Ytbcdkfolmncjlaa
open Go.RowKit

theorem xor63 (a : Nat) (ha : a < 18446744073709551616) : a ^^^ 9223372036854775808 = if a < 9223372036854775808 then a + 9223372036854775808 else a - 9223372036854775808 := by
  have h1 := Nat.xor_mod_two_pow (a := a) (b := 9223372036854775808) (n := 63)
  have h2 := Nat.xor_div_two_pow (a := a) (b := 9223372036854775808) (n := 63)
  have e : (2 : Nat) ^ 63 = 9223372036854775808 := by decide
  rw [e] at h1 h2
  rw [Nat.mod_self, Nat.xor_zero] at h1
  rw [Nat.div_self (by decide)] at h2
  have h3 : a / 9223372036854775808 = 0 ∨ a / 9223372036854775808 = 1 := by omega
  rcases h3 with h3 | h3
  · rw [h3] at h2
    have : (0 : Nat) ^^^ 1 = 1 := rfl
    rw [this] at h2
    split <;> omega
  · rw [h3] at h2
    have : (1 : Nat) ^^^ 1 = 0 := rfl
    rw [this] at h2
    split <;> omega
theorem turn_lt {n : Int} (h1 : n ≤ 9223372036854775807) : turnN n < 18446744073709551616 := by unfold turnN; omega
theorem turned {n : Int} (h0 : -9223372036854775808 ≤ n) (h1 : n ≤ 9223372036854775807) : bits .xor .u64 (IntKind.u64.wrap n) 9223372036854775808 = ((turnN n : Nat) : Int) := by
  have hw : IntKind.u64.wrap n = ((n % 18446744073709551616).toNat : Int) := by
    rw [IntKind.wrap_u64]; omega
  rw [hw, show (9223372036854775808 : Int) = ((9223372036854775808 : Nat) : Int) from rfl, u64_xor_nat _ _ (by omega) (by decide), xor63 _ (by omega)]
  unfold turnN
  split <;> omega

/-- the eight cells behind i rounds -/
def eightC (T i : Nat) : Array Value := (((be8 T).take i).map (fun c : UInt8 => Value.int .u8 c.toNat) ++ List.replicate (8 - i) (Value.int .u8 0)).toArray

theorem results_cell_only {fn : Func} {p : Tmp} {ty : TypeId} (h : fn.results = #[.cell p ty]) (tmps : Array Value) (P : Program) (w : World) :
    (results fn tmps).run P w = ((asAddr (tmps.getD p undef)).run P w).andThen fun a w₁ => (loadVar ty a).run P w₁ := by
  simp only [results, h]
  simp [Sem.run_bind]

end Go.Proofs.Ytbcdkfolmncjlaa

/-
  WORDS FOR SLICES OF BYTES: a row of the call's own; what an append leaves.
-/
namespace Go.Proofs.Ytbcdkfolmncjlaa
open Go.RowKit

theorem info8 : (Try.prog.info? 5).map (fun i => (i.zero, i.size, i.bytes)) = some (some (.int .u8 0), 1, 1) := by kernel_rfl
/-- bytes as cells -/
def cellsL (l : List UInt8) : List Value := l.map (fun c : UInt8 => Value.int .u8 c.toNat)
theorem cellsL_len (l : List UInt8) : (cellsL l).length = l.length := List.length_map _
theorem cellsL_app (l m : List UInt8) : cellsL (l ++ m) = cellsL l ++ cellsL m := List.map_append
theorem cellsL_one (l : List UInt8) : ∀ u ∈ cellsL l, u.oneCell' = true := by
  intro u hu
  obtain ⟨c, _, rfl⟩ := List.mem_map.1 hu
  rfl
theorem cellsL_at {l : List UInt8} {j : Nat} {u : Value} (h : (cellsL l)[j]? = some u) : ∃ c, l[j]? = some c ∧ u = .int .u8 c.toNat := by
  unfold cellsL at h
  rw [List.getElem?_map] at h
  cases hl : l[j]? with
  | none => rw [hl] at h; cases h
  | some c => rw [hl] at h; exact ⟨c, rfl, by simpa using h.symm⟩

/-- a slice of bytes in blocks from B on, which the call has to itself -/
def OwnB (W : World) (B : Nat) (v : Value) (l : List UInt8) : Prop := W.ownsRow B 5 1 v l.length (cellsL l)
theorem ownB_nil (W : World) (B : Nat) : OwnB W B (.slice none 0 0) [] := World.ownsRow_nil _ _ _ _
theorem OwnB.next {W W' : World} {B : Nat} {v : Value} {l : List UInt8} (h : OwnB W B v l) (hb : Below W.heap.size W W') : OwnB W' B v l := by
  refine World.ownsRow.kept (row := none) h ⟨hb.os, hb.tape, hb.output, hb.size, fun k hk _ => hb.block k hk⟩ ?_
  rcases h.2 with ⟨rfl, _⟩ | ⟨g, cap, cur, rfl, _, _⟩
  · exact .inl rfl
  · exact .inr (by simp [Value.ownBlock])
theorem OwnB.alloc {W : World} {B : Nat} {v : Value} {l : List UInt8} (h : OwnB W B v l) (o : Obj) : OwnB (W.alloc o) B v l := World.ownsRow.alloc h o
theorem OwnB.from_ {W : World} {B B' : Nat} {v : Value} {l : List UInt8} (h : OwnB W B v l) (hB : B' ≤ B) : OwnB W B' v l := by
  refine ⟨h.1, ?_⟩
  rcases h.2 with h0 | ⟨g, cap, cur, e, hb, r⟩
  · exact .inl h0
  · exact .inr ⟨g, cap, cur, e, by omega, r⟩
/-- below B nothing is turned by what grows such a row -/
theorem below_own {W w1 : World} {B : Nat} {v : Value} {l : List UInt8} (h : OwnB W B v l) (hg : W.grownBy w1 v.ownBlock) (hB : B ≤ W.heap.size) : Below B W w1 :=
  (Below.refl B W).grown hg hB (fun k hk => (World.ownsRow.lt h k hk).1)
/-- a block of another type is none of such a row's -/
theorem blk_own {W : World} {b B : Nat} {t : TypeId} {cs : Array Value} {fr : Nat × Nat} {v : Value} {l : List UInt8} (hb : W.heap[b]? = some (.cells cs t fr)) (ht : t ≠ 5) (h : OwnB W B v l) : some b ≠ v.ownBlock := by
  rcases h.2 with ⟨rfl, _⟩ | ⟨g, cap, cur, rfl, _, hgb, _⟩
  · simp [Value.ownBlock]
  · intro e
    have e2 : b = g := by simpa [Value.ownBlock] using e
    subst e2
    rw [hb] at hgb
    injection hgb with hgb
    injection hgb with _ hgb _
    exact ht hgb
theorem add0 (b j : Nat) : (⟨b, 0, none⟩ : Addr).add j = ⟨b, j, none⟩ := by unfold Addr.add; split <;> simp_all
/-- the cells of a new block -/
theorem cell_lit (W : World) (cs : Array Value) (t : TypeId) (j : Nat) (u : Value) (h : cs.toList[j]? = some u) : (W.alloc (.cells cs t)).cell? ((⟨W.heap.size, 0, none⟩ : Addr).add j) = some u := by
  rw [add0]
  simp only [World.cell?, heap_alloc_new]
  simpa using h
/-- What a call that appends leaves. -/
def App (W : World) (B : Nat) (l : List UInt8) (e : Ending) (w' : World) : Prop := ∃ v', e = .returned v' ∧ OwnB w' B v' l ∧ Below B W w'

end Go.Proofs.Ytbcdkfolmncjlaa
