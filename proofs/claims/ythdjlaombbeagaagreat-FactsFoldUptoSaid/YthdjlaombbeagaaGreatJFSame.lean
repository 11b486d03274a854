import Derived.Test.YthdjlaombbeagaaGreatJFInstP
import Derived.Laws.StructEq
import Derived.Deep.Draws
import Derived.Test.YthdjlaombbeagaaGreatJSLeaf
import Derived.BigQuiet
import Derived.Test.YthdjlaombbeagaaGreatJFAlike
import Derived.Test.YthdjlaombbeagaaGreatJRegion
/-
  PLAIN FACTS: what two lists of facts tell of each triple; the changes from one to the other.
-/
namespace Go.Proofs.YthdjlaombbeagaaGreat
open VOrd (IsOrd lexO lex_is ordI_is ordT_is ordT)

abbrev Tri := Int × Int × Int × Int × ByteArray
end Go.Proofs.YthdjlaombbeagaaGreat

/-
  CONTRACT: Same (of two lists of spans that are equal).
-/
namespace Go.Proofs.YthdjlaombbeagaaGreat
open Go.RowKit

theorem neSp (x y : Int) (w : World) : (binOp .neq 88 (.agg #[.int .i64 x, .int .i64 y]) (.agg #[.int .i64 x, .int .i64 y])).run Tryz.prog w = .ok (.bool false) w := by
  have u2 := Tryz.underlying2
  have a2 := Tryz.isAgg2
  have hS : Tryz.prog.underlying 88 = some (.struct (Tryz.prog.fieldsOf 88)) := by kernel_rfl
  have hp : Tryz.prog.stoodInHeld 88 = false := by kernel_rfl
  rw [run_neq_struct, show (10000 : Nat) = 9999 + 1 from rfl, run_equalIn_agg w 9999 88 _ _ hS hp]
  simp only [Program.fieldsOf, Tryz.underlying88]
  go_simp

set_option maxRecDepth 100000 in
set_option maxHeartbeats 2000000 in
theorem sameS_any (A A' : Option Addr) (c c' : Nat) (l : List Sp) (w : World) (B : Nat) (hs : SlS w B A l) (hs' : SlS w B A' l) (hl : l.length ≤ 1048576) :
    Calls Tryz.prog 33 #[.slice A l.length c, .slice A' l.length c'] w fun e w' => e = .returned (.bool true) ∧ ∃ n, w' = w.drewN n := by
  go_enter Tryz.func33, Tryz.ntmps33
  go_wp2
  go_loopw [5] (fun i wr => ∃ j n : Nat, j ≤ l.length ∧ i = .int .i64 j ∧ wr = w.drewN n) (fun i _ => l.length - (intOf i).toNat)
  case atStart => exact ⟨0, 0, by omega, rfl, rfl⟩
  case round =>
    obtain ⟨j, n, hj, rfl, rfl⟩ := hrel
    by_cases h1 : j < l.length
    · have hji : (j : Int) < (l.length : Int) := by omega
      obtain ⟨b, o, rfl, _, hp⟩ := hs.at_ h1
      obtain ⟨b', o', rfl, _, hp'⟩ := hs'.at_ h1
      obtain ⟨⟨x, y⟩, hpe⟩ : ∃ p, l[j] = p := ⟨_, rfl⟩
      rw [hpe] at hp hp'
      have c0 := hp.c0
      have c1 := hp.c1
      have d0 := hp'.c0
      have d1 := hp'.c1
      have hq := neSp x y
      clear hp hp' hpe hs hs'
      go_wp2
      go_quiet (fail)
      go_wp2
      go_roundw
      case rel => exact ⟨j + 1, _, by omega, by go_num, rfl⟩
      case measure => simp [intOf]; omega
    · have hji : ¬ (j : Int) < (l.length : Int) := by omega
      go_wp2
      go_ret
      exact ⟨rfl, n, rfl⟩
end Go.Proofs.YthdjlaombbeagaaGreat

/-
  CONTRACT: the document's Same of two lists of facts that are equal.
-/
namespace Go.Proofs.YthdjlaombbeagaaGreat
open Go.RowKit Go.Shelf

/-- a fact's cells, the value of its spans named -/
def FcV (W : World) (b o : Nat) (f : FactP) (sv : Value) : Prop := W.cell? ⟨b, o, none⟩ = some (.int .i64 f.e) ∧ W.cell? ⟨b, o + 1, none⟩ = some (.int .i64 f.a) ∧ W.cell? ⟨b, o + 2, none⟩ = some (.int .i64 f.k) ∧ W.cell? ⟨b, o + 2 + 1, none⟩ = some (.int .i64 f.m) ∧ W.cell? ⟨b, o + 2 + 2, none⟩ = some (.string f.s) ∧ W.cell? ⟨b, o + 5, none⟩ = some sv
def SmS (b o b' o' : Nat) (f : FactP) (sv sv' : Value) (W : World) : Prop := FcV W b o f sv ∧ FcV W b' o' f sv' ∧ SV W sv f.l ∧ SV W sv' f.l ∧ b < W.heap.size ∧ b' < W.heap.size
theorem FcV.next {W W' : World} {b o : Nat} {f : FactP} {sv : Value} (h : FcV W b o f sv) (hb : Below W.heap.size W W') (hlt : b < W.heap.size) : FcV W' b o f sv := by
  have up : ∀ i u, W.cell? ⟨b, i, none⟩ = some u → W'.cell? ⟨b, i, none⟩ = some u := fun i u h => (hb.cell (p := ⟨b, i, none⟩) hlt).trans h
  exact ⟨up _ _ h.1, up _ _ h.2.1, up _ _ h.2.2.1, up _ _ h.2.2.2.1, up _ _ h.2.2.2.2.1, up _ _ h.2.2.2.2.2⟩
theorem SmS.next {b o b' o' : Nat} {f : FactP} {sv sv' : Value} {W W' : World} (h : SmS b o b' o' f sv sv' W) (hb : Below W.heap.size W W') : SmS b o b' o' f sv sv' W' :=
  ⟨h.1.next hb h.2.2.2.2.1, h.2.1.next hb h.2.2.2.2.2, h.2.2.1.next hb, h.2.2.2.1.next hb, Nat.lt_of_lt_of_le h.2.2.2.2.1 hb.size, Nat.lt_of_lt_of_le h.2.2.2.2.2 hb.size⟩
end Go.Proofs.YthdjlaombbeagaaGreat

