/-
  CONTRACT: one, at a pair that is the document's.
-/
import Derived.Test.YtohpilamoglhcaaQSame
namespace Go.Proofs.Ytohpilamoglhcaa
open Go.RowKit

/-- a pair of a call's own, as a row of one -/
theorem PrV.row {w w2 : World} {B : Nat} {u1 u2 : Value} {p : Pr} (hv : PrV w B (.agg #[u1, u2]) p) (hb : Below w.heap.size w w2) : OwnQ (w2.alloc (.cells #[u1, u2] 93)) B (.slice (some ⟨w2.heap.size, 0, none⟩) 1 1) [(p, u1, u2)] := by
  obtain ⟨A, c, A', c', M, e, g1, g2, g3, g4, g5⟩ := hv
  have e' := congrArg (fun | .agg x => x.toList | _ => []) e
  simp only [List.cons.injEq, and_true] at e'
  obtain ⟨rfl, rfl⟩ := e'
  have hs := hb.size
  have k1 : OwnB (w2.alloc (.cells #[.slice A p.1.length c, .slice A' p.2.length c'] 93)) B (.slice A p.1.length c) p.1 := (g1.next hb).alloc _
  have k2 : OwnB (w2.alloc (.cells #[.slice A p.1.length c, .slice A' p.2.length c'] 93)) M (.slice A' p.2.length c') p.2 := (g2.next hb).alloc _
  refine ⟨?_, fun q hq => ?_, ?_, fun g hg => ?_⟩
  · have := World.ownsRow_lit (base := B) (e := 93) (size := 2) w2 #[.slice A p.1.length c, .slice A' p.2.length c'] 1 (by omega) (by decide) rfl
    simpa [cellsQ] using this
  · rw [List.mem_singleton.1 hq]
    exact ⟨⟨A, c, rfl, k1⟩, ⟨A', c', rfl, k2.from_ g3⟩⟩
  · unfold blksQ
    cases h1 : (Value.slice A p.1.length c).ownBlock with
    | none => cases h2 : (Value.slice A' p.2.length c').ownBlock <;> simp [h1, h2]
    | some x =>
      cases h2 : (Value.slice A' p.2.length c').ownBlock with
      | none => simp [h1, h2]
      | some y =>
        have := g5 x h1
        have := (World.ownsRow.lt g2 y h2).1
        simp [h1, h2]
        omega
  · have hg : g ∈ [(Value.slice A p.1.length c).ownBlock, (Value.slice A' p.2.length c').ownBlock].filterMap id := by simpa [blksQ] using hg
    simp only [List.mem_filterMap, List.mem_cons, List.not_mem_nil, or_false, id_eq] at hg
    obtain ⟨y, hy, hy2⟩ := hg
    rcases hy with rfl | rfl
    · exact World.ownsRow.lt k1 g hy2
    · have := World.ownsRow.lt k2 g hy2
      omega
set_option maxRecDepth 100000 in
set_option maxHeartbeats 4000000 in
theorem one_any (v : Value) (b : Bool) (B : Nat) (p : Pr) (w : World) (hv : PrV w B v p) (hB : B ≤ w.heap.size) :
    Calls Try.prog 42 #[v, .bool b, .agg #[.string ⟨p.1.toArray⟩, .string ⟨p.2.toArray⟩], .bool b] w fun e w' => e = .returned (.bool true) ∧ KeepU B w w' := by
  have hv2 := hv
  obtain ⟨A, c, A', c', M, rfl, _⟩ := hv2
  obtain ⟨w2, hw2⟩ : ∃ X, (w.alloc (.cells #[.slice A p.1.length c, .slice A' p.2.length c'] 93)).alloc (.cells #[.string ⟨p.1.toArray⟩, .string ⟨p.2.toArray⟩] 100) = X := ⟨_, rfl⟩
  have hb2 : Below w.heap.size w w2 := by rw [← hw2]; exact ((Below.refl _ _).alloc (Nat.le_refl _) _).alloc (by simp) _
  have hp2 : PBox w2 w.heap.size (.slice A p.1.length c) (.slice A' p.2.length c') := by
    rw [← hw2]
    exact PBox.next (heap_alloc_new w _) ((Below.refl _ _).alloc (Nat.le_refl _) _) (by simp)
  have hr2 : RBox w2 (w.heap.size + 1) (.string ⟨p.1.toArray⟩) (.string ⟨p.2.toArray⟩) := by
    rw [← hw2]
    have := heap_alloc_new (w.alloc (.cells #[.slice A p.1.length c, .slice A' p.2.length c'] 93)) (.cells #[.string ⟨p.1.toArray⟩, .string ⟨p.2.toArray⟩] 100)
    rw [World.size_alloc] at this
    exact this
  have c0 := hp2.c0
  have c1 := hp2.c1
  obtain ⟨w3, hw3⟩ : ∃ X, w2.alloc (.cells #[.slice A p.1.length c, .slice A' p.2.length c'] 93) = X := ⟨_, rfl⟩
  have hb3 : Below w2.heap.size w2 w3 := by rw [← hw3]; exact (Below.refl _ _).alloc (Nat.le_refl _) _
  have hq3 : OwnQ w3 B (.slice (some ⟨w2.heap.size, 0, none⟩) 1 1) [(p, .slice A p.1.length c, .slice A' p.2.length c')] := by rw [← hw3]; exact hv.row hb2
  have hrlt : w.heap.size + 1 < w2.heap.size := (Array.getElem?_eq_some_iff.1 hr2).1
  have hr3 : RBox w3 (w.heap.size + 1) (.string ⟨p.1.toArray⟩) (.string ⟨p.2.toArray⟩) := (hb3.block _ hrlt).trans hr2
  have d0 := hr3.cell 0
  have d1 := hr3.cell 1
  obtain ⟨w4, hw4⟩ : ∃ X, w3.alloc (.cells #[.string ⟨p.1.toArray⟩, .string ⟨p.2.toArray⟩] 100) = X := ⟨_, rfl⟩
  have hb4 : Below w3.heap.size w3 w4 := by rw [← hw4]; exact (Below.refl _ _).alloc (Nat.le_refl _) _
  have hr4 : RBox w4 w3.heap.size (.string ⟨p.1.toArray⟩) (.string ⟨p.2.toArray⟩) := by rw [← hw4]; exact heap_alloc_new w3 _
  have hs4 : SlR w4 (some ⟨w3.heap.size, 0, none⟩) [p] := fun _ => by
    refine ⟨w3.heap.size, 0, rfl, ⟨_, _, by rw [← hw4]; exact heap_alloc_new w3 _⟩, fun j q hj => ?_⟩
    cases j with
    | zero =>
      obtain rfl : p = q := by simpa using hj
      exact ⟨hr4.cell 0, hr4.cell 1⟩
    | succ j => simp at hj
  have HSM := Lib.hid (same_any (some ⟨w2.heap.size, 0, none⟩) (some ⟨w3.heap.size, 0, none⟩) 1 1 1 B _ [p] w4 (hq3.next hb4) rfl rfl hs4 (by decide))
  have HK4 : Hid (KeepU B w w4) := KeepU.of_below (hb2.trans ((hb3.trans (hb4.mono hb3.size)).mono hb2.size)) hB
  have hbb : (b == b) = true := beq_self_eq_true _
  clear hv hb2 hp2 hr2 hb3 hq3 hr3 hr4 hb4 hs4 hB hrlt
  go_enter Try.func42, Try.ntmps42
  go_wp2_with fail
  try rw [hw2]
  try rw [hw3]
  try rw [hw4]
  refine HSM.out.mono ?_
  rintro e w5 ⟨rfl, hk5⟩
  have HK5 := Lib.hid (HK4.out.trans hk5)
  clear hw2 hw3 hw4 c0 c1 d0 d1 hk5
  go_wp2
  go_ret
  exact ⟨rfl, HK5.out⟩
end Go.Proofs.Ytohpilamoglhcaa
