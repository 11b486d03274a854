/-
  SLICES OF VALUES; CONTRACT: slices.Clone at values.
-/
import Derived.Test.YtkoknogefmfmnaaVSort
import Derived.Test.YtkoknogefmfmnaaSAppAny
import Derived.Lib.SliceRun
namespace Go.Proofs.Ytkoknogefmfmnaa
open Go.RowKit Go.Shelf

/-- one value's cells -/
structure VlAt (W : World) (b o : Nat) (v : Vl) : Prop where
  c0 : W.cell? ⟨b, o, none⟩ = some (.int .i64 v.1)
  c1 : W.cell? ⟨b, o + 1, none⟩ = some (.int .i64 v.2.1)
  c2 : W.cell? ⟨b, o + 2, none⟩ = some (.string v.2.2)
/-- a slice that reads as these values, in blocks below B -/
def SlV (W : World) (B : Nat) (A : Option Addr) (l : List Vl) : Prop :=
  l ≠ [] → ∃ b o, A = some ⟨b, o, none⟩ ∧ b < B ∧ ∀ (j : Nat) (v : Vl), l[j]? = some v → VlAt W b (o + j * 3) v
theorem VlAt.next {W W' : World} {B b o : Nat} {v : Vl} (h : VlAt W b o v) (hb : Below B W W') (hB : b < B) : VlAt W' b o v :=
  ⟨(hb.cell (p := ⟨b, o, none⟩) hB).trans h.c0, (hb.cell (p := ⟨b, o + 1, none⟩) hB).trans h.c1, (hb.cell (p := ⟨b, o + 2, none⟩) hB).trans h.c2⟩
theorem SlV.next {W W' : World} {B : Nat} {A : Option Addr} {l : List Vl} (h : SlV W B A l) {B' : Nat} (hb : Below B' W W') (hB : B ≤ B') : SlV W' B A l := fun hl => by
  obtain ⟨b, o, e, hlt, hc⟩ := h hl
  exact ⟨b, o, e, hlt, fun j p hp => (hc j p hp).next hb (by omega)⟩
theorem SlV.more {W : World} {B B' : Nat} {A : Option Addr} {l : List Vl} (h : SlV W B A l) (hB : B ≤ B') : SlV W B' A l := fun hl => by
  obtain ⟨b, o, e, hlt, hc⟩ := h hl
  exact ⟨b, o, e, by omega, hc⟩
theorem SlV.at_ {W : World} {B : Nat} {A : Option Addr} {l : List Vl} (h : SlV W B A l) {j : Nat} (hj : j < l.length) : ∃ b o, A = some ⟨b, o, none⟩ ∧ b < B ∧ VlAt W b (o + j * 3) l[j] := by
  obtain ⟨b, o, e, hlt, hc⟩ := h (by intro e; rw [e] at hj; simp at hj)
  exact ⟨b, o, e, hlt, hc j _ (List.getElem?_eq_getElem hj)⟩
/-- a slice of values in blocks from B on, which the call has to itself -/
def OwnV (W : World) (B : Nat) (v : Value) (l : List Vl) : Prop := W.ownsRow B 24 3 v l.length (l.flatMap cellsV)
theorem flatV {l : List Vl} {j i : Nat} (hi : i < 3) : (l.flatMap cellsV)[j * 3 + i]? = l[j]?.bind fun x => (cellsV x)[i]? := flatG cellsV_len hi
theorem flatV_len (l : List Vl) : (l.flatMap cellsV).length = l.length * 3 := flatG_len cellsV_len l
theorem cellsV_all (l : List Vl) : ∀ u ∈ l.flatMap cellsV, u.oneCell' = true := fun u hu => by
  obtain ⟨s, _, hs⟩ := List.mem_flatMap.1 hu
  exact cellsV_one s u hs
theorem OwnV.slv {W : World} {B : Nat} {v : Value} {l : List Vl} (h : OwnV W B v l) : ∃ A c, v = .slice A l.length c ∧ SlV W W.heap.size A l ∧ l.length ≤ c ∧ c ≤ maxLen := by
  rcases h.2 with ⟨rfl, h0⟩ | ⟨g, cap, cur, rfl, _, hgb, h1, h2, _⟩
  · exact ⟨none, 0, by rw [h0], fun hl => absurd (List.length_eq_zero_iff.1 h0) hl, by omega, Nat.zero_le _⟩
  · refine ⟨_, _, rfl, fun _ => ⟨g, 0, rfl, (Array.getElem?_eq_some_iff.1 hgb).1, fun j p hp => ?_⟩, h1, h2⟩
    have hr : W.ownsRow B 24 3 (.slice (some ⟨g, 0, none⟩) l.length cap) l.length (l.flatMap cellsV) := h
    have hj : j < l.length := (List.getElem?_eq_some_iff.1 hp).1
    have hc : ∀ i, i < 3 → W.cell? ⟨g, j * 3 + i, none⟩ = (cellsV p)[i]? := fun i hi => by
      rw [hr.cellAt (j * 3 + i) (by omega), flatV hi, hp]; rfl
    rw [Nat.zero_add]
    exact ⟨hc 0 (by omega), hc 1 (by omega), hc 2 (by omega)⟩
theorem SlV.news {W : World} {B : Nat} {A : Option Addr} {l : List Vl} (h : SlV W B A l) (ad : Addr) (hA : A = some ad) (j : Nat) (u : Value) (hu : (l.flatMap cellsV)[j]? = some u) : W.cell? (ad.add j) = some u := by
  have hj := (List.getElem?_eq_some_iff.1 hu).1
  rw [flatV_len] at hj
  obtain ⟨b, o, e, _, hc⟩ := h (fun e => by rw [e] at hj; simp at hj)
  rw [hA] at e
  cases e
  rw [addI]
  obtain ⟨k, i, hi, rfl⟩ : ∃ k i, i < 3 ∧ j = k * 3 + i := ⟨j / 3, j % 3, by omega, by omega⟩
  rw [flatV hi] at hu
  obtain ⟨s, hs, hu⟩ := Option.bind_eq_some_iff.1 hu
  have hp := hc k s hs
  rcases (by omega : i = 0 ∨ i = 1 ∨ i = 2) with rfl | rfl | rfl
  · simp [cellsV] at hu
    subst hu
    exact hp.c0
  · simp [cellsV] at hu
    subst hu
    rw [← Nat.add_assoc]
    exact hp.c1
  · simp [cellsV] at hu
    subst hu
    rw [← Nat.add_assoc]
    exact hp.c2
theorem ownV_of {W : World} {B m : Nat} {v : Value} {a b : List Vl} (h : W.ownsRow B 24 3 v m (a.flatMap cellsV ++ b.flatMap cellsV)) : OwnV W B v (a ++ b) := by
  have h1 := h.1
  rw [← List.flatMap_append, flatV_len] at h1
  obtain rfl : m = (a ++ b).length := by omega
  show World.ownsRow _ _ _ _ _ _ _
  rw [List.flatMap_append]
  exact h
theorem below_ownV {W w1 : World} {B : Nat} {v : Value} {l : List Vl} (h : OwnV W B v l) (hg : W.grownBy w1 v.ownBlock) (hB : B ≤ W.heap.size) : Below B W w1 :=
  (Below.refl B W).grown hg hB (fun k hk => (World.ownsRow.lt h k hk).1)
theorem info22 : (Try.prog.info? 24).map (fun i => (i.zero, i.size, i.bytes)) = some (some (.agg #[.int .i64 0, .int .i64 0, .string ⟨#[]⟩]), 3, 32) := by kernel_rfl
theorem ownV_zero (W : World) (B : Nat) (hB : B ≤ W.heap.size) : OwnV (W.alloc (.cells #[] 24)) B (.slice (some ⟨W.heap.size, 0, none⟩) 0 0) [] :=
  ⟨rfl, .inr ⟨W.heap.size, 0, #[], rfl, hB, heap_alloc_new W _, Nat.le_refl _, Nat.zero_le _, rfl, rfl⟩⟩

set_option maxRecDepth 100000 in
set_option maxHeartbeats 1000000 in
theorem cloneV_some (b o c : Nat) (l : List Vl) (w : World) (hs : SlV w w.heap.size (some ⟨b, o, none⟩) l) (hl : l.length ≤ 50000) :
    Calls Try.prog 25 #[.slice (some ⟨b, o, none⟩) l.length c] w fun e w' => ∃ v, e = .returned v ∧ OwnV w' w.heap.size v l ∧ Below w.heap.size w w' := by
  obtain ⟨i0, hi, hz0, hz1, hz2⟩ := info_parts info22
  have hmx : 50000 ≤ maxLen := by decide
  have HL0 := Lib.hid (ownV_zero w w.heap.size (Nat.le_refl _))
  have HNW : Hid (∀ ad, some (⟨b, o, none⟩ : Addr) = some ad → ∀ j u, (l.flatMap cellsV)[j]? = some u → (w.alloc (.cells #[] 24)).cell? (ad.add j) = some u) := fun ad h j u hu => (hs.next ((Below.refl _ _).alloc (Nat.le_refl _) _) (Nat.le_refl _)).news ad h j u hu
  clear hs
  have he := fun w => Lib.run_eql_slice_nil (P := Try.prog) w 22 24 (some ⟨b, o, none⟩) l.length c 0 0 Try.underlying22
  simp only [Option.isNone_some] at he
  go_enter Try.func25, Try.ntmps25
  go_wp2_with (at_builtin; refine wpList_append_any rfl _ _ 22 rfl w.heap.size 24 i0 (.agg #[.int .i64 0, .int .i64 0, .string ⟨#[]⟩]) 3 32 Try.underlying22 hi hz0 hz1 hz2 rfl (by decide) _ _ _ rfl HL0.out (some ⟨b, o, none⟩) l.length c (l.flatMap cellsV) rfl (flatV_len l) (fun h => by cases h) HNW.out (cellsV_all l) (by simp; omega) (by simp; omega) (by simp) ?_; intro v1 w1 hown' hgrow; have HV1 : Hid (OwnV w1 w.heap.size v1 l) := ownV_of (a := []) hown'; have HB1 := Lib.hid (((Below.refl w.heap.size w).alloc (Nat.le_refl _) (.cells #[] 24)).trans (below_ownV HL0.out hgrow (by simp))); clear hown' hgrow)
  go_ret
  exact ⟨_, rfl, HV1.out, HB1.out⟩
set_option maxRecDepth 100000 in
set_option maxHeartbeats 400000 in
theorem cloneV_none (w : World) :
    Calls Try.prog 25 #[.slice none 0 0] w fun e w' => e = .returned (.slice none 0 0) ∧ w = w' := by
  have he : (binOp .eql 22 (.slice none 0 0) (.slice none 0 0)).run Try.prog w = .ok (.bool true) w := by kernel_rfl
  go_enter Try.func25, Try.ntmps25
  go_wp2
  go_ret
  exact ⟨rfl, rfl⟩
end Go.Proofs.Ytkoknogefmfmnaa
