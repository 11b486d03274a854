/-
  THE LAW TextParses: its walk.
-/
import Derived.Test.YthbighnkohjfnaaGreatDoorJTDParse
import Derived.Test.YthbighnkohjfnaaGreatDoorJTParse
import Derived.Test.YthbighnkohjfnaaGreatDoorJTPlcd
namespace Go.Proofs.YthbighnkohjfnaaGreatDoor
open Go.RowKit

/-- what either reader answers, as the law takes it apart -/
def Four (w : World) (e : Ending) (w' : World) (L : List Nd) (i k c : Int) : Prop := (∃ A m, e = .returned (.tuple #[.slice A L.length m, .int .i64 i, .int .i64 k, .int .i64 c]) ∧ SlN 51 w' (fun g => w.heap.size ≤ g ∧ g < w'.heap.size) A L) ∧ Below w.heap.size w w'
theorem slN_none (W : World) (B : Nat → Prop) : SlN 51 W B none [] := ⟨Nat.zero_le _, fun h => absurd rfl h⟩
/-- both answer one thing -/
theorem both_four (s : ByteArray) : ∃ (L : List Nd) (i k c : Int), (∀ (w : World) e w', ParseT w s e w' → Four w e w' L i k c) ∧ ∀ (w : World) e w', ParseD w s e w' → Four w e w' L i k c := by
  have h := parse_doc s
  cases hr : runA (tellB (s.size + 1) s (1, 1)) ([], [], 0) with
  | inl x =>
    cases hd : nodesD pvL (s.size + 1) none s.data.toList 0 0 0 with
    | ok l s2 p m => rw [hr, hd] at h; exact h.elim
    | bad p =>
      rw [hr, hd] at h
      refine ⟨[], (x.2.2.1 : Int), (x.2.2.2 : Int), 50, fun w e w' hp => ?_, fun w e w' hp => ?_⟩
      · obtain ⟨h1, h2⟩ := hp
        rw [hr] at h1
        exact ⟨⟨none, 0, h1, slN_none _ _⟩, h2⟩
      · obtain ⟨h1, h2⟩ := hp
        rw [hd] at h1
        have h3 : x.2.2 = posL (s.data.toList.take p) (1, 1) := h
        rw [h3]
        exact ⟨⟨none, 0, h1, slN_none _ _⟩, h2⟩
  | inr a =>
    cases hd : nodesD pvL (s.size + 1) none s.data.toList 0 0 0 with
    | bad p => rw [hr, hd] at h; exact h.elim
    | ok l s2 p m =>
      rw [hr, hd] at h
      have h3 : a.1 = l.map (ndOf s.data.toList) := h
      refine ⟨a.1, 0, 0, 0, fun w e w' hp => ?_, fun w e w' hp => ?_⟩
      · obtain ⟨h1, h2⟩ := hp
        rw [hr] at h1
        exact ⟨h1, h2⟩
      · obtain ⟨h1, h2⟩ := hp
        rw [hd] at h1
        obtain ⟨A, c, he, hs⟩ := h1
        rw [h3]
        exact ⟨⟨A, c, by rw [he, List.length_map], hs⟩, h2⟩
set_option maxRecDepth 100000 in
set_option maxHeartbeats 4000000 in
theorem parsesL_any (s : ByteArray) (w : World) (herr : Errs w) (htab : Tab w) : Calls Tryz.prog 3 #[.string s] w fun e w' => e = .returned (.bool true) ∧ Below w.heap.size w w' := by
  obtain ⟨L, i, k, c, hT, hD⟩ := both_four s
  have HT := Lib.hid hT
  have HD := Lib.hid hD
  have HE := Lib.hid herr
  have HB := Lib.hid htab
  clear hT hD herr htab
  go_enter Tryz.func3, Tryz.ntmps3
  by_cases hs : s.size ≤ 20000
  · have h1 : decide ((20000 : Int) < (s.size : Int)) = false := decide_eq_false (by omega)
    have HS := Lib.hid hs
    clear hs
    go_wp2_with fail
    refine (parseT_any s _ (by have := HS.out; omega) HE.out HB.out).mono ?_
    rintro e1 w1 hp1
    obtain ⟨⟨A1, m1, rfl, hs1⟩, hb1⟩ := HT.out _ _ _ hp1
    have HS1 := Lib.hid hs1
    have HB1 := Lib.hid hb1
    clear hp1 hs1 hb1
    go_wp2_with fail
    refine (docParse_any s _ HS.out).mono ?_
    rintro e2 w2 hp2
    obtain ⟨⟨A2, m2, rfl, hs2⟩, hb2⟩ := HD.out _ _ _ hp2
    have HS2 := Lib.hid hs2
    have HB2 := Lib.hid hb2
    have HS3 : Hid (SlN 51 w2 (fun g => w.heap.size ≤ g ∧ g < w1.heap.size) A1 L) := HS1.out.keep fun g hg => hb2.block g hg.2
    clear hp2 hs2 hb2
    have hi : ((i : Int) == i) = true := beq_self_eq_true i
    have hk : ((k : Int) == k) = true := beq_self_eq_true k
    have hc : ((c : Int) == c) = true := beq_self_eq_true c
    go_wp2_with fail
    refine (placed_any 51 A1 A2 m1 m2 L _ _ _ HS3.out HS2.out).mono ?_
    rintro e3 w3 ⟨rfl, n, rfl⟩
    go_wp2
    go_ret
    exact ⟨rfl, (HB1.out.trans (HB2.out.mono HB1.out.size)).trans (below_drewN (Below.refl _ _) _)⟩
  · have h1 : decide ((20000 : Int) < (s.size : Int)) = true := decide_eq_true (by omega)
    clear hs
    go_wp2
    go_ret
    exact ⟨rfl, Below.refl _ _⟩
end Go.Proofs.YthbighnkohjfnaaGreatDoor
