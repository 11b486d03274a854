/-
  CONTRACTS: the chapter's own facts, and that they make its attribute.
-/
import Derived.Test.YtbcdkfolmncjlaaJHLessP
namespace Go.Proofs.Ytbcdkfolmncjlaa
open Go.RowKit Go.Shelf

set_option maxRecDepth 100000 in
set_option maxHeartbeats 1000000 in
theorem fact_any (e a k m : Int) (s : ByteArray) (w : World) :
    Calls Try.prog 7 #[.int .i64 e, .int .i64 a, .agg #[.int .i64 k, .int .i64 m, .string s]] w fun r w' => (∃ g, r = .returned (.agg #[.int .i64 e, .int .i64 a, .int .i64 k, .int .i64 m, .string s, .slice (some ⟨g, 0, none⟩) 1 1]) ∧ SlS w' w'.heap.size (some ⟨g, 0, none⟩) allS) ∧ Below w.heap.size w w' := by
  go_enter Try.func7, Try.ntmps7
  go_wp2
  have hs : SlS (((w.alloc (.cells #[.int .i64 k, .int .i64 m, .string s] 27)).alloc (.cells #[.int .i64 e, .int .i64 a, .int .i64 k, .int .i64 m, .string s, .slice (some ⟨w.heap.size + 1 + 1, 0, none⟩) 1 1] 30)).alloc (.cells #[.int .i64 (-9223372036854775808), .int .i64 9223372036854775807] 34)) (w.heap.size + 1 + 1 + 1) (some ⟨w.heap.size + 1 + 1, 0, none⟩) allS := fun _ => by
    have hh := heap_alloc_new ((w.alloc (.cells #[.int .i64 k, .int .i64 m, .string s] 27)).alloc (.cells #[.int .i64 e, .int .i64 a, .int .i64 k, .int .i64 m, .string s, .slice (some ⟨w.heap.size + 1 + 1, 0, none⟩) 1 1] 30)) (.cells #[.int .i64 (-9223372036854775808), .int .i64 9223372036854775807] 34)
    rw [World.size_alloc, World.size_alloc] at hh
    refine ⟨w.heap.size + 1 + 1, 0, rfl, by omega, fun j q hq => ?_⟩
    cases j with
    | zero =>
      cases hq
      exact ⟨by unfold World.cell?; simp only [Nat.zero_mul, Nat.add_zero]; rw [hh]; rfl, by unfold World.cell?; simp only [Nat.zero_mul, Nat.add_zero, Nat.zero_add]; rw [hh]; rfl⟩
    | succ j => simp [allS] at hq
  refine bodyPost_ret (v := .agg #[.int .i64 e, .int .i64 a, .int .i64 k, .int .i64 m, .string s, .slice (some ⟨w.heap.size + 1 + 1, 0, none⟩) 1 1]) ?_ rfl ⟨⟨w.heap.size + 1 + 1, rfl, hs.more (by simp)⟩, (((Below.refl _ _).alloc (Nat.le_refl _) _).alloc (by simp) _).alloc (by simp; omega) _⟩
  clear hs
  rw [results_cell_one rfl]
  go_simp
/-- the chapter's facts -/
def nmU : ByteArray := ⟨#[117, 115, 101, 114, 47, 97, 103, 101]⟩
def fewF : List FactP := [⟨10, 1, 7, 0, nmU, allS⟩, ⟨10, 2, 1, 1, ⟨#[]⟩, allS⟩]
def ageA : Att := ⟨10, nmU, 1, false, 0, false, false⟩
theorem fewF_e : attsE fewF = 0 := by decide +kernel
theorem fewF_l : resL fewF = builtL ++ [ageA] := by
  unfold resL
  rw [if_pos fewF_e]
  rfl
set_option maxRecDepth 100000 in
set_option maxHeartbeats 2000000 in
theorem few_any (w : World) :
    Calls Try.prog 6 #[.slice none 0 0] w fun r w' => (∃ g, r = .returned (.slice (some ⟨g, 0, none⟩) 2 2) ∧ FVa w' (.slice (some ⟨g, 0, none⟩) fewF.length 2) fewF) ∧ Below w.heap.size w w' := by
  go_enter Try.func6, Try.ntmps6
  go_wp2_with fail
  refine (fact_any 10 1 7 0 nmU w).mono ?_
  rintro r w1 ⟨⟨g1, rfl, hs1⟩, hb1⟩
  have HS1 := Lib.hid hs1
  have HB1 := Lib.hid hb1
  clear hs1 hb1
  go_wp2_with fail
  refine (fact_any 10 2 1 1 ⟨#[]⟩ w1).mono ?_
  rintro r w2 ⟨⟨g2, rfl, hs2⟩, hb2⟩
  have HS2 := Lib.hid hs2
  have HS1b := Lib.hid ((HS1.out.next hb2 (Nat.le_refl _)).more hb2.size)
  have HB2 := Lib.hid (HB1.out.trans (hb2.mono HB1.out.size))
  clear hs2 hb2 HS1
  go_wp2
  have hal : Below w2.heap.size w2 (w2.alloc (.cells #[.int .i64 10, .int .i64 1, .int .i64 7, .int .i64 0, .string nmU, .slice (some ⟨g1, 0, none⟩) 1 1, .int .i64 10, .int .i64 2, .int .i64 1, .int .i64 1, .string ⟨#[]⟩, .slice (some ⟨g2, 0, none⟩) 1 1] 30)) := (Below.refl _ _).alloc (Nat.le_refl _) _
  have hh := heap_alloc_new w2 (.cells #[.int .i64 10, .int .i64 1, .int .i64 7, .int .i64 0, .string nmU, .slice (some ⟨g1, 0, none⟩) 1 1, .int .i64 10, .int .i64 2, .int .i64 1, .int .i64 1, .string ⟨#[]⟩, .slice (some ⟨g2, 0, none⟩) 1 1] 30)
  have h1 := (HS1b.out.next hal (Nat.le_refl _)).more hal.size
  have h2 := (HS2.out.next hal (Nat.le_refl _)).more hal.size
  have hm : (1 : Nat) ≤ maxLen := by decide
  have hm2 : (2 : Nat) ≤ maxLen := by decide
  have hF : FVa (w2.alloc (.cells #[.int .i64 10, .int .i64 1, .int .i64 7, .int .i64 0, .string nmU, .slice (some ⟨g1, 0, none⟩) 1 1, .int .i64 10, .int .i64 2, .int .i64 1, .int .i64 1, .string ⟨#[]⟩, .slice (some ⟨g2, 0, none⟩) 1 1] 30)) (.slice (some ⟨w2.heap.size, 0, none⟩) fewF.length 2) fewF := by
    refine ⟨_, _, rfl, fun _ => ⟨w2.heap.size, 0, rfl, by simp, fun j f hf => ?_⟩, Nat.le_refl _, hm2⟩
    match j, hf with
    | 0, hf =>
      cases hf
      refine ⟨.slice (some ⟨g1, 0, none⟩) 1 1, ⟨?_, ?_, ?_, ?_, ?_, ?_⟩, ⟨_, 1, rfl, h1, Nat.le_refl _, hm⟩⟩ <;> (unfold World.cell?; simp only [Nat.zero_mul, Nat.add_zero, Nat.zero_add]; rw [hh]; rfl)
    | 1, hf =>
      cases hf
      refine ⟨.slice (some ⟨g2, 0, none⟩) 1 1, ⟨?_, ?_, ?_, ?_, ?_, ?_⟩, ⟨_, 1, rfl, h2, Nat.le_refl _, hm⟩⟩ <;> (unfold World.cell?; simp only [Nat.one_mul, Nat.zero_add]; rw [hh]; rfl)
    | j + 2, hf => simp [fewF] at hf
  have HF := Lib.hid hF
  have HB := Lib.hid (HB2.out.alloc HB2.out.size (.cells #[.int .i64 10, .int .i64 1, .int .i64 7, .int .i64 0, .string nmU, .slice (some ⟨g1, 0, none⟩) 1 1, .int .i64 10, .int .i64 2, .int .i64 1, .int .i64 1, .string ⟨#[]⟩, .slice (some ⟨g2, 0, none⟩) 1 1] 30))
  clear hal hh h1 h2 hF
  go_ret
  exact ⟨⟨_, rfl, HF.out⟩, HB.out⟩
set_option maxRecDepth 100000 in
set_option maxHeartbeats 4000000 in
theorem alive_any (w : World) :
    Calls Try.prog 11 #[] w fun r w' => r = .returned (.bool true) ∧ Below w.heap.size w w' := by
  go_enter Try.func11, Try.ntmps11
  go_wp2_with fail
  refine (few_any w).mono ?_
  rintro r w1 ⟨⟨g, rfl, hf⟩, hb1⟩
  have HB1 := Lib.hid hb1
  have HO := Lib.hid (show Calls Try.prog 9 #[.slice (some ⟨g, 0, none⟩) 2 2] w1 (OfR w1 fewF) from (callsIn_wide (n := 9)).1 (of_good 9 (Nat.le_of_ble_eq_true rfl) _ 2 fewF w1 hf (by decide) (by decide) (by decide +kernel)))
  clear hf hb1
  go_wp2_with fail
  refine HO.out.mono ?_
  rintro r w2 ⟨⟨A2, c2, rfl, hsa⟩, hb2⟩
  have HB2 := Lib.hid (HB1.out.trans (hb2.mono HB1.out.size))
  rw [fewF_l] at hsa
  rw [fewF_l, fewF_e]
  have hl8 : (builtL ++ [ageA]).length = 8 := rfl
  obtain ⟨b, o, rfl, hlt, hp⟩ := hsa.at_ (show 7 < (builtL ++ [ageA]).length by decide)
  obtain ⟨b', o', hA, _, hq⟩ := hsa.at_ (show 0 < (builtL ++ [ageA]).length by decide)
  injection hA with hA
  injection hA with e1 e2
  subst e1
  subst e2
  rw [hl8]
  have hp' : AtAt w2 b (o + 49) ageA := hp
  have hq' : AtAt w2 b o ⟨1, ⟨#[100, 98, 47, 110, 97, 109, 101]⟩, 7, false, 2, false, false⟩ := by
    have h9 : AtAt w2 b (o + 0 * 7) ⟨1, ⟨#[100, 98, 47, 110, 97, 109, 101]⟩, 7, false, 2, false, false⟩ := hq
    rwa [Nat.zero_mul, Nat.add_zero] at h9
  have p0 : w2.cell? ⟨b, o + 49, none⟩ = some (.int .i64 10) := hp'.c0
  have p1 : w2.cell? ⟨b, o + 49 + 1, none⟩ = some (.string ⟨#[117, 115, 101, 114, 47, 97, 103, 101]⟩) := hp'.c1
  have p2 : w2.cell? ⟨b, o + 49 + 2, none⟩ = some (.int .i64 1) := hp'.c2
  have p3 : w2.cell? ⟨b, o + 49 + 3, none⟩ = some (.bool false) := hp'.c3
  have p4 : w2.cell? ⟨b, o + 49 + 4, none⟩ = some (.int .i64 0) := hp'.c4
  have p5 : w2.cell? ⟨b, o + 49 + 5, none⟩ = some (.bool false) := hp'.c5
  have p6 : w2.cell? ⟨b, o + 49 + 6, none⟩ = some (.bool false) := hp'.c6
  have q0 : w2.cell? ⟨b, o, none⟩ = some (.int .i64 1) := hq'.c0
  have q1 : w2.cell? ⟨b, o + 1, none⟩ = some (.string ⟨#[100, 98, 47, 110, 97, 109, 101]⟩) := hq'.c1
  have q2 : w2.cell? ⟨b, o + 2, none⟩ = some (.int .i64 7) := hq'.c2
  have q3 : w2.cell? ⟨b, o + 3, none⟩ = some (.bool false) := hq'.c3
  have q4 : w2.cell? ⟨b, o + 4, none⟩ = some (.int .i64 2) := hq'.c4
  have q5 : w2.cell? ⟨b, o + 5, none⟩ = some (.bool false) := hq'.c5
  have q6 : w2.cell? ⟨b, o + 6, none⟩ = some (.bool false) := hq'.c6
  have e1 := fun W => eqAtt ageA W
  have e2 := fun W => eqAtt ⟨1, ⟨#[100, 98, 47, 110, 97, 109, 101]⟩, 7, false, 2, false, false⟩ W
  simp only [attV, ageA, nmU] at e1 e2
  clear hp hq hp' hq' hsa hb2 HO hl8
  go_wp2
  go_ret
  exact ⟨rfl, HB2.out⟩
end Go.Proofs.Ytbcdkfolmncjlaa
