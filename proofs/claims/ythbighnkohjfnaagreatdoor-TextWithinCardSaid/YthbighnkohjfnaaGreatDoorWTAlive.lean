/-
  CONTRACT: alive, the chapter's first example, answers true.
-/
import Derived.Test.YthbighnkohjfnaaGreatDoorWTAliveQ
import Derived.Test.YthbighnkohjfnaaGreatDoorJTParse
import Derived.Test.YthbighnkohjfnaaGreatDoorWTAlikL
namespace Go.Proofs.YthbighnkohjfnaaGreatDoor
open Go.RowKit

def aliveB : ByteArray := ⟨#[40, 97, 100, 100, 32, 64, 49, 32, 58, 117, 115, 101, 114, 47, 110, 97, 109, 101, 32, 34, 97, 92, 50, 50, 34, 41]⟩
theorem alive_parse {w : World} {e : Ending} {w' : World} (h : ParseT w aliveB e w') : (∃ A c, e = .returned (.tuple #[.slice A 1 c, .int .i64 0, .int .i64 0, .int .i64 0]) ∧ SlN 51 w' (fun g => w.heap.size ≤ g ∧ g < w'.heap.size) A [nL]) ∧ Below w.heap.size w w' := by
  have hd := parse_doc aliveB
  have hn : nodesD pvL (aliveB.size + 1) none aliveB.data.toList 0 0 0 = .ok aliveL [] 26 5 := alive_nodes
  rw [hn] at hd
  obtain ⟨h1, h2⟩ := h
  refine ⟨?_, h2⟩
  cases hr : runA (tellB (aliveB.size + 1) aliveB (1, 1)) ([], [], 0) with
  | inl x => rw [hr] at hd; exact hd.elim
  | inr a =>
    rw [hr] at hd h1
    have h3 : a.1 = aliveL.map (ndOf aliveS) := hd
    rw [alive_nd] at h3
    obtain ⟨A, c, he, hs⟩ := h1
    rw [h3] at he hs
    exact ⟨A, c, he, hs⟩
set_option maxRecDepth 100000 in
set_option maxHeartbeats 1000000 in
theorem alive_any (w : World) (herr : Errs w) (htab : Tab w) : Calls Tryz.prog 16 #[] w fun e w' => e = .returned (.bool true) ∧ Below w.heap.size w w' := by
  have HPT := Lib.hid (parseT_any aliveB w (by decide) herr htab)
  have HT := Lib.hid htab
  clear herr htab
  go_enter Tryz.func16, Tryz.ntmps16
  go_wp2_with fail
  refine HPT.out.mono ?_
  rintro e w2 hp
  obtain ⟨⟨A, c, rfl, hs⟩, hb⟩ := alive_parse hp
  have HS := Lib.hid hs
  have HB := Lib.hid hb
  obtain ⟨b, o, K, kc, rfl, hbB, hc, hk⟩ := hs.at_ (j := 0) (by decide)
  obtain ⟨b1, o1, K0, kc0, rfl, hb1, hc0, _⟩ := hk.at_ (j := 0) (by decide)
  obtain ⟨b1', o1', K1, kc1, e1, _, hc1, _⟩ := hk.at_ (j := 1) (by decide)
  obtain ⟨b2', o2', K2, kc2, e2, _, hc2, _⟩ := hk.at_ (j := 2) (by decide)
  obtain ⟨b3', o3', K3, kc3, e3, _, hc3, _⟩ := hk.at_ (j := 3) (by decide)
  injection e1 with e1
  injection e1 with e11 e12
  subst e11; subst e12
  injection e2 with e2
  injection e2 with e21 e22
  subst e21; subst e22
  injection e3 with e3
  injection e3 with e31 e32
  subst e31; subst e32
  have l0 : w2.cell? ⟨b, o, none⟩ = some (.int .i64 3) := hc 0 (by decide)
  have l1 : w2.cell? ⟨b, o + 1, none⟩ = some (.int .i64 0) := hc 1 (by decide)
  have l2 : w2.cell? ⟨b, o + 2, none⟩ = some (.int .i64 0) := hc 2 (by decide)
  have l3 : w2.cell? ⟨b, o + 3, none⟩ = some (.string ⟨#[]⟩) := hc 3 (by decide)
  have l4 : w2.cell? ⟨b, o + 4, none⟩ = some (.string ⟨#[]⟩) := hc 4 (by decide)
  have l5 : w2.cell? ⟨b, o + 5, none⟩ = some (.slice (some ⟨b1, o1, none⟩) 4 kc) := hc 5 (by decide)
  have l6 : w2.cell? ⟨b, o + 6, none⟩ = some (.int .i64 1) := hc 6 (by decide)
  have l7 : w2.cell? ⟨b, o + 7, none⟩ = some (.int .i64 1) := hc 7 (by decide)
  have a0 : w2.cell? ⟨b1, o1, none⟩ = some (.int .i64 2) := hc0 0 (by decide)
  have a1 : w2.cell? ⟨b1, o1 + 1, none⟩ = some (.int .i64 0) := hc0 1 (by decide)
  have a2 : w2.cell? ⟨b1, o1 + 2, none⟩ = some (.int .i64 0) := hc0 2 (by decide)
  have a3 : w2.cell? ⟨b1, o1 + 3, none⟩ = some (.string ⟨#[]⟩) := hc0 3 (by decide)
  have a4 : w2.cell? ⟨b1, o1 + 4, none⟩ = some (.string ⟨#[97, 100, 100]⟩) := hc0 4 (by decide)
  have a5 : w2.cell? ⟨b1, o1 + 5, none⟩ = some (.slice K0 0 kc0) := hc0 5 (by decide)
  have a6 : w2.cell? ⟨b1, o1 + 6, none⟩ = some (.int .i64 1) := hc0 6 (by decide)
  have a7 : w2.cell? ⟨b1, o1 + 7, none⟩ = some (.int .i64 2) := hc0 7 (by decide)
  have q0 : w2.cell? ⟨b1, o1 + 8, none⟩ = some (.int .i64 1) := hc1 0 (by decide)
  have q1 : w2.cell? ⟨b1, o1 + 9, none⟩ = some (.int .i64 5) := hc1 1 (by decide)
  have q2 : w2.cell? ⟨b1, o1 + 10, none⟩ = some (.int .i64 1) := hc1 2 (by decide)
  have q3 : w2.cell? ⟨b1, o1 + 11, none⟩ = some (.string ⟨#[]⟩) := hc1 3 (by decide)
  have q4 : w2.cell? ⟨b1, o1 + 12, none⟩ = some (.string ⟨#[]⟩) := hc1 4 (by decide)
  have q5 : w2.cell? ⟨b1, o1 + 13, none⟩ = some (.slice K1 0 kc1) := hc1 5 (by decide)
  have q6 : w2.cell? ⟨b1, o1 + 14, none⟩ = some (.int .i64 1) := hc1 6 (by decide)
  have q7 : w2.cell? ⟨b1, o1 + 15, none⟩ = some (.int .i64 6) := hc1 7 (by decide)
  have c0 : w2.cell? ⟨b1, o1 + 16, none⟩ = some (.int .i64 1) := hc2 0 (by decide)
  have c1 : w2.cell? ⟨b1, o1 + 17, none⟩ = some (.int .i64 7) := hc2 1 (by decide)
  have c2 : w2.cell? ⟨b1, o1 + 18, none⟩ = some (.int .i64 0) := hc2 2 (by decide)
  have c3 : w2.cell? ⟨b1, o1 + 19, none⟩ = some (.string ⟨#[117, 115, 101, 114, 47, 110, 97, 109, 101]⟩) := hc2 3 (by decide)
  have c4 : w2.cell? ⟨b1, o1 + 20, none⟩ = some (.string ⟨#[]⟩) := hc2 4 (by decide)
  have c5 : w2.cell? ⟨b1, o1 + 21, none⟩ = some (.slice K2 0 kc2) := hc2 5 (by decide)
  have c6 : w2.cell? ⟨b1, o1 + 22, none⟩ = some (.int .i64 1) := hc2 6 (by decide)
  have c7 : w2.cell? ⟨b1, o1 + 23, none⟩ = some (.int .i64 9) := hc2 7 (by decide)
  have d0 : w2.cell? ⟨b1, o1 + 24, none⟩ = some (.int .i64 1) := hc3 0 (by decide)
  have d1 : w2.cell? ⟨b1, o1 + 25, none⟩ = some (.int .i64 3) := hc3 1 (by decide)
  have d2 : w2.cell? ⟨b1, o1 + 26, none⟩ = some (.int .i64 0) := hc3 2 (by decide)
  have d3 : w2.cell? ⟨b1, o1 + 27, none⟩ = some (.string ⟨#[97, 34]⟩) := hc3 3 (by decide)
  have d4 : w2.cell? ⟨b1, o1 + 28, none⟩ = some (.string ⟨#[]⟩) := hc3 4 (by decide)
  have d5 : w2.cell? ⟨b1, o1 + 29, none⟩ = some (.slice K3 0 kc3) := hc3 5 (by decide)
  have d6 : w2.cell? ⟨b1, o1 + 30, none⟩ = some (.int .i64 1) := hc3 6 (by decide)
  have d7 : w2.cell? ⟨b1, o1 + 31, none⟩ = some (.int .i64 20) := hc3 7 (by decide)
  have HPR := Lib.hid (print_any 51 (some ⟨b, o, none⟩) c [nL] w2 _ HS.out (fun g hg => hg.2) alive_may.2 (fun _ => ⟨alive_pv, by rw [alive_pr]; decide⟩) (tab_below HT.out HB.out))
  have HL1 : Hid (b1 < w2.heap.size) := hb1.2
  clear hp hs hb hbB hc hk hb1 hc0 hc1 hc2 hc3
  go_wp2_with fail
  refine HPR.out.mono ?_
  rintro e w3 ⟨he, hb3⟩
  rw [alive_may.1, if_pos rfl, alive_pr] at he
  subst he
  have hl1 : b1 < w2.heap.size := HL1.out
  have key : ∀ j, w3.cell? ⟨b1, j, none⟩ = w2.cell? ⟨b1, j, none⟩ := fun j => hb3.cell (p := ⟨b1, j, none⟩) hl1
  rw [← key (o1)] at a0
  rw [← key (o1 + 1)] at a1
  rw [← key (o1 + 2)] at a2
  rw [← key (o1 + 3)] at a3
  rw [← key (o1 + 4)] at a4
  rw [← key (o1 + 5)] at a5
  rw [← key (o1 + 6)] at a6
  rw [← key (o1 + 7)] at a7
  rw [← key (o1 + 8)] at q0
  rw [← key (o1 + 9)] at q1
  rw [← key (o1 + 10)] at q2
  rw [← key (o1 + 11)] at q3
  rw [← key (o1 + 12)] at q4
  rw [← key (o1 + 13)] at q5
  rw [← key (o1 + 14)] at q6
  rw [← key (o1 + 15)] at q7
  rw [← key (o1 + 16)] at c0
  rw [← key (o1 + 17)] at c1
  rw [← key (o1 + 18)] at c2
  rw [← key (o1 + 19)] at c3
  rw [← key (o1 + 20)] at c4
  rw [← key (o1 + 21)] at c5
  rw [← key (o1 + 22)] at c6
  rw [← key (o1 + 23)] at c7
  rw [← key (o1 + 24)] at d0
  rw [← key (o1 + 25)] at d1
  rw [← key (o1 + 26)] at d2
  rw [← key (o1 + 27)] at d3
  rw [← key (o1 + 28)] at d4
  rw [← key (o1 + 29)] at d5
  rw [← key (o1 + 30)] at d6
  rw [← key (o1 + 31)] at d7
  clear l0 l1 l2 l3 l4 l5 l6 l7 key
  have hq1 : ∀ W, (binOp .eql 35 (.agg #[.int .i64 5, .int .i64 1, .string ⟨#[]⟩]) (.agg #[.int .i64 5, .int .i64 1, .string ⟨#[]⟩])).run Tryz.prog W = .ok (.bool true) W := fun W => by rw [eqVV]; simp [eqVB]
  have hq2 : ∀ W, (binOp .eql 35 (.agg #[.int .i64 3, .int .i64 0, .string ⟨#[97, 34]⟩]) (.agg #[.int .i64 3, .int .i64 0, .string ⟨#[97, 34]⟩])).run Tryz.prog W = .ok (.bool true) W := fun W => by rw [eqVV]; simp [eqVB]
  have hst : (⟨aliveS.toArray⟩ : ByteArray) = ⟨#[40, 97, 100, 100, 32, 64, 49, 32, 58, 117, 115, 101, 114, 47, 110, 97, 109, 101, 32, 34, 97, 92, 50, 50, 34, 41]⟩ := rfl
  rw [hst]
  have HB3 := Lib.hid (HB.out.trans (hb3.mono HB.out.size))
  clear hst hb3 HPR HS HPT
  go_wp2_with fail
  go_ret
  exact ⟨rfl, HB3.out⟩
end Go.Proofs.YthbighnkohjfnaaGreatDoor
