/-
  CONTRACT: tells (the statements' own): what a tree tells is what the document's tells.
-/
import Derived.Test.YtohpilamoglhcaaQOne
namespace Go.Proofs.Ytohpilamoglhcaa
open Go.RowKit

/-- a world of tells': what was there, the two boxes -/
structure TlS (w : World) (vu : Value) (vs : Array Value) (X : World) : Prop where
  low : Below w.heap.size w X
  x0 : Boxed X w.heap.size 54 vu
  x1 : X.heap[w.heap.size + 1]? = some (.cells vs 59 (0, 0))
theorem TlS.lt {w X : World} {vu : Value} {vs : Array Value} (h : TlS w vu vs X) : w.heap.size + 1 < X.heap.size := (Array.getElem?_eq_some_iff.1 h.x1).1
theorem TlS.below {w X Y : World} {vu : Value} {vs : Array Value} (h : TlS w vu vs X) (hb : Below X.heap.size X Y) : TlS w vu vs Y :=
  ⟨h.low.trans (hb.mono h.low.size), (hb.block _ h.x0.lt).trans h.x0, (hb.block _ h.lt).trans h.x1⟩
theorem TlS.keepU {w X Y : World} {vu : Value} {vs : Array Value} {B : Nat} (h : TlS w vu vs X) (hk : KeepU B X Y) (hB : w.heap.size ≤ B) : TlS w vu vs Y :=
  ⟨h.low.trans (hk.low.mono hB), hk.blk _ _ _ _ (by decide) h.x0, hk.blk _ _ _ _ (by decide) h.x1⟩
theorem TlS.set {w X : World} {vu : Value} {vs : Array Value} {g k : Nat} (h : TlS w vu vs X) (hg : w.heap.size + 2 ≤ g) (u : Value) : TlS w vu vs (X.setCell ⟨g, k, none⟩ u) :=
  ⟨h.low.setCell (p := ⟨g, k, none⟩) (by show _ ≤ g; omega) u, (heap_setCell_other X ⟨g, k, none⟩ _ u (by show _ ≠ g; omega)).trans h.x0, (heap_setCell_other X ⟨g, k, none⟩ _ u (by show _ ≠ g; omega)).trans h.x1⟩
theorem TlS.cx {w X : World} {vu : Value} {vs : Array Value} (h : TlS w vu vs X) (j : Nat) : X.cell? ⟨w.heap.size + 1, j, none⟩ = vs[j]? := by
  simp [World.cell?, h.x1]
theorem PBox.keepU {w w' : World} {B b : Nat} {v1 v2 : Value} (h : PBox w b v1 v2) (hk : KeepU B w w') : PBox w' b v1 v2 := hk.blk _ _ _ _ (by decide) h
theorem RBox.keepU {w w' : World} {B b : Nat} {v1 v2 : Value} (h : RBox w b v1 v2) (hk : KeepU B w w') : RBox w' b v1 v2 := hk.blk _ _ _ _ (by decide) h
theorem RBox.lt {w : World} {b : Nat} {v1 v2 : Value} (h : RBox w b v1 v2) : b < w.heap.size := (Array.getElem?_eq_some_iff.1 h).1
theorem RBox.next {w w' : World} {b : Nat} {v1 v2 : Value} (h : RBox w b v1 v2) {B : Nat} (hb : Below B w w') (hB : b < B) : RBox w' b v1 v2 := (hb.block b hB).trans h
theorem RBox.other {w : World} {b g k : Nat} {v1 v2 u : Value} (h : RBox w b v1 v2) (hg : b ≠ g) : RBox (w.setCell ⟨g, k, none⟩ u) b v1 v2 := (heap_setCell_other w ⟨g, k, none⟩ b u hg).trans h
theorem PBox.other {w : World} {b g k : Nat} {v1 v2 u : Value} (h : PBox w b v1 v2) (hg : b ≠ g) : PBox (w.setCell ⟨g, k, none⟩ u) b v1 v2 := (heap_setCell_other w ⟨g, k, none⟩ b u hg).trans h
theorem PrV.farR {w : World} {B b j : Nat} {v u v1 v2 : Value} {p : Pr} (h : PrV w B v p) (hb : RBox w b v1 v2) : PrV (w.setCell ⟨b, j, none⟩ u) B v p := by
  have far : ∀ {B : Nat} {v : Value} {l : By}, OwnB w B v l → OwnB (w.setCell ⟨b, j, none⟩ u) B v l := fun h =>
    World.ownsRow.kept h (grown_set w b j u) (.inr (fun e => blk_own hb (by decide) h e.symm))
  obtain ⟨A, c, A', c', M, e, h1, h2, h3, h4, h5⟩ := h
  exact ⟨A, c, A', c', M, e, far h1, far h2, h3, by simpa using h4, h5⟩
theorem PrV.far2 {w : World} {B b : Nat} {v u1 u2 v1 v2 : Value} {p : Pr} (h : PrV w B v p) (hb : PBox w b v1 v2) : PrV ((w.setCell ⟨b, 0, none⟩ u1).setCell ⟨b, 1, none⟩ u2) B v p := by
  have h1 : PBox (w.setCell ⟨b, 0, none⟩ u1) b u1 v2 := (heap_setCell_same _ _ _ _ _ _ hb).trans (by simp)
  exact (h.far hb).far h1
theorem PrV.far2R {w : World} {B b : Nat} {v u1 u2 v1 v2 : Value} {p : Pr} (h : PrV w B v p) (hb : RBox w b v1 v2) : PrV ((w.setCell ⟨b, 0, none⟩ u1).setCell ⟨b, 1, none⟩ u2) B v p := by
  have h1 : RBox (w.setCell ⟨b, 0, none⟩ u1) b u1 v2 := (heap_setCell_same _ _ _ _ _ _ hb).trans (by simp)
  exact (h.farR hb).farR h1
theorem rg_len {k to : By} {most : Int} {L : List Pr} (hR : Rise L) : (rgL to most (fromL k L)).length ≤ L.length := by
  rw [← rgR_is k to most hR]
  have := rgR_len k to most L []
  simpa [rgR] using this
theorem get_at {L : List Pr} (hR : Rise L) {k y : By} (h : getL L k = some y) : L[rankL L k]? = some (k, y) := by
  obtain ⟨j, hj, e⟩ := List.mem_iff_getElem.1 ((getL_some hR).1 h)
  have h1 : L[j]? = some (k, y) := by rw [List.getElem?_eq_getElem hj, e]
  have h2 := rank_at hR h1
  rw [show rankL L k = j from h2]
  exact h1
set_option maxRecDepth 100000 in
set_option maxHeartbeats 8000000 in
theorem tells_any [LT Gb] (u Au A1 A2 A3 : Option Addr) (cu c1 c2 c3 : Nat) (L : List Pr) (x : OpP) (w : World) (ht : TreeV w (.pointer u) L) (hs : SlR w Au L) (hk : SlB w w.heap.size A1 x.k) (hto : SlB w w.heap.size A3 x.t) (hn0 : -9223372036854775808 ≤ x.n) (hn1 : x.n ≤ 9223372036854775807) :
    Calls Try.prog 19 #[.pointer u, .agg #[.slice Au L.length cu], .agg #[.int .i64 x.kind, .int .u16 x.fr, .slice A1 x.k.length c1, .slice A2 x.v.length c2, .slice A3 x.t.length c3, .int .i64 x.n]] w fun e w' => e = .returned (.bool true) ∧ Below w.heap.size w w' := by
  have HT : Hid (∀ X, Below w.heap.size w X → TreeV X (.pointer u) L) := fun X hX => ht.next hX
  have HU : Hid (∀ X, Below w.heap.size w X → SlR X Au L) := fun X hX => hs.next hX
  have HK : Hid (∀ X, Below w.heap.size w X → SlB X X.heap.size A1 x.k) := fun X hX => slB_up hk hX
  have HTO : Hid (∀ X, Below w.heap.size w X → SlB X X.heap.size A3 x.t) := fun X hX => slB_up hto hX
  have HCK : Hid (∀ X, Below w.heap.size w X → (convert 57 9 (.slice A1 x.k.length c1)).run Try.prog X = .ok (.string ⟨x.k.toArray⟩) X) := fun X hX => slB_string (HK.out X hX) c1
  have HCT : Hid (∀ X, Below w.heap.size w X → (convert 57 9 (.slice A3 x.t.length c3)).run Try.prog X = .ok (.string ⟨x.t.toArray⟩) X) := fun X hX => slB_string (HTO.out X hX) c3
  have HR := Lib.hid ht.rise
  have hfew : L.length ≤ 1000000 := by have := ht.few; omega
  have HF := Lib.hid hfew
  have hrk : rankL L x.k ≤ 1000000 := by have := rank_le L x.k; omega
  have HRK := Lib.hid hrk
  have HH := Lib.hid (hasR_is ht.rise x.k)
  have HGA := Lib.hid (fun y => get_at ht.rise (k := x.k) (y := y))
  obtain ⟨r, hr⟩ : ∃ r, rankL L x.k = r := ⟨_, rfl⟩
  have HRR := Lib.hid hr
  have hN0 := Lib.hid hn0
  have hN1 := Lib.hid hn1
  rw [hr] at hrk HGA
  obtain ⟨vu, hvu⟩ : ∃ X, Value.slice Au L.length cu = X := ⟨_, rfl⟩
  obtain ⟨vs, hvs⟩ : ∃ X, (#[.int .i64 x.kind, .int .u16 x.fr, .slice A1 x.k.length c1, .slice A2 x.v.length c2, .slice A3 x.t.length c3, .int .i64 x.n] : Array Value) = X := ⟨_, rfl⟩
  obtain ⟨w1, hw1⟩ : ∃ X, (w.alloc (.cells #[.slice Au L.length cu] 54)).alloc (.cells #[.int .i64 x.kind, .int .u16 x.fr, .slice A1 x.k.length c1, .slice A2 x.v.length c2, .slice A3 x.t.length c3, .int .i64 x.n] 59) = X := ⟨_, rfl⟩
  have hS1 : TlS w vu vs w1 := by
    rw [← hw1, ← hvu, ← hvs]
    refine ⟨((Below.refl _ _).alloc (Nat.le_refl _) _).alloc (by simp) _, (Boxed.new w _ _).alloc _, ?_⟩
    have := heap_alloc_new (w.alloc (.cells #[.slice Au L.length cu] 54)) (.cells #[.int .i64 x.kind, .int .u16 x.fr, .slice A1 x.k.length c1, .slice A2 x.v.length c2, .slice A3 x.t.length c3, .int .i64 x.n] 59)
    rw [World.size_alloc] at this
    exact this
  have HB0 : Hid (∀ X, TlS w vu vs X → X.cell? ⟨w.heap.size, 0, none⟩ = some (.slice Au L.length cu)) := fun X hX => by rw [hvu]; exact hX.x0.cell
  have HX2 : Hid (∀ X, TlS w vu vs X → X.cell? ⟨w.heap.size + 1, 2, none⟩ = some (.slice A1 x.k.length c1)) := fun X hX => by rw [hX.cx, ← hvs]; rfl
  have HX4 : Hid (∀ X, TlS w vu vs X → X.cell? ⟨w.heap.size + 1, 4, none⟩ = some (.slice A3 x.t.length c3)) := fun X hX => by rw [hX.cx, ← hvs]; rfl
  have HX5 : Hid (∀ X, TlS w vu vs X → X.cell? ⟨w.heap.size + 1, 5, none⟩ = some (.int .i64 x.n)) := fun X hX => by rw [hX.cx, ← hvs]; rfl
  have HS1 := Lib.hid hS1
  have b0 := HB0.out w1 hS1
  have b2 := HX2.out w1 hS1
  have k1 := HCK.out w1 hS1.low
  have HRC := Lib.hid (rankR_any Au cu L x.k w1 (HU.out w1 hS1.low) hfew)
  rw [hr] at HRC
  clear hr hS1 hvu hvs ht hs hk hto hn0 hn1 hfew
  go_enter Try.func19, Try.ntmps19
  go_wp2_with fail
  try rw [hw1]
  clear hw1
  refine HRC.out.mono ?_
  rintro e w2 ⟨rfl, hb2⟩
  have HS2 := Lib.hid (HS1.out.below hb2)
  have HHC := Lib.hid (hasR_any Au cu L x.k w2 (HU.out w2 HS2.out.low) HF.out)
  clear HRC b0 b2 k1 hb2
  have b0 := HB0.out w2 HS2.out
  go_wp2_with fail
  refine HHC.out.mono ?_
  rintro e w3 ⟨rfl, hb3⟩
  have HS3 := Lib.hid (HS2.out.below hb3)
  have HGC := Lib.hid (getM_any A1 c1 x.k w3 (HT.out w3 HS3.out.low) (HK.out w3 HS3.out.low))
  rw [HH.out]
  clear HHC b0 hb3
  have b2 := HX2.out w3 HS3.out
  go_wp2_with fail
  refine HGC.out.mono ?_
  rintro e w4 ⟨Ag, cg, he, hog, hb4⟩
  have HS4 := Lib.hid (HS3.out.below hb4)
  clear HGC b2 hb4
  have HSW : Hid (Below w.heap.size w w) := Below.refl _ _
  have hst : ∃ b5 : Bool, (getL L x.k).isSome = b5 := ⟨_, rfl⟩
  have HPOST : Hid (∀ X, TlS w vu vs X → True) := fun _ _ => trivial
  clear hst HPOST
  cases hg : getL L x.k with
  | some y =>
    rw [hg] at he hog
    simp only [Option.getD_some, Option.isSome_some] at he hog
    subst he
    obtain ⟨gu, ou, p9, hau, hp9, hlt9, _, _⟩ := (HU.out w HSW.out).at_ (j := r) (by have := HGA.out y hg; exact (List.getElem?_eq_some_iff.1 this).1)
    have hrl : r < L.length := (List.getElem?_eq_some_iff.1 (HGA.out y hg)).1
    have hrl1 : (r : Int) < (L.length : Int) := by omega
    have hrl0 : (0 : Int) ≤ (r : Int) := by omega
    have HUY : Hid (∀ X, TlS w vu vs X ∧ Below w4.heap.size w4 X → X.cell? ⟨gu, ou + r * 2 + 1, none⟩ = some (.string ⟨y.toArray⟩)) := fun X hX => by
      obtain ⟨g5, o5, p5, ea, hp5, _, _, hc5⟩ := (HU.out X hX.1.low).at_ (j := r) hrl
      rw [hau] at ea
      cases ea
      rw [HGA.out y hg] at hp5
      cases hp5
      exact hc5
    subst hau
    have hyy : (y == y) = true := beq_self_eq_true _
    have HCV : Hid (∀ X, TlS w vu vs X ∧ Below w4.heap.size w4 X → (convert 57 9 (.slice Ag y.length cg)).run Try.prog X = .ok (.string ⟨y.toArray⟩) X) := fun X hX => slB_string (slB_up (SlB.of_own hog).2 hX.2) cg
    clear hp9 hlt9 hog
    clear hg
    go_wp2_with fail
    have HS0 : Hid (TlS w vu vs w4.drew ∧ Below w4.heap.size w4 w4.drew) := ⟨HS4.out.below (qb_dn (Below.refl _ _) 1), qb_dn (Below.refl _ _) 1⟩
    obtain ⟨we, hwe⟩ : ∃ X, w4.drew = X := ⟨_, rfl⟩
    refine wp_region_held_drew (S := fun X => TlS w vu vs X ∧ Below w4.heap.size w4 X) (by kernel_rfl) HS0.out (fun hHeld => ?_)
    rw [hwe] at hHeld ⊢
    clear hwe HS0
    refine takeV 0 (some 31) ((.pointer u)) rfl rfl (by kernel_rfl) (by kernel_rfl) (by kernel_rfl) (fun _ _ _ h => h) (by rfl) (by (intro _w _hSw; (try dsimp only at _hSw); go_simp)) (by assumption) ?_
    simp only [Act.put, List.setIfInBounds_toArray, List.set_cons_zero, List.set_cons_succ]
    refine takeV 2 (some 33) ((.pointer (some ⟨w.heap.size, 0, none⟩))) rfl rfl (by kernel_rfl) (by kernel_rfl) (by kernel_rfl) (fun _ _ _ h => h) (by rfl) (by (intro _w _hSw; (try dsimp only at _hSw); go_simp)) (by assumption) ?_
    simp only [Act.put, List.setIfInBounds_toArray, List.set_cons_zero, List.set_cons_succ]
    refine takeV 3 (some 34) ((.slice (some ⟨gu, ou, none⟩) L.length cu)) rfl rfl (by kernel_rfl) (by kernel_rfl) (by kernel_rfl) (fun _ _ _ h => h) (by rfl) (by (intro _w hSw; have q0 := HB0.out _ hSw.1; clear hSw; go_simp)) (by assumption) ?_
    simp only [Act.put, List.setIfInBounds_toArray, List.set_cons_zero, List.set_cons_succ]
    refine takeV 4 (some 35) ((.int .i64 (L.length : Nat))) rfl rfl (by kernel_rfl) (by kernel_rfl) (by kernel_rfl) (fun _ _ _ h => h) (by rfl) (by (intro _w _hSw; (try dsimp only at _hSw); go_simp)) (by assumption) ?_
    simp only [Act.put, List.setIfInBounds_toArray, List.set_cons_zero, List.set_cons_succ]
    refine callV 1 rfl (by kernel_rfl) (by rfl) (fun K hK => ?_)
    go_simp
    refine (len_any _ (HT.out _ hHeld.1.low)).mono ?_
    rintro e wf ⟨rfl, rfl⟩
    refine hK.out _ _ hHeld (fun hHeld2 => ?_)
    clear hK K hHeld
    have hHeld := hHeld2
    clear hHeld2
    try simp only [Act.put, List.setIfInBounds_toArray, List.set_cons_zero, List.set_cons_succ]
    refine takeV 5 (some 36) ((.bool false)) rfl rfl (by kernel_rfl) (by kernel_rfl) (by kernel_rfl) (fun _ _ _ h => h) (by rfl) (by (intro _w _hSw; (try dsimp only at _hSw); go_simp)) (by assumption) ?_
    simp only [Act.put, List.setIfInBounds_toArray, List.set_cons_zero, List.set_cons_succ]
    refine takeV 6 (some 37) ((.bool false)) rfl rfl (by kernel_rfl) (by kernel_rfl) (by kernel_rfl) (fun _ _ _ h => h) (by rfl) (by (intro _w _hSw; (try dsimp only at _hSw); go_simp)) (by assumption) ?_
    simp only [Act.put, List.setIfInBounds_toArray, List.set_cons_zero, List.set_cons_succ]
    refine takeV 7 (some 38) ((.pointer u)) rfl rfl (by kernel_rfl) (by kernel_rfl) (by kernel_rfl) (fun _ _ _ h => h) (by rfl) (by (intro _w _hSw; (try dsimp only at _hSw); go_simp)) (by assumption) ?_
    simp only [Act.put, List.setIfInBounds_toArray, List.set_cons_zero, List.set_cons_succ]
    refine takeV 8 (some 39) ((.pointer (some ⟨w.heap.size + 1, 2, none⟩))) rfl rfl (by kernel_rfl) (by kernel_rfl) (by kernel_rfl) (fun _ _ _ h => h) (by rfl) (by (intro _w _hSw; (try dsimp only at _hSw); go_simp)) (by assumption) ?_
    simp only [Act.put, List.setIfInBounds_toArray, List.set_cons_zero, List.set_cons_succ]
    refine takeV 9 (some 40) ((.slice A1 x.k.length c1)) rfl rfl (by kernel_rfl) (by kernel_rfl) (by kernel_rfl) (fun _ _ _ h => h) (by rfl) (by (intro _w hSw; have q0 := HX2.out _ hSw.1; clear hSw; go_simp)) (by assumption) ?_
    simp only [Act.put, List.setIfInBounds_toArray, List.set_cons_zero, List.set_cons_succ]
    refine takeV 11 (some 42) ((.int .i64 (r : Nat))) rfl rfl (by kernel_rfl) (by kernel_rfl) (by kernel_rfl) (fun _ _ _ h => h) (by rfl) (by (intro _w _hSw; (try dsimp only at _hSw); go_simp)) (by assumption) ?_
    simp only [Act.put, List.setIfInBounds_toArray, List.set_cons_zero, List.set_cons_succ]
    refine callV 10 rfl (by kernel_rfl) (by rfl) (fun K hK => ?_)
    go_simp
    refine (rankM_any A1 c1 x.k _ (HT.out _ hHeld.1.low) (HK.out _ hHeld.1.low)).mono ?_
    rintro e wf ⟨rfl, rfl⟩
    rw [HRR.out]
    refine hK.out _ _ hHeld (fun hHeld2 => ?_)
    clear hK K hHeld
    have hHeld := hHeld2
    clear hHeld2
    try simp only [Act.put, List.setIfInBounds_toArray, List.set_cons_zero, List.set_cons_succ]
    refine takeV 12 (some 43) ((.bool false)) rfl rfl (by kernel_rfl) (by kernel_rfl) (by kernel_rfl) (fun _ _ _ h => h) (by rfl) (by (intro _w _hSw; (try dsimp only at _hSw); go_simp)) (by assumption) ?_
    simp only [Act.put, List.setIfInBounds_toArray, List.set_cons_zero, List.set_cons_succ]
    refine takeV 13 (some 44) ((.bool false)) rfl rfl (by kernel_rfl) (by kernel_rfl) (by kernel_rfl) (fun _ _ _ h => h) (by rfl) (by (intro _w _hSw; (try dsimp only at _hSw); go_simp)) (by assumption) ?_
    simp only [Act.put, List.setIfInBounds_toArray, List.set_cons_zero, List.set_cons_succ]
    refine takeV 14 (some 45) ((.bool false)) rfl rfl (by kernel_rfl) (by kernel_rfl) (by kernel_rfl) (fun _ _ _ h => h) (by rfl) (by (intro _w _hSw; (try dsimp only at _hSw); go_simp)) (by assumption) ?_
    simp only [Act.put, List.setIfInBounds_toArray, List.set_cons_zero, List.set_cons_succ]
    refine takeV 15 (some 46) ((.bool true)) rfl rfl (by kernel_rfl) (by kernel_rfl) (by kernel_rfl) (fun _ _ _ h => h) (by rfl) (by (intro _w _hSw; (try dsimp only at _hSw); go_simp)) (by assumption) ?_
    simp only [Act.put, List.setIfInBounds_toArray, List.set_cons_zero, List.set_cons_succ]
    refine takeV 16 (some 47) ((.bool true)) rfl rfl (by kernel_rfl) (by kernel_rfl) (by kernel_rfl) (fun _ _ _ h => h) (by rfl) (by (intro _w _hSw; (try dsimp only at _hSw); go_simp)) (by assumption) ?_
    simp only [Act.put, List.setIfInBounds_toArray, List.set_cons_zero, List.set_cons_succ]
    refine takeV 17 (some 48) ((.bool false)) rfl rfl (by kernel_rfl) (by kernel_rfl) (by kernel_rfl) (fun _ _ _ h => h) (by rfl) (by (intro _w _hSw; (try dsimp only at _hSw); go_simp)) (by assumption) ?_
    simp only [Act.put, List.setIfInBounds_toArray, List.set_cons_zero, List.set_cons_succ]
    refine takeV 18 (some 49) ((.bool false)) rfl rfl (by kernel_rfl) (by kernel_rfl) (by kernel_rfl) (fun _ _ _ h => h) (by rfl) (by (intro _w _hSw; (try dsimp only at _hSw); go_simp)) (by assumption) ?_
    simp only [Act.put, List.setIfInBounds_toArray, List.set_cons_zero, List.set_cons_succ]
    refine takeV 19 (some 50) ((.bool false)) rfl rfl (by kernel_rfl) (by kernel_rfl) (by kernel_rfl) (fun _ _ _ h => h) (by rfl) (by (intro _w _hSw; (try dsimp only at _hSw); go_simp)) (by assumption) ?_
    simp only [Act.put, List.setIfInBounds_toArray, List.set_cons_zero, List.set_cons_succ]
    refine takeV 20 (some 51) ((.bool true)) rfl rfl (by kernel_rfl) (by kernel_rfl) (by kernel_rfl) (fun _ _ _ h => h) (by rfl) (by (intro _w _hSw; (try dsimp only at _hSw); go_simp)) (by assumption) ?_
    simp only [Act.put, List.setIfInBounds_toArray, List.set_cons_zero, List.set_cons_succ]
    refine takeV 21 (some 52) ((.bool true)) rfl rfl (by kernel_rfl) (by kernel_rfl) (by kernel_rfl) (fun _ _ _ h => h) (by rfl) (by (intro _w _hSw; (try dsimp only at _hSw); go_simp)) (by assumption) ?_
    simp only [Act.put, List.setIfInBounds_toArray, List.set_cons_zero, List.set_cons_succ]
    refine takeV 22 (some 53) ((.slice Ag y.length cg)) rfl rfl (by kernel_rfl) (by kernel_rfl) (by kernel_rfl) (fun _ _ _ h => h) (by rfl) (by (intro _w _hSw; (try dsimp only at _hSw); go_simp)) (by assumption) ?_
    simp only [Act.put, List.setIfInBounds_toArray, List.set_cons_zero, List.set_cons_succ]
    refine takeV 23 (some 54) ((.string ⟨y.toArray⟩)) rfl rfl (by kernel_rfl) (by kernel_rfl) (by kernel_rfl) (fun _ _ _ h => h) (by rfl) (by (intro _w hSw; have q0 := HCV.out _ hSw; clear hSw; go_simp)) (by assumption) ?_
    simp only [Act.put, List.setIfInBounds_toArray, List.set_cons_zero, List.set_cons_succ]
    refine takeV 24 (some 55) ((.pointer (some ⟨w.heap.size, 0, none⟩))) rfl rfl (by kernel_rfl) (by kernel_rfl) (by kernel_rfl) (fun _ _ _ h => h) (by rfl) (by (intro _w _hSw; (try dsimp only at _hSw); go_simp)) (by assumption) ?_
    simp only [Act.put, List.setIfInBounds_toArray, List.set_cons_zero, List.set_cons_succ]
    refine takeV 25 (some 56) ((.slice (some ⟨gu, ou, none⟩) L.length cu)) rfl rfl (by kernel_rfl) (by kernel_rfl) (by kernel_rfl) (fun _ _ _ h => h) (by rfl) (by (intro _w hSw; have q0 := HB0.out _ hSw.1; clear hSw; go_simp)) (by assumption) ?_
    simp only [Act.put, List.setIfInBounds_toArray, List.set_cons_zero, List.set_cons_succ]
    refine takeV 26 (some 57) ((.int .i64 (r : Nat))) rfl rfl (by kernel_rfl) (by kernel_rfl) (by kernel_rfl) (fun _ _ _ h => h) (by rfl) (by (intro _w _hSw; (try dsimp only at _hSw); go_simp)) (by assumption) ?_
    simp only [Act.put, List.setIfInBounds_toArray, List.set_cons_zero, List.set_cons_succ]
    refine takeV 27 (some 58) ((.pointer (some ⟨gu, ou + r * 2, none⟩))) rfl rfl (by kernel_rfl) (by kernel_rfl) (by kernel_rfl) (fun _ _ _ h => h) (by rfl) (by (intro _w _hSw; (try dsimp only at _hSw); go_simp)) (by assumption) ?_
    simp only [Act.put, List.setIfInBounds_toArray, List.set_cons_zero, List.set_cons_succ]
    refine takeV 28 (some 59) ((.pointer (some ⟨gu, ou + r * 2 + 1, none⟩))) rfl rfl (by kernel_rfl) (by kernel_rfl) (by kernel_rfl) (fun _ _ _ h => h) (by rfl) (by (intro _w _hSw; (try dsimp only at _hSw); go_simp)) (by assumption) ?_
    simp only [Act.put, List.setIfInBounds_toArray, List.set_cons_zero, List.set_cons_succ]
    refine takeV 29 (some 60) ((.string ⟨y.toArray⟩)) rfl rfl (by kernel_rfl) (by kernel_rfl) (by kernel_rfl) (fun _ _ _ h => h) (by rfl) (by (intro _w hSw; have q0 := HUY.out _ hSw; clear hSw; go_simp)) (by assumption) ?_
    simp only [Act.put, List.setIfInBounds_toArray, List.set_cons_zero, List.set_cons_succ]
    refine takeV 30 (some 61) ((.bool false)) rfl rfl (by kernel_rfl) (by kernel_rfl) (by kernel_rfl) (fun _ _ _ h => h) (by rfl) (by (intro _w _hSw; (try dsimp only at _hSw); go_simp)) (by assumption) ?_
    simp only [Act.put, List.setIfInBounds_toArray, List.set_cons_zero, List.set_cons_succ]
    refine takeV 31 (some 62) ((.bool false)) rfl rfl (by kernel_rfl) (by kernel_rfl) (by kernel_rfl) (fun _ _ _ h => h) (by rfl) (by (intro _w _hSw; (try dsimp only at _hSw); go_simp)) (by assumption) ?_
    simp only [Act.put, List.setIfInBounds_toArray, List.set_cons_zero, List.set_cons_succ]
    refine takeV 32 (some 63) ((.bool false)) rfl rfl (by kernel_rfl) (by kernel_rfl) (by kernel_rfl) (fun _ _ _ h => h) (by rfl) (by (intro _w _hSw; (try dsimp only at _hSw); go_simp)) (by assumption) ?_
    simp only [Act.put, List.setIfInBounds_toArray, List.set_cons_zero, List.set_cons_succ]
    refine takeV 33 (some 64) ((.bool false)) rfl rfl (by kernel_rfl) (by kernel_rfl) (by kernel_rfl) (fun _ _ _ h => h) (by rfl) (by (intro _w _hSw; (try dsimp only at _hSw); go_simp)) (by assumption) ?_
    simp only [Act.put, List.setIfInBounds_toArray, List.set_cons_zero, List.set_cons_succ]
    refine takeV 34 (some 65) ((.bool true)) rfl rfl (by kernel_rfl) (by kernel_rfl) (by kernel_rfl) (fun _ _ _ h => h) (by rfl) (by (intro _w _hSw; (try dsimp only at _hSw); go_simp)) (by assumption) ?_
    simp only [Act.put, List.setIfInBounds_toArray, List.set_cons_zero, List.set_cons_succ]
    refine takeV 35 (some 66) ((.bool false)) rfl rfl (by kernel_rfl) (by kernel_rfl) (by kernel_rfl) (fun _ _ _ h => h) (by rfl) (by (intro _w _hSw; (try dsimp only at _hSw); go_simp)) (by assumption) ?_
    simp only [Act.put, List.setIfInBounds_toArray, List.set_cons_zero, List.set_cons_succ]
    refine takeV 36 (some 67) ((.bool false)) rfl rfl (by kernel_rfl) (by kernel_rfl) (by kernel_rfl) (fun _ _ _ h => h) (by rfl) (by (intro _w _hSw; (try dsimp only at _hSw); go_simp)) (by assumption) ?_
    simp only [Act.put, List.setIfInBounds_toArray, List.set_cons_zero, List.set_cons_succ]
    refine skipV 37 (some 68) rfl rfl (by kernel_rfl) (by kernel_rfl) (by kernel_rfl) (fun _ _ _ h => h) (by rfl) (by assumption) ?_
    simp only [Act.put, List.setIfInBounds_toArray, List.set_cons_zero, List.set_cons_succ]
    refine skipV 38 (some 69) rfl rfl (by kernel_rfl) (by kernel_rfl) (by kernel_rfl) (fun _ _ _ h => h) (by rfl) (by assumption) ?_
    simp only [Act.put, List.setIfInBounds_toArray, List.set_cons_zero, List.set_cons_succ]
    refine skipV 39 (some 70) rfl rfl (by kernel_rfl) (by kernel_rfl) (by kernel_rfl) (fun _ _ _ h => h) (by rfl) (by assumption) ?_
    simp only [Act.put, List.setIfInBounds_toArray, List.set_cons_zero, List.set_cons_succ]
    refine takeV 40 (some 71) ((.bool false)) rfl rfl (by kernel_rfl) (by kernel_rfl) (by kernel_rfl) (fun _ _ _ h => h) (by rfl) (by (intro _w _hSw; (try dsimp only at _hSw); go_simp)) (by assumption) ?_
    simp only [Act.put, List.setIfInBounds_toArray, List.set_cons_zero, List.set_cons_succ]
    refine takeV 41 (some 72) ((.bool false)) rfl rfl (by kernel_rfl) (by kernel_rfl) (by kernel_rfl) (fun _ _ _ h => h) (by rfl) (by (intro _w _hSw; (try dsimp only at _hSw); go_simp)) (by assumption) ?_
    simp only [Act.put, List.setIfInBounds_toArray, List.set_cons_zero, List.set_cons_succ]
    refine wpAnyH_done (by kernel_rfl) ?_ _
    have HS5 := Lib.hid hHeld.1
    clear hHeld
    have b2 := HX2.out we HS5.out
    have HSK := Lib.hid (seekM_any A1 c1 x.k we (HT.out we HS5.out.low) (HK.out we HS5.out.low) (Nat.le_refl _))
    rw [HRR.out] at HSK
    go_wp2_with fail
    refine HSK.out.mono ?_
    rintro e w6 ⟨v6, he, hv6, hb6⟩
    obtain ⟨p1, hp1⟩ : ∃ p, atP L (r : Nat) = p := ⟨_, rfl⟩
    obtain ⟨i1, hi1⟩ : ∃ b, isP L (r : Nat) = b := ⟨_, rfl⟩
    rw [hp1] at hv6
    rw [hi1] at he
    obtain ⟨A5, c5, A6, c6, M6, e6, _⟩ := id hv6
    rw [e6] at he hv6
    subst he
    have HS6 := Lib.hid (HS5.out.below hb6)
    obtain ⟨w7, hw7⟩ : ∃ X, w6.alloc (.cells #[.slice A5 p1.1.length c5, .slice A6 p1.2.length c6] 93) = X := ⟨_, rfl⟩
    have hb7 : Below w6.heap.size w6 w7 := by rw [← hw7]; exact (Below.refl _ _).alloc (Nat.le_refl _) _
    have HA7 : Hid (PBox w7 w6.heap.size (.slice A5 p1.1.length c5) (.slice A6 p1.2.length c6)) := by show PBox _ _ _ _; rw [← hw7]; exact heap_alloc_new w6 _
    have HV7 := Lib.hid (hv6.next hb7)
    have HS7 := Lib.hid (HS6.out.below hb7)
    have HL7 : Hid (we.heap.size ≤ w7.heap.size) := Nat.le_trans hb6.size hb7.size
    have HBA : Hid (w.heap.size + 2 ≤ w6.heap.size) := by show _ ≤ _; have := HS5.out.lt; have := hb6.size; omega
    have HLW : Hid (w.heap.size ≤ we.heap.size) := HS5.out.low.size
    have HAC := Lib.hid (atR_any (some ⟨gu, ou, none⟩) cu L (r : Nat) w7 (HU.out w7 HS7.out.low) HF.out)
    rw [hp1, hi1] at HAC
    clear b2 HSK hv6 e6 hb6 hb7 hp1 hi1
    have b0 := HB0.out w7 HS7.out
    go_wp2_with fail
    try rw [hw7]
    clear hw7
    refine HAC.out.mono ?_
    rintro e w8 ⟨rfl, hb8⟩
    obtain ⟨w9, hw9⟩ : ∃ X, w8.alloc (.cells #[.string ⟨p1.1.toArray⟩, .string ⟨p1.2.toArray⟩] 100) = X := ⟨_, rfl⟩
    have hb9 : Below w8.heap.size w8 w9 := by rw [← hw9]; exact (Below.refl _ _).alloc (Nat.le_refl _) _
    have hb79 : Below w7.heap.size w7 w9 := hb8.trans (hb9.mono hb8.size)
    have HR9 : Hid (RBox w9 w8.heap.size (.string ⟨p1.1.toArray⟩) (.string ⟨p1.2.toArray⟩)) := by show RBox _ _ _ _; rw [← hw9]; exact heap_alloc_new w8 _
    have HA9 := Lib.hid (HA7.out.next hb79 HA7.out.lt)
    have HS9 := Lib.hid (HS7.out.below hb79)
    have HNE : Hid (w6.heap.size < w8.heap.size) := Nat.lt_of_lt_of_le HA7.out.lt hb8.size
    have HO9 := Lib.hid (one_any _ i1 we.heap.size p1 w9 (HV7.out.next hb79) (Nat.le_trans HL7.out hb79.size))
    have a0 := HA9.out.c0
    have a1 := HA9.out.c1
    have d0 := HR9.out.cell 0
    have d1 := HR9.out.cell 1
    clear b0 HAC hb8 hb9 hb79 HV7
    go_wp2_with fail
    try rw [hw9]
    clear hw9
    refine HO9.out.mono ?_
    rintro e w10 ⟨rfl, hk10⟩
    have HS10 := Lib.hid (HS9.out.keepU hk10 HLW.out)
    have HA10 := Lib.hid (HA9.out.keepU hk10)
    have HR10 := Lib.hid (HR9.out.keepU hk10)
    have HBK := Lib.hid (backM_any A1 c1 x.k w10 (HT.out w10 HS10.out.low) (HK.out w10 HS10.out.low) (Nat.le_refl _))
    rw [HRR.out] at HBK
    clear HO9 a0 a1 d0 d1 hk10
    have b2 := HX2.out w10 HS10.out
    go_wp2_with fail
    refine HBK.out.mono ?_
    rintro e w11 ⟨v11, he, hv11, hb11⟩
    obtain ⟨p11, hp11⟩ : ∃ p, atP L ((r : Nat) - 1) = p := ⟨_, rfl⟩
    obtain ⟨i11, hi11⟩ : ∃ b, isP L ((r : Nat) - 1) = b := ⟨_, rfl⟩
    rw [hp11] at hv11
    rw [hi11] at he
    obtain ⟨A511, c511, A611, c611, M611, e6, _⟩ := id hv11
    rw [e6] at he hv11
    subst he
    have HS11 := Lib.hid (HS10.out.below hb11)
    have HA11 := Lib.hid (HA10.out.next hb11 HA10.out.lt)
    have HR11 := Lib.hid (HR10.out.next hb11 HR10.out.lt)
    have z0 := HA11.out.c0
    have z1 := HA11.out.c1
    have y0 := HA11.out.frozen 0
    have y1 := HA11.out.frozen 1
    obtain ⟨w12, hw12⟩ : ∃ X, (w11.setCell ⟨w6.heap.size, 0, none⟩ (.slice A511 p11.1.length c511)).setCell ⟨w6.heap.size, 1, none⟩ (.slice A611 p11.2.length c611) = X := ⟨_, rfl⟩
    have HA12 : Hid (PBox w12 w6.heap.size (.slice A511 p11.1.length c511) (.slice A611 p11.2.length c611)) := by show PBox _ _ _ _; rw [← hw12]; exact HA11.out.set
    have HS12 : Hid (TlS w vu vs w12) := by show TlS _ _ _ _; rw [← hw12]; exact (HS11.out.set HBA.out _).set HBA.out _
    have HR12 : Hid (RBox w12 w8.heap.size (.string ⟨p1.1.toArray⟩) (.string ⟨p1.2.toArray⟩)) := by show RBox _ _ _ _; rw [← hw12]; exact (HR11.out.other (Nat.ne_of_gt HNE.out)).other (Nat.ne_of_gt HNE.out)
    have HV12 : Hid (PrV w12 w10.heap.size (.agg #[.slice A511 p11.1.length c511, .slice A611 p11.2.length c611]) p11) := by show PrV _ _ _ _; rw [← hw12]; exact hv11.far2 HA11.out
    have HL12 : Hid (w10.heap.size ≤ w12.heap.size) := by show _ ≤ _; rw [← hw12]; simpa using hb11.size
    have HLX11 : Hid (w.heap.size ≤ w10.heap.size) := HS10.out.low.size
    have HAC := Lib.hid (atR_any (some ⟨gu, ou, none⟩) cu L ((r : Nat) - 1) w12 (HU.out w12 HS12.out.low) HF.out)
    rw [hp11, hi11] at HAC
    clear HBK hv11 e6 hb11 hp11 hi11
    have b0 := HB0.out w12 HS12.out
    have hwr : IntKind.i64.wrap ((r : Int) - 1) = (r : Int) - 1 := IntWalk.i64_in _ (by have := HRK.out; rw [HRR.out] at this; omega)
    go_wp2_with fail
    try rw [hw12]
    clear hw12 z0 z1 y0 y1 hwr
    refine HAC.out.mono ?_
    rintro e w13 ⟨rfl, hb13⟩
    have HS13 := Lib.hid (HS12.out.below hb13)
    have HA13 := Lib.hid (HA12.out.next hb13 HA12.out.lt)
    have HR13 := Lib.hid (HR12.out.next hb13 HR12.out.lt)
    have z0 := HR13.out.cell 0
    have z1 := HR13.out.cell 1
    have y0 := HR13.out.frozen 0
    have y1 := HR13.out.frozen 1
    obtain ⟨w14, hw14⟩ : ∃ X, (w13.setCell ⟨w8.heap.size, 0, none⟩ (.string ⟨p11.1.toArray⟩)).setCell ⟨w8.heap.size, 1, none⟩ (.string ⟨p11.2.toArray⟩) = X := ⟨_, rfl⟩
    have HR14 : Hid (RBox w14 w8.heap.size (.string ⟨p11.1.toArray⟩) (.string ⟨p11.2.toArray⟩)) := by show RBox _ _ _ _; rw [← hw14]; exact HR13.out.set
    have HBB : Hid (w.heap.size + 2 ≤ w8.heap.size) := Nat.le_trans HBA.out (Nat.le_of_lt HNE.out)
    have HS14 : Hid (TlS w vu vs w14) := by show TlS _ _ _ _; rw [← hw14]; exact (HS13.out.set HBB.out _).set HBB.out _
    have HA14 : Hid (PBox w14 w6.heap.size (.slice A511 p11.1.length c511) (.slice A611 p11.2.length c611)) := by show PBox _ _ _ _; rw [← hw14]; exact (HA13.out.other (Nat.ne_of_lt HNE.out)).other (Nat.ne_of_lt HNE.out)
    have HV14 : Hid (PrV w14 w10.heap.size (.agg #[.slice A511 p11.1.length c511, .slice A611 p11.2.length c611]) p11) := by show PrV _ _ _ _; rw [← hw14]; exact (HV12.out.next hb13).far2R HR13.out
    have HL14 : Hid (w10.heap.size ≤ w14.heap.size) := by show _ ≤ _; rw [← hw14]; have := HL12.out; have := hb13.size; simp; omega
    have HO := Lib.hid (one_any _ i11 w10.heap.size p11 w14 HV14.out HL14.out)
    have a0 := HA14.out.c0
    have a1 := HA14.out.c1
    have d0 := HR14.out.cell 0
    have d1 := HR14.out.cell 1
    clear b0 HAC hb13 HBB
    go_wp2_with fail
    try rw [hw14]
    clear hw14 z0 z1 y0 y1
    refine HO.out.mono ?_
    rintro e w15 ⟨rfl, hk15⟩
    have HS15 := Lib.hid (HS14.out.keepU hk15 HLX11.out)
    have HA15 := Lib.hid (HA14.out.keepU hk15)
    have HR15 := Lib.hid (HR14.out.keepU hk15)
    have HBK := Lib.hid (atM_any x.n w15 (HT.out w15 HS15.out.low) hN0.out hN1.out)
    clear HO a0 a1 d0 d1 hk15 b2
    have b5 := HX5.out w15 HS15.out
    go_wp2_with fail
    refine HBK.out.mono ?_
    rintro e w16 ⟨v11, he, hv11, hb11⟩
    obtain ⟨p16, hp16⟩ : ∃ p, atP L (x.n) = p := ⟨_, rfl⟩
    obtain ⟨i16, hi16⟩ : ∃ b, isP L (x.n) = b := ⟨_, rfl⟩
    rw [hp16] at hv11
    rw [hi16] at he
    obtain ⟨A516, c516, A616, c616, M616, e6, _⟩ := id hv11
    rw [e6] at he hv11
    subst he
    have HS16 := Lib.hid (HS15.out.below hb11)
    have HA16 := Lib.hid (HA15.out.next hb11 HA15.out.lt)
    have HR16 := Lib.hid (HR15.out.next hb11 HR15.out.lt)
    have z0 := HA16.out.c0
    have z1 := HA16.out.c1
    have y0 := HA16.out.frozen 0
    have y1 := HA16.out.frozen 1
    obtain ⟨w17, hw12⟩ : ∃ X, (w16.setCell ⟨w6.heap.size, 0, none⟩ (.slice A516 p16.1.length c516)).setCell ⟨w6.heap.size, 1, none⟩ (.slice A616 p16.2.length c616) = X := ⟨_, rfl⟩
    have HA17 : Hid (PBox w17 w6.heap.size (.slice A516 p16.1.length c516) (.slice A616 p16.2.length c616)) := by show PBox _ _ _ _; rw [← hw12]; exact HA16.out.set
    have HS17 : Hid (TlS w vu vs w17) := by show TlS _ _ _ _; rw [← hw12]; exact (HS16.out.set HBA.out _).set HBA.out _
    have HR17 : Hid (RBox w17 w8.heap.size (.string ⟨p11.1.toArray⟩) (.string ⟨p11.2.toArray⟩)) := by show RBox _ _ _ _; rw [← hw12]; exact (HR16.out.other (Nat.ne_of_gt HNE.out)).other (Nat.ne_of_gt HNE.out)
    have HV17 : Hid (PrV w17 w15.heap.size (.agg #[.slice A516 p16.1.length c516, .slice A616 p16.2.length c616]) p16) := by show PrV _ _ _ _; rw [← hw12]; exact hv11.far2 HA16.out
    have HL17 : Hid (w15.heap.size ≤ w17.heap.size) := by show _ ≤ _; rw [← hw12]; simpa using hb11.size
    have HLX16 : Hid (w.heap.size ≤ w15.heap.size) := HS15.out.low.size
    have HAC := Lib.hid (atR_any (some ⟨gu, ou, none⟩) cu L (x.n) w17 (HU.out w17 HS17.out.low) HF.out)
    rw [hp16, hi16] at HAC
    clear HBK hv11 e6 hb11 hp16 hi16
    have b0 := HB0.out w17 HS17.out
    have b5 := HX5.out w17 HS17.out
    have hwr : IntKind.i64.wrap ((r : Int) - 1) = (r : Int) - 1 := IntWalk.i64_in _ (by have := HRK.out; rw [HRR.out] at this; omega)
    go_wp2_with fail
    try rw [hw12]
    clear hw12 z0 z1 y0 y1 hwr
    refine HAC.out.mono ?_
    rintro e w18 ⟨rfl, hb13⟩
    have HS18 := Lib.hid (HS17.out.below hb13)
    have HA18 := Lib.hid (HA17.out.next hb13 HA17.out.lt)
    have HR18 := Lib.hid (HR17.out.next hb13 HR17.out.lt)
    have z0 := HR18.out.cell 0
    have z1 := HR18.out.cell 1
    have y0 := HR18.out.frozen 0
    have y1 := HR18.out.frozen 1
    obtain ⟨w19, hw14⟩ : ∃ X, (w18.setCell ⟨w8.heap.size, 0, none⟩ (.string ⟨p16.1.toArray⟩)).setCell ⟨w8.heap.size, 1, none⟩ (.string ⟨p16.2.toArray⟩) = X := ⟨_, rfl⟩
    have HR19 : Hid (RBox w19 w8.heap.size (.string ⟨p16.1.toArray⟩) (.string ⟨p16.2.toArray⟩)) := by show RBox _ _ _ _; rw [← hw14]; exact HR18.out.set
    have HBB : Hid (w.heap.size + 2 ≤ w8.heap.size) := Nat.le_trans HBA.out (Nat.le_of_lt HNE.out)
    have HS19 : Hid (TlS w vu vs w19) := by show TlS _ _ _ _; rw [← hw14]; exact (HS18.out.set HBB.out _).set HBB.out _
    have HA19 : Hid (PBox w19 w6.heap.size (.slice A516 p16.1.length c516) (.slice A616 p16.2.length c616)) := by show PBox _ _ _ _; rw [← hw14]; exact (HA18.out.other (Nat.ne_of_lt HNE.out)).other (Nat.ne_of_lt HNE.out)
    have HV19 : Hid (PrV w19 w15.heap.size (.agg #[.slice A516 p16.1.length c516, .slice A616 p16.2.length c616]) p16) := by show PrV _ _ _ _; rw [← hw14]; exact (HV17.out.next hb13).far2R HR18.out
    have HL19 : Hid (w15.heap.size ≤ w19.heap.size) := by show _ ≤ _; rw [← hw14]; have := HL17.out; have := hb13.size; simp; omega
    have HO := Lib.hid (one_any _ i16 w15.heap.size p16 w19 HV19.out HL19.out)
    have a0 := HA19.out.c0
    have a1 := HA19.out.c1
    have d0 := HR19.out.cell 0
    have d1 := HR19.out.cell 1
    clear b0 HAC hb13 HBB
    clear b5
    go_wp2_with fail
    try rw [hw14]
    clear hw14 z0 z1 y0 y1 a0 a1 d0 d1
    have HHE : Hid (TlS w vu vs w19 ∧ PBox w19 w6.heap.size (.slice A516 p16.1.length c516) (.slice A616 p16.2.length c616) ∧ RBox w19 w8.heap.size (.string ⟨p16.1.toArray⟩) (.string ⟨p16.2.toArray⟩) ∧ PrV w19 w15.heap.size (.agg #[.slice A516 p16.1.length c516, .slice A616 p16.2.length c616]) p16 ∧ w15.heap.size ≤ w19.heap.size) := ⟨HS19.out, HA19.out, HR19.out, HV19.out, HL19.out⟩
    obtain ⟨G, hG⟩ : ∃ G, rgL x.t x.n (fromL x.k L) = G := ⟨_, rfl⟩
    have HGL : Hid (G.length ≤ 1000000) := by show _ ≤ _; rw [← hG]; have := rg_len (k := x.k) (to := x.t) (most := x.n) HR.out; have := HF.out; omega
    have HRM : Hid (∀ X, TlS w vu vs X → Calls Try.prog 23 #[.pointer u, .slice A1 x.k.length c1, .slice A3 x.t.length c3, .int .i64 x.n] X fun e w' => ∃ v' qs, e = .returned v' ∧ OwnQ w' X.heap.size v' qs ∧ qs.map (·.1) = G ∧ Below X.heap.size X w') := fun X hX => by rw [← hG]; exact rangeM_any A1 A3 c1 c3 x.k x.t x.n X (HT.out X hX.low) (HK.out X hX.low) (HTO.out X hX.low)
    have HRD : Hid (∀ X, TlS w vu vs X → Calls Try.prog 45 #[.agg #[.slice (some ⟨gu, ou, none⟩) L.length cu], .string ⟨x.k.toArray⟩, .string ⟨x.t.toArray⟩, .int .i64 x.n] X (RowEnd X G)) := fun X hX => by rw [← hG]; exact rangeR_any (some ⟨gu, ou, none⟩) cu L x.k x.t x.n X (HU.out X hX.low) HF.out HR.out hN0.out hN1.out
    have HDR : Hid (∀ X, X = w19 → TlS w vu vs X.drew ∧ PBox X.drew w6.heap.size (.slice A516 p16.1.length c516) (.slice A616 p16.2.length c616) ∧ RBox X.drew w8.heap.size (.string ⟨p16.1.toArray⟩) (.string ⟨p16.2.toArray⟩)) := fun X e => by
      subst e
      exact ⟨HS19.out.below (qb_dn (Below.refl _ _) 1), HA19.out, HR19.out⟩
    have HS0 := Lib.hid (HDR.out w19 rfl)
    have HVD : Hid (PrV w19.drew w15.heap.size (.agg #[.slice A516 p16.1.length c516, .slice A616 p16.2.length c616]) p16 ∧ w15.heap.size ≤ w19.drew.heap.size) := ⟨HV19.out.next (qb_dn (Below.refl _ _) 1), HL19.out⟩
    clear hG HHE HDR HO HBA HNE
    obtain ⟨wz, hwz⟩ : ∃ X, w19.drew = X := ⟨_, rfl⟩
    refine wp_region_held_drew (S := fun X => TlS w vu vs X ∧ PBox X w6.heap.size (.slice A516 p16.1.length c516) (.slice A616 p16.2.length c616) ∧ RBox X w8.heap.size (.string ⟨p16.1.toArray⟩) (.string ⟨p16.2.toArray⟩)) (by kernel_rfl) HS0.out (fun hHeld => ?_)
    rw [hwz] at hHeld HVD ⊢
    clear hwz HS0
    refine takeV 0 (some 126) ((.agg #[.slice A516 p16.1.length c516, .slice A616 p16.2.length c616])) rfl rfl (by kernel_rfl) (by kernel_rfl) (by kernel_rfl) (fun _ _ _ h => h) (by rfl) (by (intro _w hSw; have q0 := hSw.2.1.c0; have q1 := hSw.2.1.c1; clear hSw; go_simp)) (by assumption) ?_
    simp only [Act.put, List.setIfInBounds_toArray, List.set_cons_zero, List.set_cons_succ]
    refine takeV 1 (some 127) ((.bool i16)) rfl rfl (by kernel_rfl) (by kernel_rfl) (by kernel_rfl) (fun _ _ _ h => h) (by rfl) (by (intro _w _hSw; (try dsimp only at _hSw); go_simp)) (by assumption) ?_
    simp only [Act.put, List.setIfInBounds_toArray, List.set_cons_zero, List.set_cons_succ]
    refine takeV 2 (some 128) ((.agg #[.string ⟨p16.1.toArray⟩, .string ⟨p16.2.toArray⟩])) rfl rfl (by kernel_rfl) (by kernel_rfl) (by kernel_rfl) (fun _ _ _ h => h) (by rfl) (by (intro _w hSw; have q0 := hSw.2.2.cell 0; have q1 := hSw.2.2.cell 1; clear hSw; go_simp)) (by assumption) ?_
    simp only [Act.put, List.setIfInBounds_toArray, List.set_cons_zero, List.set_cons_succ]
    refine takeV 3 (some 129) ((.bool i16)) rfl rfl (by kernel_rfl) (by kernel_rfl) (by kernel_rfl) (fun _ _ _ h => h) (by rfl) (by (intro _w _hSw; (try dsimp only at _hSw); go_simp)) (by assumption) ?_
    simp only [Act.put, List.setIfInBounds_toArray, List.set_cons_zero, List.set_cons_succ]
    refine callV 4 rfl (by kernel_rfl) (by rfl) (fun K hK => ?_)
    go_simp
    refine (one_any _ i16 w15.heap.size p16 _ HVD.out.1 HVD.out.2).mono ?_
    rintro e wf ⟨rfl, hkf⟩
    refine hK.out _ _ ⟨hHeld.1.keepU hkf HLX16.out, hHeld.2.1.keepU hkf, hHeld.2.2.keepU hkf⟩ (fun hHeld2 => ?_)
    clear hK K hHeld hkf HVD
    have hHeld := hHeld2
    clear hHeld2
    try simp only [Act.put, List.setIfInBounds_toArray, List.set_cons_zero, List.set_cons_succ]
    refine takeV 5 (some 131) ((.bool true)) rfl rfl (by kernel_rfl) (by kernel_rfl) (by kernel_rfl) (fun _ _ _ h => h) (by rfl) (by (intro _w _hSw; (try dsimp only at _hSw); go_simp)) (by assumption) ?_
    simp only [Act.put, List.setIfInBounds_toArray, List.set_cons_zero, List.set_cons_succ]
    refine takeV 6 (some 132) ((.pointer u)) rfl rfl (by kernel_rfl) (by kernel_rfl) (by kernel_rfl) (fun _ _ _ h => h) (by rfl) (by (intro _w _hSw; (try dsimp only at _hSw); go_simp)) (by assumption) ?_
    simp only [Act.put, List.setIfInBounds_toArray, List.set_cons_zero, List.set_cons_succ]
    refine takeV 7 (some 133) ((.pointer (some ⟨w.heap.size + 1, 2, none⟩))) rfl rfl (by kernel_rfl) (by kernel_rfl) (by kernel_rfl) (fun _ _ _ h => h) (by rfl) (by (intro _w _hSw; (try dsimp only at _hSw); go_simp)) (by assumption) ?_
    simp only [Act.put, List.setIfInBounds_toArray, List.set_cons_zero, List.set_cons_succ]
    refine takeV 8 (some 134) ((.slice A1 x.k.length c1)) rfl rfl (by kernel_rfl) (by kernel_rfl) (by kernel_rfl) (fun _ _ _ h => h) (by rfl) (by (intro _w hSw; have q0 := HX2.out _ hSw.1; clear hSw; go_simp)) (by assumption) ?_
    simp only [Act.put, List.setIfInBounds_toArray, List.set_cons_zero, List.set_cons_succ]
    refine takeV 9 (some 135) ((.pointer (some ⟨w.heap.size + 1, 4, none⟩))) rfl rfl (by kernel_rfl) (by kernel_rfl) (by kernel_rfl) (fun _ _ _ h => h) (by rfl) (by (intro _w _hSw; (try dsimp only at _hSw); go_simp)) (by assumption) ?_
    simp only [Act.put, List.setIfInBounds_toArray, List.set_cons_zero, List.set_cons_succ]
    refine takeV 10 (some 136) ((.slice A3 x.t.length c3)) rfl rfl (by kernel_rfl) (by kernel_rfl) (by kernel_rfl) (fun _ _ _ h => h) (by rfl) (by (intro _w hSw; have q0 := HX4.out _ hSw.1; clear hSw; go_simp)) (by assumption) ?_
    simp only [Act.put, List.setIfInBounds_toArray, List.set_cons_zero, List.set_cons_succ]
    refine takeV 11 (some 137) ((.pointer (some ⟨w.heap.size + 1, 5, none⟩))) rfl rfl (by kernel_rfl) (by kernel_rfl) (by kernel_rfl) (fun _ _ _ h => h) (by rfl) (by (intro _w _hSw; (try dsimp only at _hSw); go_simp)) (by assumption) ?_
    simp only [Act.put, List.setIfInBounds_toArray, List.set_cons_zero, List.set_cons_succ]
    refine takeV 12 (some 138) ((.int .i64 x.n)) rfl rfl (by kernel_rfl) (by kernel_rfl) (by kernel_rfl) (fun _ _ _ h => h) (by rfl) (by (intro _w hSw; have q0 := HX5.out _ hSw.1; clear hSw; go_simp)) (by assumption) ?_
    simp only [Act.put, List.setIfInBounds_toArray, List.set_cons_zero, List.set_cons_succ]
    refine takeV 14 (some 140) ((.agg #[.slice (some ⟨gu, ou, none⟩) L.length cu])) rfl rfl (by kernel_rfl) (by kernel_rfl) (by kernel_rfl) (fun _ _ _ h => h) (by rfl) (by (intro _w hSw; have q0 := HB0.out _ hSw.1; clear hSw; go_simp)) (by assumption) ?_
    simp only [Act.put, List.setIfInBounds_toArray, List.set_cons_zero, List.set_cons_succ]
    refine takeV 15 (some 141) ((.string ⟨x.k.toArray⟩)) rfl rfl (by kernel_rfl) (by kernel_rfl) (by kernel_rfl) (fun _ _ _ h => h) (by rfl) (by (intro _w _hSw; (try dsimp only at _hSw); go_simp)) (by assumption) ?_
    simp only [Act.put, List.setIfInBounds_toArray, List.set_cons_zero, List.set_cons_succ]
    refine takeV 16 (some 142) ((.pointer (some ⟨w.heap.size + 1, 4, none⟩))) rfl rfl (by kernel_rfl) (by kernel_rfl) (by kernel_rfl) (fun _ _ _ h => h) (by rfl) (by (intro _w _hSw; (try dsimp only at _hSw); go_simp)) (by assumption) ?_
    simp only [Act.put, List.setIfInBounds_toArray, List.set_cons_zero, List.set_cons_succ]
    refine takeV 17 (some 143) ((.slice A3 x.t.length c3)) rfl rfl (by kernel_rfl) (by kernel_rfl) (by kernel_rfl) (fun _ _ _ h => h) (by rfl) (by (intro _w hSw; have q0 := HX4.out _ hSw.1; clear hSw; go_simp)) (by assumption) ?_
    simp only [Act.put, List.setIfInBounds_toArray, List.set_cons_zero, List.set_cons_succ]
    refine takeV 18 (some 144) ((.string ⟨x.t.toArray⟩)) rfl rfl (by kernel_rfl) (by kernel_rfl) (by kernel_rfl) (fun _ _ _ h => h) (by rfl) (by (intro _w hSw; have q0 := HCT.out _ hSw.1.low; clear hSw; go_simp)) (by assumption) ?_
    simp only [Act.put, List.setIfInBounds_toArray, List.set_cons_zero, List.set_cons_succ]
    refine takeV 19 (some 145) ((.pointer (some ⟨w.heap.size + 1, 5, none⟩))) rfl rfl (by kernel_rfl) (by kernel_rfl) (by kernel_rfl) (fun _ _ _ h => h) (by rfl) (by (intro _w _hSw; (try dsimp only at _hSw); go_simp)) (by assumption) ?_
    simp only [Act.put, List.setIfInBounds_toArray, List.set_cons_zero, List.set_cons_succ]
    refine takeV 20 (some 146) ((.int .i64 x.n)) rfl rfl (by kernel_rfl) (by kernel_rfl) (by kernel_rfl) (fun _ _ _ h => h) (by rfl) (by (intro _w hSw; have q0 := HX5.out _ hSw.1; clear hSw; go_simp)) (by assumption) ?_
    simp only [Act.put, List.setIfInBounds_toArray, List.set_cons_zero, List.set_cons_succ]
    refine callV 13 rfl (by kernel_rfl) (by rfl) (fun K hK => ?_)
    go_simp
    refine (HRM.out _ hHeld.1).mono ?_
    rintro e wf ⟨vf, qs, rfl, ho, hq, hbf⟩
    have hn := ownQ_len ho hq
    obtain ⟨A9, c9, rfl⟩ := ho.form
    rw [hn] at ho ⊢
    have HO := Lib.hid ho
    have HQ := Lib.hid hq
    have HLY : Hid (w.heap.size ≤ wf.heap.size) := Nat.le_trans hHeld.1.low.size hbf.size
    have HLZ := Lib.hid hHeld.1.low.size
    refine hK.out _ _ ⟨hHeld.1.below hbf, hHeld.2.1.next hbf hHeld.2.1.lt, hHeld.2.2.next hbf hHeld.2.2.lt⟩ (fun hHeld2 => ?_)
    clear hK K hHeld hbf ho hq hn
    have hHeld := hHeld2
    clear hHeld2
    try simp only [Act.put, List.setIfInBounds_toArray, List.set_cons_zero, List.set_cons_succ]
    refine callV 21 rfl (by kernel_rfl) (by rfl) (fun K hK => ?_)
    go_simp
    refine (HRD.out _ hHeld.1).mono ?_
    rintro e wg ⟨A8, c8, rfl, hs8, hbg⟩
    have HO8 := Lib.hid (HO.out.next hbg)
    have HS8 := Lib.hid hs8
    refine hK.out _ _ ⟨hHeld.1.below hbg, hHeld.2.1.next hbg hHeld.2.1.lt, hHeld.2.2.next hbg hHeld.2.2.lt⟩ (fun hHeld2 => ?_)
    clear hK K hHeld hbg hs8 HO
    have hHeld := hHeld2
    clear hHeld2
    try simp only [Act.put, List.setIfInBounds_toArray, List.set_cons_zero, List.set_cons_succ]
    refine callV 22 rfl (by kernel_rfl) (by rfl) (fun K hK => ?_)
    go_simp
    refine (same_any A9 A8 c9 c8 G.length _ qs G wg HO8.out HQ.out rfl HS8.out HGL.out).mono ?_
    rintro e wh ⟨rfl, hkh⟩
    refine hK.out _ _ ⟨hHeld.1.keepU hkh HLZ.out, hHeld.2.1.keepU hkh, hHeld.2.2.keepU hkh⟩ (fun hHeld2 => ?_)
    clear hK K hHeld hkh HO8 HS8
    have hHeld := hHeld2
    clear hHeld2
    try simp only [Act.put, List.setIfInBounds_toArray, List.set_cons_zero, List.set_cons_succ]
    refine takeV 23 (some 149) ((.bool true)) rfl rfl (by kernel_rfl) (by kernel_rfl) (by kernel_rfl) (fun _ _ _ h => h) (by rfl) (by (intro _w _hSw; (try dsimp only at _hSw); go_simp)) (by assumption) ?_
    simp only [Act.put, List.setIfInBounds_toArray, List.set_cons_zero, List.set_cons_succ]
    refine takeV 24 (some 6) ((.bool true)) rfl rfl (by kernel_rfl) (by kernel_rfl) (by kernel_rfl) (fun _ _ _ h => h) (by rfl) (by (intro _w _hSw; (try dsimp only at _hSw); go_simp)) (by assumption) ?_
    simp only [Act.put, List.setIfInBounds_toArray, List.set_cons_zero, List.set_cons_succ]
    refine wpAnyH_done (by kernel_rfl) ?_ _
    have HFIN := Lib.hid hHeld.1.low
    clear hHeld
    go_wp2
    go_ret
    exact ⟨rfl, HFIN.out⟩
  | none =>
    rw [hg] at he hog
    simp only [Option.getD_none, Option.isSome_none, List.length_nil] at he hog
    subst he
    clear hog
    clear hg
    go_wp2_with fail
    have HS0 : Hid (TlS w vu vs w4.drew ∧ Below w4.heap.size w4 w4.drew) := ⟨HS4.out.below (qb_dn (Below.refl _ _) 1), qb_dn (Below.refl _ _) 1⟩
    obtain ⟨we, hwe⟩ : ∃ X, w4.drew = X := ⟨_, rfl⟩
    refine wp_region_held_drew (S := fun X => TlS w vu vs X ∧ Below w4.heap.size w4 X) (by kernel_rfl) HS0.out (fun hHeld => ?_)
    rw [hwe] at hHeld ⊢
    clear hwe HS0
    refine takeV 0 (some 31) ((.pointer u)) rfl rfl (by kernel_rfl) (by kernel_rfl) (by kernel_rfl) (fun _ _ _ h => h) (by rfl) (by (intro _w _hSw; (try dsimp only at _hSw); go_simp)) (by assumption) ?_
    simp only [Act.put, List.setIfInBounds_toArray, List.set_cons_zero, List.set_cons_succ]
    refine takeV 2 (some 33) ((.pointer (some ⟨w.heap.size, 0, none⟩))) rfl rfl (by kernel_rfl) (by kernel_rfl) (by kernel_rfl) (fun _ _ _ h => h) (by rfl) (by (intro _w _hSw; (try dsimp only at _hSw); go_simp)) (by assumption) ?_
    simp only [Act.put, List.setIfInBounds_toArray, List.set_cons_zero, List.set_cons_succ]
    refine takeV 3 (some 34) ((.slice Au L.length cu)) rfl rfl (by kernel_rfl) (by kernel_rfl) (by kernel_rfl) (fun _ _ _ h => h) (by rfl) (by (intro _w hSw; have q0 := HB0.out _ hSw.1; clear hSw; go_simp)) (by assumption) ?_
    simp only [Act.put, List.setIfInBounds_toArray, List.set_cons_zero, List.set_cons_succ]
    refine takeV 4 (some 35) ((.int .i64 (L.length : Nat))) rfl rfl (by kernel_rfl) (by kernel_rfl) (by kernel_rfl) (fun _ _ _ h => h) (by rfl) (by (intro _w _hSw; (try dsimp only at _hSw); go_simp)) (by assumption) ?_
    simp only [Act.put, List.setIfInBounds_toArray, List.set_cons_zero, List.set_cons_succ]
    refine callV 1 rfl (by kernel_rfl) (by rfl) (fun K hK => ?_)
    go_simp
    refine (len_any _ (HT.out _ hHeld.1.low)).mono ?_
    rintro e wf ⟨rfl, rfl⟩
    refine hK.out _ _ hHeld (fun hHeld2 => ?_)
    clear hK K hHeld
    have hHeld := hHeld2
    clear hHeld2
    try simp only [Act.put, List.setIfInBounds_toArray, List.set_cons_zero, List.set_cons_succ]
    refine takeV 5 (some 36) ((.bool false)) rfl rfl (by kernel_rfl) (by kernel_rfl) (by kernel_rfl) (fun _ _ _ h => h) (by rfl) (by (intro _w _hSw; (try dsimp only at _hSw); go_simp)) (by assumption) ?_
    simp only [Act.put, List.setIfInBounds_toArray, List.set_cons_zero, List.set_cons_succ]
    refine takeV 6 (some 37) ((.bool false)) rfl rfl (by kernel_rfl) (by kernel_rfl) (by kernel_rfl) (fun _ _ _ h => h) (by rfl) (by (intro _w _hSw; (try dsimp only at _hSw); go_simp)) (by assumption) ?_
    simp only [Act.put, List.setIfInBounds_toArray, List.set_cons_zero, List.set_cons_succ]
    refine takeV 7 (some 38) ((.pointer u)) rfl rfl (by kernel_rfl) (by kernel_rfl) (by kernel_rfl) (fun _ _ _ h => h) (by rfl) (by (intro _w _hSw; (try dsimp only at _hSw); go_simp)) (by assumption) ?_
    simp only [Act.put, List.setIfInBounds_toArray, List.set_cons_zero, List.set_cons_succ]
    refine takeV 8 (some 39) ((.pointer (some ⟨w.heap.size + 1, 2, none⟩))) rfl rfl (by kernel_rfl) (by kernel_rfl) (by kernel_rfl) (fun _ _ _ h => h) (by rfl) (by (intro _w _hSw; (try dsimp only at _hSw); go_simp)) (by assumption) ?_
    simp only [Act.put, List.setIfInBounds_toArray, List.set_cons_zero, List.set_cons_succ]
    refine takeV 9 (some 40) ((.slice A1 x.k.length c1)) rfl rfl (by kernel_rfl) (by kernel_rfl) (by kernel_rfl) (fun _ _ _ h => h) (by rfl) (by (intro _w hSw; have q0 := HX2.out _ hSw.1; clear hSw; go_simp)) (by assumption) ?_
    simp only [Act.put, List.setIfInBounds_toArray, List.set_cons_zero, List.set_cons_succ]
    refine takeV 11 (some 42) ((.int .i64 (r : Nat))) rfl rfl (by kernel_rfl) (by kernel_rfl) (by kernel_rfl) (fun _ _ _ h => h) (by rfl) (by (intro _w _hSw; (try dsimp only at _hSw); go_simp)) (by assumption) ?_
    simp only [Act.put, List.setIfInBounds_toArray, List.set_cons_zero, List.set_cons_succ]
    refine callV 10 rfl (by kernel_rfl) (by rfl) (fun K hK => ?_)
    go_simp
    refine (rankM_any A1 c1 x.k _ (HT.out _ hHeld.1.low) (HK.out _ hHeld.1.low)).mono ?_
    rintro e wf ⟨rfl, rfl⟩
    rw [HRR.out]
    refine hK.out _ _ hHeld (fun hHeld2 => ?_)
    clear hK K hHeld
    have hHeld := hHeld2
    clear hHeld2
    try simp only [Act.put, List.setIfInBounds_toArray, List.set_cons_zero, List.set_cons_succ]
    refine takeV 12 (some 43) ((.bool false)) rfl rfl (by kernel_rfl) (by kernel_rfl) (by kernel_rfl) (fun _ _ _ h => h) (by rfl) (by (intro _w _hSw; (try dsimp only at _hSw); go_simp)) (by assumption) ?_
    simp only [Act.put, List.setIfInBounds_toArray, List.set_cons_zero, List.set_cons_succ]
    refine takeV 13 (some 44) ((.bool false)) rfl rfl (by kernel_rfl) (by kernel_rfl) (by kernel_rfl) (fun _ _ _ h => h) (by rfl) (by (intro _w _hSw; (try dsimp only at _hSw); go_simp)) (by assumption) ?_
    simp only [Act.put, List.setIfInBounds_toArray, List.set_cons_zero, List.set_cons_succ]
    refine takeV 14 (some 45) ((.bool false)) rfl rfl (by kernel_rfl) (by kernel_rfl) (by kernel_rfl) (fun _ _ _ h => h) (by rfl) (by (intro _w _hSw; (try dsimp only at _hSw); go_simp)) (by assumption) ?_
    simp only [Act.put, List.setIfInBounds_toArray, List.set_cons_zero, List.set_cons_succ]
    refine takeV 15 (some 46) ((.bool false)) rfl rfl (by kernel_rfl) (by kernel_rfl) (by kernel_rfl) (fun _ _ _ h => h) (by rfl) (by (intro _w _hSw; (try dsimp only at _hSw); go_simp)) (by assumption) ?_
    simp only [Act.put, List.setIfInBounds_toArray, List.set_cons_zero, List.set_cons_succ]
    refine takeV 16 (some 47) ((.bool false)) rfl rfl (by kernel_rfl) (by kernel_rfl) (by kernel_rfl) (fun _ _ _ h => h) (by rfl) (by (intro _w _hSw; (try dsimp only at _hSw); go_simp)) (by assumption) ?_
    simp only [Act.put, List.setIfInBounds_toArray, List.set_cons_zero, List.set_cons_succ]
    refine takeV 17 (some 48) ((.bool false)) rfl rfl (by kernel_rfl) (by kernel_rfl) (by kernel_rfl) (fun _ _ _ h => h) (by rfl) (by (intro _w _hSw; (try dsimp only at _hSw); go_simp)) (by assumption) ?_
    simp only [Act.put, List.setIfInBounds_toArray, List.set_cons_zero, List.set_cons_succ]
    refine takeV 18 (some 49) ((.bool false)) rfl rfl (by kernel_rfl) (by kernel_rfl) (by kernel_rfl) (fun _ _ _ h => h) (by rfl) (by (intro _w _hSw; (try dsimp only at _hSw); go_simp)) (by assumption) ?_
    simp only [Act.put, List.setIfInBounds_toArray, List.set_cons_zero, List.set_cons_succ]
    refine takeV 19 (some 50) ((.bool false)) rfl rfl (by kernel_rfl) (by kernel_rfl) (by kernel_rfl) (fun _ _ _ h => h) (by rfl) (by (intro _w _hSw; (try dsimp only at _hSw); go_simp)) (by assumption) ?_
    simp only [Act.put, List.setIfInBounds_toArray, List.set_cons_zero, List.set_cons_succ]
    refine takeV 20 (some 51) ((.bool false)) rfl rfl (by kernel_rfl) (by kernel_rfl) (by kernel_rfl) (fun _ _ _ h => h) (by rfl) (by (intro _w _hSw; (try dsimp only at _hSw); go_simp)) (by assumption) ?_
    simp only [Act.put, List.setIfInBounds_toArray, List.set_cons_zero, List.set_cons_succ]
    refine takeV 21 (some 52) ((.bool false)) rfl rfl (by kernel_rfl) (by kernel_rfl) (by kernel_rfl) (fun _ _ _ h => h) (by rfl) (by (intro _w _hSw; (try dsimp only at _hSw); go_simp)) (by assumption) ?_
    simp only [Act.put, List.setIfInBounds_toArray, List.set_cons_zero, List.set_cons_succ]
    refine skipV 22 (some 53) rfl rfl (by kernel_rfl) (by kernel_rfl) (by kernel_rfl) (fun _ _ _ h => h) (by rfl) (by assumption) ?_
    simp only [Act.put, List.setIfInBounds_toArray, List.set_cons_zero, List.set_cons_succ]
    refine skipV 23 (some 54) rfl rfl (by kernel_rfl) (by kernel_rfl) (by kernel_rfl) (fun _ _ _ h => h) (by rfl) (by assumption) ?_
    simp only [Act.put, List.setIfInBounds_toArray, List.set_cons_zero, List.set_cons_succ]
    refine skipV 24 (some 55) rfl rfl (by kernel_rfl) (by kernel_rfl) (by kernel_rfl) (fun _ _ _ h => h) (by rfl) (by assumption) ?_
    simp only [Act.put, List.setIfInBounds_toArray, List.set_cons_zero, List.set_cons_succ]
    refine skipV 25 (some 56) rfl rfl (by kernel_rfl) (by kernel_rfl) (by kernel_rfl) (fun _ _ _ h => h) (by rfl) (by assumption) ?_
    simp only [Act.put, List.setIfInBounds_toArray, List.set_cons_zero, List.set_cons_succ]
    refine skipV 26 (some 57) rfl rfl (by kernel_rfl) (by kernel_rfl) (by kernel_rfl) (fun _ _ _ h => h) (by rfl) (by assumption) ?_
    simp only [Act.put, List.setIfInBounds_toArray, List.set_cons_zero, List.set_cons_succ]
    refine skipV 27 (some 58) rfl rfl (by kernel_rfl) (by kernel_rfl) (by kernel_rfl) (fun _ _ _ h => h) (by rfl) (by assumption) ?_
    simp only [Act.put, List.setIfInBounds_toArray, List.set_cons_zero, List.set_cons_succ]
    refine skipV 28 (some 59) rfl rfl (by kernel_rfl) (by kernel_rfl) (by kernel_rfl) (fun _ _ _ h => h) (by rfl) (by assumption) ?_
    simp only [Act.put, List.setIfInBounds_toArray, List.set_cons_zero, List.set_cons_succ]
    refine skipV 29 (some 60) rfl rfl (by kernel_rfl) (by kernel_rfl) (by kernel_rfl) (fun _ _ _ h => h) (by rfl) (by assumption) ?_
    simp only [Act.put, List.setIfInBounds_toArray, List.set_cons_zero, List.set_cons_succ]
    refine skipV 30 (some 61) rfl rfl (by kernel_rfl) (by kernel_rfl) (by kernel_rfl) (fun _ _ _ h => h) (by rfl) (by assumption) ?_
    simp only [Act.put, List.setIfInBounds_toArray, List.set_cons_zero, List.set_cons_succ]
    refine takeV 31 (some 62) ((.bool false)) rfl rfl (by kernel_rfl) (by kernel_rfl) (by kernel_rfl) (fun _ _ _ h => h) (by rfl) (by (intro _w _hSw; (try dsimp only at _hSw); go_simp)) (by assumption) ?_
    simp only [Act.put, List.setIfInBounds_toArray, List.set_cons_zero, List.set_cons_succ]
    refine takeV 32 (some 63) ((.bool false)) rfl rfl (by kernel_rfl) (by kernel_rfl) (by kernel_rfl) (fun _ _ _ h => h) (by rfl) (by (intro _w _hSw; (try dsimp only at _hSw); go_simp)) (by assumption) ?_
    simp only [Act.put, List.setIfInBounds_toArray, List.set_cons_zero, List.set_cons_succ]
    refine takeV 33 (some 64) ((.bool false)) rfl rfl (by kernel_rfl) (by kernel_rfl) (by kernel_rfl) (fun _ _ _ h => h) (by rfl) (by (intro _w _hSw; (try dsimp only at _hSw); go_simp)) (by assumption) ?_
    simp only [Act.put, List.setIfInBounds_toArray, List.set_cons_zero, List.set_cons_succ]
    refine takeV 34 (some 65) ((.bool false)) rfl rfl (by kernel_rfl) (by kernel_rfl) (by kernel_rfl) (fun _ _ _ h => h) (by rfl) (by (intro _w _hSw; (try dsimp only at _hSw); go_simp)) (by assumption) ?_
    simp only [Act.put, List.setIfInBounds_toArray, List.set_cons_zero, List.set_cons_succ]
    refine takeV 35 (some 66) ((.bool true)) rfl rfl (by kernel_rfl) (by kernel_rfl) (by kernel_rfl) (fun _ _ _ h => h) (by rfl) (by (intro _w _hSw; (try dsimp only at _hSw); go_simp)) (by assumption) ?_
    simp only [Act.put, List.setIfInBounds_toArray, List.set_cons_zero, List.set_cons_succ]
    refine takeV 36 (some 67) ((.bool true)) rfl rfl (by kernel_rfl) (by kernel_rfl) (by kernel_rfl) (fun _ _ _ h => h) (by rfl) (by (intro _w _hSw; (try dsimp only at _hSw); go_simp)) (by assumption) ?_
    simp only [Act.put, List.setIfInBounds_toArray, List.set_cons_zero, List.set_cons_succ]
    refine takeV 37 (some 68) ((.slice Ag 0 cg)) rfl rfl (by kernel_rfl) (by kernel_rfl) (by kernel_rfl) (fun _ _ _ h => h) (by rfl) (by (intro _w _hSw; (try dsimp only at _hSw); go_simp)) (by assumption) ?_
    simp only [Act.put, List.setIfInBounds_toArray, List.set_cons_zero, List.set_cons_succ]
    refine takeV 38 (some 69) ((.int .i64 0)) rfl rfl (by kernel_rfl) (by kernel_rfl) (by kernel_rfl) (fun _ _ _ h => h) (by rfl) (by (intro _w _hSw; (try dsimp only at _hSw); go_simp)) (by assumption) ?_
    simp only [Act.put, List.setIfInBounds_toArray, List.set_cons_zero, List.set_cons_succ]
    refine takeV 39 (some 70) ((.bool false)) rfl rfl (by kernel_rfl) (by kernel_rfl) (by kernel_rfl) (fun _ _ _ h => h) (by rfl) (by (intro _w _hSw; (try dsimp only at _hSw); go_simp)) (by assumption) ?_
    simp only [Act.put, List.setIfInBounds_toArray, List.set_cons_zero, List.set_cons_succ]
    refine takeV 40 (some 71) ((.bool false)) rfl rfl (by kernel_rfl) (by kernel_rfl) (by kernel_rfl) (fun _ _ _ h => h) (by rfl) (by (intro _w _hSw; (try dsimp only at _hSw); go_simp)) (by assumption) ?_
    simp only [Act.put, List.setIfInBounds_toArray, List.set_cons_zero, List.set_cons_succ]
    refine takeV 41 (some 72) ((.bool false)) rfl rfl (by kernel_rfl) (by kernel_rfl) (by kernel_rfl) (fun _ _ _ h => h) (by rfl) (by (intro _w _hSw; (try dsimp only at _hSw); go_simp)) (by assumption) ?_
    simp only [Act.put, List.setIfInBounds_toArray, List.set_cons_zero, List.set_cons_succ]
    refine wpAnyH_done (by kernel_rfl) ?_ _
    have HS5 := Lib.hid hHeld.1
    clear hHeld
    have b2 := HX2.out we HS5.out
    have HSK := Lib.hid (seekM_any A1 c1 x.k we (HT.out we HS5.out.low) (HK.out we HS5.out.low) (Nat.le_refl _))
    rw [HRR.out] at HSK
    go_wp2_with fail
    refine HSK.out.mono ?_
    rintro e w6 ⟨v6, he, hv6, hb6⟩
    obtain ⟨p1, hp1⟩ : ∃ p, atP L (r : Nat) = p := ⟨_, rfl⟩
    obtain ⟨i1, hi1⟩ : ∃ b, isP L (r : Nat) = b := ⟨_, rfl⟩
    rw [hp1] at hv6
    rw [hi1] at he
    obtain ⟨A5, c5, A6, c6, M6, e6, _⟩ := id hv6
    rw [e6] at he hv6
    subst he
    have HS6 := Lib.hid (HS5.out.below hb6)
    obtain ⟨w7, hw7⟩ : ∃ X, w6.alloc (.cells #[.slice A5 p1.1.length c5, .slice A6 p1.2.length c6] 93) = X := ⟨_, rfl⟩
    have hb7 : Below w6.heap.size w6 w7 := by rw [← hw7]; exact (Below.refl _ _).alloc (Nat.le_refl _) _
    have HA7 : Hid (PBox w7 w6.heap.size (.slice A5 p1.1.length c5) (.slice A6 p1.2.length c6)) := by show PBox _ _ _ _; rw [← hw7]; exact heap_alloc_new w6 _
    have HV7 := Lib.hid (hv6.next hb7)
    have HS7 := Lib.hid (HS6.out.below hb7)
    have HL7 : Hid (we.heap.size ≤ w7.heap.size) := Nat.le_trans hb6.size hb7.size
    have HBA : Hid (w.heap.size + 2 ≤ w6.heap.size) := by show _ ≤ _; have := HS5.out.lt; have := hb6.size; omega
    have HLW : Hid (w.heap.size ≤ we.heap.size) := HS5.out.low.size
    have HAC := Lib.hid (atR_any Au cu L (r : Nat) w7 (HU.out w7 HS7.out.low) HF.out)
    rw [hp1, hi1] at HAC
    clear b2 HSK hv6 e6 hb6 hb7 hp1 hi1
    have b0 := HB0.out w7 HS7.out
    go_wp2_with fail
    try rw [hw7]
    clear hw7
    refine HAC.out.mono ?_
    rintro e w8 ⟨rfl, hb8⟩
    obtain ⟨w9, hw9⟩ : ∃ X, w8.alloc (.cells #[.string ⟨p1.1.toArray⟩, .string ⟨p1.2.toArray⟩] 100) = X := ⟨_, rfl⟩
    have hb9 : Below w8.heap.size w8 w9 := by rw [← hw9]; exact (Below.refl _ _).alloc (Nat.le_refl _) _
    have hb79 : Below w7.heap.size w7 w9 := hb8.trans (hb9.mono hb8.size)
    have HR9 : Hid (RBox w9 w8.heap.size (.string ⟨p1.1.toArray⟩) (.string ⟨p1.2.toArray⟩)) := by show RBox _ _ _ _; rw [← hw9]; exact heap_alloc_new w8 _
    have HA9 := Lib.hid (HA7.out.next hb79 HA7.out.lt)
    have HS9 := Lib.hid (HS7.out.below hb79)
    have HNE : Hid (w6.heap.size < w8.heap.size) := Nat.lt_of_lt_of_le HA7.out.lt hb8.size
    have HO9 := Lib.hid (one_any _ i1 we.heap.size p1 w9 (HV7.out.next hb79) (Nat.le_trans HL7.out hb79.size))
    have a0 := HA9.out.c0
    have a1 := HA9.out.c1
    have d0 := HR9.out.cell 0
    have d1 := HR9.out.cell 1
    clear b0 HAC hb8 hb9 hb79 HV7
    go_wp2_with fail
    try rw [hw9]
    clear hw9
    refine HO9.out.mono ?_
    rintro e w10 ⟨rfl, hk10⟩
    have HS10 := Lib.hid (HS9.out.keepU hk10 HLW.out)
    have HA10 := Lib.hid (HA9.out.keepU hk10)
    have HR10 := Lib.hid (HR9.out.keepU hk10)
    have HBK := Lib.hid (backM_any A1 c1 x.k w10 (HT.out w10 HS10.out.low) (HK.out w10 HS10.out.low) (Nat.le_refl _))
    rw [HRR.out] at HBK
    clear HO9 a0 a1 d0 d1 hk10
    have b2 := HX2.out w10 HS10.out
    go_wp2_with fail
    refine HBK.out.mono ?_
    rintro e w11 ⟨v11, he, hv11, hb11⟩
    obtain ⟨p11, hp11⟩ : ∃ p, atP L ((r : Nat) - 1) = p := ⟨_, rfl⟩
    obtain ⟨i11, hi11⟩ : ∃ b, isP L ((r : Nat) - 1) = b := ⟨_, rfl⟩
    rw [hp11] at hv11
    rw [hi11] at he
    obtain ⟨A511, c511, A611, c611, M611, e6, _⟩ := id hv11
    rw [e6] at he hv11
    subst he
    have HS11 := Lib.hid (HS10.out.below hb11)
    have HA11 := Lib.hid (HA10.out.next hb11 HA10.out.lt)
    have HR11 := Lib.hid (HR10.out.next hb11 HR10.out.lt)
    have z0 := HA11.out.c0
    have z1 := HA11.out.c1
    have y0 := HA11.out.frozen 0
    have y1 := HA11.out.frozen 1
    obtain ⟨w12, hw12⟩ : ∃ X, (w11.setCell ⟨w6.heap.size, 0, none⟩ (.slice A511 p11.1.length c511)).setCell ⟨w6.heap.size, 1, none⟩ (.slice A611 p11.2.length c611) = X := ⟨_, rfl⟩
    have HA12 : Hid (PBox w12 w6.heap.size (.slice A511 p11.1.length c511) (.slice A611 p11.2.length c611)) := by show PBox _ _ _ _; rw [← hw12]; exact HA11.out.set
    have HS12 : Hid (TlS w vu vs w12) := by show TlS _ _ _ _; rw [← hw12]; exact (HS11.out.set HBA.out _).set HBA.out _
    have HR12 : Hid (RBox w12 w8.heap.size (.string ⟨p1.1.toArray⟩) (.string ⟨p1.2.toArray⟩)) := by show RBox _ _ _ _; rw [← hw12]; exact (HR11.out.other (Nat.ne_of_gt HNE.out)).other (Nat.ne_of_gt HNE.out)
    have HV12 : Hid (PrV w12 w10.heap.size (.agg #[.slice A511 p11.1.length c511, .slice A611 p11.2.length c611]) p11) := by show PrV _ _ _ _; rw [← hw12]; exact hv11.far2 HA11.out
    have HL12 : Hid (w10.heap.size ≤ w12.heap.size) := by show _ ≤ _; rw [← hw12]; simpa using hb11.size
    have HLX11 : Hid (w.heap.size ≤ w10.heap.size) := HS10.out.low.size
    have HAC := Lib.hid (atR_any Au cu L ((r : Nat) - 1) w12 (HU.out w12 HS12.out.low) HF.out)
    rw [hp11, hi11] at HAC
    clear HBK hv11 e6 hb11 hp11 hi11
    have b0 := HB0.out w12 HS12.out
    have hwr : IntKind.i64.wrap ((r : Int) - 1) = (r : Int) - 1 := IntWalk.i64_in _ (by have := HRK.out; rw [HRR.out] at this; omega)
    go_wp2_with fail
    try rw [hw12]
    clear hw12 z0 z1 y0 y1 hwr
    refine HAC.out.mono ?_
    rintro e w13 ⟨rfl, hb13⟩
    have HS13 := Lib.hid (HS12.out.below hb13)
    have HA13 := Lib.hid (HA12.out.next hb13 HA12.out.lt)
    have HR13 := Lib.hid (HR12.out.next hb13 HR12.out.lt)
    have z0 := HR13.out.cell 0
    have z1 := HR13.out.cell 1
    have y0 := HR13.out.frozen 0
    have y1 := HR13.out.frozen 1
    obtain ⟨w14, hw14⟩ : ∃ X, (w13.setCell ⟨w8.heap.size, 0, none⟩ (.string ⟨p11.1.toArray⟩)).setCell ⟨w8.heap.size, 1, none⟩ (.string ⟨p11.2.toArray⟩) = X := ⟨_, rfl⟩
    have HR14 : Hid (RBox w14 w8.heap.size (.string ⟨p11.1.toArray⟩) (.string ⟨p11.2.toArray⟩)) := by show RBox _ _ _ _; rw [← hw14]; exact HR13.out.set
    have HBB : Hid (w.heap.size + 2 ≤ w8.heap.size) := Nat.le_trans HBA.out (Nat.le_of_lt HNE.out)
    have HS14 : Hid (TlS w vu vs w14) := by show TlS _ _ _ _; rw [← hw14]; exact (HS13.out.set HBB.out _).set HBB.out _
    have HA14 : Hid (PBox w14 w6.heap.size (.slice A511 p11.1.length c511) (.slice A611 p11.2.length c611)) := by show PBox _ _ _ _; rw [← hw14]; exact (HA13.out.other (Nat.ne_of_lt HNE.out)).other (Nat.ne_of_lt HNE.out)
    have HV14 : Hid (PrV w14 w10.heap.size (.agg #[.slice A511 p11.1.length c511, .slice A611 p11.2.length c611]) p11) := by show PrV _ _ _ _; rw [← hw14]; exact (HV12.out.next hb13).far2R HR13.out
    have HL14 : Hid (w10.heap.size ≤ w14.heap.size) := by show _ ≤ _; rw [← hw14]; have := HL12.out; have := hb13.size; simp; omega
    have HO := Lib.hid (one_any _ i11 w10.heap.size p11 w14 HV14.out HL14.out)
    have a0 := HA14.out.c0
    have a1 := HA14.out.c1
    have d0 := HR14.out.cell 0
    have d1 := HR14.out.cell 1
    clear b0 HAC hb13 HBB
    go_wp2_with fail
    try rw [hw14]
    clear hw14 z0 z1 y0 y1
    refine HO.out.mono ?_
    rintro e w15 ⟨rfl, hk15⟩
    have HS15 := Lib.hid (HS14.out.keepU hk15 HLX11.out)
    have HA15 := Lib.hid (HA14.out.keepU hk15)
    have HR15 := Lib.hid (HR14.out.keepU hk15)
    have HBK := Lib.hid (atM_any x.n w15 (HT.out w15 HS15.out.low) hN0.out hN1.out)
    clear HO a0 a1 d0 d1 hk15 b2
    have b5 := HX5.out w15 HS15.out
    go_wp2_with fail
    refine HBK.out.mono ?_
    rintro e w16 ⟨v11, he, hv11, hb11⟩
    obtain ⟨p16, hp16⟩ : ∃ p, atP L (x.n) = p := ⟨_, rfl⟩
    obtain ⟨i16, hi16⟩ : ∃ b, isP L (x.n) = b := ⟨_, rfl⟩
    rw [hp16] at hv11
    rw [hi16] at he
    obtain ⟨A516, c516, A616, c616, M616, e6, _⟩ := id hv11
    rw [e6] at he hv11
    subst he
    have HS16 := Lib.hid (HS15.out.below hb11)
    have HA16 := Lib.hid (HA15.out.next hb11 HA15.out.lt)
    have HR16 := Lib.hid (HR15.out.next hb11 HR15.out.lt)
    have z0 := HA16.out.c0
    have z1 := HA16.out.c1
    have y0 := HA16.out.frozen 0
    have y1 := HA16.out.frozen 1
    obtain ⟨w17, hw12⟩ : ∃ X, (w16.setCell ⟨w6.heap.size, 0, none⟩ (.slice A516 p16.1.length c516)).setCell ⟨w6.heap.size, 1, none⟩ (.slice A616 p16.2.length c616) = X := ⟨_, rfl⟩
    have HA17 : Hid (PBox w17 w6.heap.size (.slice A516 p16.1.length c516) (.slice A616 p16.2.length c616)) := by show PBox _ _ _ _; rw [← hw12]; exact HA16.out.set
    have HS17 : Hid (TlS w vu vs w17) := by show TlS _ _ _ _; rw [← hw12]; exact (HS16.out.set HBA.out _).set HBA.out _
    have HR17 : Hid (RBox w17 w8.heap.size (.string ⟨p11.1.toArray⟩) (.string ⟨p11.2.toArray⟩)) := by show RBox _ _ _ _; rw [← hw12]; exact (HR16.out.other (Nat.ne_of_gt HNE.out)).other (Nat.ne_of_gt HNE.out)
    have HV17 : Hid (PrV w17 w15.heap.size (.agg #[.slice A516 p16.1.length c516, .slice A616 p16.2.length c616]) p16) := by show PrV _ _ _ _; rw [← hw12]; exact hv11.far2 HA16.out
    have HL17 : Hid (w15.heap.size ≤ w17.heap.size) := by show _ ≤ _; rw [← hw12]; simpa using hb11.size
    have HLX16 : Hid (w.heap.size ≤ w15.heap.size) := HS15.out.low.size
    have HAC := Lib.hid (atR_any Au cu L (x.n) w17 (HU.out w17 HS17.out.low) HF.out)
    rw [hp16, hi16] at HAC
    clear HBK hv11 e6 hb11 hp16 hi16
    have b0 := HB0.out w17 HS17.out
    have b5 := HX5.out w17 HS17.out
    have hwr : IntKind.i64.wrap ((r : Int) - 1) = (r : Int) - 1 := IntWalk.i64_in _ (by have := HRK.out; rw [HRR.out] at this; omega)
    go_wp2_with fail
    try rw [hw12]
    clear hw12 z0 z1 y0 y1 hwr
    refine HAC.out.mono ?_
    rintro e w18 ⟨rfl, hb13⟩
    have HS18 := Lib.hid (HS17.out.below hb13)
    have HA18 := Lib.hid (HA17.out.next hb13 HA17.out.lt)
    have HR18 := Lib.hid (HR17.out.next hb13 HR17.out.lt)
    have z0 := HR18.out.cell 0
    have z1 := HR18.out.cell 1
    have y0 := HR18.out.frozen 0
    have y1 := HR18.out.frozen 1
    obtain ⟨w19, hw14⟩ : ∃ X, (w18.setCell ⟨w8.heap.size, 0, none⟩ (.string ⟨p16.1.toArray⟩)).setCell ⟨w8.heap.size, 1, none⟩ (.string ⟨p16.2.toArray⟩) = X := ⟨_, rfl⟩
    have HR19 : Hid (RBox w19 w8.heap.size (.string ⟨p16.1.toArray⟩) (.string ⟨p16.2.toArray⟩)) := by show RBox _ _ _ _; rw [← hw14]; exact HR18.out.set
    have HBB : Hid (w.heap.size + 2 ≤ w8.heap.size) := Nat.le_trans HBA.out (Nat.le_of_lt HNE.out)
    have HS19 : Hid (TlS w vu vs w19) := by show TlS _ _ _ _; rw [← hw14]; exact (HS18.out.set HBB.out _).set HBB.out _
    have HA19 : Hid (PBox w19 w6.heap.size (.slice A516 p16.1.length c516) (.slice A616 p16.2.length c616)) := by show PBox _ _ _ _; rw [← hw14]; exact (HA18.out.other (Nat.ne_of_lt HNE.out)).other (Nat.ne_of_lt HNE.out)
    have HV19 : Hid (PrV w19 w15.heap.size (.agg #[.slice A516 p16.1.length c516, .slice A616 p16.2.length c616]) p16) := by show PrV _ _ _ _; rw [← hw14]; exact (HV17.out.next hb13).far2R HR18.out
    have HL19 : Hid (w15.heap.size ≤ w19.heap.size) := by show _ ≤ _; rw [← hw14]; have := HL17.out; have := hb13.size; simp; omega
    have HO := Lib.hid (one_any _ i16 w15.heap.size p16 w19 HV19.out HL19.out)
    have a0 := HA19.out.c0
    have a1 := HA19.out.c1
    have d0 := HR19.out.cell 0
    have d1 := HR19.out.cell 1
    clear b0 HAC hb13 HBB
    clear b5
    go_wp2_with fail
    try rw [hw14]
    clear hw14 z0 z1 y0 y1 a0 a1 d0 d1
    have HHE : Hid (TlS w vu vs w19 ∧ PBox w19 w6.heap.size (.slice A516 p16.1.length c516) (.slice A616 p16.2.length c616) ∧ RBox w19 w8.heap.size (.string ⟨p16.1.toArray⟩) (.string ⟨p16.2.toArray⟩) ∧ PrV w19 w15.heap.size (.agg #[.slice A516 p16.1.length c516, .slice A616 p16.2.length c616]) p16 ∧ w15.heap.size ≤ w19.heap.size) := ⟨HS19.out, HA19.out, HR19.out, HV19.out, HL19.out⟩
    obtain ⟨G, hG⟩ : ∃ G, rgL x.t x.n (fromL x.k L) = G := ⟨_, rfl⟩
    have HGL : Hid (G.length ≤ 1000000) := by show _ ≤ _; rw [← hG]; have := rg_len (k := x.k) (to := x.t) (most := x.n) HR.out; have := HF.out; omega
    have HRM : Hid (∀ X, TlS w vu vs X → Calls Try.prog 23 #[.pointer u, .slice A1 x.k.length c1, .slice A3 x.t.length c3, .int .i64 x.n] X fun e w' => ∃ v' qs, e = .returned v' ∧ OwnQ w' X.heap.size v' qs ∧ qs.map (·.1) = G ∧ Below X.heap.size X w') := fun X hX => by rw [← hG]; exact rangeM_any A1 A3 c1 c3 x.k x.t x.n X (HT.out X hX.low) (HK.out X hX.low) (HTO.out X hX.low)
    have HRD : Hid (∀ X, TlS w vu vs X → Calls Try.prog 45 #[.agg #[.slice Au L.length cu], .string ⟨x.k.toArray⟩, .string ⟨x.t.toArray⟩, .int .i64 x.n] X (RowEnd X G)) := fun X hX => by rw [← hG]; exact rangeR_any Au cu L x.k x.t x.n X (HU.out X hX.low) HF.out HR.out hN0.out hN1.out
    have HDR : Hid (∀ X, X = w19 → TlS w vu vs X.drew ∧ PBox X.drew w6.heap.size (.slice A516 p16.1.length c516) (.slice A616 p16.2.length c616) ∧ RBox X.drew w8.heap.size (.string ⟨p16.1.toArray⟩) (.string ⟨p16.2.toArray⟩)) := fun X e => by
      subst e
      exact ⟨HS19.out.below (qb_dn (Below.refl _ _) 1), HA19.out, HR19.out⟩
    have HS0 := Lib.hid (HDR.out w19 rfl)
    have HVD : Hid (PrV w19.drew w15.heap.size (.agg #[.slice A516 p16.1.length c516, .slice A616 p16.2.length c616]) p16 ∧ w15.heap.size ≤ w19.drew.heap.size) := ⟨HV19.out.next (qb_dn (Below.refl _ _) 1), HL19.out⟩
    clear hG HHE HDR HO HBA HNE
    obtain ⟨wz, hwz⟩ : ∃ X, w19.drew = X := ⟨_, rfl⟩
    refine wp_region_held_drew (S := fun X => TlS w vu vs X ∧ PBox X w6.heap.size (.slice A516 p16.1.length c516) (.slice A616 p16.2.length c616) ∧ RBox X w8.heap.size (.string ⟨p16.1.toArray⟩) (.string ⟨p16.2.toArray⟩)) (by kernel_rfl) HS0.out (fun hHeld => ?_)
    rw [hwz] at hHeld HVD ⊢
    clear hwz HS0
    refine takeV 0 (some 126) ((.agg #[.slice A516 p16.1.length c516, .slice A616 p16.2.length c616])) rfl rfl (by kernel_rfl) (by kernel_rfl) (by kernel_rfl) (fun _ _ _ h => h) (by rfl) (by (intro _w hSw; have q0 := hSw.2.1.c0; have q1 := hSw.2.1.c1; clear hSw; go_simp)) (by assumption) ?_
    simp only [Act.put, List.setIfInBounds_toArray, List.set_cons_zero, List.set_cons_succ]
    refine takeV 1 (some 127) ((.bool i16)) rfl rfl (by kernel_rfl) (by kernel_rfl) (by kernel_rfl) (fun _ _ _ h => h) (by rfl) (by (intro _w _hSw; (try dsimp only at _hSw); go_simp)) (by assumption) ?_
    simp only [Act.put, List.setIfInBounds_toArray, List.set_cons_zero, List.set_cons_succ]
    refine takeV 2 (some 128) ((.agg #[.string ⟨p16.1.toArray⟩, .string ⟨p16.2.toArray⟩])) rfl rfl (by kernel_rfl) (by kernel_rfl) (by kernel_rfl) (fun _ _ _ h => h) (by rfl) (by (intro _w hSw; have q0 := hSw.2.2.cell 0; have q1 := hSw.2.2.cell 1; clear hSw; go_simp)) (by assumption) ?_
    simp only [Act.put, List.setIfInBounds_toArray, List.set_cons_zero, List.set_cons_succ]
    refine takeV 3 (some 129) ((.bool i16)) rfl rfl (by kernel_rfl) (by kernel_rfl) (by kernel_rfl) (fun _ _ _ h => h) (by rfl) (by (intro _w _hSw; (try dsimp only at _hSw); go_simp)) (by assumption) ?_
    simp only [Act.put, List.setIfInBounds_toArray, List.set_cons_zero, List.set_cons_succ]
    refine callV 4 rfl (by kernel_rfl) (by rfl) (fun K hK => ?_)
    go_simp
    refine (one_any _ i16 w15.heap.size p16 _ HVD.out.1 HVD.out.2).mono ?_
    rintro e wf ⟨rfl, hkf⟩
    refine hK.out _ _ ⟨hHeld.1.keepU hkf HLX16.out, hHeld.2.1.keepU hkf, hHeld.2.2.keepU hkf⟩ (fun hHeld2 => ?_)
    clear hK K hHeld hkf HVD
    have hHeld := hHeld2
    clear hHeld2
    try simp only [Act.put, List.setIfInBounds_toArray, List.set_cons_zero, List.set_cons_succ]
    refine takeV 5 (some 131) ((.bool true)) rfl rfl (by kernel_rfl) (by kernel_rfl) (by kernel_rfl) (fun _ _ _ h => h) (by rfl) (by (intro _w _hSw; (try dsimp only at _hSw); go_simp)) (by assumption) ?_
    simp only [Act.put, List.setIfInBounds_toArray, List.set_cons_zero, List.set_cons_succ]
    refine takeV 6 (some 132) ((.pointer u)) rfl rfl (by kernel_rfl) (by kernel_rfl) (by kernel_rfl) (fun _ _ _ h => h) (by rfl) (by (intro _w _hSw; (try dsimp only at _hSw); go_simp)) (by assumption) ?_
    simp only [Act.put, List.setIfInBounds_toArray, List.set_cons_zero, List.set_cons_succ]
    refine takeV 7 (some 133) ((.pointer (some ⟨w.heap.size + 1, 2, none⟩))) rfl rfl (by kernel_rfl) (by kernel_rfl) (by kernel_rfl) (fun _ _ _ h => h) (by rfl) (by (intro _w _hSw; (try dsimp only at _hSw); go_simp)) (by assumption) ?_
    simp only [Act.put, List.setIfInBounds_toArray, List.set_cons_zero, List.set_cons_succ]
    refine takeV 8 (some 134) ((.slice A1 x.k.length c1)) rfl rfl (by kernel_rfl) (by kernel_rfl) (by kernel_rfl) (fun _ _ _ h => h) (by rfl) (by (intro _w hSw; have q0 := HX2.out _ hSw.1; clear hSw; go_simp)) (by assumption) ?_
    simp only [Act.put, List.setIfInBounds_toArray, List.set_cons_zero, List.set_cons_succ]
    refine takeV 9 (some 135) ((.pointer (some ⟨w.heap.size + 1, 4, none⟩))) rfl rfl (by kernel_rfl) (by kernel_rfl) (by kernel_rfl) (fun _ _ _ h => h) (by rfl) (by (intro _w _hSw; (try dsimp only at _hSw); go_simp)) (by assumption) ?_
    simp only [Act.put, List.setIfInBounds_toArray, List.set_cons_zero, List.set_cons_succ]
    refine takeV 10 (some 136) ((.slice A3 x.t.length c3)) rfl rfl (by kernel_rfl) (by kernel_rfl) (by kernel_rfl) (fun _ _ _ h => h) (by rfl) (by (intro _w hSw; have q0 := HX4.out _ hSw.1; clear hSw; go_simp)) (by assumption) ?_
    simp only [Act.put, List.setIfInBounds_toArray, List.set_cons_zero, List.set_cons_succ]
    refine takeV 11 (some 137) ((.pointer (some ⟨w.heap.size + 1, 5, none⟩))) rfl rfl (by kernel_rfl) (by kernel_rfl) (by kernel_rfl) (fun _ _ _ h => h) (by rfl) (by (intro _w _hSw; (try dsimp only at _hSw); go_simp)) (by assumption) ?_
    simp only [Act.put, List.setIfInBounds_toArray, List.set_cons_zero, List.set_cons_succ]
    refine takeV 12 (some 138) ((.int .i64 x.n)) rfl rfl (by kernel_rfl) (by kernel_rfl) (by kernel_rfl) (fun _ _ _ h => h) (by rfl) (by (intro _w hSw; have q0 := HX5.out _ hSw.1; clear hSw; go_simp)) (by assumption) ?_
    simp only [Act.put, List.setIfInBounds_toArray, List.set_cons_zero, List.set_cons_succ]
    refine takeV 14 (some 140) ((.agg #[.slice Au L.length cu])) rfl rfl (by kernel_rfl) (by kernel_rfl) (by kernel_rfl) (fun _ _ _ h => h) (by rfl) (by (intro _w hSw; have q0 := HB0.out _ hSw.1; clear hSw; go_simp)) (by assumption) ?_
    simp only [Act.put, List.setIfInBounds_toArray, List.set_cons_zero, List.set_cons_succ]
    refine takeV 15 (some 141) ((.string ⟨x.k.toArray⟩)) rfl rfl (by kernel_rfl) (by kernel_rfl) (by kernel_rfl) (fun _ _ _ h => h) (by rfl) (by (intro _w _hSw; (try dsimp only at _hSw); go_simp)) (by assumption) ?_
    simp only [Act.put, List.setIfInBounds_toArray, List.set_cons_zero, List.set_cons_succ]
    refine takeV 16 (some 142) ((.pointer (some ⟨w.heap.size + 1, 4, none⟩))) rfl rfl (by kernel_rfl) (by kernel_rfl) (by kernel_rfl) (fun _ _ _ h => h) (by rfl) (by (intro _w _hSw; (try dsimp only at _hSw); go_simp)) (by assumption) ?_
    simp only [Act.put, List.setIfInBounds_toArray, List.set_cons_zero, List.set_cons_succ]
    refine takeV 17 (some 143) ((.slice A3 x.t.length c3)) rfl rfl (by kernel_rfl) (by kernel_rfl) (by kernel_rfl) (fun _ _ _ h => h) (by rfl) (by (intro _w hSw; have q0 := HX4.out _ hSw.1; clear hSw; go_simp)) (by assumption) ?_
    simp only [Act.put, List.setIfInBounds_toArray, List.set_cons_zero, List.set_cons_succ]
    refine takeV 18 (some 144) ((.string ⟨x.t.toArray⟩)) rfl rfl (by kernel_rfl) (by kernel_rfl) (by kernel_rfl) (fun _ _ _ h => h) (by rfl) (by (intro _w hSw; have q0 := HCT.out _ hSw.1.low; clear hSw; go_simp)) (by assumption) ?_
    simp only [Act.put, List.setIfInBounds_toArray, List.set_cons_zero, List.set_cons_succ]
    refine takeV 19 (some 145) ((.pointer (some ⟨w.heap.size + 1, 5, none⟩))) rfl rfl (by kernel_rfl) (by kernel_rfl) (by kernel_rfl) (fun _ _ _ h => h) (by rfl) (by (intro _w _hSw; (try dsimp only at _hSw); go_simp)) (by assumption) ?_
    simp only [Act.put, List.setIfInBounds_toArray, List.set_cons_zero, List.set_cons_succ]
    refine takeV 20 (some 146) ((.int .i64 x.n)) rfl rfl (by kernel_rfl) (by kernel_rfl) (by kernel_rfl) (fun _ _ _ h => h) (by rfl) (by (intro _w hSw; have q0 := HX5.out _ hSw.1; clear hSw; go_simp)) (by assumption) ?_
    simp only [Act.put, List.setIfInBounds_toArray, List.set_cons_zero, List.set_cons_succ]
    refine callV 13 rfl (by kernel_rfl) (by rfl) (fun K hK => ?_)
    go_simp
    refine (HRM.out _ hHeld.1).mono ?_
    rintro e wf ⟨vf, qs, rfl, ho, hq, hbf⟩
    have hn := ownQ_len ho hq
    obtain ⟨A9, c9, rfl⟩ := ho.form
    rw [hn] at ho ⊢
    have HO := Lib.hid ho
    have HQ := Lib.hid hq
    have HLY : Hid (w.heap.size ≤ wf.heap.size) := Nat.le_trans hHeld.1.low.size hbf.size
    have HLZ := Lib.hid hHeld.1.low.size
    refine hK.out _ _ ⟨hHeld.1.below hbf, hHeld.2.1.next hbf hHeld.2.1.lt, hHeld.2.2.next hbf hHeld.2.2.lt⟩ (fun hHeld2 => ?_)
    clear hK K hHeld hbf ho hq hn
    have hHeld := hHeld2
    clear hHeld2
    try simp only [Act.put, List.setIfInBounds_toArray, List.set_cons_zero, List.set_cons_succ]
    refine callV 21 rfl (by kernel_rfl) (by rfl) (fun K hK => ?_)
    go_simp
    refine (HRD.out _ hHeld.1).mono ?_
    rintro e wg ⟨A8, c8, rfl, hs8, hbg⟩
    have HO8 := Lib.hid (HO.out.next hbg)
    have HS8 := Lib.hid hs8
    refine hK.out _ _ ⟨hHeld.1.below hbg, hHeld.2.1.next hbg hHeld.2.1.lt, hHeld.2.2.next hbg hHeld.2.2.lt⟩ (fun hHeld2 => ?_)
    clear hK K hHeld hbg hs8 HO
    have hHeld := hHeld2
    clear hHeld2
    try simp only [Act.put, List.setIfInBounds_toArray, List.set_cons_zero, List.set_cons_succ]
    refine callV 22 rfl (by kernel_rfl) (by rfl) (fun K hK => ?_)
    go_simp
    refine (same_any A9 A8 c9 c8 G.length _ qs G wg HO8.out HQ.out rfl HS8.out HGL.out).mono ?_
    rintro e wh ⟨rfl, hkh⟩
    refine hK.out _ _ ⟨hHeld.1.keepU hkh HLZ.out, hHeld.2.1.keepU hkh, hHeld.2.2.keepU hkh⟩ (fun hHeld2 => ?_)
    clear hK K hHeld hkh HO8 HS8
    have hHeld := hHeld2
    clear hHeld2
    try simp only [Act.put, List.setIfInBounds_toArray, List.set_cons_zero, List.set_cons_succ]
    refine takeV 23 (some 149) ((.bool true)) rfl rfl (by kernel_rfl) (by kernel_rfl) (by kernel_rfl) (fun _ _ _ h => h) (by rfl) (by (intro _w _hSw; (try dsimp only at _hSw); go_simp)) (by assumption) ?_
    simp only [Act.put, List.setIfInBounds_toArray, List.set_cons_zero, List.set_cons_succ]
    refine takeV 24 (some 6) ((.bool true)) rfl rfl (by kernel_rfl) (by kernel_rfl) (by kernel_rfl) (fun _ _ _ h => h) (by rfl) (by (intro _w _hSw; (try dsimp only at _hSw); go_simp)) (by assumption) ?_
    simp only [Act.put, List.setIfInBounds_toArray, List.set_cons_zero, List.set_cons_succ]
    refine wpAnyH_done (by kernel_rfl) ?_ _
    have HFIN := Lib.hid hHeld.1.low
    clear hHeld
    go_wp2
    go_ret
    exact ⟨rfl, HFIN.out⟩
end Go.Proofs.Ytohpilamoglhcaa
