/-
  CONTRACTS: slices.Clone, own.
-/
import Derived.Test.YtohpilamoglhcaaQOv
namespace Go.Proofs.Ytohpilamoglhcaa
open Go.RowKit

theorem app_slice {w w' : World} {B : Nat} {l : By} {e : Ending} (h : App w B l e w') : ∃ A c, e = .returned (.slice A l.length c) ∧ OwnB w' B (.slice A l.length c) l ∧ Below B w w' := by
  obtain ⟨v, rfl, ho, hb⟩ := h
  rcases id ho.2 with ⟨rfl, h0⟩ | ⟨g, cap, cur, rfl, _⟩
  · exact ⟨none, 0, by rw [h0], by rw [h0]; exact ho, hb⟩
  · exact ⟨_, _, rfl, ho, hb⟩
set_option maxRecDepth 100000 in
set_option maxHeartbeats 400000 in
theorem clone_nil (c : Nat) (w : World) : Calls Try.prog 79 #[.slice none 0 c] w fun e w' => e = .returned (.slice none 0 0) ∧ w = w' := by
  have he := fun w => Lib.run_eql_slice_nil (P := Try.prog) w 57 5 none 0 c 0 0 Try.underlying57
  simp only [Option.isNone_none] at he
  go_enter Try.func79, Try.ntmps79
  go_wp2
  go_ret
  exact ⟨rfl, rfl⟩
theorem clone_all (A : Option Addr) (c : Nat) (l : By) (w : World) (hs : SlB w w.heap.size A l) (hl : l.length ≤ 100000) :
    Calls Try.prog 79 #[.slice A l.length c] w fun e w' => ∃ A' c', e = .returned (.slice A' l.length c') ∧ OwnB w' w.heap.size (.slice A' l.length c') l ∧ Below w.heap.size w w' := by
  cases A with
  | some a =>
    refine (clone_any a c l w hs hl).mono fun _ _ h => ?_
    obtain ⟨A, c, h1, h2, h3⟩ := app_slice h
    exact ⟨A, c, h1, h2, h3⟩
  | none =>
    have h0 : l = [] := by
      by_cases hl : l = []
      · exact hl
      · obtain ⟨a, e, _⟩ := hs hl
        cases e
    subst h0
    refine (clone_nil c w).mono ?_
    rintro e w' ⟨rfl, rfl⟩
    exact ⟨none, 0, rfl, ownB_nil _ _, Below.refl _ _⟩
/-- a pair that a call has to itself: the value's bytes lie behind the key's -/
def PrV (w : World) (B : Nat) (v : Value) (p : Pr) : Prop :=
  ∃ A c A' c' M, v = .agg #[.slice A p.1.length c, .slice A' p.2.length c'] ∧ OwnB w B (.slice A p.1.length c) p.1 ∧ OwnB w M (.slice A' p.2.length c') p.2 ∧ B ≤ M ∧ M ≤ w.heap.size ∧ ∀ g, (Value.slice A p.1.length c).ownBlock = some g → g < M
theorem ownB_lt {w : World} {B : Nat} {v : Value} {l : By} (h : OwnB w B v l) : ∀ g, v.ownBlock = some g → g < w.heap.size := fun g hg => (World.ownsRow.lt h g hg).2
theorem slB_up {w X : World} {A : Option Addr} {k : By} (h : SlB w w.heap.size A k) (hX : Below w.heap.size w X) : SlB X X.heap.size A k := fun h0 => by
  obtain ⟨a, e, hlt, hc⟩ := h.next hX (Nat.le_refl _) h0
  exact ⟨a, e, Nat.lt_of_lt_of_le hlt hX.size, hc⟩
/-- a pair's box -/
def PBox (w : World) (b : Nat) (v1 v2 : Value) : Prop := w.heap[b]? = some (.cells #[v1, v2] 93 (0, 0))
theorem PBox.cell {w : World} {b : Nat} {v1 v2 : Value} (h : PBox w b v1 v2) (j : Nat) : w.cell? ⟨b, j, none⟩ = (#[v1, v2])[j]? := by
  unfold PBox at h; simp [World.cell?, h]
theorem PBox.c0 {w : World} {b : Nat} {v1 v2 : Value} (h : PBox w b v1 v2) : w.cell? ⟨b, 0, none⟩ = some v1 := h.cell 0
theorem PBox.c1 {w : World} {b : Nat} {v1 v2 : Value} (h : PBox w b v1 v2) : w.cell? ⟨b, 1, none⟩ = some v2 := h.cell 1
theorem PBox.frozen {w : World} {b : Nat} {v1 v2 : Value} (h : PBox w b v1 v2) (j : Nat) : w.frozen? ⟨b, j, none⟩ = false := by unfold PBox at h; simp [World.frozen?, h]
theorem PBox.next {w w' : World} {b : Nat} {v1 v2 : Value} (h : PBox w b v1 v2) {B : Nat} (hb : Below B w w') (hB : b < B) : PBox w' b v1 v2 := (hb.block b hB).trans h
theorem PBox.lt {w : World} {b : Nat} {v1 v2 : Value} (h : PBox w b v1 v2) : b < w.heap.size := (Array.getElem?_eq_some_iff.1 h).1
theorem PBox.set {w : World} {b : Nat} {v1 v2 u1 u2 : Value} (h : PBox w b v1 v2) : PBox ((w.setCell ⟨b, 0, none⟩ u1).setCell ⟨b, 1, none⟩ u2) b u1 u2 := by
  have h1 : (w.setCell ⟨b, 0, none⟩ u1).heap[b]? = some (.cells #[u1, v2] 93 (0, 0)) := (heap_setCell_same _ _ _ _ _ _ h).trans (by simp)
  exact (heap_setCell_same _ _ _ _ _ _ h1).trans (by simp)
/-- a row that lies ahead of a box that is written -/
theorem ownB_far {w : World} {B b j : Nat} {v u v1 v2 : Value} {l : By} (h : OwnB w B v l) (hb : PBox w b v1 v2) : OwnB (w.setCell ⟨b, j, none⟩ u) B v l := by
  have hg : w.grownBy (w.setCell ⟨b, j, none⟩ u) (some b) := ⟨rfl, rfl, rfl, by simp, fun k _ hk => Below.heap_setCell w ⟨b, j, none⟩ u k (fun e => hk (by rw [e]))⟩
  exact World.ownsRow.kept h hg (.inr (fun e => blk_own hb (by decide) h e.symm))
theorem PrV.next {w w' : World} {B : Nat} {v : Value} {p : Pr} (h : PrV w B v p) (hb : Below w.heap.size w w') : PrV w' B v p := by
  obtain ⟨A, c, A', c', M, e, h1, h2, h3, h4, h5⟩ := h
  exact ⟨A, c, A', c', M, e, h1.next hb, h2.next hb, h3, Nat.le_trans h4 hb.size, h5⟩
theorem PrV.far {w : World} {B b j : Nat} {v u v1 v2 : Value} {p : Pr} (h : PrV w B v p) (hb : PBox w b v1 v2) : PrV (w.setCell ⟨b, j, none⟩ u) B v p := by
  obtain ⟨A, c, A', c', M, e, h1, h2, h3, h4, h5⟩ := h
  exact ⟨A, c, A', c', M, e, ownB_far h1 hb, ownB_far h2 hb, h3, by simpa using h4, h5⟩
theorem PrV.from_ {w : World} {B B' : Nat} {v : Value} {p : Pr} (h : PrV w B v p) (hB : B' ≤ B) : PrV w B' v p := by
  obtain ⟨A, c, A', c', M, e, h1, h2, h3, h4, h5⟩ := h
  exact ⟨A, c, A', c', M, e, h1.from_ hB, h2, Nat.le_trans hB h3, h4, h5⟩
theorem results_cell_one' {fn : Func} {p : Tmp} {ty : TypeId} (h : fn.results = #[.cell p ty]) (tmps : Array Value) (P : Program) (w : World) :
    (results fn tmps).run P w = ((asAddr (tmps.getD p undef)).run P w).andThen fun a w₁ => (loadVar ty a).run P w₁ := by
  simp only [results, h]
  simp [Sem.run_bind]
/-- own's worlds: what was there, the copy of the pair -/
def OwS (w : World) (v1 v2 : Value) (X : World) : Prop := Below w.heap.size w X ∧ PBox X w.heap.size v1 v2 ∧ w.heap.size + 1 < X.heap.size
set_option maxRecDepth 100000 in
set_option maxHeartbeats 2000000 in
theorem own_any (A A' : Option Addr) (c c' : Nat) (p : Pr) (w : World) (h1 : SlB w w.heap.size A p.1) (h2 : SlB w w.heap.size A' p.2) (hl : p.1.length ≤ 100000) (hl' : p.2.length ≤ 100000) :
    Calls Try.prog 33 #[.agg #[.slice A p.1.length c, .slice A' p.2.length c']] w fun e w' => ∃ v, e = .returned v ∧ PrV w' w.heap.size v p ∧ Below w.heap.size w w' := by
  have HK1 := Lib.hid (fun X (hX : Below w.heap.size w X) => clone_all A c p.1 X (slB_up h1 hX) hl)
  have HK2 := Lib.hid (fun X (hX : Below w.heap.size w X) => clone_all A' c' p.2 X (slB_up h2 hX) hl')
  clear h1 h2
  go_enter Try.func33, Try.ntmps33
  go_wp2_with fail
  obtain ⟨w1, hw1⟩ : ∃ X, w.alloc (.cells #[.slice A p.1.length c, .slice A' p.2.length c'] 93) = X := ⟨_, rfl⟩
  have HP1 : Hid (PBox w1 w.heap.size (.slice A p.1.length c) (.slice A' p.2.length c')) := by show PBox _ _ _ _; rw [← hw1]; exact heap_alloc_new w _
  have hs1 : w1.heap.size = w.heap.size + 1 := by rw [← hw1]; simp
  have hb1 : Below w.heap.size w w1 := by rw [← hw1]; exact (Below.refl _ _).alloc (Nat.le_refl _) _
  rw [hw1]
  clear hw1
  obtain ⟨w2, hw2⟩ : ∃ X, (w1.alloc (.cells #[.slice none 0 0, .slice none 0 0] 93)).drew = X := ⟨_, rfl⟩
  have HP2 : Hid (PBox w2 (w.heap.size + 1) (.slice none 0 0) (.slice none 0 0)) := by show PBox _ _ _ _; rw [← hw2, ← hs1]; exact heap_alloc_new w1 _
  have HS : Hid (OwS w (.slice A p.1.length c) (.slice A' p.2.length c') w2) := by
    have hb2 : Below w1.heap.size w1 w2 := by rw [← hw2]; exact qb_dn ((Below.refl _ _).alloc (Nat.le_refl _) _) 1
    refine ⟨hb1.trans (hb2.mono hb1.size), HP1.out.next hb2 (by omega), ?_⟩
    have : w2.heap.size = w1.heap.size + 1 := by rw [← hw2]; simp
    omega
  refine wp_region_held_drew (S := OwS w (.slice A p.1.length c) (.slice A' p.2.length c')) (by kernel_rfl) (by rw [hw2]; exact HS.out) (fun hHeld => ?_)
  rw [hw2] at hHeld ⊢
  clear hw2 HP1 hs1 hb1 HS
  refine takeV 0 (some 3) ((.pointer (some ⟨w.heap.size, 0, none⟩))) rfl rfl (by kernel_rfl) (by kernel_rfl) (by kernel_rfl) (fun _ _ _ h => h) (by rfl) (by (intro _w _hSw; (try dsimp only at _hSw); go_simp)) (by assumption) ?_
  simp only [Act.put, List.setIfInBounds_toArray, List.set_cons_zero, List.set_cons_succ]
  refine takeV 1 (some 4) ((.slice A p.1.length c)) rfl rfl (by kernel_rfl) (by kernel_rfl) (by kernel_rfl) (fun _ _ _ h => h) (by rfl) (by (intro _w hSw; have k0 := hSw.2.1.c0; clear hSw; go_simp)) (by assumption) ?_
  simp only [Act.put, List.setIfInBounds_toArray, List.set_cons_zero, List.set_cons_succ]
  refine takeV 3 (some 6) ((.pointer (some ⟨w.heap.size, 1, none⟩))) rfl rfl (by kernel_rfl) (by kernel_rfl) (by kernel_rfl) (fun _ _ _ h => h) (by rfl) (by (intro _w _hSw; (try dsimp only at _hSw); go_simp)) (by assumption) ?_
  simp only [Act.put, List.setIfInBounds_toArray, List.set_cons_zero, List.set_cons_succ]
  refine takeV 4 (some 7) ((.slice A' p.2.length c')) rfl rfl (by kernel_rfl) (by kernel_rfl) (by kernel_rfl) (fun _ _ _ h => h) (by rfl) (by (intro _w hSw; have k0 := hSw.2.1.c1; clear hSw; go_simp)) (by assumption) ?_
  simp only [Act.put, List.setIfInBounds_toArray, List.set_cons_zero, List.set_cons_succ]
  refine callV 2 rfl (by kernel_rfl) (by rfl) (fun K hK => ?_)
  go_simp
  refine (HK1.out _ hHeld.1).mono ?_
  rintro e w3 ⟨A3, c3, rfl, ho3, hb3⟩
  have HO3 := Lib.hid ho3
  have HP3 := Lib.hid (HP2.out.next hb3 HP2.out.lt)
  have HB3 := Lib.hid (hHeld.1.trans (hb3.mono hHeld.1.size))
  refine hK.out _ _ ⟨HB3.out, hHeld.2.1.next hb3 hHeld.2.1.lt, by have := hHeld.2.2; have := hb3.size; omega⟩ (fun hHeld2 => ?_)
  have HZ3 := Lib.hid hHeld.1.size
  clear hK K hHeld ho3 hb3
  have hHeld := hHeld2
  clear hHeld2
  try simp only [Act.put, List.setIfInBounds_toArray, List.set_cons_zero, List.set_cons_succ]
  refine callV 5 rfl (by kernel_rfl) (by rfl) (fun K hK => ?_)
  go_simp
  refine (HK2.out _ hHeld.1).mono ?_
  rintro e w4 ⟨A4, c4, rfl, ho4, hb4⟩
  have HO4 := Lib.hid ho4
  have HO3' := Lib.hid (HO3.out.next hb4)
  have HP4 := Lib.hid (HP3.out.next hb4 HP3.out.lt)
  have HB4 := Lib.hid (hHeld.1.trans (hb4.mono hHeld.1.size))
  have HV4 : Hid (PrV w4 w.heap.size (.agg #[.slice A3 p.1.length c3, .slice A4 p.2.length c4]) p) := ⟨A3, c3, A4, c4, w3.heap.size, rfl, HO3'.out.from_ HZ3.out, ho4, HB3.out.size, hb4.size, ownB_lt HO3.out⟩
  refine hK.out _ _ ⟨HB4.out, hHeld.2.1.next hb4 hHeld.2.1.lt, by have := hHeld.2.2; have := hb4.size; omega⟩ (fun hHeld2 => ?_)
  clear hK K hHeld ho4 hb4
  have hHeld := hHeld2
  clear hHeld2
  try simp only [Act.put, List.setIfInBounds_toArray, List.set_cons_zero, List.set_cons_succ]
  refine takeV 6 (some 9) ((.agg #[.slice A3 p.1.length c3, .slice A4 p.2.length c4])) rfl rfl (by kernel_rfl) (by kernel_rfl) (by kernel_rfl) (fun _ _ _ h => h) (by rfl) (by (intro _w _hSw; (try dsimp only at _hSw); go_simp)) (by assumption) ?_
  simp only [Act.put, List.setIfInBounds_toArray, List.set_cons_zero, List.set_cons_succ]
  have z0 := HP4.out.c0
  have z1 := HP4.out.c1
  have y0 := HP4.out.frozen 0
  have y1 := HP4.out.frozen 1
  refine callV 7 rfl (by kernel_rfl) (by rfl) (fun K hK => ?_)
  go_simp
  obtain ⟨w5, hw5⟩ : ∃ X, (w4.setCell ⟨w.heap.size + 1, 0, none⟩ (.slice A3 p.1.length c3)).setCell ⟨w.heap.size + 1, 1, none⟩ (.slice A4 p.2.length c4) = X := ⟨_, rfl⟩
  have hp5 : PBox w5 (w.heap.size + 1) (.slice A3 p.1.length c3) (.slice A4 p.2.length c4) := by rw [← hw5]; exact HP4.out.set
  have hb5 : Below (w.heap.size + 1) w4 w5 := by rw [← hw5]; exact ((Below.refl _ _).setCell (p := ⟨w.heap.size + 1, 0, none⟩) (Nat.le_refl _) _).setCell (p := ⟨w.heap.size + 1, 1, none⟩) (Nat.le_refl _) _
  have hv5 : PrV w5 w.heap.size (.agg #[.slice A3 p.1.length c3, .slice A4 p.2.length c4]) p := by
    rw [← hw5]
    have h1 : PBox (w4.setCell ⟨w.heap.size + 1, 0, none⟩ (.slice A3 p.1.length c3)) (w.heap.size + 1) (.slice A3 p.1.length c3) (.slice none 0 0) := (heap_setCell_same _ _ _ _ _ _ HP4.out).trans (by simp)
    exact (HV4.out.far HP4.out).far h1
  rw [hw5]
  refine hK.out _ _ ⟨HB4.out.trans (hb5.mono (Nat.le_succ _)), hHeld.2.1.next hb5 (Nat.lt_succ_self _), by have := hHeld.2.2; have := hb5.size; omega⟩ (fun hHeld2 => ?_)
  have HB5 := Lib.hid hHeld2.1
  clear hK K hHeld hb5 hHeld2 hw5 z0 z1 y0 y1
  try simp only [Act.put, List.setIfInBounds_toArray, List.set_cons_zero, List.set_cons_succ]
  refine wpAnyH_done (by kernel_rfl) ?_ _
  have q0 := hp5.c0
  have q1 := hp5.c1
  go_wp2
  refine bodyPost_ret (v := .agg #[.slice A3 p.1.length c3, .slice A4 p.2.length c4]) ?_ rfl ⟨_, rfl, hv5, HB5.out⟩
  clear hv5 hp5
  rw [results_cell_one' rfl]
  simp [go_sem, q0, q1]
end Go.Proofs.Ytohpilamoglhcaa
