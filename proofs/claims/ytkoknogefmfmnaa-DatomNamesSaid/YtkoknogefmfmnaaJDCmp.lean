/-
  CONTRACT over datoms: Compare.
-/
import Derived.Shelf.RegionOpen
import Derived.Test.YtkoknogefmfmnaaJDTold
import Derived.Test.YtkoknogefmfmnaaJORefC
namespace Go.Proofs.Ytkoknogefmfmnaa
open Go.RowKit Go.Shelf
attribute [local go_sem] Oper.semAt_some

theorem DatAt.kept {W W' : World} {b : Nat} {d : Dat} {row : Option Nat} (h : DatAt W b d) (hg : W.grownBy W' row) (hr : some b ≠ row) : DatAt W' b d := (hg.block b h.lt hr).trans h
theorem PlcAt.kept {W W' : World} {b pe pa pv : Nat} {row : Option Nat} (h : PlcAt W b pe pa pv) (hg : W.grownBy W' row) (hr : some b ≠ row) : PlcAt W' b pe pa pv := (hg.block b h.lt hr).trans h
/-- the parts, E, A and V at any three places -/
def partsPl (pe pa pv : Nat) (d : Dat) : List PartP := (List.range 7).map (partPl pe pa pv d)
theorem partsPl_is (o : Int) (d : Dat) : partsPl (plE o) (plA o) (plV o) d = partsD o d := rfl
theorem partsPl_len (pe pa pv : Nat) (d : Dat) : (partsPl pe pa pv d).length = 7 := by unfold partsPl; simp
theorem partsPl_get (pe pa pv : Nat) (d : Dat) (i : Nat) (h : i < (partsPl pe pa pv d).length) : (partsPl pe pa pv d)[i] = partPl pe pa pv d i := by
  simp only [partsPl, List.getElem_map, List.getElem_range]
/-- what stands behind some rounds: all so far were the same -/
def DMid (w : World) (n bs bb bp pe pa pv : Nat) (a b : Dat) (pre : List (Fin 7)) (W : World) : Prop :=
  n ≤ W.heap.size ∧ Boxed W bs 3 (.int .i64 0) ∧ DatAt W bb b ∧ PlcAt W bp pe pa pv ∧ Below w.heap.size w W ∧ (pre <+: allF → ordPF (partsPl pe pa pv a) (partsPl pe pa pv b) 0 = ordPF (partsPl pe pa pv a) (partsPl pe pa pv b) pre.length)
theorem dMid_own (w : World) (bs bb bp pe pa pv n : Nat) (a b : Dat) (h0 : w.heap.size ≤ n) (h1 : bs < n) (h2 : bb < n) (h3 : bp < n) : OwnFrom n (DMid w n bs bb bp pe pa pv a b) := fun pre X Y row ⟨g0, g1, g2, g3, g4, g5⟩ hg hr => by
  have hne : ∀ b, b < n → some b ≠ row := fun b hb e => by have := (hr b e.symm).1; omega
  exact ⟨Nat.le_trans g0 hg.size, g1.kept hg (hne _ h1), g2.kept hg (hne _ h2), g3.kept hg (hne _ h3), g4.grown hg g4.size (fun j ej => by have := (hr j ej).1; omega), g5⟩
def DStop (w : World) (bs pe pa pv : Nat) (a b : Dat) (cd : Code) (pre : List (Fin 7)) (W : World) : Prop :=
  cd = .exit 0 ∧ Below w.heap.size w W ∧ ∃ g : Int, Boxed W bs 3 (.int .i64 g) ∧ (pre <+: allF → ordPF (partsPl pe pa pv a) (partsPl pe pa pv b) 0 = g)
theorem dStop_own (w : World) (bs pe pa pv n : Nat) (a b : Dat) (h0 : w.heap.size ≤ n) (h1 : bs < n) (cd : Code) : OwnFrom n (DStop w bs pe pa pv a b cd) := fun pre X Y row ⟨e, g4, g, g1, g5⟩ hg hr => by
  have hne : ∀ b, b < n → some b ≠ row := fun b hb e => by have := (hr b e.symm).1; omega
  exact ⟨e, g4.grown hg g4.size (fun j ej => by have := (hr j ej).1; omega), g, g1.kept hg (hne _ h1), g5⟩

theorem PartBox.k0 {W : World} {b : Nat} {p : PartP} (h : PartBox W b p) : W.cell? ⟨b, 0, none⟩ = some (.bool p.v) := h.cell 0
theorem PartBox.k1 {W : World} {b : Nat} {p : PartP} (h : PartBox W b p) : W.cell? ⟨b, 1, none⟩ = some (.int .i64 p.n) := h.cell 1
theorem PartBox.k2 {W : World} {b : Nat} {p : PartP} (h : PartBox W b p) : W.cell? ⟨b, 2, none⟩ = some (.int .i64 p.k) := h.cell 2
theorem PartBox.k3 {W : World} {b : Nat} {p : PartP} (h : PartBox W b p) : W.cell? ⟨b, 3, none⟩ = some (.int .i64 p.m) := h.cell 3
theorem PartBox.k4 {W : World} {b : Nat} {p : PartP} (h : PartBox W b p) : W.cell? ⟨b, 4, none⟩ = some (.string p.s) := h.cell 4
theorem PartBox.lt {W : World} {b : Nat} {p : PartP} (h : PartBox W b p) : b < W.heap.size := (Array.getElem?_eq_some_iff.1 h).1
theorem boxed_next {W W' : World} {b B : Nat} {t : TypeId} {v : Value} (h : Boxed W b t v) (hb : Below B W W') (hB : b < B) : Boxed W' b t v := boxed_below h hb hB
/-- one more round, and the two parts are the same -/
theorem dmid_step {w W W5 : World} {n bs bb bp pe pa pv Ba Bd : Nat} {a b : Dat} {pre : List (Fin 7)} {x : Fin 7} (h : DMid w n bs bb bp pe pa pv a b pre W) (hb : Below W.heap.size W W5) (h0 : w.heap.size ≤ bs) (hd : bs ≠ bb ∧ bs ≠ bp ∧ bs ≠ Ba ∧ bs ≠ Bd) (hab : Ba < n ∧ Bd < n) (hg : ordP (partPl pe pa pv a x.val) (partPl pe pa pv b x.val) = 0) :
    KeepsFrom n W (W5.setCell ⟨bs, 0, none⟩ (.int .i64 0)) ∧ Keep2 w.heap.size Ba Bd W (W5.setCell ⟨bs, 0, none⟩ (.int .i64 0)) ∧ DMid w n bs bb bp pe pa pv a b (pre ++ [x]) (W5.setCell ⟨bs, 0, none⟩ (.int .i64 0)) := by
  obtain ⟨gn, g1, g2, g3, g4, g5⟩ := h
  have b1 := boxed_next g1 hb g1.lt
  have hne : ∀ k, bs ≠ k → (W5.setCell ⟨bs, 0, none⟩ (.int .i64 0)).heap[k]? = W5.heap[k]? := fun k hk => Below.heap_setCell _ ⟨bs, 0, none⟩ _ k (fun e => hk e.symm)
  have hK : Keep2 w.heap.size Ba Bd W (W5.setCell ⟨bs, 0, none⟩ (.int .i64 0)) := (keep2_below hb g4.size (by omega) (by omega)).trans ⟨(Below.refl _ _).setCell (p := ⟨bs, 0, none⟩) h0 _, hne _ hd.2.2.1, hne _ hd.2.2.2⟩
  refine ⟨(keepsFrom_below hb).trans (keepsFrom_set (p := ⟨bs, 0, none⟩) b1 _), hK, (by have := hb.size; simp; omega), b1.set _, (hne _ hd.1).trans (g2.next hb g2.lt), (hne _ hd.2.1).trans (g3.next hb g3.lt), g4.trans hK.low, fun hp => ?_⟩
  obtain ⟨hl, hpp⟩ := allF_pre hp
  rw [g5 hpp, hl, List.length_append, List.length_singleton, hl]
  rw [ordPF_step (by rw [partsPl_len]; exact x.isLt) (by rw [partsPl_len]; exact x.isLt), partsPl_get, partsPl_get, hg, if_pos rfl]
theorem dstop_step {w W W5 : World} {n bs bb bp pe pa pv : Nat} {a b : Dat} {pre : List (Fin 7)} {x : Fin 7} {g : Int} (h : DMid w n bs bb bp pe pa pv a b pre W) (hb : Below W.heap.size W W5) (h0 : w.heap.size ≤ bs) (hg : ordP (partPl pe pa pv a x.val) (partPl pe pa pv b x.val) = g) (hz : g ≠ 0) :
    KeepsFrom n W (W5.setCell ⟨bs, 0, none⟩ (.int .i64 g)) ∧ DStop w bs pe pa pv a b (.exit 0) (pre ++ [x]) (W5.setCell ⟨bs, 0, none⟩ (.int .i64 g)) := by
  obtain ⟨gn, g1, g2, g3, g4, g5⟩ := h
  have b1 := boxed_next g1 hb g1.lt
  refine ⟨(keepsFrom_below hb).trans (keepsFrom_set (p := ⟨bs, 0, none⟩) b1 _), rfl, (g4.trans (hb.mono g4.size)).setCell (p := ⟨bs, 0, none⟩) h0 _, g, b1.set _, fun hp => ?_⟩
  obtain ⟨hl, hpp⟩ := allF_pre hp
  rw [g5 hpp, hl]
  rw [ordPF_step (by rw [partsPl_len]; exact x.isLt) (by rw [partsPl_len]; exact x.isLt), partsPl_get, partsPl_get, hg, if_neg hz]

set_option maxRecDepth 100000 in
set_option maxHeartbeats 2000000 in
theorem cmpD_in (m : Nat) (hm3 : Hid (3 ≤ m)) (o : Int) (pe pa pv : Nat) (hpl : ∀ X, Calls Try.prog 36 #[.int .i64 o] X fun e w' => e = .returned (.tuple #[.agg #[.int .i64 (pe : Int), .int .i64 (pa : Int), .int .i64 (pv : Int)], .bool true]) ∧ Below X.heap.size X w') (d b : Dat) (w : World) :
    CallsIn Fence.wide m Try.prog 16 #[.int .i64 o, .agg #[.int .i64 d.e, .int .i64 d.a, .int .i64 d.k, .int .i64 d.m, .string d.s, .int .i64 d.t, .bool d.add, .int .i64 d.fr, .int .i64 d.til], .agg #[.int .i64 b.e, .int .i64 b.a, .int .i64 b.k, .int .i64 b.m, .string b.s, .int .i64 b.t, .bool b.add, .int .i64 b.fr, .int .i64 b.til]] w fun e w' => e = .returned (.int .i64 (ordPF (partsPl pe pa pv d) (partsPl pe pa pv b) 0)) ∧ Below w.heap.size w w' := by
  have HPL := Lib.hid hpl
  clear hpl
  refine callsIn_of_wp_marks Try.func16 rfl trivial ?_ rfl
  simp only [Try.ntmps16, List.size_toArray, List.length_cons, List.length_nil, Nat.reduceAdd, Nat.reduceSub, Array.replicate_succ, Array.replicate_zero, List.push_toArray, List.append_toArray, List.nil_append, List.cons_append]
  gi_wp2_with fail
  refine wpIn_wide.2 ?_
  go_step3
  refine (wpIn_wide (n := m)).1 ?_
  gi_wp2_with fail
  obtain ⟨w0, hw0⟩ : ∃ w0, (w.alloc (.cells #[.int .i64 d.e, .int .i64 d.a, .int .i64 d.k, .int .i64 d.m, .string d.s, .int .i64 d.t, .bool d.add, .int .i64 d.fr, .int .i64 d.til] 36)).alloc (.cells #[.int .i64 b.e, .int .i64 b.a, .int .i64 b.k, .int .i64 b.m, .string b.s, .int .i64 b.t, .bool b.add, .int .i64 b.fr, .int .i64 b.til] 36) = w0 := ⟨_, rfl⟩
  have HB0 : Hid (Below w.heap.size w w0) := by rw [← hw0]; exact ((Below.refl _ _).alloc (Nat.le_refl _) _).alloc (by simp) _
  have HD0 : Hid (DatAt w0 (w.heap.size + 1) b) := by
    rw [← hw0]
    have := datAt_new (w.alloc (.cells #[.int .i64 d.e, .int .i64 d.a, .int .i64 d.k, .int .i64 d.m, .string d.s, .int .i64 d.t, .bool d.add, .int .i64 d.fr, .int .i64 d.til] 36)) b
    rwa [World.size_alloc] at this
  have HA0 : Hid (DatAt w0 w.heap.size d) := by rw [← hw0]; exact (datAt_new w d).alloc _
  rw [hw0]
  clear hw0
  refine ⟨trivial, wide_deep _, ?_⟩
  refine (callsIn_wide.2 (HPL.out _)).mono ?_
  rintro e w1 ⟨rfl, hb1⟩
  have HB1 := Lib.hid (HB0.out.trans (hb1.mono HB0.out.size))
  have HD1 := Lib.hid (HD0.out.next hb1 HD0.out.lt)
  have hx := ((HA0.out.next hb1 HA0.out.lt).alloc (.cells #[.int .i64 (pe : Int), .int .i64 (pa : Int), .int .i64 (pv : Int)] 59)).alloc (.cells #[.int .i64 0] 3)
  have d0 := hx.c0
  have d1 := hx.c1
  have d2 := hx.c2
  have d3 := hx.c3
  have d4 := hx.c4
  have d5 := hx.c5
  have d6 := hx.c6
  have d7 := hx.c7
  have d8 := hx.c8
  clear hb1 hx
  gi_wp2_with fail
  refine wpIn_wide.2 ?_
  go_step3
  gi_wp2_with fail
  refine ⟨trivial, wide_deep _, ?_⟩
  refine (callsIn_wide.2 (toldOfD_any _ _ _ _ _)).mono ?_
  rintro e w9 ⟨rfl, rfl⟩
  clear d0 d1 d2 d3 d4 d5 d6 d7 d8
  gi_wp2_with fail
  obtain ⟨W2, hW2⟩ : ∃ W2, ((((w1.alloc (.cells #[.int .i64 (pe : Int), .int .i64 (pa : Int), .int .i64 (pv : Int)] 59)).alloc (.cells #[.int .i64 0] 3)).alloc (.cells #[.int .i64 (pe : Int), .int .i64 (pa : Int), .int .i64 (pv : Int)] 59)).alloc (.cells #[.int .i64 d.e, .int .i64 d.a, .int .i64 d.k, .int .i64 d.m, .string d.s, .int .i64 d.t, .bool d.add, .int .i64 d.fr, .int .i64 d.til] 36)) = W2 := ⟨_, rfl⟩
  have hz : W2.heap.size = w1.heap.size + 4 := by rw [← hW2]; simp
  have hbz := HB1.out.size
  have hdz := HD1.out.lt
  have hBw : Below w.heap.size w W2 := by rw [← hW2]; exact (((HB1.out.alloc hbz _).alloc (by simp; omega) _).alloc (by simp; omega) _).alloc (by simp; omega) _
  have hP : Boxed W2 (w1.heap.size + 1) 3 (.int .i64 0) := by
    rw [← hW2]
    have := Boxed.new (w1.alloc (.cells #[.int .i64 (pe : Int), .int .i64 (pa : Int), .int .i64 (pv : Int)] 59)) 3 (.int .i64 0)
    rw [World.size_alloc] at this
    exact (this.alloc _).alloc _
  have hV0 : PlcAt W2 w1.heap.size pe pa pv := by rw [← hW2]; exact (((plcAt_new w1 pe pa pv).alloc _).alloc _).alloc _
  have hV1 : PlcAt W2 (w1.heap.size + 1 + 1) pe pa pv := by
    rw [← hW2]
    have := plcAt_new ((w1.alloc (.cells #[.int .i64 (pe : Int), .int .i64 (pa : Int), .int .i64 (pv : Int)] 59)).alloc (.cells #[.int .i64 0] 3)) pe pa pv
    rw [World.size_alloc, World.size_alloc] at this
    exact this.alloc _
  have hV2 : DatAt W2 (w1.heap.size + 1 + 1 + 1) d := by
    rw [← hW2]
    have := datAt_new (((w1.alloc (.cells #[.int .i64 (pe : Int), .int .i64 (pa : Int), .int .i64 (pv : Int)] 59)).alloc (.cells #[.int .i64 0] 3)).alloc (.cells #[.int .i64 (pe : Int), .int .i64 (pa : Int), .int .i64 (pv : Int)] 59)) d
    rw [World.size_alloc, World.size_alloc, World.size_alloc] at this
    exact this
  have hVb : DatAt W2 (w.heap.size + 1) b := by rw [← hW2]; exact (((HD1.out.alloc _).alloc _).alloc _).alloc _
  rw [hW2]
  clear hW2
  have hro : Fence.wide.round = none := rfl
  refine wpIn_rangeFunc_ownH hro (by have := hm3.out; omega) (gf := 58) (lb := #[.pointer (some ⟨w1.heap.size + 1 + 1, 0, none⟩), .pointer (some ⟨w1.heap.size + 1 + 1 + 1, 0, none⟩)]) rfl trivial (enters_of Try.func58 (by kernel_rfl) rfl)
    (toldD_stops (m - 1) w.heap.size (w1.heap.size + 1 + 1) (w1.heap.size + 1 + 1 + 1) pe pa pv d W2 (by omega) hV1 hV2)
    (fun h k => h.trans k) (fun W l o o' hl h h1 h2 => keep2_b (w := W2) (n₀ := w.heap.size) (by omega) (by omega) (by omega) W l o o' hl h h1 h2) (Below.refl _ _) (fun _ => rfl)
    (DMid w W2.heap.size (w1.heap.size + 1) (w.heap.size + 1) w1.heap.size pe pa pv d b) (DStop w (w1.heap.size + 1) pe pa pv d b) (dMid_own _ _ _ _ _ _ _ _ _ _ (by omega) (by omega) (by omega) (by omega)) (fun cd => dStop_own _ _ _ _ _ _ _ _ (by omega) (by omega) cd)
    ⟨Nat.le_refl _, hP, hVb, hV0, hBw, fun _ => rfl⟩
    (fun x a' W => ∃ g, PartBox W g (partPl pe pa pv d x.val) ∧ a' = { tmps := #[.int .i64 o, .agg #[.int .i64 d.e, .int .i64 d.a, .int .i64 d.k, .int .i64 d.m, .string d.s, .int .i64 d.t, .bool d.add, .int .i64 d.fr, .int .i64 d.til], .agg #[.int .i64 b.e, .int .i64 b.a, .int .i64 b.k, .int .i64 b.m, .string b.s, .int .i64 b.t, .bool b.add, .int .i64 b.fr, .int .i64 b.til], undef, .pointer (some ⟨w.heap.size, 0, none⟩), .pointer (some ⟨w.heap.size + 1, 0, none⟩), .int .i64 0, .pointer (some ⟨w1.heap.size, 0, none⟩), .bool true, .pointer (some ⟨w1.heap.size + 1, 0, none⟩), .int .i64 ((x.val : Nat) : Int), .pointer (some ⟨g, 0, none⟩), .tuple #[.agg #[.int .i64 (pe : Int), .int .i64 (pa : Int), .int .i64 (pv : Int)], .bool true], .int .i64 o, .tuple #[.agg #[.int .i64 (pe : Int), .int .i64 (pa : Int), .int .i64 (pv : Int)], .bool true], .agg #[.int .i64 (pe : Int), .int .i64 (pa : Int), .int .i64 (pv : Int)], .bool true, .bool true, .bool false, .agg #[.int .i64 (pe : Int), .int .i64 (pa : Int), .int .i64 (pv : Int)], .agg #[.int .i64 d.e, .int .i64 d.a, .int .i64 d.k, .int .i64 d.m, .string d.s, .int .i64 d.t, .bool d.add, .int .i64 d.fr, .int .i64 d.til], .func (.func 58) #[] #[.pointer (some ⟨w1.heap.size + 1 + 1, 0, none⟩), .pointer (some ⟨w1.heap.size + 1 + 1 + 1, 0, none⟩)], .int .i64 ((x.val : Nat) : Int), .agg #[.bool (partPl pe pa pv d x.val).v, .int .i64 (partPl pe pa pv d x.val).n, .int .i64 (partPl pe pa pv d x.val).k, .int .i64 (partPl pe pa pv d x.val).m, .string (partPl pe pa pv d x.val).s], undef, undef, undef, undef, undef, undef, undef, undef, undef], defers := [] })
    (fun x a' _ X Y row ⟨g, hg, e⟩ hgr hr => ⟨g, hg.kept hgr (fun r e => (hr r e).2), e⟩) ?assign ?body ?done ?stop
  case assign =>
    rintro lp pre x W K ⟨h0, h1, h2, h3, h4, h5⟩ hK
    gi_wp2
    refine hK _ _ (keepsFrom_below ((Below.refl _ W).alloc (Nat.le_refl _) _)) (keep2_below ((Below.refl _ W).alloc (Nat.le_refl _) _) (by omega) (by omega) (by omega)) ⟨(by simp; omega), h1.alloc _, h2.alloc _, h3.alloc _, h4.alloc h4.size _, h5⟩ ⟨W.heap.size, partBox_new _ _, rfl⟩
  case body =>
    rintro l pre x a' W hwl _ hMid ⟨g, hg, rfl⟩ hlt
    have HM := Lib.hid hMid
    obtain ⟨_, h1, h2, h3, h4, _⟩ := hMid
    have HG : Hid (PartBox W.drew g (partPl pe pa pv d x.val)) := hg
    have HS : Hid (Boxed W.drew (w1.heap.size + 1) 3 (.int .i64 0)) := h1
    have k0 : W.drew.cell? _ = _ := hg.k0
    have k1 : W.drew.cell? _ = _ := hg.k1
    have k2 : W.drew.cell? _ = _ := hg.k2
    have k3 : W.drew.cell? _ = _ := hg.k3
    have k4 : W.drew.cell? _ = _ := hg.k4
    have p0 : W.drew.cell? _ = _ := h3.c0
    have p1 : W.drew.cell? _ = _ := h3.c1
    have p2 : W.drew.cell? _ = _ := h3.c2
    have d0 : W.drew.cell? _ = _ := h2.c0
    have d1 : W.drew.cell? _ = _ := h2.c1
    have d2 : W.drew.cell? _ = _ := h2.c2
    have d3 : W.drew.cell? _ = _ := h2.c3
    have d4 : W.drew.cell? _ = _ := h2.c4
    have d5 : W.drew.cell? _ = _ := h2.c5
    have d6 : W.drew.cell? _ = _ := h2.c6
    have d7 : W.drew.cell? _ = _ := h2.c7
    have d8 : W.drew.cell? _ = _ := h2.c8
    obtain ⟨q, hq⟩ : ∃ q, partV (partPl pe pa pv b x.val) = q := ⟨_, rfl⟩
    have HPT := Lib.hid (fun X => part_any pe pa pv x.val b X)
    have hcp := fun X => cmpParts_any (partPl pe pa pv d x.val) (partPl pe pa pv b x.val) X
    obtain ⟨g0, hg0⟩ : ∃ g0, ordP (partPl pe pa pv d x.val) (partPl pe pa pv b x.val) = g0 := ⟨_, rfl⟩
    rw [hg0] at hcp
    change ∀ X, Calls _ _ #[_, partV (partPl pe pa pv b x.val)] _ _ at hcp
    rw [hq] at HPT hcp
    have HCP := Lib.hid hcp
    have HG0 := Lib.hid hg0
    have hfo : Try.prog.follows .mixedOrders = true := by kernel_rfl
    clear hq hcp hg0 hg h1 h2 h3 h4
    gi_wp2
    gi_region_with_o (first | (refine ⟨trivial, wide_deep _, (CallsIn.inRound l (callsIn_wide.2 (HPT.out _))).mono ?_⟩; rintro e W4 ⟨rfl, hb4⟩; have HB4 := Lib.hid hb4; have HG4 := Lib.hid (HG.out.next hb4 HG.out.lt); have m0 := HG4.out.k0; have m1 := HG4.out.k1; have m2 := HG4.out.k2; have m3 := HG4.out.k3; have m4 := HG4.out.k4; clear hb4) | (refine ⟨trivial, wide_deep _, (CallsIn.inRound l (callsIn_wide.2 (HCP.out _))).mono ?_⟩; rintro e W5 ⟨rfl, hb5⟩; have HBd := Lib.hid (HB4.out.trans (hb5.mono HB4.out.size)); have HB5 : Hid (Below W.heap.size W W5) := (Below.refl W.heap.size W).drew.trans HBd.out; have HS5 := Lib.hid (boxed_next HS.out HBd.out HS.out.lt); have s0 := HS5.out.cell; have s1 := HS5.out.frozen; clear hb5))
    all_goals by_cases hgz : g0 = 0
    all_goals first
      | (subst hgz
         gi_wp2
         exact dmid_step HM.out HB5.out (by omega) ⟨by omega, by omega, by omega, by omega⟩ ⟨by omega, by omega⟩ HG0.out)
      | (have hnz : (g0 != 0) = true := by simpa using hgz
         gi_wp2
         exact dstop_step HM.out HB5.out (by omega) HG0.out hgz)
  case done =>
    rintro D ys W hD hys ⟨_, h1, h2, h3, h4, h5⟩ hK
    have b0 := h1.cell
    have HE := Lib.hid (h4.trans (belowK_b (w := W2) (n₀ := w.heap.size) (by omega) W D _ (.deferred none) hD hK rfl rfl))
    have hF : ordPF (partsPl pe pa pv d) (partsPl pe pa pv b) 0 = 0 := by
      rw [h5 (by rw [hys]; exact List.prefix_refl _), hys, allF_len]
      exact ordPF_end (.inl (by rw [partsPl_len]; omega))
    have HF := Lib.hid hF
    clear h1 h2 h3 h4 h5 hys hF
    gi_wp2
    refine ⟨by simp, .inl ⟨_, _, rfl, run_takeDeferred hK, ?_⟩⟩
    exact ⟨_, results_tmp rfl _ _ _, by exact ⟨by rw [HF.out]; rfl, HE.out⟩⟩
  case stop =>
    rintro D cd pre W hD hsp ⟨rfl, h4, g, h1, h5⟩ hK
    have b0 := h1.cell
    have HE := Lib.hid (h4.trans (belowK_b (w := W2) (n₀ := w.heap.size) (by omega) W D _ (.deferred none) hD hK rfl rfl))
    have HF := Lib.hid (h5 hsp)
    clear h1 h4 h5 hsp
    gi_wp2
    refine ⟨by simp, .inl ⟨_, _, rfl, run_takeDeferred hK, ?_⟩⟩
    exact ⟨_, results_tmp rfl _ _ _, by exact ⟨by rw [HF.out]; rfl, HE.out⟩⟩
/-- Compare, in an order. -/
theorem cmpD_yes (o : Int) (a b : Dat) (w : World) (ho : isO o = true) :
    Calls Try.prog 16 #[.int .i64 o, .agg #[.int .i64 a.e, .int .i64 a.a, .int .i64 a.k, .int .i64 a.m, .string a.s, .int .i64 a.t, .bool a.add, .int .i64 a.fr, .int .i64 a.til], .agg #[.int .i64 b.e, .int .i64 b.a, .int .i64 b.k, .int .i64 b.m, .string b.s, .int .i64 b.t, .bool b.add, .int .i64 b.fr, .int .i64 b.til]] w fun e w' => e = .returned (.int .i64 (ordD o a b)) ∧ Below w.heap.size w w' := by
  have h := (callsIn_wide (n := 9)).1 (cmpD_in 9 (Nat.le_of_ble_eq_true rfl) o (plE o) (plA o) (plV o) (fun X => by have h9 := placesOf_any o X; rw [plcV_is ho, ho] at h9; exact h9) a b w)
  have e : ordPF (partsPl (plE o) (plA o) (plV o) a) (partsPl (plE o) (plA o) (plV o) b) 0 = ordD o a b := by
    unfold ordD
    rw [if_pos ho]; rfl
  rw [e] at h
  exact h
end Go.Proofs.Ytkoknogefmfmnaa
