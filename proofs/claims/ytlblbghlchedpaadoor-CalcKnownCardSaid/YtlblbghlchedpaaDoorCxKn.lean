/-
  CONTRACT: calc.Known.
-/
import Derived.Test.YtlblbghlchedpaaDoorCxTold
import Derived.Test.YtlblbghlchedpaaDoorRndReg
import Derived.BigQuiet
namespace Go.Proofs.YtlblbghlchedpaaDoor
open Go.RowKit Go.Shelf
attribute [local go_sem] Oper.semAt_some

theorem keepsFrom_set {W : World} {B : Nat} {p : Addr} {cs : Array Value} {t : TypeId} {fr : Nat × Nat} (h : W.heap[p.block]? = some (.cells cs t fr)) (u : Value) : KeepsFrom B W (W.setCell p u) :=
  ⟨by simp [World.setCell], fun k _ _ hk ho => by
    by_cases e : k = p.block
    · subst e; rw [h] at hk; cases hk; simp [Obj.isCells] at ho
    · exact (Below.heap_setCell W p u k e).trans hk⟩
theorem keepsFrom_below {W W' : World} {B : Nat} (h : Below W.heap.size W W') : KeepsFrom B W W' :=
  ⟨h.size, fun k _ _ hk _ => (h.block k (Array.getElem?_eq_some_iff.1 hk).1).trans hk⟩

theorem str_eq (a : Bt) (s : ByteArray) : ((strB a).toList == s.toList) = (a == s.data.toList) := by
  unfold strB
  rw [ByteArray.toList_eq, ByteArray.toList_eq]
/-- what stands behind some rounds: none of the names was it -/
structure KnMid (w : World) (n B : Nat) (s : ByteArray) (pre : List (Bt × Fin 4)) (W : World) : Prop where
  size : n ≤ W.heap.size
  b1 : Boxed W B 9 (.string s)
  b2 : Boxed W (B + 1) 3 (.int .i64 0)
  b3 : Boxed W (B + 1 + 1) 4 (.bool false)
  b4 : Boxed W (B + 1 + 1 + 1) 4 (.bool false)
  low : Below w.heap.size w W
  none : pre.find? (fun x => x.1 == s.data.toList) = Option.none
theorem knMid_own (w : World) (n B : Nat) (s : ByteArray) (h0 : w.heap.size ≤ n) (h1 : B + 3 < n) : OwnFrom n (KnMid w n B s) := fun pre X Y row h hg hr => by
  have hne : ∀ b, b < n → some b ≠ row := fun b hb e => by have := (hr b e.symm).1; omega
  exact ⟨Nat.le_trans h.size hg.size, h.b1.kept hg (hne _ (by omega)), h.b2.kept hg (hne _ (by omega)), h.b3.kept hg (hne _ (by omega)), h.b4.kept hg (hne _ (by omega)), h.low.grown hg h.low.size (fun j ej => by have := (hr j ej).1; omega), h.none⟩
theorem KnMid.drew {w : World} {n B : Nat} {s : ByteArray} {pre : List (Bt × Fin 4)} {W : World} (h : KnMid w n B s pre W) : KnMid w n B s pre W.drew := ⟨h.size, h.b1, h.b2, h.b3, h.b4, h.low.drew, h.none⟩
/-- what stands behind the round that has found it -/
structure KnStop (w : World) (B : Nat) (s : ByteArray) (cd : Code) (pre : List (Bt × Fin 4)) (W : World) : Prop where
  code : cd = .ret
  low : Below w.heap.size w W
  is : ∃ x, pre.find? (fun x => x.1 == s.data.toList) = some x ∧ Boxed W (B + 1) 3 (.int .i64 (famT x.2.val)) ∧ Boxed W (B + 1 + 1) 4 (.bool (famP x.2.val)) ∧ Boxed W (B + 1 + 1 + 1) 4 (.bool true)
theorem knStop_own (w : World) (n B : Nat) (s : ByteArray) (h0 : w.heap.size ≤ n) (h1 : B + 3 < n) (cd : Code) : OwnFrom n (KnStop w B s cd) := fun pre X Y row h hg hr => by
  have hne : ∀ b, b < n → some b ≠ row := fun b hb e => by have := (hr b e.symm).1; omega
  obtain ⟨x, hx, g1, g2, g3⟩ := h.is
  exact ⟨h.code, h.low.grown hg h.low.size (fun j ej => by have := (hr j ej).1; omega), x, hx, g1.kept hg (hne _ (by omega)), g2.kept hg (hne _ (by omega)), g3.kept hg (hne _ (by omega))⟩
/-- a family's cells -/
def KnS (k : Nat) (X : World) : Prop := X.cell? ⟨0, k * 3 + 1, none⟩ = some (.int .i64 (famT k)) ∧ X.cell? ⟨0, k * 3, none⟩ = some (.bool (famP k))
theorem KnS.set {k : Nat} {X : World} (h : KnS k X) {p : Addr} (hp : p.block ≠ 0) (v : Value) : KnS k (X.setCell p v) :=
  ⟨(World.cell?_setCell_far X p _ v hp).trans h.1, (World.cell?_setCell_far X p _ v hp).trans h.2⟩
theorem boxed_off {X : World} {b : Nat} {t : TypeId} {u : Value} (h : Boxed X b t u) {p : Addr} (hp : p.block ≠ b) (v : Value) : Boxed (X.setCell p v) b t u := (Below.heap_setCell X p v b (fun e => hp e.symm)).trans h
theorem results_three {fn : Func} {p q r : Tmp} {ty ty' ty2 : TypeId} (h : fn.results = #[.cell p ty, .cell q ty', .cell r ty2]) (tmps : Array Value) (P : Program) (w : World) :
    (results fn tmps).run P w = ((asAddr (tmps.getD p undef)).run P w).andThen fun a w₁ => ((loadVar ty a).run P w₁).andThen fun v w₂ => ((asAddr (tmps.getD q undef)).run P w₂).andThen fun a' w₃ => ((loadVar ty' a').run P w₃).andThen fun v' w₄ => ((asAddr (tmps.getD r undef)).run P w₄).andThen fun a2 w₅ => ((loadVar ty2 a2).run P w₅).andThen fun v2 w₆ => .ok (.tuple #[v, v', v2]) w₆ := by
  simp only [results, h]
  simp [Sem.run_bind]
theorem res_three {W : World} {fn : Func} (hfn : fn.results = #[.cell 2 3, .cell 3 4, .cell 4 4]) {b2 b3 b4 : Nat} {n : Int} {x y : Bool} (tmps : Array Value) (h2 : Boxed W b2 3 (.int .i64 n)) (h3 : Boxed W b3 4 (.bool x)) (h4 : Boxed W b4 4 (.bool y)) (t2 : tmps.getD 2 undef = .pointer (some ⟨b2, 0, none⟩)) (t3 : tmps.getD 3 undef = .pointer (some ⟨b3, 0, none⟩)) (t4 : tmps.getD 4 undef = .pointer (some ⟨b4, 0, none⟩)) :
    (results fn tmps).run Tryd.prog W = .ok (.tuple #[.int .i64 n, .bool x, .bool y]) W := by
  have a0 := h2.cell
  have a1 := h3.cell
  have a2 := h4.cell
  rw [results_three hfn, t2, t3, t4]
  go_simp
theorem find_pre {α : Type} {p : α → Bool} {q l : List α} {x : α} (h : q <+: l) (hx : q.find? p = some x) : l.find? p = some x := by
  obtain ⟨r, rfl⟩ := h
  rw [List.find?_append, hx]; rfl

set_option maxRecDepth 100000 in
set_option maxHeartbeats 2000000 in
theorem known_in (m : Nat) (hm3 : Hid (3 ≤ m)) (s : ByteArray) (w : World) (hF : FamAt w w.heap.size) :
    CallsIn Fence.wide m Tryd.prog 5 #[.string s] w fun e w' => e = .returned (.tuple #[.int .i64 (knownC s.data.toList).1, .bool (knownC s.data.toList).2.1, .bool (knownC s.data.toList).2.2]) ∧ Below w.heap.size w w' := by
  refine callsIn_of_wp_marks Tryd.func5 rfl trivial ?_ rfl
  simp only [Tryd.ntmps5, List.size_toArray, List.length_cons, List.length_nil, Nat.reduceAdd, Nat.reduceSub, Array.replicate_succ, Array.replicate_zero, List.push_toArray, List.append_toArray, List.nil_append, List.cons_append]
  have HF := Lib.hid hF
  clear hF
  gi_wp2_with fail
  refine ⟨trivial, wide_deepC _, ?_⟩
  refine (callsIn_wide.2 (toldOfC_any _)).mono ?_
  rintro e w9 ⟨rfl, rfl⟩
  gi_wp2_with fail
  obtain ⟨W2, hW2⟩ : ∃ W2, (((w.alloc (.cells #[.string s] 9)).alloc (.cells #[.int .i64 0] 3)).alloc (.cells #[.bool false] 4)).alloc (.cells #[.bool false] 4) = W2 := ⟨_, rfl⟩
  have hz : W2.heap.size = w.heap.size + 4 := by rw [← hW2]; simp
  have hBw : Below w.heap.size w W2 := by rw [← hW2]; exact ((((Below.refl _ _).alloc (Nat.le_refl _) _).alloc (by simp) _).alloc (by simp; omega) _).alloc (by simp; omega) _
  have p1 : Boxed W2 w.heap.size 9 (.string s) := by
    rw [← hW2]; exact (((Boxed.new w _ _).alloc _).alloc _).alloc _
  have p2 : Boxed W2 (w.heap.size + 1) 3 (.int .i64 0) := by
    rw [← hW2]
    have := Boxed.new (w.alloc (.cells #[.string s] 9)) 3 (.int .i64 0)
    rw [World.size_alloc] at this
    exact (this.alloc _).alloc _
  have p3 : Boxed W2 (w.heap.size + 1 + 1) 4 (.bool false) := by
    rw [← hW2]
    have := Boxed.new ((w.alloc (.cells #[.string s] 9)).alloc (.cells #[.int .i64 0] 3)) 4 (.bool false)
    rw [World.size_alloc, World.size_alloc] at this
    exact this.alloc _
  have p4 : Boxed W2 (w.heap.size + 1 + 1 + 1) 4 (.bool false) := by
    rw [← hW2]
    have := Boxed.new (((w.alloc (.cells #[.string s] 9)).alloc (.cells #[.int .i64 0] 3)).alloc (.cells #[.bool false] 4)) 4 (.bool false)
    rw [World.size_alloc, World.size_alloc, World.size_alloc] at this
    exact this
  rw [hW2]
  clear hW2
  have hro : Fence.wide.round = none := rfl
  refine wpIn_rangeFunc_ownH hro (by have := hm3.out; omega) (gf := 20) (lb := #[]) rfl trivial (enters_of Tryd.func20 (by kernel_rfl) rfl)
    (ctold_stops (m - 1) w.heap.size W2 (by omega) ((HF.out.next hBw)))
    (fun h k => h.trans k) (fun W l o o' hl h h1 h2 => belowK_b (w := W2) (n₀ := w.heap.size) (by omega) W l o o' hl h h1 h2) (Below.refl _ _) (fun _ => rfl)
    (KnMid w W2.heap.size w.heap.size s) (KnStop w w.heap.size s) (knMid_own _ _ _ _ (by omega) (by omega)) (fun cd => knStop_own _ _ _ _ (by omega) (by omega) cd)
    ⟨Nat.le_refl _, p1, p2, p3, p4, hBw, rfl⟩
    (fun x a' W => a' = { tmps := #[.string s, .pointer (some ⟨w.heap.size, 0, none⟩), .pointer (some ⟨w.heap.size + 1, 0, none⟩), .pointer (some ⟨w.heap.size + 1 + 1, 0, none⟩), .pointer (some ⟨w.heap.size + 1 + 1 + 1, 0, none⟩), .string (strB x.1), .int .i64 (x.2.val : Int), .func (.func 20) #[] #[], .string (strB x.1), .int .i64 (x.2.val : Int), undef, undef, undef, undef, undef, undef, undef, undef, undef, undef, undef], defers := [] })
    (fun x a' _ X Y row e hgr hr => e) ?assign ?body ?done ?stop
  case assign =>
    rintro lp pre x W K h hK
    unfold encC
    gi_wp2
    exact hK _ _ (keepsFrom_below (Below.refl _ W)) (Below.refl _ W) h rfl
  case body =>
    rintro l pre x a' W hwl hpx hMid rfl hlt
    have c1 : W.cell? _ = _ := hMid.b1.cell
    obtain ⟨xs, ⟨k, hx4⟩⟩ := x
    have HM := Lib.hid hMid
    have hFW := HF.out.next hMid.low
    by_cases he : (xs == s.data.toList) = true
    · have hq : ((strB xs).toList == s.toList) = true := by rw [str_eq]; exact he
      have HE := Lib.hid he
      have f0 : W.cell? _ = _ := hFW.c0 k hx4
      have f1 : W.cell? _ = _ := hFW.c1 k hx4
      have b2 : W.cell? _ = _ := hMid.b2.cell
      have b3 : W.cell? _ = _ := hMid.b3.cell
      have b4 : W.cell? _ = _ := hMid.b4.cell
      have z2 := hMid.b2.frozen
      have z3 := hMid.b3.frozen
      have z4 := hMid.b4.frozen
      have hx4i : (k : Int) < 4 := by omega
      clear hMid he hFW hpx
      gi_wp2
      have hm : Tryd.prog.follows .mixedOrders = true := by kernel_rfl
      have HG : Hid (0 < w.heap.size) := HF.out.low
      refine wpIn_region_round (S := KnS k) hm (by kernel_rfl) ⟨f1, f0⟩ (fun hHeld => ?_)
      obtain ⟨wd, hwd⟩ : ∃ wd, W.drew = wd := ⟨_, rfl⟩
      have HBd : Hid (Below W.heap.size W wd) := by rw [← hwd]; exact (Below.refl W.heap.size W).drew
      have HM2 : Hid (KnMid w W2.heap.size w.heap.size s pre wd) := by rw [← hwd]; exact HM.out.drew
      rw [hwd] at hHeld ⊢
      clear hwd f0 f1 b2 b3 b4 z2 z3 z4 c1 hq
      refine takeV 0 (some 13) ((.int .i64 (k : Int))) rfl rfl (by kernel_rfl) (by kernel_rfl) (by kernel_rfl) (fun _ _ _ h => h) (by rfl) (by (intro _w _hSw; (try dsimp only at _hSw); go_simp)) (by assumption) ?_
      simp only [Act.put, List.setIfInBounds_toArray, List.set_cons_zero, List.set_cons_succ]
      refine takeV 1 (some 14) ((.pointer (some ⟨0, k * 3, none⟩))) rfl rfl (by kernel_rfl) (by kernel_rfl) (by kernel_rfl) (fun _ _ _ h => h) (by rfl) (by (intro _w _hSw; (try dsimp only at _hSw); go_simp)) (by assumption) ?_
      simp only [Act.put, List.setIfInBounds_toArray, List.set_cons_zero, List.set_cons_succ]
      refine takeV 2 (some 15) ((.pointer (some ⟨0, k * 3 + 1, none⟩))) rfl rfl (by kernel_rfl) (by kernel_rfl) (by kernel_rfl) (fun _ _ _ h => h) (by rfl) (by (intro _w _hSw; (try dsimp only at _hSw); go_simp)) (by assumption) ?_
      simp only [Act.put, List.setIfInBounds_toArray, List.set_cons_zero, List.set_cons_succ]
      refine takeV 3 (some 16) ((.int .i64 (famT k))) rfl rfl (by kernel_rfl) (by kernel_rfl) (by kernel_rfl) (fun _ _ _ h => h) (by rfl) (by (intro _w hSw; have k1 := hSw.1; clear hSw; go_simp)) (by assumption) ?_
      simp only [Act.put, List.setIfInBounds_toArray, List.set_cons_zero, List.set_cons_succ]
      refine takeV 4 (some 17) ((.int .i64 (k : Int))) rfl rfl (by kernel_rfl) (by kernel_rfl) (by kernel_rfl) (fun _ _ _ h => h) (by rfl) (by (intro _w _hSw; (try dsimp only at _hSw); go_simp)) (by assumption) ?_
      simp only [Act.put, List.setIfInBounds_toArray, List.set_cons_zero, List.set_cons_succ]
      refine takeV 5 (some 18) ((.pointer (some ⟨0, k * 3, none⟩))) rfl rfl (by kernel_rfl) (by kernel_rfl) (by kernel_rfl) (fun _ _ _ h => h) (by rfl) (by (intro _w _hSw; (try dsimp only at _hSw); go_simp)) (by assumption) ?_
      simp only [Act.put, List.setIfInBounds_toArray, List.set_cons_zero, List.set_cons_succ]
      refine takeV 6 (some 19) ((.pointer (some ⟨0, k * 3, none⟩))) rfl rfl (by kernel_rfl) (by kernel_rfl) (by kernel_rfl) (fun _ _ _ h => h) (by rfl) (by (intro _w _hSw; (try dsimp only at _hSw); go_simp)) (by assumption) ?_
      simp only [Act.put, List.setIfInBounds_toArray, List.set_cons_zero, List.set_cons_succ]
      refine takeV 7 (some 20) ((.bool (famP k))) rfl rfl (by kernel_rfl) (by kernel_rfl) (by kernel_rfl) (fun _ _ _ h => h) (by rfl) (by (intro _w hSw; have k0 := hSw.2; clear hSw; go_simp)) (by assumption) ?_
      simp only [Act.put, List.setIfInBounds_toArray, List.set_cons_zero, List.set_cons_succ]
      have h8 := (HM2.out.b2.set (.int .i64 (famT k)))
      obtain ⟨c2, z2⟩ : _ ∧ _ := ⟨HM2.out.b2.cell, HM2.out.b2.frozen⟩
      refine callV 8 rfl (by kernel_rfl) (by rfl) (fun K hK => ?_)
      go_simp
      obtain ⟨w8, hw8⟩ : ∃ X, wd.setCell ⟨w.heap.size + 1, 0, none⟩ (.int .i64 (famT k)) = X := ⟨_, rfl⟩
      have g8 : Boxed w8 (w.heap.size + 1) 3 (.int .i64 (famT k)) ∧ Boxed w8 (w.heap.size + 1 + 1) 4 (.bool false) ∧ Boxed w8 (w.heap.size + 1 + 1 + 1) 4 (.bool false) ∧ Below w.heap.size w w8 ∧ KeepsFrom W2.heap.size W w8 ∧ Below w.heap.size W w8 ∧ KnS k w8 := by
        rw [← hw8]
        have hb : Below w.heap.size wd (wd.setCell ⟨w.heap.size + 1, 0, none⟩ (.int .i64 (famT k))) := (Below.refl _ _).setCell (p := ⟨w.heap.size + 1, 0, none⟩) (Nat.le_succ _) _
        exact ⟨HM2.out.b2.set _, boxed_off HM2.out.b3 (by simp) _, boxed_off HM2.out.b4 (by simp) _, HM2.out.low.trans hb, (keepsFrom_below HBd.out).trans (keepsFrom_set (p := ⟨w.heap.size + 1, 0, none⟩) HM2.out.b2 _), (HBd.out.mono HM.out.low.size).trans hb, hHeld.set (by have := HG.out; simp only; omega) _⟩
      have G8 := Lib.hid g8
      rw [hw8]
      refine hK.out _ _ g8.2.2.2.2.2.2 (fun hHeld8 => ?_)
      clear hK K hHeld c2 z2 h8 g8 hw8
      try simp only [Act.put, List.setIfInBounds_toArray, List.set_cons_zero, List.set_cons_succ]
      obtain ⟨c3, z3⟩ : _ ∧ _ := ⟨G8.out.2.1.cell, G8.out.2.1.frozen⟩
      refine callV 9 rfl (by kernel_rfl) (by rfl) (fun K hK => ?_)
      go_simp
      obtain ⟨w9, hw9⟩ : ∃ X, w8.setCell ⟨w.heap.size + 1 + 1, 0, none⟩ (.bool (famP k)) = X := ⟨_, rfl⟩
      have g9 : Boxed w9 (w.heap.size + 1) 3 (.int .i64 (famT k)) ∧ Boxed w9 (w.heap.size + 1 + 1) 4 (.bool (famP k)) ∧ Boxed w9 (w.heap.size + 1 + 1 + 1) 4 (.bool false) ∧ Below w.heap.size w w9 ∧ KeepsFrom W2.heap.size W w9 ∧ Below w.heap.size W w9 ∧ KnS k w9 := by
        rw [← hw9]
        have hb : Below w.heap.size w8 (w8.setCell ⟨w.heap.size + 1 + 1, 0, none⟩ (.bool (famP k))) := (Below.refl _ _).setCell (p := ⟨w.heap.size + 1 + 1, 0, none⟩) (by simp only; omega) _
        exact ⟨boxed_off G8.out.1 (by simp) _, G8.out.2.1.set _, boxed_off G8.out.2.2.1 (by simp) _, G8.out.2.2.2.1.trans hb, G8.out.2.2.2.2.1.trans (keepsFrom_set (p := ⟨w.heap.size + 1 + 1, 0, none⟩) G8.out.2.1 _), G8.out.2.2.2.2.2.1.trans hb, hHeld8.set (by have := HG.out; simp only; omega) _⟩
      have G9 := Lib.hid g9
      rw [hw9]
      refine hK.out _ _ g9.2.2.2.2.2.2 (fun hHeld9 => ?_)
      clear hK K hHeld8 c3 z3 g9 hw9
      try simp only [Act.put, List.setIfInBounds_toArray, List.set_cons_zero, List.set_cons_succ]
      obtain ⟨c4, z4⟩ : _ ∧ _ := ⟨G9.out.2.2.1.cell, G9.out.2.2.1.frozen⟩
      refine callV 10 rfl (by kernel_rfl) (by rfl) (fun K hK => ?_)
      go_simp
      obtain ⟨wx, hwx⟩ : ∃ X, w9.setCell ⟨w.heap.size + 1 + 1 + 1, 0, none⟩ (.bool true) = X := ⟨_, rfl⟩
      have gx : KeepsFrom W2.heap.size W wx ∧ Below w.heap.size W wx ∧ Below w.heap.size w wx ∧ Boxed wx (w.heap.size + 1) 3 (.int .i64 (famT k)) ∧ Boxed wx (w.heap.size + 1 + 1) 4 (.bool (famP k)) ∧ Boxed wx (w.heap.size + 1 + 1 + 1) 4 (.bool true) ∧ KnS k wx := by
        rw [← hwx]
        have hb : Below w.heap.size w9 (w9.setCell ⟨w.heap.size + 1 + 1 + 1, 0, none⟩ (.bool true)) := (Below.refl _ _).setCell (p := ⟨w.heap.size + 1 + 1 + 1, 0, none⟩) (by simp only; omega) _
        exact ⟨G9.out.2.2.2.2.1.trans (keepsFrom_set (p := ⟨w.heap.size + 1 + 1 + 1, 0, none⟩) G9.out.2.2.1 _), G9.out.2.2.2.2.2.1.trans hb, G9.out.2.2.2.1.trans hb, boxed_off G9.out.1 (by simp only; omega) _, boxed_off G9.out.2.1 (by simp only; omega) _, G9.out.2.2.1.set _, hHeld9.set (by have := HG.out; simp only; omega) _⟩
      have GX := Lib.hid gx
      rw [hwx]
      refine hK.out _ _ gx.2.2.2.2.2.2 (fun hHeldx => ?_)
      clear hK K hHeld9 c4 z4 gx hwx
      try simp only [Act.put, List.setIfInBounds_toArray, List.set_cons_zero, List.set_cons_succ]
      refine wpAnyH_done (by kernel_rfl) ?_ _
      unfold onlyN
      gi_wp2
      refine ⟨GX.out.1, rfl, GX.out.2.2.1, (xs, ⟨k, hx4⟩), ?_, GX.out.2.2.2.1, GX.out.2.2.2.2.1, GX.out.2.2.2.2.2.1⟩
      rw [List.find?_append, HM.out.none]
      simp [HE.out]
    · rw [Bool.not_eq_true] at he
      have hq : ((strB xs).toList == s.toList) = false := by rw [str_eq]; exact he
      have HE := Lib.hid he
      clear hMid he hFW hpx
      gi_wp2
      refine ⟨keepsFrom_below (Below.refl _ W), Below.refl _ W, HM.out.size, HM.out.b1, HM.out.b2, HM.out.b3, HM.out.b4, HM.out.low, ?_⟩
      rw [List.find?_append, HM.out.none]
      simp [HE.out]
  case done =>
    rintro D ys W hD hys hMid hK
    subst hys
    have hbK := belowK_b (w := W2) (n₀ := w.heap.size) (by omega) W D
    have c2 := hMid.b2.cell
    have c3 := hMid.b3.cell
    have c4 := hMid.b4.cell
    have z2 := hMid.b2.frozen
    have z3 := hMid.b3.frozen
    have z4 := hMid.b4.frozen
    have HKN : Hid (knownC s.data.toList = (0, false, false)) := by show _ = _; unfold knownC; rw [hMid.none]
    have HM := Lib.hid hMid
    have HKK := Lib.hid hK
    clear hMid hK hbK
    gi_wp2
    have g2 : Boxed (((W.setCell ⟨w.heap.size + 1, 0, none⟩ (.int .i64 0)).setCell ⟨w.heap.size + 1 + 1, 0, none⟩ (.bool false)).setCell ⟨w.heap.size + 1 + 1 + 1, 0, none⟩ (.bool false)) (w.heap.size + 1) 3 (.int .i64 0) := boxed_off (boxed_off (HM.out.b2.set _) (by simp only; omega) _) (by simp only; omega) _
    have g3 : Boxed (((W.setCell ⟨w.heap.size + 1, 0, none⟩ (.int .i64 0)).setCell ⟨w.heap.size + 1 + 1, 0, none⟩ (.bool false)).setCell ⟨w.heap.size + 1 + 1 + 1, 0, none⟩ (.bool false)) (w.heap.size + 1 + 1) 4 (.bool false) := boxed_off ((boxed_off HM.out.b3 (by simp only; omega) _).set _) (by simp only; omega) _
    have g4 : Boxed (((W.setCell ⟨w.heap.size + 1, 0, none⟩ (.int .i64 0)).setCell ⟨w.heap.size + 1 + 1, 0, none⟩ (.bool false)).setCell ⟨w.heap.size + 1 + 1 + 1, 0, none⟩ (.bool false)) (w.heap.size + 1 + 1 + 1) 4 (.bool false) := (boxed_off (boxed_off HM.out.b4 (by simp only; omega) _) (by simp only; omega) _).set _
    have hlow : Below w.heap.size w (((W.setCell ⟨w.heap.size + 1, 0, none⟩ (.int .i64 0)).setCell ⟨w.heap.size + 1 + 1, 0, none⟩ (.bool false)).setCell ⟨w.heap.size + 1 + 1 + 1, 0, none⟩ (.bool false)) := ((HM.out.low.setCell (p := ⟨w.heap.size + 1, 0, none⟩) (by simp only; omega) _).setCell (p := ⟨w.heap.size + 1 + 1, 0, none⟩) (by simp only; omega) _).setCell (p := ⟨w.heap.size + 1 + 1 + 1, 0, none⟩) (by simp only; omega) _
    have hKn : (((W.setCell ⟨w.heap.size + 1, 0, none⟩ (.int .i64 0)).setCell ⟨w.heap.size + 1 + 1, 0, none⟩ (.bool false)).setCell ⟨w.heap.size + 1 + 1 + 1, 0, none⟩ (.bool false)).heap[D]? = some (.deferred (some [])) := (Below.heap_setCell _ _ _ D (by show D ≠ w.heap.size + 1 + 1 + 1; omega)).trans ((Below.heap_setCell _ _ _ D (by show D ≠ w.heap.size + 1 + 1; omega)).trans ((Below.heap_setCell _ _ _ D (by show D ≠ w.heap.size + 1; omega)).trans HKK.out))
    obtain ⟨Wf, hWf⟩ : ∃ Wf, ((W.setCell ⟨w.heap.size + 1, 0, none⟩ (.int .i64 0)).setCell ⟨w.heap.size + 1 + 1, 0, none⟩ (.bool false)).setCell ⟨w.heap.size + 1 + 1 + 1, 0, none⟩ (.bool false) = Wf := ⟨_, rfl⟩
    rw [hWf] at g2 g3 g4 hlow hKn ⊢
    have q2 := g2.kept (grownBy_putObj' Wf D (.deferred none)) (by simp; omega)
    have q3 := g3.kept (grownBy_putObj' Wf D (.deferred none)) (by simp; omega)
    have q4 := g4.kept (grownBy_putObj' Wf D (.deferred none)) (by simp; omega)
    refine ⟨by simp, .inl ⟨_, _, rfl, run_takeDeferred hKn, ?_⟩⟩
    exact ⟨_, res_three rfl _ q2 q3 q4 rfl rfl rfl, by rw [HKN.out], hlow.trans (belowK_b (w := W2) (n₀ := w.heap.size) (by omega) Wf D _ (.deferred none) hD hKn rfl rfl)⟩
  case stop =>
    rintro D cd pre W hD hsp hst hK
    obtain ⟨rfl, hlow, x, hx, g1, g2, g3⟩ := hst
    have q2 := g1.kept (grownBy_putObj' W D (.deferred none)) (by simp; omega)
    have q3 := g2.kept (grownBy_putObj' W D (.deferred none)) (by simp; omega)
    have q4 := g3.kept (grownBy_putObj' W D (.deferred none)) (by simp; omega)
    have HKN : Hid (knownC s.data.toList = (famT x.2.val, famP x.2.val, true)) := by show _ = _; unfold knownC; rw [find_pre hsp hx]
    have HE := Lib.hid (hlow.trans (belowK_b (w := W2) (n₀ := w.heap.size) (by omega) W D _ (.deferred none) hD hK rfl rfl))
    clear g1 g2 g3 hlow
    gi_wp2
    refine ⟨by simp, .inl ⟨_, _, rfl, run_takeDeferred hK, ?_⟩⟩
    exact ⟨_, res_three rfl _ q2 q3 q4 rfl rfl rfl, by rw [HKN.out], HE.out⟩
theorem known_any (s : ByteArray) (w : World) (hF : FamAt w w.heap.size) :
    Calls Tryd.prog 5 #[.string s] w fun e w' => e = .returned (.tuple #[.int .i64 (knownC s.data.toList).1, .bool (knownC s.data.toList).2.1, .bool (knownC s.data.toList).2.2]) ∧ Below w.heap.size w w' :=
  (callsIn_wide (n := 9)).1 (known_in 9 (Nat.le_of_ble_eq_true rfl) s w hF)
end Go.Proofs.YtlblbghlchedpaaDoor
