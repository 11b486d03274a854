/-
  CONTRACT of spells: are the bytes that a value's text hands on these?
-/
import Derived.Test.YtpnjolacmkcofaaDoorRead
namespace Go.Proofs.YtpnjolacmkcofaaDoor
open Go.RowKit Go.Shelf
attribute [local go_sem] Oper.semAt_some

theorem results_cell_only {fn : Func} {p : Tmp} {ty : TypeId} (h : fn.results = #[.cell p ty]) (tmps : Array Value) (P : Program) (w : World) :
    (results fn tmps).run P w = ((asAddr (tmps.getD p undef)).run P w).andThen fun a w₁ => (loadVar ty a).run P w₁ := by
  simp only [results, h]
  simp [Sem.run_bind]

theorem pre_snoc {pre l : List UInt8} {x : UInt8} (h : pre <+: l) : pre ++ [x] <+: l ↔ l[pre.length]? = some x := by
  obtain ⟨r, rfl⟩ := h
  rw [List.prefix_append_right_inj, List.getElem?_append_right (Nat.le_refl _), Nat.sub_self]
  cases r with
  | nil => simp
  | cons y r =>
    simp [List.cons_prefix_cons]
    exact eq_comm

theorem low2 (b : Nat) : b ≤ (⟨b + 1 + 1, 0, none⟩ : Addr).block := by show b ≤ b + 1 + 1; omega
theorem low3 (b : Nat) : b ≤ (⟨b + 1 + 1 + 1, 0, none⟩ : Addr).block := by show b ≤ b + 1 + 1 + 1; omega
theorem ne2 {b D : Nat} (h : b + 1 + 1 + 1 + 1 + 1 ≤ D) : D ≠ (⟨b + 1 + 1, 0, none⟩ : Addr).block := by show D ≠ b + 1 + 1; omega
theorem ne3 (b : Nat) : b + 1 + 1 + 1 + 1 ≠ (⟨b + 1 + 1 + 1, 0, none⟩ : Addr).block := by show b + 1 + 1 + 1 + 1 ≠ b + 1 + 1 + 1; omega
/-- What holds between two rounds. -/
def Mid (w : World) (k n : Int) (t s : ByteArray) (pre : List UInt8) (W : World) : Prop :=
  pre <+: s.data.toList ∧ Boxed W (w.heap.size + 1) 9 (.string s) ∧ Boxed W (w.heap.size + 1 + 1) 4 (.bool false) ∧ Boxed W (w.heap.size + 1 + 1 + 1) 3 (.int .i64 pre.length) ∧
    W.heap[w.heap.size + 1 + 1 + 1 + 1]? = some (.cells #[.int .i64 k, .int .i64 n, .string t] 23 (0, 0)) ∧ Below w.heap.size w W
/-- What holds where the loop is left. -/
def Out (w : World) (s : ByteArray) (c : Code) (pre : List UInt8) (W : World) : Prop :=
  c = .ret ∧ ¬ pre <+: s.data.toList ∧ Boxed W (w.heap.size + 1 + 1) 4 (.bool false) ∧ Below w.heap.size w W
theorem mid_own (w : World) (k n : Int) (t s : ByteArray) : OwnFrom (w.heap.size + 1 + 1 + 1 + 1 + 1) (Mid w k n t s) := fun pre A B row ⟨hp, h1, h2, h3, h4, h5⟩ hg hr => by
  have hne : ∀ b, b < w.heap.size + 1 + 1 + 1 + 1 + 1 → some b ≠ row := fun b hb e => by have := (hr b e.symm).1; omega
  have hlt : w.heap.size + 1 + 1 + 1 + 1 < A.heap.size := (Array.getElem?_eq_some_iff.1 h4).1
  exact ⟨hp, h1.kept hg (hne _ (by omega)), h2.kept hg (hne _ (by omega)), h3.kept hg (hne _ (by omega)), (hg.block _ hlt (hne _ (by omega))).trans h4, h5.grown hg h5.size (fun j ej => by have := (hr j ej).1; omega)⟩
theorem out_own (w : World) (s : ByteArray) (c : Code) : OwnFrom (w.heap.size + 1 + 1 + 1 + 1 + 1) (Out w s c) := fun pre A B row ⟨hc, hp, h2, h5⟩ hg hr => by
  have hne : ∀ b, b < w.heap.size + 1 + 1 + 1 + 1 + 1 → some b ≠ row := fun b hb e => by have := (hr b e.symm).1; omega
  exact ⟨hc, hp, h2.kept hg (hne _ (by omega)), h5.grown hg h5.size (fun j ej => by have := (hr j ej).1; omega)⟩

set_option maxRecDepth 100000 in
set_option maxHeartbeats 4000000 in
theorem spells_any (m : Nat) (hm3 : Hid (3 ≤ m)) (k n : Int) (t s : ByteArray) (w : World) (hs : s.size ≤ 4000) (h0 : -9223372036854775808 ≤ n) (h1 : n ≤ 9223372036854775807) (hm : mayB k n t = true) (htab : Tab w) :
    CallsIn Fence.wide m Tryd.prog 22 #[.agg #[.int .i64 k, .int .i64 n, .string t], .string s] w fun e w' => e = .returned (.bool (decide (txtL k n t = s.data.toList))) ∧ Below w.heap.size w w' := by
  have HM := Lib.hid hm
  have HT := Lib.hid htab
  clear hm htab
  refine callsIn_of_wp_marks Tryd.func22 rfl trivial ?_ rfl
  simp only [Tryd.ntmps22, List.size_toArray, List.length_cons, List.length_nil, Nat.reduceAdd, Nat.reduceSub, Array.replicate_succ, Array.replicate_zero, List.push_toArray, List.append_toArray, List.nil_append, List.cons_append]
  gi_wp2_with fail
  refine ⟨trivial, wide_deep _, ?_⟩
  refine (callsIn_wide.2 (toldOf_any _ _ _ _)).mono ?_
  rintro e w2 ⟨rfl, rfl⟩
  gi_wp2_with fail
  obtain ⟨W2, hW2⟩ : ∃ W2, (((((w.alloc (.cells #[.int .i64 k, .int .i64 n, .string t] 23)).alloc (.cells #[.string s] 9)).alloc (.cells #[.bool false] 4)).alloc (.cells #[.int .i64 0] 3)).alloc (.cells #[.int .i64 k, .int .i64 n, .string t] 23)) = W2 := ⟨_, rfl⟩
  have hz : W2.heap.size = w.heap.size + 1 + 1 + 1 + 1 + 1 := by rw [← hW2]; simp
  have hmid : Mid w k n t s [] W2 := by
    rw [← hW2]
    refine ⟨List.nil_prefix, ?_, ?_, ?_, ?_, ?_⟩
    · have := Boxed.new (w.alloc (.cells #[.int .i64 k, .int .i64 n, .string t] 23)) 9 (.string s)
      rw [World.size_alloc] at this
      exact ((this.alloc _).alloc _).alloc _
    · have := Boxed.new ((w.alloc (.cells #[.int .i64 k, .int .i64 n, .string t] 23)).alloc (.cells #[.string s] 9)) 4 (.bool false)
      rw [World.size_alloc, World.size_alloc] at this
      exact (this.alloc _).alloc _
    · have := Boxed.new (((w.alloc (.cells #[.int .i64 k, .int .i64 n, .string t] 23)).alloc (.cells #[.string s] 9)).alloc (.cells #[.bool false] 4)) 3 (.int .i64 0)
      rw [World.size_alloc, World.size_alloc, World.size_alloc] at this
      exact this.alloc _
    · have := World.alloc_heap_new ((((w.alloc (.cells #[.int .i64 k, .int .i64 n, .string t] 23)).alloc (.cells #[.string s] 9)).alloc (.cells #[.bool false] 4)).alloc (.cells #[.int .i64 0] 3)) (.cells #[.int .i64 k, .int .i64 n, .string t] 23)
      rw [World.size_alloc, World.size_alloc, World.size_alloc, World.size_alloc] at this
      exact this
    · exact (((((Below.refl _ _).alloc (Nat.le_refl _) _).alloc (by simp) _).alloc (by simp; omega) _).alloc (by simp; omega) _).alloc (by simp; omega) _
  rw [hW2]
  have hB2 : Below w.heap.size w W2 := hmid.2.2.2.2.2
  have hV := hmid.2.2.2.2.1
  have c0 : W2.cell? ⟨w.heap.size + 1 + 1 + 1 + 1, 0, none⟩ = some (.int .i64 k) := by simp [World.cell?, hV]
  have c1 : W2.cell? ⟨w.heap.size + 1 + 1 + 1 + 1, 1, none⟩ = some (.int .i64 n) := by simp [World.cell?, hV]
  have c2 : W2.cell? ⟨w.heap.size + 1 + 1 + 1 + 1, 2, none⟩ = some (.string t) := by simp [World.cell?, hV]
  have htb : ∀ W', Below w.heap.size W2 W' → Tab W' := fun W' hb => tab_below HT.out (hB2.trans hb)
  have hro : Fence.wide.round = none := rfl
  have hm := HM.out
  clear hW2 hB2 hV
  have hsz : s.data.toList.length = s.size := Array.length_toList
  have HSZ := Lib.hid hsz
  clear hsz
  refine wpIn_rangeFunc_ownG hro (by have := hm3.out; omega) (gf := 29) (lb := #[.pointer (some ⟨w.heap.size + 1 + 1 + 1 + 1, 0, none⟩)]) rfl trivial (enters_of Tryd.func29 (by kernel_rfl) rfl)
    (told_stops (m - 1) w.heap.size (w.heap.size + 1 + 1 + 1 + 1) k n t h0 h1 hm W2 (by omega) htb (by omega) c0 c1 c2) Keeps.trans (keeps_b (by omega) (by omega)) (Below.refl _ _) (fun _ => rfl)
    (Mid w k n t s) (Out w s) (by rw [hz]; exact mid_own w k n t s) (fun c => by rw [hz]; exact out_own w s c)
    hmid
    (fun c => { tmps := #[.agg #[.int .i64 k, .int .i64 n, .string t], .string s, .pointer (some ⟨w.heap.size, 0, none⟩), .pointer (some ⟨w.heap.size + 1, 0, none⟩), .pointer (some ⟨w.heap.size + 1 + 1, 0, none⟩), .pointer (some ⟨w.heap.size + 1 + 1 + 1, 0, none⟩), .int .u8 c.toNat, .agg #[.int .i64 k, .int .i64 n, .string t], .func (.func 29) #[] #[.pointer (some ⟨w.heap.size + 1 + 1 + 1 + 1, 0, none⟩)], .int .u8 c.toNat, undef, undef, undef, undef, undef, undef, undef, undef, undef, undef, undef, undef, undef, undef, undef, undef, undef], defers := [] }) ?assign ?body ?done ?stop
  case assign =>
    intro l x W K hK
    gi_wp2
    exact hK
  case body =>
    rintro l pre x W ⟨hp, hS, hR, hA, hV, hB⟩ hlt
    have s0 := hS.cell
    have a0 := hA.cell
    have a1 := hA.frozen
    have r0 := hR.cell
    have r1 := hR.frozen
    have HP := Lib.hid hp
    have HB := Lib.hid hB
    have HV := Lib.hid hV
    have HLT := Lib.hid hlt
    have hle : pre.length ≤ s.size := by have := hp.length_le; rw [HSZ.out] at this; exact this
    clear hp hB hV hlt
    have hst : ∀ b, b < w.heap.size + 1 + 1 + 1 + 1 + 1 → ∀ u, KeepsFrom W2.heap.size W (W.setCell ⟨b, 0, none⟩ u) := fun b hb u => KeepsFrom.of_grownBy (grownBy_setCell' W b u) (fun j ej => by cases ej; omega)
    have HST := Lib.hid hst
    clear hst
    by_cases hx : pre.length = s.size
    · have HO : Hid (¬ pre ++ [x] <+: s.data.toList) := fun h => by
        have := h.length_le
        rw [HSZ.out, List.length_append] at this
        simp at this
        omega
      gi_wp2
      exact ⟨HST.out _ (by omega) _, rfl, HO.out, hR.set _, HB.out.setCell (p := ⟨w.heap.size + 1 + 1, 0, none⟩) (low2 _) _⟩
    · have hlt : pre.length < s.size := by omega
      have hlti : (pre.length : Int) < (s.size : Int) := by omega
      have hne : ¬ ((pre.length : Int) = (s.size : Int)) := by omega
      have hg : s.data.toList[pre.length]? = some s[pre.length] := by
        rw [List.getElem?_eq_getElem (by rw [HSZ.out]; exact hlt)]; rfl
      have HG := Lib.hid hg
      clear hg hx
      by_cases hc : s[pre.length] = x
      · have HC := Lib.hid hc
        have HO : Hid (pre ++ [x] <+: s.data.toList) := by
          show _ <+: _
          rw [pre_snoc HP.out, HG.out, HC.out]
        have hcc : ((s[pre.length].toNat : Int) != (x.toNat : Int)) = false := by rw [hc]; simp
        clear hc
        gi_wp2
        have hV2 : (W.setCell ⟨w.heap.size + 1 + 1 + 1, 0, none⟩ (.int .i64 ((pre.length : Int) + 1))).heap[w.heap.size + 1 + 1 + 1 + 1]? = W.heap[w.heap.size + 1 + 1 + 1 + 1]? := Below.heap_setCell _ _ _ _ (ne3 _)
        refine ⟨HST.out _ (by omega) _, ⟨(Below.refl _ _).setCell (p := ⟨w.heap.size + 1 + 1 + 1, 0, none⟩) (low3 _) _, hV2⟩, HO.out, hS.other (by omega) _, hR.other (by omega) _, ?_, hV2.trans HV.out, HB.out.setCell (p := ⟨w.heap.size + 1 + 1 + 1, 0, none⟩) (low3 _) _⟩
        have := hA.set (.int .i64 ((pre.length : Int) + 1))
        rw [List.length_append]
        simpa using this
      · have HO : Hid (¬ pre ++ [x] <+: s.data.toList) := fun h => by
          rw [pre_snoc HP.out, HG.out] at h
          exact hc (by injection h)
        have hcc : ((s[pre.length].toNat : Int) != (x.toNat : Int)) = true := by
          have : s[pre.length].toNat ≠ x.toNat := fun e => hc (UInt8.toNat_inj.1 e)
          simp; omega
        clear hc
        gi_wp2
        exact ⟨HST.out _ (by omega) _, rfl, HO.out, hR.set _, HB.out.setCell (p := ⟨w.heap.size + 1 + 1, 0, none⟩) (low2 _) _⟩
  case done =>
    rintro D ys W hD rfl ⟨hp, hS, hR, hA, hV, hB⟩ hK
    have s0 := hS.cell
    have a0 := hA.cell
    have r0 := hR.cell
    have r1 := hR.frozen
    have HP := Lib.hid hp
    have HB := Lib.hid hB
    have hle : (txtL k n t).length ≤ s.size := by have := hp.length_le; rw [HSZ.out] at this; exact this
    clear hp hB hV
    by_cases hx : (txtL k n t).length = s.size
    · have HE : Hid (decide (txtL k n t = s.data.toList) = true) := by
        show _ = _
        rw [decide_eq_true_eq]
        exact HP.out.eq_of_length (by rw [HSZ.out, hx])
      gi_wp2
      refine ⟨by simp, .inl ⟨_, _, rfl, run_takeDeferred ((Below.heap_setCell _ _ _ _ (ne2 (by omega))).trans hK), ?_⟩⟩
      have hR2 := ((hR.set (.bool true)).kept (grownBy_putObj' _ D (.deferred none)) (by intro e; injection e with e; omega)).cell
      refine ⟨.bool true, (by rw [results_cell_only rfl]; go_simp), by rw [HE.out], (HB.out.setCell (p := ⟨w.heap.size + 1 + 1, 0, none⟩) (low2 _) _).trans (belowK_b (w := W2) (n₀ := w.heap.size) (by omega) _ D _ _ (by omega) ((Below.heap_setCell _ _ _ _ (ne2 (by omega))).trans hK) rfl rfl)⟩
    · have HE : Hid (decide (txtL k n t = s.data.toList) = false) := by
        show _ = _
        rw [decide_eq_false_iff_not]
        intro e
        exact hx (by rw [← HSZ.out, ← e])
      have hne : (((txtL k n t).length : Int) == (s.size : Int)) = false := by simp; omega
      gi_wp2
      refine ⟨by simp, .inl ⟨_, _, rfl, run_takeDeferred ((Below.heap_setCell _ _ _ _ (ne2 (by omega))).trans hK), ?_⟩⟩
      have hR2 := ((hR.set (.bool false)).kept (grownBy_putObj' _ D (.deferred none)) (by intro e; injection e with e; omega)).cell
      refine ⟨.bool false, (by rw [results_cell_only rfl]; go_simp), by rw [HE.out], (HB.out.setCell (p := ⟨w.heap.size + 1 + 1, 0, none⟩) (low2 _) _).trans (belowK_b (w := W2) (n₀ := w.heap.size) (by omega) _ D _ _ (by omega) ((Below.heap_setCell _ _ _ _ (ne2 (by omega))).trans hK) rfl rfl)⟩
  case stop =>
    rintro D c pre W hD hsp ⟨rfl, hnp, hR, hB⟩ hK
    have r0 := hR.cell
    have r1 := hR.frozen
    have HE : Hid (decide (txtL k n t = s.data.toList) = false) := by
      show _ = _
      rw [decide_eq_false_iff_not]
      intro e
      rw [e] at hsp
      exact hnp hsp
    gi_wp2
    refine ⟨by simp, .inl ⟨_, _, rfl, run_takeDeferred hK, ?_⟩⟩
    have hR2 := (hR.kept (grownBy_putObj' W D (.deferred none)) (by intro e; injection e with e; omega)).cell
    refine ⟨.bool false, (by rw [results_cell_only rfl]; go_simp), by rw [HE.out], hB.trans ((belowK_b (w := W2) (n₀ := w.heap.size) (by omega) W D _ _ (by omega) hK rfl rfl))⟩

end Go.Proofs.YtpnjolacmkcofaaDoor
