/-
  CONTRACT: rows.Of.
-/
import Derived.Test.YtofmfainhflmmaaZGath
import Derived.Test.YtofmfainhflmmaaZSorted
namespace Go.Proofs.Ytofmfainhflmmaa
open Go.RowKit

theorem results_ct {fn : Func} {p u : Tmp} {ty : TypeId} (h : fn.results = #[.cell p ty, .tmp u]) (tmps : Array Value) (P : Program) (w : World) :
    (results fn tmps).run P w = ((asAddr (tmps.getD p undef)).run P w).andThen fun a w₁ => ((loadVar ty a).run P w₁).andThen fun v w₂ => .ok (.tuple #[v, tmps.getD u undef]) w₂ := by
  simp only [results, h]
  simp [Sem.run_bind]
/-- a relation's two cells, stored -/
theorem cells_two {W : World} {b : Nat} {u0 u1 v0 v1 : Value} (c0 : W.cell? ⟨b, 0, none⟩ = some u0) (c1 : W.cell? ⟨b, 1, none⟩ = some u1) :
    ((W.setCell ⟨b, 0, none⟩ v0).setCell ⟨b, 1, none⟩ v1).cell? ⟨b, 0, none⟩ = some v0 ∧ ((W.setCell ⟨b, 0, none⟩ v0).setCell ⟨b, 1, none⟩ v1).cell? ⟨b, 1, none⟩ = some v1 := by
  constructor
  · rw [World.cell?_setCell_other _ _ _ _ (by intro h; injection h with _ h; omega), World.cell?_setCell_same _ _ _ c0]
  · rw [World.cell?_setCell_same _ _ _ (by rw [World.cell?_setCell_other _ _ _ _ (by intro h; injection h with _ h; omega)]; exact c1)]
theorem owns_set {W : World} {B : Nat} {t : TypeId} {k n : Nat} {v : Value} {xs : List Value} (h : W.ownsRow B t k v n xs) {b : Nat} (hb : b < B) (o : Nat) (u : Value) : (W.setCell ⟨b, o, none⟩ u).ownsRow B t k v n xs := by
  refine ⟨h.1, ?_⟩
  rcases h.2 with h | ⟨g, cap, cur, h1, h2, h3, h4⟩
  · exact .inl h
  · exact .inr ⟨g, cap, cur, h1, h2, (Below.heap_setCell W ⟨b, o, none⟩ u g (by show g ≠ b; omega)).trans h3, h4⟩
theorem OwnR.set {W : World} {B : Nat} {v : Value} {R : List Rw} (h : OwnR W B v R) {b : Nat} (hb : b < B) (o : Nat) (u : Value) : OwnR (W.setCell ⟨b, o, none⟩ u) B v R :=
  ⟨owns_set h.o hb o u, fun x hx => owns_set (h.i x hx) hb o u, h.z⟩
/-- what Of says of its error -/
noncomputable def ofC (cols : List ByteArray) (R : List Rw) : Int :=
  if colsB cols = true ∧ longB cols.length R = true then (if (putsG ordR (txR R)).length ≤ 100000 then 0 else 140) else 2
/-- a relation that is answered, with its error -/
def OfEnd (w : World) (cols : List ByteArray) (R : List Rw) (e : Ending) (w' : World) : Prop :=
  Below w.heap.size w w' ∧ ∃ vc vr, e = .returned (.tuple #[.agg #[vc, vr], .int .i64 (ofC cols R)]) ∧
    ((ofC cols R = 0 ∧ OwnC w' w.heap.size vc cols ∧ ∃ R', OwnR w' w.heap.size vr R' ∧ txR R' = putsG ordR (txR R)) ∨ (ofC cols R ≠ 0 ∧ vc = .slice none 0 0 ∧ vr = .slice none 0 0))
theorem becomes_clone {R : List Rw} {w : World} (hs : ∀ r ∈ R, RwOk w w.heap.size r) (hl : ∀ r ∈ R, r.l.length ≤ 1000000000000) : Becomes 48 #[] (fun l => l) R w := fun r hr W hb =>
  cloneV_any r.A r.c r.l W W.heap.size ((hs r hr).up hb (Nat.le_refl _)).s (hs r hr).n (Nat.le_refl _) (hl r hr)
theorem eg_clone : ∀ args w, (callFunc 48 args).run Try.prog w = .ok (.enter 48 args) w := enters_of Try.func48 (by kernel_rfl) rfl

set_option maxRecDepth 100000 in
set_option maxHeartbeats 2000000 in
theorem of_any (A : Option Addr) (c : Nat) (cols : List ByteArray) (A' : Option Addr) (c' : Nat) (R : List Rw) (w : World) (hc : SlC w w.heap.size A cols) (hR : SlR w w.heap.size A' R) (hn : A = none → cols.length = 0 ∧ c = 0) (hn' : A' = none → R.length = 0 ∧ c' = 0) (hcc : cols.length ≤ c)
    (hl : cols.length ≤ 1000000000000) (hl' : R.length ≤ 1000000000000) (hll : ∀ r ∈ R, r.l.length ≤ 1000000000000) :
    Calls Try.prog 36 #[.slice A cols.length c, .slice A' R.length c'] w (OfEnd w cols R) := by
  have HC := Lib.hid hc
  have HR := Lib.hid hR
  have HN := Lib.hid hn
  have HN' := Lib.hid hn'
  have HLL := Lib.hid hll
  clear hc hR hn hn' hll
  have HB0 : Hid (Below w.heap.size w (w.alloc (.cells #[.slice none 0 0, .slice none 0 0] 34))) := (Below.refl _ _).alloc (Nat.le_refl _) _
  obtain ⟨w0, hw0⟩ : ∃ w0, w.alloc (.cells #[.slice none 0 0, .slice none 0 0] 34) = w0 := ⟨_, rfl⟩
  have c0 : w0.cell? ⟨w.heap.size, 0, none⟩ = some (.slice none 0 0) := by rw [← hw0, World.cell?_alloc_new]; rfl
  have c1 : w0.cell? ⟨w.heap.size, 1, none⟩ = some (.slice none 0 0) := by rw [← hw0, World.cell?_alloc_new]; rfl
  have f0 : w0.frozen? ⟨w.heap.size, 0, none⟩ = false := by rw [← hw0]; simp
  have f1 : w0.frozen? ⟨w.heap.size, 1, none⟩ = false := by rw [← hw0]; simp
  have hz0 : w0.heap.size = w.heap.size + 1 := by rw [← hw0]; simp
  rw [hw0] at HB0
  have HZ0 := Lib.hid hz0
  have HCa := Lib.hid (areCols_any A c cols w0 w.heap.size (HC.out.next HB0.out (Nat.le_refl _)) (by omega) hcc)
  have HLa := Lib.hid (areAsLong_any cols.length A' c' R w0 w.heap.size (HR.out.next HB0.out (Nat.le_refl _)) HB0.out.size (by omega))
  clear hz0
  by_cases hq1 : colsB cols = true
  · rw [hq1] at HCa
    have HQ1 := Lib.hid hq1
    by_cases hq2 : longB cols.length R = true
    · rw [hq2] at HLa
      have HQ2 := Lib.hid hq2
      clear hq1 hq2
      go_enter Try.func36, Try.ntmps36
      go_wp2_with fail
      refine HCa.out.mono ?_
      rintro e w' ⟨rfl, rfl⟩
      go_wp2_with fail
      refine HLa.out.mono ?_
      rintro e w1 ⟨rfl, hb1⟩
      have HB1 := Lib.hid (HB0.out.trans (hb1.mono HB0.out.size))
      have hlt0 : w.heap.size < w0.heap.size := by have := HZ0.out; omega
      have c0 := (hb1.cell (p := ⟨w.heap.size, 0, none⟩) hlt0).trans c0
      have c1 := (hb1.cell (p := ⟨w.heap.size, 1, none⟩) hlt0).trans c1
      have f0 := (hb1.frozen (p := ⟨w.heap.size, 0, none⟩) hlt0).trans f0
      have f1 := (hb1.frozen (p := ⟨w.heap.size, 1, none⟩) hlt0).trans f1
      have HZ1 : Hid (w.heap.size < w1.heap.size) := Nat.lt_of_lt_of_le hlt0 hb1.size
      clear hw0 hb1 hlt0
      go_wp2_with fail
      refine (cloneR_any A' c' R w1 w1.heap.size ((HR.out.next HB1.out (Nat.le_refl _)).more HB1.out.size).s HN'.out (Nat.le_refl _) hl').mono ?_
      rintro e w2 ⟨v2, rfl, ho2, hb2⟩
      have HB2 := Lib.hid (HB1.out.trans (hb2.mono HB1.out.size))
      have HRW := Lib.hid (fun r hr => (HR.out.r r hr).up HB2.out (Nat.le_refl _))
      have HFAR : Hid (∀ r ∈ R, r.l ≠ [] → ∀ b o, r.A = some ⟨b, o, none⟩ → b < w.heap.size) := fun r hr hne b o e => by
        obtain ⟨b', o', e', hlt, _⟩ := (HR.out.r r hr).s hne
        rw [e] at e'
        injection e' with e'
        injection e' with e' _
        omega
      have HSO := Lib.hid (sorted_any w1.heap.size v2 R w2 ho2 (fun g hg r hr => ⟨HRW.out r hr, fun hne b o e => by
        obtain ⟨n, cc, e2⟩ := hg
        obtain ⟨A3, c3, e3, _, _, _, _, h4⟩ := ho2.form
        rw [e2] at e3
        injection e3 with e3
        obtain ⟨g3, e4, h5, _⟩ := h4 _ e3.symm
        injection e4 with e4
        have := HFAR.out r hr hne b o e
        have := HB1.out.size
        omega⟩) hl')
      obtain ⟨A9, c9, rfl, _⟩ := ho2.form
      clear ho2
      have c0 := (hb2.cell (p := ⟨w.heap.size, 0, none⟩) HZ1.out).trans c0
      have c1 := (hb2.cell (p := ⟨w.heap.size, 1, none⟩) HZ1.out).trans c1
      have f0 := (hb2.frozen (p := ⟨w.heap.size, 0, none⟩) HZ1.out).trans f0
      have f1 := (hb2.frozen (p := ⟨w.heap.size, 1, none⟩) HZ1.out).trans f1
      have HZ2 : Hid (w1.heap.size ≤ w2.heap.size) := hb2.size
      clear hb2
      go_wp2_with fail
      refine HSO.out.mono ?_
      rintro e w3 ⟨A3, n3, c3, e3, hg3, R3, c4, htx, hin, rfl, hlc, hcm, hsl, hrow, hnone⟩
      have HB3 : Hid (Below w1.heap.size w2 w3) := by
        cases A3 with
        | none =>
          obtain ⟨rfl, _⟩ := hnone rfl
          exact Below.refl _ _
        | some a =>
          obtain ⟨g, rfl, h1, h2⟩ := hg3 a rfl
          exact (hrow g rfl).2.below h1 h2
      have HBW : Hid (Below w.heap.size w w3) := HB2.out.trans (HB3.out.mono HB1.out.size)
      have hlt1 := HZ1.out
      have c0 := (HB3.out.cell (p := ⟨w.heap.size, 0, none⟩) hlt1).trans c0
      have c1 := (HB3.out.cell (p := ⟨w.heap.size, 1, none⟩) hlt1).trans c1
      have f0 := (HB3.out.frozen (p := ⟨w.heap.size, 0, none⟩) hlt1).trans f0
      have f1 := (HB3.out.frozen (p := ⟨w.heap.size, 1, none⟩) hlt1).trans f1
      have hln : R3.length = (putsG ordR (txR R)).length := by rw [← htx, txR_len]
      have HTX := Lib.hid htx
      have HIN := Lib.hid hin
      have HZ3 : Hid (w.heap.size < w3.heap.size) := Nat.lt_of_lt_of_le hlt1 (Nat.le_trans HZ2.out HB3.out.size)
      have hl3 : R3.length ≤ 1000000000000 := by
        have := putsG_len (o := ordR) (txR R)
        rw [txR_len] at this
        omega
      have HR3 : Hid (SlR w3 w3.heap.size A3 R3) := ⟨hsl, fun r hr => (HR.out.r r (HIN.out r hr)).up HBW.out (Nat.le_refl _)⟩
      clear htx hin hg3 hrow hnone hlt1 e3 hsl HSO
      by_cases hq : R3.length ≤ 100000
      · have hqi : ¬ (100000 : Int) < (R3.length : Int) := by omega
        have HE : Hid (ofC cols R = 0) := by
          show _ = _
          unfold ofC
          rw [if_pos ⟨HQ1.out, HQ2.out⟩, if_pos (by omega)]
        clear hln
        go_wp2_with fail
        refine (cloneS_any A c cols w3 w3.heap.size ((HC.out.next HBW.out (Nat.le_refl _)).more HBW.out.size) HN.out (Nat.le_refl _) hl).mono ?_
        rintro e w4 ⟨v4, rfl, ho4, hb4⟩
        obtain ⟨A5, c5, rfl, _⟩ := ho4.form
        have HO4 := Lib.hid ho4
        have HBW4 : Hid (Below w.heap.size w w4) := HBW.out.trans (hb4.mono HBW.out.size)
        have c0 := (hb4.cell (p := ⟨w.heap.size, 0, none⟩) HZ3.out).trans c0
        have c1 := (hb4.cell (p := ⟨w.heap.size, 1, none⟩) HZ3.out).trans c1
        have f0 := (hb4.frozen (p := ⟨w.heap.size, 0, none⟩) HZ3.out).trans f0
        have f1 := (hb4.frozen (p := ⟨w.heap.size, 1, none⟩) HZ3.out).trans f1
        have HR4 := Lib.hid (HR3.out.up hb4 (Nat.le_refl _))
        have HZ4 : Hid (w.heap.size < w4.heap.size) := Nat.lt_of_lt_of_le HZ3.out hb4.size
        clear ho4 hb4
        have HGA := Lib.hid (gathR_any 48 #[] (fun l => l) A3 c4 R3 w4 HR4.out hl3 eg_clone (becomes_clone HR4.out.r fun r hr => HLL.out r (HIN.out r hr)) fun r hr => (HR4.out.r r hr).z)
        go_wp2_with fail
        refine HGA.out.mono ?_
        rintro e w5 ⟨v5, R5, rfl, ho5, htx5, hb5⟩
        obtain ⟨A6, c6, rfl, _⟩ := ho5.form
        have c0 := (hb5.cell (p := ⟨w.heap.size, 0, none⟩) HZ4.out).trans c0
        have c1 := (hb5.cell (p := ⟨w.heap.size, 1, none⟩) HZ4.out).trans c1
        have f0 := (hb5.frozen (p := ⟨w.heap.size, 0, none⟩) HZ4.out).trans f0
        have f1 := (hb5.frozen (p := ⟨w.heap.size, 1, none⟩) HZ4.out).trans f1
        have HBW5 : Hid (Below w.heap.size w w5) := HBW4.out.trans (hb5.mono HBW4.out.size)
        have HO5 := Lib.hid ho5
        have HB5 := Lib.hid hb5
        have HTX5 : Hid (txR R5 = putsG ordR (txR R)) := by
          show _ = _
          rw [htx5, ← HTX.out]; rfl
        clear ho5 htx5 hb5
        have HC2 := Lib.hid (cells_two (v0 := .slice A5 cols.length c5) (v1 := .slice A6 R5.length c6) c0 c1)
        go_wp2
        refine bodyPost_ret (v := .tuple #[.agg #[.slice A5 cols.length c5, .slice A6 R5.length c6], .int .i64 0]) (by rw [results_ct rfl]; obtain ⟨x0, x1⟩ := HC2.out; clear c0 c1; go_simp) rfl ?_
        refine ⟨(HBW5.out.setCell (p := ⟨w.heap.size, 0, none⟩) (Nat.le_refl _) _).setCell (p := ⟨w.heap.size, 1, none⟩) (Nat.le_refl _) _, _, _, by rw [HE.out], .inl ⟨HE.out, ?_, R5, ?_, HTX5.out⟩⟩
        · exact owns_low (owns_set (owns_set (owns_next HO4.out HB5.out) HZ3.out _ _) HZ3.out _ _) (Nat.le_of_lt HZ3.out)
        · exact ((HO5.out.set HZ4.out _ _).set HZ4.out _ _).low (Nat.le_of_lt HZ4.out)
      · have hqi : (100000 : Int) < (R3.length : Int) := by omega
        have HE : Hid (ofC cols R = 140) := by
          show _ = _
          unfold ofC
          rw [if_pos ⟨HQ1.out, HQ2.out⟩, if_neg (by omega)]
        clear hln
        have HC2 := Lib.hid (cells_two (v0 := .slice none 0 0) (v1 := .slice none 0 0) c0 c1)
        go_wp2
        refine bodyPost_ret (v := .tuple #[.agg #[.slice none 0 0, .slice none 0 0], .int .i64 140]) (by rw [results_ct rfl]; obtain ⟨x0, x1⟩ := HC2.out; clear c0 c1; go_simp) rfl ?_
        refine ⟨(HBW.out.setCell (p := ⟨w.heap.size, 0, none⟩) (Nat.le_refl _) _).setCell (p := ⟨w.heap.size, 1, none⟩) (Nat.le_refl _) _, _, _, ?_, .inr ⟨?_, rfl, rfl⟩⟩
        · rw [HE.out]
        · rw [HE.out]; decide
    · rw [Bool.not_eq_true] at hq2
      rw [hq2] at HLa
      have HE : Hid (ofC cols R = 2) := by show _ = _; unfold ofC; rw [hq2, if_neg (by simp)]
      clear hq1 hq2
      go_enter Try.func36, Try.ntmps36
      go_wp2_with fail
      refine HCa.out.mono ?_
      rintro e w' ⟨rfl, rfl⟩
      go_wp2_with fail
      refine HLa.out.mono ?_
      rintro e w1 ⟨rfl, hb1⟩
      have HB1 := Lib.hid (HB0.out.trans (hb1.mono HB0.out.size))
      have hlt0 : w.heap.size < w0.heap.size := by have := HZ0.out; omega
      have c0 := (hb1.cell (p := ⟨w.heap.size, 0, none⟩) hlt0).trans c0
      have c1 := (hb1.cell (p := ⟨w.heap.size, 1, none⟩) hlt0).trans c1
      have f0 := (hb1.frozen (p := ⟨w.heap.size, 0, none⟩) hlt0).trans f0
      have f1 := (hb1.frozen (p := ⟨w.heap.size, 1, none⟩) hlt0).trans f1
      clear hw0 hb1 hlt0
      have HC2 := Lib.hid (cells_two (v0 := .slice none 0 0) (v1 := .slice none 0 0) c0 c1)
      go_wp2
      refine bodyPost_ret (v := .tuple #[.agg #[.slice none 0 0, .slice none 0 0], .int .i64 2]) (by rw [results_ct rfl]; obtain ⟨x0, x1⟩ := HC2.out; clear c0 c1; go_simp) rfl ?_
      refine ⟨(HB1.out.setCell (p := ⟨w.heap.size, 0, none⟩) (Nat.le_refl _) _).setCell (p := ⟨w.heap.size, 1, none⟩) (Nat.le_refl _) _, _, _, ?_, .inr ⟨?_, rfl, rfl⟩⟩
      · rw [HE.out]
      · rw [HE.out]; decide
  · rw [Bool.not_eq_true] at hq1
    rw [hq1] at HCa
    have HE : Hid (ofC cols R = 2) := by show _ = _; unfold ofC; rw [hq1, if_neg (by simp)]
    clear hq1
    go_enter Try.func36, Try.ntmps36
    go_wp2_with fail
    refine HCa.out.mono ?_
    rintro e w' ⟨rfl, rfl⟩
    clear hw0
    have HC2 := Lib.hid (cells_two (v0 := .slice none 0 0) (v1 := .slice none 0 0) c0 c1)
    go_wp2
    refine bodyPost_ret (v := .tuple #[.agg #[.slice none 0 0, .slice none 0 0], .int .i64 2]) (by rw [results_ct rfl]; obtain ⟨x0, x1⟩ := HC2.out; clear c0 c1; go_simp) rfl ?_
    refine ⟨(HB0.out.setCell (p := ⟨w.heap.size, 0, none⟩) (Nat.le_refl _) _).setCell (p := ⟨w.heap.size, 1, none⟩) (Nat.le_refl _) _, _, _, ?_, .inr ⟨?_, rfl, rfl⟩⟩
    · rw [HE.out]
    · rw [HE.out]; decide
end Go.Proofs.Ytofmfainhflmmaa
