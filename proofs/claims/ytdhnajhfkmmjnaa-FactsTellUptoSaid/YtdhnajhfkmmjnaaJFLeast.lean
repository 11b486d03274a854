import Derived.Test.YtdhnajhfkmmjnaaJFMay
import Derived.Test.YtdhnajhfkmmjnaaJFChgP
import Derived.Test.YtdhnajhfkmmjnaaJFThen
import Derived.Test.YtdhnajhfkmmjnaaJDSl
/-
  CONTRACTS: slices.Clone at spans; facts.Spans.
-/
namespace Go.Proofs.Ytdhnajhfkmmjnaa
open Go.RowKit Go.Shelf

theorem ownS_zero' (W : World) (B : Nat) (hB : B ≤ W.heap.size) : OwnS (W.alloc (.cells #[] 66)) B (.slice (some ⟨W.heap.size, 0, none⟩) 0 0) [] :=
  ⟨rfl, .inr ⟨W.heap.size, 0, #[], rfl, hB, heap_alloc_new W _, Nat.le_refl _, Nat.zero_le _, rfl, rfl⟩⟩
set_option maxRecDepth 100000 in
set_option maxHeartbeats 1000000 in
theorem cloneS_some (ad : Addr) (c : Nat) (l : List Sp) (w : World) (hs : SlS w w.heap.size (some ad) l) (hl : l.length ≤ 100000) :
    Calls Try.prog 42 #[.slice (some ad) l.length c] w fun e w' => ∃ v, e = .returned v ∧ OwnS w' w.heap.size v l ∧ Below w.heap.size w w' := by
  obtain ⟨i0, hi, hz0, hz1, hz2⟩ := info_parts info92
  have hmx : 100001 ≤ maxLen := by decide
  have HL0 := Lib.hid (ownS_zero' w w.heap.size (Nat.le_refl _))
  have HNW : Hid (∀ a', some ad = some a' → ∀ j u, (l.flatMap cellsS)[j]? = some u → (w.alloc (.cells #[] 66)).cell? (a'.add j) = some u) := fun a' h j u hu => (hs.next ((Below.refl _ _).alloc (Nat.le_refl _) _) (Nat.le_refl _)).news a' h j u hu
  clear hs
  have he := fun w => Lib.run_eql_slice_nil (P := Try.prog) w 40 66 (some ad) l.length c 0 0 Try.underlying40
  simp only [Option.isNone_some] at he
  go_enter Try.func42, Try.ntmps42
  go_wp2_with (at_builtin; refine wpList_append_any rfl _ _ 40 rfl w.heap.size 66 i0 (.agg #[.int .i64 0, .int .i64 0]) 2 16 Try.underlying40 hi hz0 hz1 hz2 rfl (by decide) _ _ _ rfl HL0.out (some ad) l.length c (l.flatMap cellsS) rfl (flatS_len l) (fun h => by cases h) HNW.out (cellsS_all l) (by simp; omega) (by simp; omega) (by simp) ?_; intro v1 w1 hown' hgrow; have HV1 : Hid (OwnS w1 w.heap.size v1 l) := ownS_of (a := []) hown'; have HB1 := Lib.hid (((Below.refl w.heap.size w).alloc (Nat.le_refl _) (.cells #[] 66)).trans (below_ownS HL0.out hgrow (by simp))); clear hown' hgrow)
  go_ret
  exact ⟨_, rfl, HV1.out, HB1.out⟩
set_option maxRecDepth 100000 in
set_option maxHeartbeats 400000 in
theorem cloneS_none (c : Nat) (w : World) :
    Calls Try.prog 42 #[.slice none 0 c] w fun e w' => e = .returned (.slice none 0 0) ∧ w = w' := by
  have he := fun w => Lib.run_eql_slice_nil (P := Try.prog) w 40 66 none 0 c 0 0 Try.underlying40
  simp only [Option.isNone_none] at he
  go_enter Try.func42, Try.ntmps42
  go_wp2
  go_ret
  exact ⟨rfl, rfl⟩
theorem cloneS_any (A : Option Addr) (c : Nat) (l : List Sp) (w : World) (hs : SlS w w.heap.size A l) (hl : l.length ≤ 100000) :
    Calls Try.prog 42 #[.slice A l.length c] w fun e w' => ∃ v, e = .returned v ∧ OwnS w' w.heap.size v l ∧ Below w.heap.size w w' := by
  cases A with
  | some ad => exact cloneS_some ad c l w hs hl
  | none =>
    have : l = [] := by
      cases l with
      | nil => rfl
      | cons x r =>
        obtain ⟨b, o, e, _⟩ := hs (by simp)
        cases e
    subst this
    refine (cloneS_none c w).mono ?_
    rintro e w' ⟨rfl, rfl⟩
    exact ⟨_, rfl, World.ownsRow_nil _ _ _ _, Below.refl _ _⟩

/-- What facts.Spans answers. -/
def SpEnd (w : World) (fs : List FactP) (x : Int × Int × Int × Int × ByteArray) (en : Ending) (w' : World) : Prop :=
  (∃ v ec, en = .returned (.tuple #[v, .int .i64 ec]) ∧ ((mayFs fs = true ∧ ec = 0 ∧ SV w' v (spansOf fs x)) ∨ (mayFs fs = false ∧ ec = 60 ∧ v = .slice none 0 0))) ∧ Below w.heap.size w w'
/-- a value in a box -/
def VBx (W : World) (b : Nat) (k m : Int) (s : ByteArray) : Prop := W.heap[b]? = some (.cells #[.int .i64 k, .int .i64 m, .string s] 39 (0, 0))
theorem VBx.cell {W : World} {b : Nat} {k m : Int} {s : ByteArray} (h : VBx W b k m s) (j : Nat) : W.cell? ⟨b, j, none⟩ = (#[Value.int .i64 k, .int .i64 m, .string s])[j]? := by unfold VBx at h; simp [World.cell?, h]
theorem VBx.k0 {W : World} {b : Nat} {k m : Int} {s : ByteArray} (h : VBx W b k m s) : W.cell? ⟨b, 0, none⟩ = some (.int .i64 k) := h.cell 0
theorem VBx.k1 {W : World} {b : Nat} {k m : Int} {s : ByteArray} (h : VBx W b k m s) : W.cell? ⟨b, 1, none⟩ = some (.int .i64 m) := h.cell 1
theorem VBx.k2 {W : World} {b : Nat} {k m : Int} {s : ByteArray} (h : VBx W b k m s) : W.cell? ⟨b, 2, none⟩ = some (.string s) := h.cell 2
theorem VBx.next {W W' : World} {b : Nat} {k m : Int} {s : ByteArray} (h : VBx W b k m s) (hb : Below W.heap.size W W') : VBx W' b k m s := (hb.block b (Array.getElem?_eq_some_iff.1 h).1).trans h
def FSS (w0 : World) (bx : Nat) (f : FactP) (sv : Value) (bv : Nat) (k m : Int) (s : ByteArray) (W : World) : Prop := FcBx W bx f sv ∧ SVa W sv f.l ∧ VBx W bv k m s ∧ Below w0.heap.size w0 W
theorem FSS.next {w0 W W' : World} {bx : Nat} {f : FactP} {sv : Value} {bv : Nat} {k m : Int} {s : ByteArray} (h : FSS w0 bx f sv bv k m s W) (hb : Below W.heap.size W W') : FSS w0 bx f sv bv k m s W' :=
  ⟨h.1.next hb, h.2.1.next hb, h.2.2.1.next hb, h.2.2.2.trans (hb.mono h.2.2.2.size)⟩
set_option maxRecDepth 100000 in
set_option maxHeartbeats 4000000 in
theorem spansF_any (A : Option Addr) (c : Nat) (fs : List FactP) (e a k m : Int) (s : ByteArray) (w : World) (hs : FVa w (.slice A fs.length c) fs) (hl : fs.length ≤ 100000) (hz : ∀ f ∈ fs, f.s.size ≤ maxLen ∧ f.l.length ≤ 100000) :
    Calls Try.prog 17 #[.slice A fs.length c, .int .i64 e, .int .i64 a, .agg #[.int .i64 k, .int .i64 m, .string s]] w (SpEnd w fs (e, a, k, m, s)) := by
  obtain ⟨w0, hw0⟩ : ∃ w0, w.alloc (.cells #[.int .i64 k, .int .i64 m, .string s] 39) = w0 := ⟨_, rfl⟩
  have hb0 : Below w.heap.size w w0 := by rw [← hw0]; exact (Below.refl _ w).alloc (Nat.le_refl _) _
  have HB0 := Lib.hid hb0
  have HV0 : Hid (VBx w0 w.heap.size k m s) := by rw [← hw0]; exact heap_alloc_new w _
  have HS0 := Lib.hid (hs.next hb0)
  have HC := Lib.hid (mayFs_any A c fs w0 HS0.out hl hz)
  have HZ := Lib.hid hz
  have HX : Hid (∃ x, x = (e, a, k, m, s)) := ⟨_, rfl⟩
  clear hs hz hb0
  obtain ⟨v, hv⟩ : ∃ v, mayFs fs = v := ⟨_, rfl⟩
  rw [hv] at HC
  have HMV := Lib.hid hv
  clear hv
  go_enter Try.func17, Try.ntmps17
  go_upto_region 1 with (fail)
  try rw [hw0]
  clear hw0
  go_wp2_with fail
  refine HC.out.mono ?_
  rintro en w1 ⟨rfl, hb1⟩
  have HB1 := Lib.hid (HB0.out.trans (hb1.mono HB0.out.size))
  have HV1 := Lib.hid (HV0.out.next hb1)
  have HS1 := Lib.hid (HS0.out.next hb1)
  clear hb1 HC
  cases v
  · go_wp2
    go_ret2
    exact ⟨⟨_, _, rfl, .inr ⟨HMV.out, rfl, rfl⟩⟩, HB1.out⟩
  · have HRI : Hid (RiseF fs) := (of_decide_eq_true HMV.out).2
    go_wp2
    go_loopg [11, 17] fs.length (fun g x y wr => ∃ (j : Nat), y = .int .i64 j ∧ j + g = fs.length ∧ Hid (∀ i f, i < j → fs[i]? = some f → triF f ≠ (e, a, k, m, s)) ∧ Hid (Below w1.heap.size w1 wr))
    case atStart => exact ⟨0, rfl, by omega, fun i f hi => by omega, Below.refl _ _⟩
    case round =>
      obtain ⟨j, rfl, hj, HO, HB⟩ := hrel
      cases gk with
      | zero =>
        have hjz : ¬ ((j : Int) < (fs.length : Int)) := by omega
        have HE : Hid (spansOf fs (e, a, k, m, s) = []) := spansOf_none fun f hf => by
          obtain ⟨i, hi, rfl⟩ := List.mem_iff_getElem.1 hf
          exact HO.out i _ (by omega) (List.getElem?_eq_getElem hi)
        have HBW := Lib.hid (HB1.out.trans (HB.out.mono HB1.out.size))
        go_wp2
        go_ret2
        exact ⟨⟨_, _, rfl, .inl ⟨HMV.out, rfl, by rw [HE.out]; exact ⟨none, 0, rfl, fun h => absurd rfl h, Nat.le_refl _, Nat.zero_le _, fun h => absurd rfl h⟩⟩⟩, HBW.out⟩
      | succ g =>
        have hjz : (j : Int) < (fs.length : Int) := by omega
        have hjn : j < fs.length := by omega
        obtain ⟨b, o, sv, rfl, hlt, hc, hsv⟩ := fva_at (HS1.out.next HB.out) hjn
        obtain ⟨f, hf⟩ : ∃ f, fs[j] = f := ⟨_, rfl⟩
        rw [hf] at hc hsv
        have HFG : Hid (fs[j]? = some f) := by show _ = _; rw [List.getElem?_eq_getElem hjn, hf]
        have hzf := HZ.out f (by rw [← hf]; exact List.getElem_mem _)
        obtain ⟨As, cs, rfl, hsv'⟩ := id hsv
        have HSV : Hid (SVa wr (.slice As f.l.length cs) f.l) := ⟨As, cs, rfl, hsv'⟩
        have c0 := hc.1
        have c1 := hc.2.1
        have c2 := hc.2.2.1
        have c3 := hc.2.2.2.1
        have c4 := hc.2.2.2.2.1
        have c5 := hc.2.2.2.2.2
        have HOF := Lib.hid (fun X => ofFact_any f (.slice As f.l.length cs) X ⟨_, _, _, rfl⟩)
        have HCL := Lib.hid (fun X (h : SlS X X.heap.size As f.l) => cloneS_any As cs f.l X h hzf.2)
        have HX := Lib.hid (fcBx_new wr f (.slice As f.l.length cs))
        have HBN := Lib.hid ((Below.refl wr.heap.size wr).alloc (Nat.le_refl _) (.cells #[.int .i64 f.e, .int .i64 f.a, .int .i64 f.k, .int .i64 f.m, .string f.s, .slice As f.l.length cs] 42))
        have HMS : Hid (FSS w1 wr.heap.size f (.slice As f.l.length cs) w.heap.size k m s (wr.alloc (.cells #[.int .i64 f.e, .int .i64 f.a, .int .i64 f.k, .int .i64 f.m, .string f.s, .slice As f.l.length cs] 42)).drew) := FSS.next ⟨HX.out, HSV.out.next HBN.out, (HV1.out.next HB.out).next HBN.out, HB.out.trans (HBN.out.mono HB.out.size)⟩ (below_ind (Below.refl _ _) 1)
        have hq := fun X => eqTri (datF f) ⟨e, a, k, m, s, 0, false, 0, 0⟩ X
        unfold triV datF at hq
        simp only at hq
        obtain ⟨t, ht⟩ : ∃ t, decide (triD ⟨f.e, f.a, f.k, f.m, f.s, 1, false, 0, 1⟩ = triD ⟨e, a, k, m, s, 0, false, 0, 0⟩) = t := ⟨_, rfl⟩
        rw [ht] at hq
        have HT : Hid (decide (triF f = (e, a, k, m, s)) = t) := ht
        clear hf hc hsv hsv' hlt ht
        go_wp2
        refine wp_region_held_drew (S := FSS w1 wr.heap.size f (.slice As f.l.length cs) w.heap.size k m s) (by kernel_rfl) HMS.out (fun hHeld => ?_)
        refine takeV 0 (some 21) ((.agg #[.int .i64 f.e, .int .i64 f.a, .int .i64 f.k, .int .i64 f.m, .string f.s, .slice As f.l.length cs])) rfl rfl (by kernel_rfl) (by kernel_rfl) (by kernel_rfl) (fun _ _ _ h => h) (by rfl) (by (intro _w hSw; have q0 := hSw.1.k0; have q1 := hSw.1.k1; have q2 := hSw.1.k2; have q3 := hSw.1.k3; have q4 := hSw.1.k4; have q5 := hSw.1.k5; clear hSw; go_simp)) (by assumption) ?_
        simp only [Act.put, List.setIfInBounds_toArray, List.set_cons_zero, List.set_cons_succ]
        refine takeV 2 (some 23) ((.int .i64 e)) rfl rfl (by kernel_rfl) (by kernel_rfl) (by kernel_rfl) (fun _ _ _ h => h) (by rfl) (by (intro _w _hSw; (try dsimp only at _hSw); go_simp)) (by assumption) ?_
        simp only [Act.put, List.setIfInBounds_toArray, List.set_cons_zero, List.set_cons_succ]
        refine takeV 3 (some 24) ((.int .i64 a)) rfl rfl (by kernel_rfl) (by kernel_rfl) (by kernel_rfl) (fun _ _ _ h => h) (by rfl) (by (intro _w _hSw; (try dsimp only at _hSw); go_simp)) (by assumption) ?_
        simp only [Act.put, List.setIfInBounds_toArray, List.set_cons_zero, List.set_cons_succ]
        refine takeV 4 (some 25) ((.agg #[.int .i64 k, .int .i64 m, .string s])) rfl rfl (by kernel_rfl) (by kernel_rfl) (by kernel_rfl) (fun _ _ _ h => h) (by rfl) (by (intro _w hSw; have q0 := hSw.2.2.1.k0; have q1 := hSw.2.2.1.k1; have q2 := hSw.2.2.1.k2; clear hSw; go_simp)) (by assumption) ?_
        simp only [Act.put, List.setIfInBounds_toArray, List.set_cons_zero, List.set_cons_succ]
        refine takeV 5 (some 26) ((.agg #[.int .i64 e, .int .i64 a, .int .i64 k, .int .i64 m, .string s])) rfl rfl (by kernel_rfl) (by kernel_rfl) (by kernel_rfl) (fun _ _ _ h => h) (by rfl) (by (intro _w _hSw; (try dsimp only at _hSw); go_simp)) (by assumption) ?_
        simp only [Act.put, List.setIfInBounds_toArray, List.set_cons_zero, List.set_cons_succ]
        refine callV 1 rfl (by kernel_rfl) (by rfl) (fun K hK => ?_)
        go_simp
        go_at_call 49
        refine (HOF.out _).mono ?_
        rintro en w3 ⟨rfl, hb3⟩
        have g3 := hHeld.next hb3
        refine hK.out _ _ g3 (fun hHeld => ?_)
        clear hK g3 K hb3
        try simp only [Act.put, List.setIfInBounds_toArray, List.set_cons_zero, List.set_cons_succ]
        refine takeV 6 (some 27) ((.bool t)) rfl rfl (by kernel_rfl) (by kernel_rfl) (by kernel_rfl) (fun _ _ _ h => h) (by rfl) (by (intro _w _hSw; (try dsimp only at _hSw); go_simp)) (by assumption) ?_
        simp only [Act.put, List.setIfInBounds_toArray, List.set_cons_zero, List.set_cons_succ]
        refine wpAnyH_done (by kernel_rfl) ?_ _
        have HHE := Lib.hid hHeld
        clear hHeld
        cases t
        · have HNE : Hid (∀ i f, i < j + 1 → fs[i]? = some f → triF f ≠ (e, a, k, m, s)) := fun i f' hi hf' => by
            by_cases hij : i = j
            · subst hij
              rw [HFG.out] at hf'
              cases hf'
              exact of_decide_eq_false HT.out
            · exact HO.out i f' (by omega) hf'
          have HBZ := Lib.hid HHE.out.2.2.2
          go_wp2
          go_roundg g
          case measure => omega
          case rel => exact ⟨j + 1, by go_num, by omega, HNE.out, HBZ.out⟩
        · have HE : Hid (spansOf fs (e, a, k, m, s) = f.l) := by
            show _ = _
            rw [← of_decide_eq_true HT.out]
            exact spansOf_mem HRI.out (List.mem_of_getElem? HFG.out)
          have c5 := HHE.out.1.k5
          obtain ⟨As2, cs2, e2, hsl2, _⟩ := HHE.out.2.1
          cases e2
          have HCL2 := Lib.hid (HCL.out _ hsl2)
          have HBZ := Lib.hid (HB1.out.trans (HHE.out.2.2.2.mono HB1.out.size))
          clear hsl2
          go_wp2_with fail
          refine HCL2.out.mono ?_
          rintro en w4 ⟨v4, rfl, ho4, hb4⟩
          have HB4 := Lib.hid (HBZ.out.trans (hb4.mono HBZ.out.size))
          have HO4 := Lib.hid (ownS_sv ho4)
          clear ho4 hb4
          go_wp2
          go_ret2
          exact ⟨⟨_, _, rfl, .inl ⟨HMV.out, rfl, by rw [HE.out]; exact HO4.out⟩⟩, HB4.out⟩
end Go.Proofs.Ytdhnajhfkmmjnaa

/-
  CONTRACTS: the closure that says changes, and the one that says both kinds of a triple's.
-/
namespace Go.Proofs.Ytdhnajhfkmmjnaa
open Go.RowKit Go.Shelf

/-- blocks of another type than datoms', but one, lie as they lay -/
def KeepT (Bl : Nat) (W W' : World) : Prop := W.heap.size ≤ W'.heap.size ∧ ∀ k cs t fr, k ≠ Bl → W.heap[k]? = some (Obj.cells cs t fr) → t ≠ 76 → W'.heap[k]? = some (Obj.cells cs t fr)
theorem KeepT.refl (Bl : Nat) (W : World) : KeepT Bl W W := ⟨Nat.le_refl _, fun _ _ _ _ _ h _ => h⟩
theorem keepT_below {Bl : Nat} {W W' : World} (h : Below W.heap.size W W') : KeepT Bl W W' := ⟨h.size, fun k _ _ _ _ hc _ => (h.block k (Array.getElem?_eq_some_iff.1 hc).1).trans hc⟩
theorem KeepT.trans {Bl : Nat} {X Y Z : World} (h : KeepT Bl X Y) (k : KeepT Bl Y Z) : KeepT Bl X Z := ⟨Nat.le_trans h.1 k.1, fun i cs t fr h1 h2 h3 => k.2 i cs t fr h1 (h.2 i cs t fr h1 h2 h3) h3⟩
theorem KeepT.boxed {Bl : Nat} {W W' : World} (h : KeepT Bl W W') {b : Nat} {t : TypeId} {v : Value} (hb : Boxed W b t v) (hne : b ≠ Bl) (ht : t ≠ 76) : Boxed W' b t v := h.2 b _ _ _ hne hb ht
theorem KeepT.trAt {Bl : Nat} {W W' : World} (h : KeepT Bl W W') {b : Nat} {e a k m : Int} {s : ByteArray} (hb : TrAt W b e a k m s) (hne : b ≠ Bl) : TrAt W' b e a k m s := h.2 b _ _ _ hne hb (by decide)
theorem KeepT.sv {Bl : Nat} {W W' : World} (h : KeepT Bl W W') {u v : Value} {l : List Sp} (hb : Boxed W Bl 31 u) (hs : SV W v l) : SV W' v l := by
  obtain ⟨A, c, e, h1, h2, h3, h4⟩ := hs
  by_cases hl : l = []
  · exact ⟨A, c, e, fun h => absurd hl h, h2, h3, fun h => absurd hl h⟩
  · obtain ⟨b, o, cs, fr, eb, hc⟩ := h4 hl
    have hne : b ≠ Bl := fun e2 => by
      subst e2
      rw [show W.heap[b]? = _ from hb] at hc
      injection hc with hc
      injection hc with _ h5 _
      exact absurd h5 (by decide)
    have hlt := (Array.getElem?_eq_some_iff.1 hc).1
    have hc' := h.2 b cs _ fr hne hc (by decide)
    have hbk : W'.heap[b]? = W.heap[b]? := hc'.trans hc.symm
    refine ⟨A, c, e, fun _ => ?_, h2, h3, fun _ => ⟨b, o, cs, fr, eb, hc'⟩⟩
    obtain ⟨b', o', e', hlt', hp⟩ := h1 hl
    rw [eb] at e'
    cases e'
    have hcell : ∀ i, W'.cell? ⟨b, i, none⟩ = W.cell? ⟨b, i, none⟩ := fun i => World.cell?_of_block (w := W) (a := ⟨b, i, none⟩) hbk
    exact ⟨b, o, eb, Nat.lt_of_lt_of_le hlt h.1, fun j q hq => ⟨(hcell _).trans (hp j q hq).c0, (hcell _).trans (hp j q hq).c1⟩⟩
theorem dat_step {W w1 : World} {B Bl : Nat} {v v' : Value} {ds : List Dat} {d : Dat} {tmp : Obj} (hv : Boxed W Bl 31 v) (ho : OwnD W B v ds) (hB : B ≤ Bl)
    (hown' : w1.ownsRow B 76 9 v' (ds.length + 1) (ds.flatMap cellsD ++ cellsD d)) (hgrow : (W.alloc tmp).grownBy w1 v.ownBlock) :
    Boxed w1 Bl 31 v ∧ Boxed (w1.setCell ⟨Bl, 0, none⟩ v') Bl 31 v' ∧ OwnD (w1.setCell ⟨Bl, 0, none⟩ v') B v' (ds ++ [d]) ∧ KeepT Bl W (w1.setCell ⟨Bl, 0, none⟩ v') ∧ Below B W (w1.setCell ⟨Bl, 0, none⟩ v') := by
  have hrow : (W.alloc tmp).ownsRow B 76 9 v ds.length (ds.flatMap cellsD) := World.ownsRow.alloc ho _
  have hlt := hv.lt
  have hv1 : Boxed w1 Bl _ v := (hv.alloc tmp).kept hgrow (hv.not_row (by decide) ho)
  have hlo : ∀ j, v.ownBlock = some j → B ≤ j := fun j ej => (World.ownsRow.lt ho j ej).1
  refine ⟨hv1, hv1.set v', ?_, ?_, ?_⟩
  · have h2 : OwnD w1 B v' (ds ++ [d]) := ownD_of (b := [d]) (by simpa using hown')
    exact World.ownsRow.kept h2 (grownBy_setCell' w1 Bl v') (.inr (hv1.not_row (by decide) h2).symm)
  · have hs := hgrow.size
    rw [World.size_alloc] at hs
    refine ⟨by have : (w1.setCell ⟨Bl, 0, none⟩ v').heap.size = w1.heap.size := by simp
               omega, fun k cs t fr hne hc ht => ?_⟩
    have hk := (Array.getElem?_eq_some_iff.1 hc).1
    have h1 : (W.alloc tmp).heap[k]? = some (.cells cs t fr) := (Below.heap_alloc W tmp k hk).trans hc
    have h2 : w1.heap[k]? = (W.alloc tmp).heap[k]? := hgrow.block k (by rw [World.size_alloc]; omega) (fun e => by
      rcases hrow.2 with ⟨rfl, _⟩ | ⟨g, cap, cur, rfl, _, hgb, _⟩
      · cases e
      · have e2 : k = g := by injection e
        subst e2
        rw [h1] at hgb
        injection hgb with hgb
        injection hgb with _ h5 _
        exact ht h5)
    exact (Below.heap_setCell w1 ⟨Bl, 0, none⟩ v' k hne).trans (h2.trans h1)
  · exact (((Below.refl B W).alloc (by omega) tmp).grown hgrow (by simp; omega) fun j ej => by have := hlo j ej; omega).setCell (p := ⟨Bl, 0, none⟩) hB v'
theorem minusA_any (a b : List Sp) (va vb : Value) (w : World) (hva : SVa w va a) (hvb : SVa w vb b) (ha : SetL a) (hb : SetL b) (hka : ∀ s ∈ a, SpOk s) (hkb : ∀ s ∈ b, SpOk s) (hl : 2 * a.length + 2 * b.length ≤ 20000) :
    Calls Try.prog 44 #[va, vb] w (PutEnd w (fun t => Inn a t ∧ ¬ Inn b t)) := by
  obtain ⟨A, c, rfl, h1, h2, h3⟩ := hva
  obtain ⟨A', c', rfl, h1', h2', h3'⟩ := hvb
  refine (spanMinus_any A A' c c' a b w h1 h1' h2 h3 h2' h3' hl hka hkb).mono fun e W' h => putEnd_of _ h ha hb hka hkb (fun t => ?_) (fun t ht h => inn_low hka ht h.1)
  unfold wants wantsMinus whoN innB
  by_cases h5 : Inn a t <;> by_cases h6 : Inn b t <;> simp [h5, h6]
/-- What a closure that says changes leaves. -/
def SayEnd (W : World) (B Bl : Nat) (ds : List Dat) (e : Ending) (W' : World) : Prop := e = .returned (.tuple #[]) ∧ (∃ v', Boxed W' Bl 31 v' ∧ OwnD W' B v' ds) ∧ KeepT Bl W W' ∧ Below B W W'
theorem take_snoc_map {l : List Sp} {j : Nat} {x y : Int} (h : l[j]? = some (x, y)) (f : Sp → Dat) : (l.take (j + 1)).map f = (l.take j).map f ++ [f (x, y)] := by
  rw [List.take_add_one, h]
  simp
set_option maxRecDepth 100000 in
set_option maxHeartbeats 4000000 in
theorem say_any (e a k m : Int) (s : ByteArray) (add : Bool) (t : Int) (has lacks : List Sp) (vh vl v : Value) (B Bl Bt : Nat) (ds : List Dat) (W : World) (hB : B ≤ Bl) (hv : Boxed W Bl 31 v) (ho : OwnD W B v ds)
    (ht : Boxed W Bt 2 (.int .i64 t)) (hne : Bt ≠ Bl) (h1 : SVa W vh has) (h2 : SVa W vl lacks) (g1 : SetL has) (g2 : SetL lacks) (k1 : ∀ q ∈ has, SpOk q) (k2 : ∀ q ∈ lacks, SpOk q) (hl : 2 * has.length + 2 * lacks.length ≤ 20000) (hd : ds.length ≤ 100000) :
    Calls Try.prog 43 #[.agg #[.int .i64 e, .int .i64 a, .int .i64 k, .int .i64 m, .string s], .bool add, vh, vl, .pointer (some ⟨Bl, 0, none⟩), .pointer (some ⟨Bt, 0, none⟩)] W (SayEnd W B Bl (ds ++ (minusL has lacks).map (mkD (e, a, k, m, s) t add))) := by
  obtain ⟨i0, hi, hz0, hz1, hz2⟩ := info_parts infoD
  have hmx : 2000000000000 ≤ maxLen := by decide
  obtain ⟨w0, hw0⟩ : ∃ w0, W.alloc (.cells #[.int .i64 e, .int .i64 a, .int .i64 k, .int .i64 m, .string s] 81) = w0 := ⟨_, rfl⟩
  have hb0 : Below W.heap.size W w0 := by rw [← hw0]; exact (Below.refl _ W).alloc (Nat.le_refl _) _
  have HT0 : Hid (TrAt w0 W.heap.size e a k m s) := by rw [← hw0]; exact trAt_new W e a k m s
  have HM := Lib.hid (minusA_any has lacks vh vl w0 (h1.next hb0) (h2.next hb0) g1 g2 k1 k2 hl)
  have HLT := Lib.hid hv.lt
  have HNT : Hid (W.heap.size ≠ Bl) := by have := hv.lt; show _ ≠ _; omega
  have HB0 := Lib.hid hb0
  have HS0 := Lib.hid (And.intro hv (And.intro ho ht))
  obtain ⟨A1, c1, rfl, _⟩ := h1
  obtain ⟨A2, c2, rfl, _⟩ := h2
  clear hv ho ht g1 g2 k1 k2 hb0
  go_enter Try.func43, Try.ntmps43
  go_upto_region 1 with (fail)
  try rw [hw0]
  clear hw0
  go_wp2_with fail
  refine HM.out.mono ?_
  rintro en w2 ⟨⟨l, vr, rfl, hor, hsr, hkr, hir⟩, hb2⟩
  have hlf : 2 * l.length ≤ 20000 := by
    have := minusL_is hsr hir
    have h3 := minusL_few (a := has) (b := lacks) (by rw [this]; exact hsr) (by rw [this]; exact hir)
    rw [this] at h3
    omega
  have HL : Hid (minusL has lacks = l) := minusL_is hsr hir
  have HBX : Hid (Below W.heap.size W w2) := HB0.out.trans (hb2.mono HB0.out.size)
  have HV2 : Hid (Boxed w2 Bl 31 v) := (HBX.out.block Bl HLT.out).trans HS0.out.1
  have HO2 : Hid (OwnD w2 B v ds) := HS0.out.2.1.next HBX.out
  have HT2 : Hid (Boxed w2 Bt 2 (.int .i64 t)) := (HBX.out.block Bt HS0.out.2.2.lt).trans HS0.out.2.2
  have HTR : Hid (TrAt w2 W.heap.size e a k m s) := HT0.out.next hb2
  obtain ⟨Ar, cr, rfl, hsr2⟩ := id (ownS_sv hor)
  have HSV : Hid (SV w2 (.slice Ar l.length cr) l) := ⟨Ar, cr, rfl, hsr2⟩
  clear hor hsr hkr hir hb2 hsr2 HM HT0 HS0
  go_wp2_with fail
  go_loopg [13, 22] l.length (fun g _ y wr => ∃ (j : Nat) (u : Value), y = .int .i64 j ∧ j + g = l.length ∧ Hid (Boxed wr Bl 31 u) ∧ OwnD wr B u (ds ++ (l.take j).map (mkD (e, a, k, m, s) t add)) ∧ Hid (KeepT Bl w2 wr) ∧ Hid (Below B w2 wr))
  case atStart => exact ⟨0, v, rfl, by omega, HV2.out, by rw [List.take_zero, List.map_nil, List.append_nil]; exact HO2.out, KeepT.refl _ _, Below.refl _ _⟩
  case round =>
    obtain ⟨j, u, rfl, hj, HV, ho, HKT, HB⟩ := hrel
    cases gk with
    | zero =>
      have hji : ¬ (j : Int) < (l.length : Int) := by omega
      rw [List.take_of_length_le (by omega)] at ho
      have HO := Lib.hid ho
      have HKK := Lib.hid ((keepT_below HBX.out).trans HKT.out)
      have HBB := Lib.hid ((HBX.out.mono (Nat.le_trans hB (Nat.le_of_lt HLT.out))).trans HB.out)
      clear ho
      go_wp2
      go_end0
      exact ⟨rfl, ⟨u, HV.out, by rw [HL.out]; exact HO.out⟩, HKK.out, HBB.out⟩
    | succ g =>
      have hji : (j : Int) < (l.length : Int) := by omega
      have hjn : j < l.length := by omega
      obtain ⟨A9, c9, e9, hsl9, _⟩ := HKT.out.sv HV2.out HSV.out
      cases e9
      obtain ⟨b, o, rfl, hbl, hp⟩ := hsl9.at_ hjn
      obtain ⟨⟨x, y⟩, hpe⟩ : ∃ p, l[j] = p := ⟨_, rfl⟩
      have HG : Hid (l[j]? = some (x, y)) := by show _ = _; rw [List.getElem?_eq_getElem hjn, hpe]
      rw [hpe] at hp
      have c0 := hp.c0
      have c1 := hp.c1
      obtain ⟨L, hL⟩ : ∃ L, ds ++ (l.take j).map (mkD (e, a, k, m, s) t add) = L := ⟨_, rfl⟩
      have hLl : L.length ≤ 200000 := by rw [← hL, List.length_append, List.length_map, List.length_take]; omega
      have HSN : Hid (ds ++ (l.take (j + 1)).map (mkD (e, a, k, m, s) t add) = L ++ [mkD (e, a, k, m, s) t add (x, y)]) := by show _ = _; rw [take_snoc_map HG.out, ← List.append_assoc, hL]
      rw [hL] at ho
      obtain ⟨wa, hwa⟩ : ∃ wa, wr.alloc (.cells #[.int .i64 x, .int .i64 y] 66) = wa := ⟨_, rfl⟩
      have hba : Below wr.heap.size wr wa := by rw [← hwa]; exact (Below.refl _ wr).alloc (Nat.le_refl _) _
      have hsb : SpAt wa wr.heap.size 0 (x, y) := by
        rw [← hwa]
        exact ⟨by simp only [World.cell?, heap_alloc_new]; rfl, by simp only [World.cell?, heap_alloc_new]; rfl⟩
      have hka : KeepT Bl w2 wa := HKT.out.trans (keepT_below hba)
      have HVA : Hid (Boxed wa Bl 31 u) := (hba.block Bl HV.out.lt).trans HV.out
      have HOA : Hid (OwnD wa B u L) := ho.next hba
      have hta : Boxed wa Bt 2 (.int .i64 t) := hka.boxed HT2.out hne (by decide)
      have htr : TrAt wa W.heap.size e a k m s := hka.trAt HTR.out HNT.out
      have hBw : B ≤ wr.heap.size := Nat.le_trans hB (Nat.le_of_lt HV.out.lt)
      have HBA := Lib.hid (HB.out.trans (hba.mono hBw))
      have HKA := Lib.hid hka
      have d0 := hsb.c0
      have d1 := hsb.c1
      have b0 := HVA.out.cell
      have bf := HVA.out.frozen
      have t0 := hta.cell
      have q0 := htr.k0
      have q1 := htr.k1
      have q2 := htr.k2
      have q3 := htr.k3
      have q4 := htr.k4
      have hBa : B ≤ wa.heap.size := Nat.le_trans hBw hba.size
      clear hsb hka hta htr hp hpe hL ho hsl9 hba
      go_upto_region 5 with (fail)
      try rw [hwa]
      clear hwa c0 c1
      go_wp2_with (at_builtin; go_loud (refine wpList_append_own _ rfl _ _ 31 rfl B 76 i0 (.agg #[.int .i64 0, .int .i64 0, .int .i64 0, .int .i64 0, .string ⟨#[]⟩, .int .i64 0, .bool false, .int .i64 0, .int .i64 0]) 9 80 Try.underlying31 hi hz0 hz1 hz2 rfl (by decide) _ _ _ rfl (World.ownsRow.alloc HOA.out _) ⟨wa.heap.size, 0, none⟩ 1 1 (cellsD (mkD (e, a, k, m, s) t add (x, y))) rfl rfl (fun j u h => cell_lit wa #[.int .i64 e, .int .i64 a, .int .i64 k, .int .i64 m, .string s, .int .i64 t, .bool add, .int .i64 x, .int .i64 y] 76 j u h) (cellsD_one (mkD (e, a, k, m, s) t add (x, y))) (by omega) (by omega) (by simp; omega) ?_); intro v' w3 hown' hgrow _; (obtain ⟨g', cap', rfl⟩ := ownsRow_succ hown'); (obtain ⟨hs1, hs2, hs3, hs4, hs5⟩ := dat_step (d := mkD (e, a, k, m, s) t add (x, y)) HVA.out HOA.out hB (by simpa using hown') hgrow); have bx0 := hs1.cell; have bxf := hs1.frozen; have HS2 := Lib.hid hs2; have HS3 := Lib.hid hs3; have HS4 := Lib.hid hs4; have HS5 := Lib.hid hs5; clear hs1 hs2 hs3 hs4 hs5 hown' hgrow)
      go_roundg g
      case measure => omega
      case rel => exact ⟨j + 1, _, by go_num, by omega, HS2.out, by rw [HSN.out]; exact HS3.out, HKA.out.trans HS4.out, HBA.out.trans HS5.out⟩

set_option maxRecDepth 100000 in
set_option maxHeartbeats 4000000 in
theorem sayBoth_any (e a k m : Int) (s : ByteArray) (t : Int) (was is : List Sp) (vw vi v : Value) (B Bl Bt Bs : Nat) (ds : List Dat) (w W : World) (hB : B ≤ Bl) (hBw : B = w.heap.size) (hw : Below B w W) (hv : Boxed W Bl 31 v) (ho : OwnD W B v ds)
    (ht : Boxed W Bt 2 (.int .i64 t)) (hne : Bt ≠ Bl) (hs : Boxed W Bs 83 (.func (.func 43) #[] #[.pointer (some ⟨Bl, 0, none⟩), .pointer (some ⟨Bt, 0, none⟩)])) (hns : Bs ≠ Bl)
    (h1 : SVa w vw was) (h2 : SVa w vi is) (g1 : SetL was) (g2 : SetL is) (k1 : ∀ q ∈ was, SpOk q) (k2 : ∀ q ∈ is, SpOk q) (hl : 2 * was.length + 2 * is.length ≤ 20000) (hd : ds.length ≤ 50000) :
    Calls Try.prog 46 #[.agg #[.int .i64 e, .int .i64 a, .int .i64 k, .int .i64 m, .string s], vw, vi, .pointer (some ⟨Bs, 0, none⟩)] W (SayEnd W B Bl (ds ++ chgT t ((e, a, k, m, s), was, is))) := by
  obtain ⟨w0, hw0⟩ : ∃ w0, W.alloc (.cells #[.int .i64 e, .int .i64 a, .int .i64 k, .int .i64 m, .string s] 81) = w0 := ⟨_, rfl⟩
  have hb0 : Below W.heap.size W w0 := by rw [← hw0]; exact (Below.refl _ W).alloc (Nat.le_refl _) _
  have hT0 : TrAt w0 W.heap.size e a k m s := by rw [← hw0]; exact trAt_new W e a k m s
  have hv0 : Boxed w0 Bl 31 v := (hb0.block Bl hv.lt).trans hv
  have ht0 : Boxed w0 Bt 2 (.int .i64 t) := (hb0.block Bt ht.lt).trans ht
  have hs0 := (hb0.block Bs hs.lt).trans hs
  have hs0' : Boxed w0 Bs 83 (.func (.func 43) #[] #[.pointer (some ⟨Bl, 0, none⟩), .pointer (some ⟨Bt, 0, none⟩)]) := hs0
  have hfl : (minusL is was).length ≤ 10000 := by
    by_cases hx : ∃ r, SetL r ∧ ∀ t, Inn r t ↔ Inn is t ∧ ¬ Inn was t
    · obtain ⟨r, r1, r2⟩ := hx
      have e1 := minusL_is r1 r2
      have := minusL_few (a := is) (b := was) (by rw [e1]; exact r1) (by rw [e1]; exact r2)
      omega
    · unfold minusL
      rw [dif_neg hx]
      exact Nat.zero_le _
  have hwz : B ≤ W.heap.size := Nat.le_trans hB (Nat.le_of_lt hv.lt)
  have HSA := Lib.hid (fun (X : World) (h : Below B w0 X) => And.intro (h1.next (hBw ▸ ((hw.trans (hb0.mono hwz)).trans h))) (h2.next (hBw ▸ ((hw.trans (hb0.mono hwz)).trans h))))
  have HC1 := Lib.hid (say_any e a k m s true t is was vi vw v B Bl Bt ds w0 hB hv0 (ho.next hb0) ht0 hne (h2.next (hBw ▸ (hw.trans (hb0.mono hwz)))) (h1.next (hBw ▸ (hw.trans (hb0.mono hwz)))) g2 g1 k2 k1 (by omega) (by omega))
  have HC2 := Lib.hid (fun (X : World) (u : Value) (q1 : Boxed X Bl 31 u) (q2 : OwnD X B u (ds ++ (minusL is was).map (mkD (e, a, k, m, s) t true))) (q3 : Boxed X Bt 2 (.int .i64 t)) (q4 : SVa X vw was) (q5 : SVa X vi is) => say_any e a k m s false t was is vw vi u B Bl Bt (ds ++ (minusL is was).map (mkD (e, a, k, m, s) t true)) X hB q1 q2 q3 hne q4 q5 g1 g2 k1 k2 hl (by rw [List.length_append, List.length_map]; omega))
  have HNT : Hid (W.heap.size ≠ Bl) := by have := hv.lt; show _ ≠ _; omega
  have HBW : Hid (Below B W w0) := hb0.mono (Nat.le_trans hB (Nat.le_of_lt hv.lt))
  have HKW : Hid (KeepT Bl W w0) := keepT_below hb0
  have HS0 := Lib.hid (And.intro hv0 (And.intro ht0 (And.intro hs0' hT0)))
  have z0 := hs0'.cell
  have q0 := hT0.k0
  have q1 := hT0.k1
  have q2 := hT0.k2
  have q3 := hT0.k3
  have q4 := hT0.k4
  clear hv ho ht hs g1 g2 k1 k2 hb0 hwz hw hT0 hv0 ht0 hs0 hs0' h1 h2
  go_enter Try.func46, Try.ntmps46
  go_upto_region 1 with (fail)
  try rw [hw0]
  clear hw0
  go_wp2_with fail
  refine HC1.out.mono ?_
  rintro en w1 ⟨rfl, ⟨u, hu1, hu2⟩, hk, hb⟩
  have HK1 := Lib.hid hk
  have HB1 := Lib.hid hb
  have ht1 := hk.boxed HS0.out.2.1 hne (by decide)
  have hs1 := hk.boxed HS0.out.2.2.1 hns (by decide)
  have hT1 := hk.trAt HS0.out.2.2.2 HNT.out
  have HC3 := Lib.hid (HC2.out w1 u hu1 hu2 ht1 (HSA.out w1 hb).1 (HSA.out w1 hb).2)
  clear z0 q0 q1 q2 q3 q4 HC1 HC2
  have z0 := hs1.cell
  have q0 := hT1.k0
  have q1 := hT1.k1
  have q2 := hT1.k2
  have q3 := hT1.k3
  have q4 := hT1.k4
  clear hk hb ht1 hs1 hT1 hu1 hu2
  go_wp2_with fail
  refine HC3.out.mono ?_
  rintro en w3 ⟨rfl, ⟨u3, hu1, hu2⟩, hk, hb⟩
  have HE1 := Lib.hid (And.intro hu1 hu2)
  have HK3 := Lib.hid ((HKW.out.trans HK1.out).trans hk)
  have HB3 := Lib.hid ((HBW.out.trans HB1.out).trans hb)
  clear hk hb hu1 hu2
  go_wp2
  go_end0
  exact ⟨rfl, ⟨u3, HE1.out.1, by unfold chgT; rw [← List.append_assoc]; exact HE1.out.2⟩, HK3.out, HB3.out⟩
end Go.Proofs.Ytdhnajhfkmmjnaa

/-
  CONTRACTS: take, least and together of Changes.
-/
namespace Go.Proofs.Ytdhnajhfkmmjnaa
open Go.RowKit Go.Shelf

/-- all blocks but one lie as they lay -/
def KeepX (Bx : Nat) (W W' : World) : Prop := W.heap.size ≤ W'.heap.size ∧ ∀ k, k < W.heap.size → k ≠ Bx → W'.heap[k]? = W.heap[k]?
theorem keepX_below {Bx : Nat} {W W' : World} (h : Below W.heap.size W W') : KeepX Bx W W' := ⟨h.size, fun k hk _ => h.block k hk⟩
theorem KeepX.trans {Bx : Nat} {X Y Z : World} (h : KeepX Bx X Y) (k : KeepX Bx Y Z) : KeepX Bx X Z := ⟨Nat.le_trans h.1 k.1, fun i h1 h2 => (k.2 i (Nat.lt_of_lt_of_le h1 h.1) h2).trans (h.2 i h1 h2)⟩
theorem KeepX.boxed {Bx : Nat} {W W' : World} (h : KeepX Bx W W') {b : Nat} {t : TypeId} {v : Value} (hb : Boxed W b t v) (hne : b ≠ Bx) : Boxed W' b t v := (h.2 b hb.lt hne).trans hb
theorem KeepX.trAt {Bx : Nat} {W W' : World} (h : KeepX Bx W W') {b : Nat} {e a k m : Int} {s : ByteArray} (hb : TrAt W b e a k m s) (hne : b ≠ Bx) : TrAt W' b e a k m s := (h.2 b hb.lt hne).trans hb
theorem KeepX.ownD {Bx B : Nat} {W W' : World} (h : KeepX Bx W W') {t : TypeId} {u v : Value} {l : List Dat} (ho : OwnD W B v l) (hb : Boxed W Bx t u) (ht : t ≠ 76) (hos : W'.os = W.os) (htp : W'.tape = W.tape) (hop : W'.output = W.output) : OwnD W' B v l := by
  refine World.ownsRow.kept ho (row := some Bx) ⟨hos, htp, hop, h.1, fun k hk hne => h.2 k hk (fun e => hne (by rw [e]))⟩ (.inr ?_)
  exact (hb.not_row ht ho).symm
def cutF (A : Option Addr) (c k : Nat) : Option Addr := if c = k then A else A.map (·.add (k * 6))
theorem sliceF_from (A : Option Addr) (n c k : Nat) (hk : k ≤ n) (w : World) : (Instr.slice 22 (.slice A n c) (some (.int .i64 (k : Int))) none none).run Try.prog w = .ok (.slice (cutF A c k) (n - k) (c - k)) w := by
  have hT : Try.prog.underlying 22 = some (.slice (Try.prog.elem 22)) := by kernel_rfl
  have hS : (Go.sizeOf (Try.prog.elem 22)).run Try.prog w = .ok 6 w := by kernel_rfl
  rw [run_slice_l (w := w) 22 A n c hT .i64 (k : Int) (by omega) (by omega), hS]
  simp [Result.andThen, sliced, cutF]
theorem FVa.tail {W : World} {A : Option Addr} {c : Nat} {f : FactP} {l : List FactP} (h : FVa W (.slice A (l.length + 1) c) (f :: l)) : FVa W (.slice (cutF A c 1) l.length (c - 1)) l := by
  obtain ⟨A2, c2, e, hs, h2, h3⟩ := h
  injection e with e1 e2 e3
  subst e1 e3
  rw [List.length_cons] at h2
  refine ⟨_, _, rfl, fun hl => ?_, by omega, by omega⟩
  obtain ⟨b, o, rfl, hlt, hc⟩ := hs (by simp)
  have hl0 := List.length_pos_iff.2 hl
  unfold cutF
  rw [if_neg (by omega)]
  refine ⟨b, o + 6, by show some (Addr.add ⟨b, o, none⟩ (1 * 6)) = _; rw [addI], hlt, fun j g hg => ?_⟩
  have := hc (j + 1) g (by simpa using hg)
  rwa [show o + (j + 1) * 6 = o + 6 + j * 6 by omega] at this

theorem neTri (x y : Dat) (w : World) : (binOp .neq 81 (triV x) (triV y)).run Try.prog w = .ok (.bool (!decide (triD x = triD y))) w := by
  have h := eqTri x y w
  unfold triV at h ⊢
  rw [run_eql_struct] at h
  rw [run_neq_struct]
  revert h
  generalize (Op.equalIn 10000 81 (.agg #[.int .i64 x.e, .int .i64 x.a, .int .i64 x.k, .int .i64 x.m, .string x.s]) (.agg #[.int .i64 y.e, .int .i64 y.a, .int .i64 y.k, .int .i64 y.m, .string y.s])).run Try.prog w = R
  intro h
  cases R <;> simp [Result.andThen] at h ⊢ <;> simp [h]
/-- What take answers. -/
def TakeEnd (w : World) (B Bx : Nat) (l : List FactP) (x : Tri) (W : World) (en : Ending) (W' : World) : Prop :=
  ∃ u A c, en = .returned u ∧ SVa w u (takeS l x) ∧ FVa w (.slice A (takeR l x).length c) (takeR l x) ∧ Boxed W' Bx 22 (.slice A (takeR l x).length c) ∧ KeepX Bx W W' ∧ Below B W W'
theorem nil_sv (w : World) : SVa w (.slice none 0 0) [] := ⟨none, 0, rfl, fun h => absurd rfl h, Nat.le_refl _, Nat.zero_le _⟩
set_option maxRecDepth 100000 in
set_option maxHeartbeats 4000000 in
theorem take_any (e a k m : Int) (s : ByteArray) (A : Option Addr) (c : Nat) (l : List FactP) (w W : World) (Bx : Nat) (hf : FVa w (.slice A l.length c) l) (hw : Below w.heap.size w W) (hB : w.heap.size ≤ Bx) (hbx : Boxed W Bx 22 (.slice A l.length c)) :
    Calls Try.prog 69 #[.pointer (some ⟨Bx, 0, none⟩), .agg #[.int .i64 e, .int .i64 a, .int .i64 k, .int .i64 m, .string s]] W (TakeEnd w w.heap.size Bx l (e, a, k, m, s) W) := by
  obtain ⟨W0, hw0⟩ : ∃ W0, W.alloc (.cells #[.int .i64 e, .int .i64 a, .int .i64 k, .int .i64 m, .string s] 81) = W0 := ⟨_, rfl⟩
  have hb0 : Below W.heap.size W W0 := by rw [← hw0]; exact (Below.refl _ W).alloc (Nat.le_refl _) _
  have hT0 : TrAt W0 W.heap.size e a k m s := by rw [← hw0]; exact trAt_new W e a k m s
  have hx0 : Boxed W0 Bx 22 (.slice A l.length c) := (hb0.block Bx hbx.lt).trans hbx
  have HNE : Hid (W.heap.size ≠ Bx) := by have := hbx.lt; show _ ≠ _; omega
  have HB0 := Lib.hid hb0
  have HBW : Hid (Below w.heap.size W W0) := hb0.mono hw.size
  have HW0 : Hid (Below w.heap.size w W0) := hw.trans HBW.out
  have HS0 := Lib.hid (And.intro hx0 hT0)
  have HF := Lib.hid hf
  clear hb0 hw
  cases l with
  | nil =>
    have z0 := hx0.cell
    have hlz : (([] : List FactP).length : Int) = 0 := rfl
    clear hf hbx hx0 hT0
    go_enter Try.func69, Try.ntmps69
    go_upto_region 1 with (fail)
    try rw [hw0]
    clear hw0
    simp only [List.length_nil] at z0
    refine wp_region_held_drew (S := fun X => Boxed X Bx 22 (.slice A 0 c) ∧ KeepX Bx W X ∧ Below w.heap.size W X) (by kernel_rfl) ⟨HS0.out.1, keepX_below (below_ind HB0.out 1), below_ind HBW.out 1⟩ (fun hHeld => ?_)
    refine takeV 0 (some 6) ((.pointer (some ⟨Bx, 0, none⟩))) rfl rfl (by kernel_rfl) (by kernel_rfl) (by kernel_rfl) (fun _ _ _ h => h) (by rfl) (by (intro _w _hSw; (try dsimp only at _hSw); go_simp)) (by assumption) ?_
    simp only [Act.put, List.setIfInBounds_toArray, List.set_cons_zero, List.set_cons_succ]
    refine takeV 1 (some 7) ((.pointer (some ⟨Bx, 0, none⟩))) rfl rfl (by kernel_rfl) (by kernel_rfl) (by kernel_rfl) (fun _ _ _ h => h) (by rfl) (by (intro _w _hSw; (try dsimp only at _hSw); go_simp)) (by assumption) ?_
    simp only [Act.put, List.setIfInBounds_toArray, List.set_cons_zero, List.set_cons_succ]
    refine takeV 2 (some 8) ((.slice A 0 c)) rfl rfl (by kernel_rfl) (by kernel_rfl) (by kernel_rfl) (fun _ _ _ h => h) (by rfl) (by (intro _w hSw; have q0 := hSw.1.cell; clear hSw; go_simp)) (by assumption) ?_
    simp only [Act.put, List.setIfInBounds_toArray, List.set_cons_zero, List.set_cons_succ]
    refine takeV 3 (some 9) ((.int .i64 0)) rfl rfl (by kernel_rfl) (by kernel_rfl) (by kernel_rfl) (fun _ _ _ h => h) (by rfl) (by (intro _w _hSw; (try dsimp only at _hSw); go_simp)) (by assumption) ?_
    simp only [Act.put, List.setIfInBounds_toArray, List.set_cons_zero, List.set_cons_succ]
    refine takeV 4 (some 10) ((.bool true)) rfl rfl (by kernel_rfl) (by kernel_rfl) (by kernel_rfl) (fun _ _ _ h => h) (by rfl) (by (intro _w _hSw; (try dsimp only at _hSw); go_simp)) (by assumption) ?_
    simp only [Act.put, List.setIfInBounds_toArray, List.set_cons_zero, List.set_cons_succ]
    refine takeV 5 (some 11) ((.bool true)) rfl rfl (by kernel_rfl) (by kernel_rfl) (by kernel_rfl) (fun _ _ _ h => h) (by rfl) (by (intro _w _hSw; (try dsimp only at _hSw); go_simp)) (by assumption) ?_
    simp only [Act.put, List.setIfInBounds_toArray, List.set_cons_zero, List.set_cons_succ]
    refine skipV 6 (some 12) rfl rfl (by kernel_rfl) (by kernel_rfl) (by kernel_rfl) (fun _ _ _ h => h) (by rfl) (by assumption) ?_
    simp only [Act.put, List.setIfInBounds_toArray, List.set_cons_zero, List.set_cons_succ]
    refine skipV 7 (some 13) rfl rfl (by kernel_rfl) (by kernel_rfl) (by kernel_rfl) (fun _ _ _ h => h) (by rfl) (by assumption) ?_
    simp only [Act.put, List.setIfInBounds_toArray, List.set_cons_zero, List.set_cons_succ]
    refine skipV 8 (some 14) rfl rfl (by kernel_rfl) (by kernel_rfl) (by kernel_rfl) (fun _ _ _ h => h) (by rfl) (by assumption) ?_
    simp only [Act.put, List.setIfInBounds_toArray, List.set_cons_zero, List.set_cons_succ]
    refine skipV 9 (some 15) rfl rfl (by kernel_rfl) (by kernel_rfl) (by kernel_rfl) (fun _ _ _ h => h) (by rfl) (by assumption) ?_
    simp only [Act.put, List.setIfInBounds_toArray, List.set_cons_zero, List.set_cons_succ]
    refine skipV 10 (some 16) rfl rfl (by kernel_rfl) (by kernel_rfl) (by kernel_rfl) (fun _ _ _ h => h) (by rfl) (by assumption) ?_
    simp only [Act.put, List.setIfInBounds_toArray, List.set_cons_zero, List.set_cons_succ]
    refine skipV 11 (some 17) rfl rfl (by kernel_rfl) (by kernel_rfl) (by kernel_rfl) (fun _ _ _ h => h) (by rfl) (by assumption) ?_
    simp only [Act.put, List.setIfInBounds_toArray, List.set_cons_zero, List.set_cons_succ]
    refine skipV 12 (some 18) rfl rfl (by kernel_rfl) (by kernel_rfl) (by kernel_rfl) (fun _ _ _ h => h) (by rfl) (by assumption) ?_
    simp only [Act.put, List.setIfInBounds_toArray, List.set_cons_zero, List.set_cons_succ]
    refine skipV 13 (some 19) rfl rfl (by kernel_rfl) (by kernel_rfl) (by kernel_rfl) (fun _ _ _ h => h) (by rfl) (by assumption) ?_
    simp only [Act.put, List.setIfInBounds_toArray, List.set_cons_zero, List.set_cons_succ]
    refine takeV 14 (some 20) ((.bool true)) rfl rfl (by kernel_rfl) (by kernel_rfl) (by kernel_rfl) (fun _ _ _ h => h) (by rfl) (by (intro _w _hSw; (try dsimp only at _hSw); go_simp)) (by assumption) ?_
    simp only [Act.put, List.setIfInBounds_toArray, List.set_cons_zero, List.set_cons_succ]
    refine wpAnyH_done (by kernel_rfl) ?_ _
    have HE := Lib.hid hHeld
    clear hHeld
    go_wp2
    go_ret
    exact ⟨_, A, c, rfl, nil_sv w, HF.out, HE.out.1, HE.out.2.1, HE.out.2.2⟩
  | cons f r =>
    obtain ⟨b, o, sv, rfl, hlt, hc, hsv⟩ := fva_at hf (j := 0) (by simp)
    simp only [Nat.zero_mul, Nat.add_zero, List.getElem_cons_zero] at hc hsv
    have hcW := hc.next HW0.out hlt
    obtain ⟨As, cs, rfl, hsv'⟩ := id hsv
    have HSV : Hid (SVa w (.slice As f.l.length cs) f.l) := ⟨As, cs, rfl, hsv'⟩
    have HOF := Lib.hid (fun X => ofFact_any f (.slice As f.l.length cs) X ⟨_, _, _, rfl⟩)
    have hltW : b < W0.heap.size := Nat.lt_of_lt_of_le hlt HW0.out.size
    have hbB : b < w.heap.size := hlt
    have hne0 : (((r.length + 1 : Nat) : Int) == 0) = false := by rw [beq_eq_false_iff_ne]; omega
    have hne1 : ¬ ((r.length : Int) + 1 = 0) := by omega
    have hq := fun X => neTri (datF f) ⟨e, a, k, m, s, 0, false, 0, 0⟩ X
    unfold triV datF at hq
    simp only at hq
    obtain ⟨tt, htt⟩ : ∃ tt, decide (triD ⟨f.e, f.a, f.k, f.m, f.s, 1, false, 0, 1⟩ = triD ⟨e, a, k, m, s, 0, false, 0, 0⟩) = tt := ⟨_, rfl⟩
    rw [htt] at hq
    have HT : Hid (decide (triF f = (e, a, k, m, s)) = tt) := htt
    have hp0 : (0 : Int) < ((r.length + 1 : Nat) : Int) := by omega
    have HSS : Hid (Boxed W0.drew Bx 22 (.slice (some ⟨b, o, none⟩) (r.length + 1) c) ∧ TrAt W0.drew W.heap.size e a k m s ∧ FcV W0.drew b o f (.slice As f.l.length cs) ∧ b < W0.drew.heap.size ∧ Below W0.heap.size W0 W0.drew) := ⟨HS0.out.1, HS0.out.2, hcW, hltW, below_ind (Below.refl _ _) 1⟩
    clear hf hbx hx0 hT0 hc hsv hsv' hlt hcW htt
    go_enter Try.func69, Try.ntmps69
    go_upto_region 1 with (fail)
    try rw [hw0]
    clear hw0
    refine wp_region_held_drew (S := fun X => Boxed X Bx 22 (.slice (some ⟨b, o, none⟩) (r.length + 1) c) ∧ TrAt X W.heap.size e a k m s ∧ FcV X b o f (.slice As f.l.length cs) ∧ b < X.heap.size ∧ Below W0.heap.size W0 X) (by kernel_rfl) HSS.out (fun hHeld => ?_)
    refine takeV 0 (some 6) ((.pointer (some ⟨Bx, 0, none⟩))) rfl rfl (by kernel_rfl) (by kernel_rfl) (by kernel_rfl) (fun _ _ _ h => h) (by rfl) (by (intro _w _hSw; (try dsimp only at _hSw); go_simp)) (by assumption) ?_
    simp only [Act.put, List.setIfInBounds_toArray, List.set_cons_zero, List.set_cons_succ]
    refine takeV 1 (some 7) ((.pointer (some ⟨Bx, 0, none⟩))) rfl rfl (by kernel_rfl) (by kernel_rfl) (by kernel_rfl) (fun _ _ _ h => h) (by rfl) (by (intro _w _hSw; (try dsimp only at _hSw); go_simp)) (by assumption) ?_
    simp only [Act.put, List.setIfInBounds_toArray, List.set_cons_zero, List.set_cons_succ]
    refine takeV 2 (some 8) ((.slice (some ⟨b, o, none⟩) (r.length + 1) c)) rfl rfl (by kernel_rfl) (by kernel_rfl) (by kernel_rfl) (fun _ _ _ h => h) (by rfl) (by (intro _w hSw; have q0 := hSw.1.cell; clear hSw; go_simp)) (by assumption) ?_
    simp only [Act.put, List.setIfInBounds_toArray, List.set_cons_zero, List.set_cons_succ]
    refine takeV 3 (some 9) ((.int .i64 ((r.length + 1 : Nat) : Int))) rfl rfl (by kernel_rfl) (by kernel_rfl) (by kernel_rfl) (fun _ _ _ h => h) (by rfl) (by (intro _w _hSw; (try dsimp only at _hSw); go_simp)) (by assumption) ?_
    simp only [Act.put, List.setIfInBounds_toArray, List.set_cons_zero, List.set_cons_succ]
    refine takeV 4 (some 10) ((.bool false)) rfl rfl (by kernel_rfl) (by kernel_rfl) (by kernel_rfl) (fun _ _ _ h => h) (by rfl) (by (intro _w _hSw; (try dsimp only at _hSw); go_simp)) (by assumption) ?_
    simp only [Act.put, List.setIfInBounds_toArray, List.set_cons_zero, List.set_cons_succ]
    refine takeV 5 (some 11) ((.bool false)) rfl rfl (by kernel_rfl) (by kernel_rfl) (by kernel_rfl) (fun _ _ _ h => h) (by rfl) (by (intro _w _hSw; (try dsimp only at _hSw); go_simp)) (by assumption) ?_
    simp only [Act.put, List.setIfInBounds_toArray, List.set_cons_zero, List.set_cons_succ]
    refine takeV 6 (some 12) ((.pointer (some ⟨Bx, 0, none⟩))) rfl rfl (by kernel_rfl) (by kernel_rfl) (by kernel_rfl) (fun _ _ _ h => h) (by rfl) (by (intro _w _hSw; (try dsimp only at _hSw); go_simp)) (by assumption) ?_
    simp only [Act.put, List.setIfInBounds_toArray, List.set_cons_zero, List.set_cons_succ]
    refine takeV 7 (some 13) ((.pointer (some ⟨Bx, 0, none⟩))) rfl rfl (by kernel_rfl) (by kernel_rfl) (by kernel_rfl) (fun _ _ _ h => h) (by rfl) (by (intro _w _hSw; (try dsimp only at _hSw); go_simp)) (by assumption) ?_
    simp only [Act.put, List.setIfInBounds_toArray, List.set_cons_zero, List.set_cons_succ]
    refine takeV 8 (some 14) ((.slice (some ⟨b, o, none⟩) (r.length + 1) c)) rfl rfl (by kernel_rfl) (by kernel_rfl) (by kernel_rfl) (fun _ _ _ h => h) (by rfl) (by (intro _w hSw; have q0 := hSw.1.cell; clear hSw; go_simp)) (by assumption) ?_
    simp only [Act.put, List.setIfInBounds_toArray, List.set_cons_zero, List.set_cons_succ]
    refine takeV 9 (some 15) ((.pointer (some ⟨b, o, none⟩))) rfl rfl (by kernel_rfl) (by kernel_rfl) (by kernel_rfl) (fun _ _ _ h => h) (by rfl) (by (intro _w _hSw; (try dsimp only at _hSw); go_simp)) (by assumption) ?_
    simp only [Act.put, List.setIfInBounds_toArray, List.set_cons_zero, List.set_cons_succ]
    refine takeV 10 (some 16) ((.agg #[.int .i64 f.e, .int .i64 f.a, .int .i64 f.k, .int .i64 f.m, .string f.s, .slice As f.l.length cs])) rfl rfl (by kernel_rfl) (by kernel_rfl) (by kernel_rfl) (fun _ _ _ h => h) (by rfl) (by (intro _w hSw; have q0 := hSw.2.2.1.1; have q1 := hSw.2.2.1.2.1; have q2 := hSw.2.2.1.2.2.1; have q3 := hSw.2.2.1.2.2.2.1; have q4 := hSw.2.2.1.2.2.2.2.1; have q5 := hSw.2.2.1.2.2.2.2.2; clear hSw; go_simp)) (by assumption) ?_
    simp only [Act.put, List.setIfInBounds_toArray, List.set_cons_zero, List.set_cons_succ]
    refine takeV 12 (some 18) ((.agg #[.int .i64 e, .int .i64 a, .int .i64 k, .int .i64 m, .string s])) rfl rfl (by kernel_rfl) (by kernel_rfl) (by kernel_rfl) (fun _ _ _ h => h) (by rfl) (by (intro _w hSw; have q0 := hSw.2.1.k0; have q1 := hSw.2.1.k1; have q2 := hSw.2.1.k2; have q3 := hSw.2.1.k3; have q4 := hSw.2.1.k4; clear hSw; go_simp)) (by assumption) ?_
    simp only [Act.put, List.setIfInBounds_toArray, List.set_cons_zero, List.set_cons_succ]
    refine callV 11 rfl (by kernel_rfl) (by rfl) (fun K hK => ?_)
    go_simp
    go_at_call 49
    refine (HOF.out _).mono ?_
    rintro en w3 ⟨rfl, hb3⟩
    refine hK.out _ _ ⟨(hb3.block Bx hHeld.1.lt).trans hHeld.1, hHeld.2.1.next hb3, hHeld.2.2.1.next hb3 hHeld.2.2.2.1, Nat.lt_of_lt_of_le hHeld.2.2.2.1 hb3.size, hHeld.2.2.2.2.trans (hb3.mono hHeld.2.2.2.2.size)⟩ (fun hHeld => ?_)
    clear hK K hb3
    try simp only [Act.put, List.setIfInBounds_toArray, List.set_cons_zero, List.set_cons_succ]
    refine takeV 13 (some 19) ((.bool (!tt))) rfl rfl (by kernel_rfl) (by kernel_rfl) (by kernel_rfl) (fun _ _ _ h => h) (by rfl) (by (intro _w _hSw; (try dsimp only at _hSw); go_simp)) (by assumption) ?_
    simp only [Act.put, List.setIfInBounds_toArray, List.set_cons_zero, List.set_cons_succ]
    refine takeV 14 (some 20) ((.bool (!tt))) rfl rfl (by kernel_rfl) (by kernel_rfl) (by kernel_rfl) (fun _ _ _ h => h) (by rfl) (by (intro _w _hSw; (try dsimp only at _hSw); go_simp)) (by assumption) ?_
    simp only [Act.put, List.setIfInBounds_toArray, List.set_cons_zero, List.set_cons_succ]
    refine wpAnyH_done (by kernel_rfl) ?_ _
    have HE := Lib.hid hHeld
    clear hHeld
    cases tt
    · have HN : Hid (takeS (f :: r) (e, a, k, m, s) = [] ∧ takeR (f :: r) (e, a, k, m, s) = f :: r) := by
        show _ ∧ _
        have := of_decide_eq_false HT.out
        unfold takeS takeR
        simp [this]
      go_wp2
      go_ret
      have hK := HE.out.2.2.2.2
      refine ⟨_, some ⟨b, o, none⟩, c, rfl, by rw [HN.out.1]; exact nil_sv w, by rw [HN.out.2]; exact HF.out, by rw [HN.out.2]; exact HE.out.1, (keepX_below HB0.out).trans (keepX_below hK), HBW.out.trans (hK.mono HW0.out.size)⟩
    · have HN : Hid (takeS (f :: r) (e, a, k, m, s) = f.l ∧ takeR (f :: r) (e, a, k, m, s) = r) := by
        show _ ∧ _
        have := of_decide_eq_true HT.out
        unfold takeS takeR
        simp [this]
      have z0 := HE.out.1.cell
      have zf := HE.out.1.frozen
      have c5 := HE.out.2.2.1.2.2.2.2.2
      have hsl := fun X => sliceF_from (some ⟨b, o, none⟩) (r.length + 1) c 1 (by omega) X
      simp only [Nat.add_sub_cancel] at hsl
      have hsl' : ∀ X, (Instr.slice 22 (.slice (some ⟨b, o, none⟩) (r.length + 1) c) (some (.int .i64 1)) none none).run Try.prog X = .ok (.slice (cutF (some ⟨b, o, none⟩) c 1) r.length (c - 1)) X := hsl
      clear hsl
      go_wp2
      go_ret
      have hK := HE.out.2.2.2.2
      have hb4 := HE.out.1.set (.slice (cutF (some ⟨b, o, none⟩) c 1) r.length (c - 1))
      refine ⟨_, cutF (some ⟨b, o, none⟩) c 1, c - 1, rfl, by rw [HN.out.1]; exact HSV.out, by rw [HN.out.2]; exact HF.out.tail, by rw [HN.out.2]; exact hb4, ((keepX_below HB0.out).trans (keepX_below hK)).trans ⟨by simp, fun q _ hne => Below.heap_setCell _ ⟨Bx, 0, none⟩ _ q hne⟩, (HBW.out.trans (hK.mono HW0.out.size)).setCell (p := ⟨Bx, 0, none⟩) hB _⟩
end Go.Proofs.Ytdhnajhfkmmjnaa

/-
  CONTRACT: least of two lists of facts.
-/
namespace Go.Proofs.Ytdhnajhfkmmjnaa
open Go.RowKit Go.Shelf

theorem TrAt.fz {W : World} {b : Nat} {e a k m : Int} {s : ByteArray} (h : TrAt W b e a k m s) (j : Nat) : W.frozen? ⟨b, j, none⟩ = false := by unfold TrAt at h; simp [World.frozen?, h]
def LstS (w : World) (bt : Nat) (b o : Nat) (f : FactP) (fv : Value) (b' o' : Nat) (g : FactP) (gv : Value) (W : World) : Prop := (TrAt W bt 0 0 0 0 ⟨#[]⟩ ∧ Below w.heap.size w W) ∧ FcV W b o f fv ∧ b < W.heap.size ∧ FcV W b' o' g gv ∧ b' < W.heap.size
theorem LstS.next {w W W' : World} {bt b o : Nat} {f : FactP} {fv : Value} {b' o' : Nat} {g : FactP} {gv : Value} (h : LstS w bt b o f fv b' o' g gv W) (hb : Below W.heap.size W W') : LstS w bt b o f fv b' o' g gv W' :=
  ⟨⟨h.1.1.next hb, h.1.2.trans (hb.mono h.1.2.size)⟩, h.2.1.next hb h.2.2.1, Nat.lt_of_lt_of_le h.2.2.1 hb.size, h.2.2.2.1.next hb h.2.2.2.2, Nat.lt_of_lt_of_le h.2.2.2.2 hb.size⟩
set_option maxRecDepth 100000 in
set_option maxHeartbeats 4000000 in
theorem least_any (A B : Option Addr) (c d : Nat) (a b : List FactP) (W : World) (ha : FVa W (.slice A a.length c) a) (hb : FVa W (.slice B b.length d) b) (hne : ¬ (a = [] ∧ b = [])) :
    Calls Try.prog 70 #[.slice A a.length c, .slice B b.length d] W fun en W' => en = .returned (.agg #[.int .i64 (leastT a b).1, .int .i64 (leastT a b).2.1, .int .i64 (leastT a b).2.2.1, .int .i64 (leastT a b).2.2.2.1, .string (leastT a b).2.2.2.2]) ∧ Below W.heap.size W W' := by
  obtain ⟨w0, hw0⟩ : ∃ w0, W.alloc (.cells #[.int .i64 0, .int .i64 0, .int .i64 0, .int .i64 0, .string ⟨#[]⟩] 81) = w0 := ⟨_, rfl⟩
  have hb0 : Below W.heap.size W w0 := by rw [← hw0]; exact (Below.refl _ W).alloc (Nat.le_refl _) _
  have hT0 : TrAt w0 W.heap.size 0 0 0 0 ⟨#[]⟩ := by rw [← hw0]; exact trAt_new W 0 0 0 0 ⟨#[]⟩
  cases a with
  | nil =>
    cases b with
    | nil => exact absurd ⟨rfl, rfl⟩ hne
    | cons g r =>
      obtain ⟨b', o', gv, rfl, hlt, hc, hgv⟩ := fva_at hb (j := 0) (by simp)
      simp only [Nat.zero_mul, Nat.add_zero, List.getElem_cons_zero] at hc hgv
      have hc0 := hc.next hb0 hlt
      obtain ⟨Bs, ds, rfl, _⟩ := id hgv
      have HOG := Lib.hid (fun X => ofFact_any g (.slice Bs g.l.length ds) X ⟨_, _, _, rfl⟩)
      have HLE : Hid (leastT [] (g :: r) = triF g) := rfl
      have HS := Lib.hid (And.intro hT0 hb0)
      have c0 := hc0.1
      have c1 := hc0.2.1
      have c2 := hc0.2.2.1
      have c3 := hc0.2.2.2.1
      have c4 := hc0.2.2.2.2.1
      have c5 := hc0.2.2.2.2.2
      have hp0 : (0 : Int) < (r.length : Int) + 1 := by omega
      clear ha hb hne hb0 hT0 hlt hc hgv hc0
      go_enter Try.func70, Try.ntmps70
      go_upto_region 1 with (fail)
      try rw [hw0]
      clear hw0
      go_wp2_with fail
      refine (HOG.out _).mono ?_
      rintro en w9 ⟨rfl, hb9⟩
      have HB9 := Lib.hid (HS.out.2.trans (hb9.mono HS.out.2.size))
      have ht9 := HS.out.1.next hb9
      have r0 := ht9.k0
      have r1 := ht9.k1
      have r2 := ht9.k2
      have r3 := ht9.k3
      have r4 := ht9.k4
      have rf := ht9.fz
      clear ht9 hb9
      go_wp2
      refine bodyPost_ret (v := .agg #[.int .i64 g.e, .int .i64 g.a, .int .i64 g.k, .int .i64 g.m, .string g.s]) ?_ rfl ⟨?_, ?_⟩
      · rw [results_cell_only rfl]; go_simp
      · rw [HLE.out]; rfl
      · exact ((((HB9.out.setCell (p := ⟨W.heap.size, 0, none⟩) (Nat.le_refl _) _).setCell (p := ⟨W.heap.size, 1, none⟩) (Nat.le_refl _) _).setCell (p := ⟨W.heap.size, 2, none⟩) (Nat.le_refl _) _).setCell (p := ⟨W.heap.size, 3, none⟩) (Nat.le_refl _) _).setCell (p := ⟨W.heap.size, 4, none⟩) (Nat.le_refl _) _
  | cons f q =>
    obtain ⟨b1, o1, fv, rfl, hlt, hc, hfv⟩ := fva_at ha (j := 0) (by simp)
    simp only [Nat.zero_mul, Nat.add_zero, List.getElem_cons_zero] at hc hfv
    have hc0 := hc.next hb0 hlt
    have hlt0 := Nat.lt_of_lt_of_le hlt hb0.size
    obtain ⟨As, cs, rfl, _⟩ := id hfv
    have HOF := Lib.hid (fun X => ofFact_any f (.slice As f.l.length cs) X ⟨_, _, _, rfl⟩)
    have hp1 : (0 : Int) < (q.length : Int) + 1 := by omega
    have hn1 : ¬ ((q.length : Int) + 1 = 0) := by omega
    cases b with
    | nil =>
      have HLE : Hid (leastT (f :: q) [] = triF f) := rfl
      have HS : Hid (LstS W W.heap.size b1 o1 f (.slice As f.l.length cs) b1 o1 f (.slice As f.l.length cs) w0.drew) := LstS.next ⟨⟨hT0, hb0⟩, hc0, hlt0, hc0, hlt0⟩ (below_ind (Below.refl _ _) 1)
      clear ha hb hne hb0 hT0 hlt hc hfv hc0 hlt0
      go_enter Try.func70, Try.ntmps70
      go_upto_region 3 with (fail)
      try rw [hw0]
      clear hw0
      refine wp_region_held_drew (S := LstS W W.heap.size b1 o1 f (.slice As f.l.length cs) b1 o1 f (.slice As f.l.length cs)) (by kernel_rfl) HS.out (fun hHeld => ?_)
      refine takeV 0 (some 12) ((.slice B 0 d)) rfl rfl (by kernel_rfl) (by kernel_rfl) (by kernel_rfl) (fun _ _ _ h => h) (by rfl) (by (intro _w _hSw; (try dsimp only at _hSw); go_simp)) (by assumption) ?_
      simp only [Act.put, List.setIfInBounds_toArray, List.set_cons_zero, List.set_cons_succ]
      refine takeV 1 (some 13) ((.int .i64 0)) rfl rfl (by kernel_rfl) (by kernel_rfl) (by kernel_rfl) (fun _ _ _ h => h) (by rfl) (by (intro _w _hSw; (try dsimp only at _hSw); go_simp)) (by assumption) ?_
      simp only [Act.put, List.setIfInBounds_toArray, List.set_cons_zero, List.set_cons_succ]
      refine takeV 2 (some 14) ((.bool true)) rfl rfl (by kernel_rfl) (by kernel_rfl) (by kernel_rfl) (fun _ _ _ h => h) (by rfl) (by (intro _w _hSw; (try dsimp only at _hSw); go_simp)) (by assumption) ?_
      simp only [Act.put, List.setIfInBounds_toArray, List.set_cons_zero, List.set_cons_succ]
      refine takeV 3 (some 15) ((.bool true)) rfl rfl (by kernel_rfl) (by kernel_rfl) (by kernel_rfl) (fun _ _ _ h => h) (by rfl) (by (intro _w _hSw; (try dsimp only at _hSw); go_simp)) (by assumption) ?_
      simp only [Act.put, List.setIfInBounds_toArray, List.set_cons_zero, List.set_cons_succ]
      refine skipV 4 (some 16) rfl rfl (by kernel_rfl) (by kernel_rfl) (by kernel_rfl) (fun _ _ _ h => h) (by rfl) (by assumption) ?_
      simp only [Act.put, List.setIfInBounds_toArray, List.set_cons_zero, List.set_cons_succ]
      refine skipV 5 (some 17) rfl rfl (by kernel_rfl) (by kernel_rfl) (by kernel_rfl) (fun _ _ _ h => h) (by rfl) (by assumption) ?_
      simp only [Act.put, List.setIfInBounds_toArray, List.set_cons_zero, List.set_cons_succ]
      refine skipV 6 (some 18) rfl rfl (by kernel_rfl) (by kernel_rfl) (by kernel_rfl) (fun _ _ _ h => h) (by rfl) (by assumption) ?_
      simp only [Act.put, List.setIfInBounds_toArray, List.set_cons_zero, List.set_cons_succ]
      refine skipV 7 (some 19) rfl rfl (by kernel_rfl) (by kernel_rfl) (by kernel_rfl) (fun _ _ _ h => h) (by rfl) (by assumption) ?_
      simp only [Act.put, List.setIfInBounds_toArray, List.set_cons_zero, List.set_cons_succ]
      refine skipV 8 (some 20) rfl rfl (by kernel_rfl) (by kernel_rfl) (by kernel_rfl) (fun _ _ _ h => h) (by rfl) (by assumption) ?_
      simp only [Act.put, List.setIfInBounds_toArray, List.set_cons_zero, List.set_cons_succ]
      refine skipV 9 (some 21) rfl rfl (by kernel_rfl) (by kernel_rfl) (by kernel_rfl) (fun _ _ _ h => h) (by rfl) (by assumption) ?_
      simp only [Act.put, List.setIfInBounds_toArray, List.set_cons_zero, List.set_cons_succ]
      refine skipV 10 (some 22) rfl rfl (by kernel_rfl) (by kernel_rfl) (by kernel_rfl) (fun _ _ _ h => h) (by rfl) (by assumption) ?_
      simp only [Act.put, List.setIfInBounds_toArray, List.set_cons_zero, List.set_cons_succ]
      refine skipV 11 (some 23) rfl rfl (by kernel_rfl) (by kernel_rfl) (by kernel_rfl) (fun _ _ _ h => h) (by rfl) (by assumption) ?_
      simp only [Act.put, List.setIfInBounds_toArray, List.set_cons_zero, List.set_cons_succ]
      refine skipV 12 (some 24) rfl rfl (by kernel_rfl) (by kernel_rfl) (by kernel_rfl) (fun _ _ _ h => h) (by rfl) (by assumption) ?_
      simp only [Act.put, List.setIfInBounds_toArray, List.set_cons_zero, List.set_cons_succ]
      refine skipV 13 (some 25) rfl rfl (by kernel_rfl) (by kernel_rfl) (by kernel_rfl) (fun _ _ _ h => h) (by rfl) (by assumption) ?_
      simp only [Act.put, List.setIfInBounds_toArray, List.set_cons_zero, List.set_cons_succ]
      refine takeV 14 (some 26) ((.bool true)) rfl rfl (by kernel_rfl) (by kernel_rfl) (by kernel_rfl) (fun _ _ _ h => h) (by rfl) (by (intro _w _hSw; (try dsimp only at _hSw); go_simp)) (by assumption) ?_
      simp only [Act.put, List.setIfInBounds_toArray, List.set_cons_zero, List.set_cons_succ]
      refine wpAnyH_done (by kernel_rfl) ?_ _
      have HSE := Lib.hid hHeld.1
      have c0 := hHeld.2.1.1
      have c1 := hHeld.2.1.2.1
      have c2 := hHeld.2.1.2.2.1
      have c3 := hHeld.2.1.2.2.2.1
      have c4 := hHeld.2.1.2.2.2.2.1
      have c5 := hHeld.2.1.2.2.2.2.2
      clear hHeld
      go_wp2_with fail
      refine (HOF.out _).mono ?_
      rintro en w9 ⟨rfl, hb9⟩
      have HB9 := Lib.hid (HSE.out.2.trans (hb9.mono HSE.out.2.size))
      have ht9 := HSE.out.1.next hb9
      have r0 := ht9.k0
      have r1 := ht9.k1
      have r2 := ht9.k2
      have r3 := ht9.k3
      have r4 := ht9.k4
      have rf := ht9.fz
      clear ht9 hb9
      go_wp2
      refine bodyPost_ret (v := .agg #[.int .i64 f.e, .int .i64 f.a, .int .i64 f.k, .int .i64 f.m, .string f.s]) ?_ rfl ⟨?_, ?_⟩
      · rw [results_cell_only rfl]; go_simp
      · rw [HLE.out]; rfl
      · exact ((((HB9.out.setCell (p := ⟨W.heap.size, 0, none⟩) (Nat.le_refl _) _).setCell (p := ⟨W.heap.size, 1, none⟩) (Nat.le_refl _) _).setCell (p := ⟨W.heap.size, 2, none⟩) (Nat.le_refl _) _).setCell (p := ⟨W.heap.size, 3, none⟩) (Nat.le_refl _) _).setCell (p := ⟨W.heap.size, 4, none⟩) (Nat.le_refl _) _
    | cons g r =>
      obtain ⟨b2, o2, gv, rfl, hlt2, hc2, hgv⟩ := fva_at hb (j := 0) (by simp)
      simp only [Nat.zero_mul, Nat.add_zero, List.getElem_cons_zero] at hc2 hgv
      have hc20 := hc2.next hb0 hlt2
      have hlt20 := Nat.lt_of_lt_of_le hlt2 hb0.size
      obtain ⟨Bs, ds, rfl, _⟩ := id hgv
      have HOG := Lib.hid (fun X => ofFact_any g (.slice Bs g.l.length ds) X ⟨_, _, _, rfl⟩)
      have hp2 : (0 : Int) < (r.length : Int) + 1 := by omega
      have hn2 : ¬ ((r.length : Int) + 1 = 0) := by omega
      have HS : Hid (LstS W W.heap.size b1 o1 f (.slice As f.l.length cs) b2 o2 g (.slice Bs g.l.length ds) w0.drew) := LstS.next ⟨⟨hT0, hb0⟩, hc0, hlt0, hc20, hlt20⟩ (below_ind (Below.refl _ _) 1)
      obtain ⟨tt, htt⟩ : ∃ tt, decide (ordTr (f.e, f.a, f.k, f.m, f.s) (g.e, g.a, g.k, g.m, g.s) < 0) = tt := ⟨_, rfl⟩
      have HLE : Hid (leastT (f :: q) (g :: r) = if tt = true then triF f else triF g) := by
        show (if ordTr (triF f) (triF g) < 0 then triF f else triF g) = _
        cases tt
        · rw [if_neg (show ¬ ordTr (triF f) (triF g) < 0 from of_decide_eq_false htt)]; rfl
        · rw [if_pos (show ordTr (triF f) (triF g) < 0 from of_decide_eq_true htt)]; rfl
      clear ha hb hne hb0 hT0 hlt hc hfv hc0 hlt0 hlt2 hc2 hgv hc20 hlt20
      go_enter Try.func70, Try.ntmps70
      go_upto_region 3 with (fail)
      try rw [hw0]
      clear hw0
      refine wp_region_held_drew (S := LstS W W.heap.size b1 o1 f (.slice As f.l.length cs) b2 o2 g (.slice Bs g.l.length ds)) (by kernel_rfl) HS.out (fun hHeld => ?_)
      refine takeV 0 (some 12) ((.slice (some ⟨b2, o2, none⟩) (r.length + 1) d)) rfl rfl (by kernel_rfl) (by kernel_rfl) (by kernel_rfl) (fun _ _ _ h => h) (by rfl) (by (intro _w _hSw; (try dsimp only at _hSw); go_simp)) (by assumption) ?_
      simp only [Act.put, List.setIfInBounds_toArray, List.set_cons_zero, List.set_cons_succ]
      refine takeV 1 (some 13) ((.int .i64 ((r.length + 1 : Nat) : Int))) rfl rfl (by kernel_rfl) (by kernel_rfl) (by kernel_rfl) (fun _ _ _ h => h) (by rfl) (by (intro _w _hSw; (try dsimp only at _hSw); go_simp)) (by assumption) ?_
      simp only [Act.put, List.setIfInBounds_toArray, List.set_cons_zero, List.set_cons_succ]
      refine takeV 2 (some 14) ((.bool false)) rfl rfl (by kernel_rfl) (by kernel_rfl) (by kernel_rfl) (fun _ _ _ h => h) (by rfl) (by (intro _w _hSw; (try dsimp only at _hSw); go_simp)) (by assumption) ?_
      simp only [Act.put, List.setIfInBounds_toArray, List.set_cons_zero, List.set_cons_succ]
      refine takeV 3 (some 15) ((.bool false)) rfl rfl (by kernel_rfl) (by kernel_rfl) (by kernel_rfl) (fun _ _ _ h => h) (by rfl) (by (intro _w _hSw; (try dsimp only at _hSw); go_simp)) (by assumption) ?_
      simp only [Act.put, List.setIfInBounds_toArray, List.set_cons_zero, List.set_cons_succ]
      refine takeV 4 (some 16) ((.slice (some ⟨b1, o1, none⟩) (q.length + 1) c)) rfl rfl (by kernel_rfl) (by kernel_rfl) (by kernel_rfl) (fun _ _ _ h => h) (by rfl) (by (intro _w _hSw; (try dsimp only at _hSw); go_simp)) (by assumption) ?_
      simp only [Act.put, List.setIfInBounds_toArray, List.set_cons_zero, List.set_cons_succ]
      refine takeV 5 (some 17) ((.pointer (some ⟨b1, o1, none⟩))) rfl rfl (by kernel_rfl) (by kernel_rfl) (by kernel_rfl) (fun _ _ _ h => h) (by rfl) (by (intro _w _hSw; (try dsimp only at _hSw); go_simp)) (by assumption) ?_
      simp only [Act.put, List.setIfInBounds_toArray, List.set_cons_zero, List.set_cons_succ]
      refine takeV 6 (some 18) ((.agg #[.int .i64 f.e, .int .i64 f.a, .int .i64 f.k, .int .i64 f.m, .string f.s, .slice As f.l.length cs])) rfl rfl (by kernel_rfl) (by kernel_rfl) (by kernel_rfl) (fun _ _ _ h => h) (by rfl) (by (intro _w hSw; have q0 := hSw.2.1.1; have q1 := hSw.2.1.2.1; have q2 := hSw.2.1.2.2.1; have q3 := hSw.2.1.2.2.2.1; have q4 := hSw.2.1.2.2.2.2.1; have q5 := hSw.2.1.2.2.2.2.2; clear hSw; go_simp)) (by assumption) ?_
      simp only [Act.put, List.setIfInBounds_toArray, List.set_cons_zero, List.set_cons_succ]
      refine takeV 8 (some 20) ((.slice (some ⟨b2, o2, none⟩) (r.length + 1) d)) rfl rfl (by kernel_rfl) (by kernel_rfl) (by kernel_rfl) (fun _ _ _ h => h) (by rfl) (by (intro _w _hSw; (try dsimp only at _hSw); go_simp)) (by assumption) ?_
      simp only [Act.put, List.setIfInBounds_toArray, List.set_cons_zero, List.set_cons_succ]
      refine takeV 9 (some 21) ((.pointer (some ⟨b2, o2, none⟩))) rfl rfl (by kernel_rfl) (by kernel_rfl) (by kernel_rfl) (fun _ _ _ h => h) (by rfl) (by (intro _w _hSw; (try dsimp only at _hSw); go_simp)) (by assumption) ?_
      simp only [Act.put, List.setIfInBounds_toArray, List.set_cons_zero, List.set_cons_succ]
      refine takeV 10 (some 22) ((.agg #[.int .i64 g.e, .int .i64 g.a, .int .i64 g.k, .int .i64 g.m, .string g.s, .slice Bs g.l.length ds])) rfl rfl (by kernel_rfl) (by kernel_rfl) (by kernel_rfl) (fun _ _ _ h => h) (by rfl) (by (intro _w hSw; have q0 := hSw.2.2.2.1.1; have q1 := hSw.2.2.2.1.2.1; have q2 := hSw.2.2.2.1.2.2.1; have q3 := hSw.2.2.2.1.2.2.2.1; have q4 := hSw.2.2.2.1.2.2.2.2.1; have q5 := hSw.2.2.2.1.2.2.2.2.2; clear hSw; go_simp)) (by assumption) ?_
      simp only [Act.put, List.setIfInBounds_toArray, List.set_cons_zero, List.set_cons_succ]
      refine callV 7 rfl (by kernel_rfl) (by rfl) (fun K hK => ?_)
      go_simp
      go_at_call 49
      refine (HOF.out _).mono ?_
      rintro en w4 ⟨rfl, hb4⟩
      have g4 := hHeld.next hb4
      refine hK.out _ _ g4 (fun hHeld => ?_)
      clear hK g4 K hb4
      try simp only [Act.put, List.setIfInBounds_toArray, List.set_cons_zero, List.set_cons_succ]
      refine callV 11 rfl (by kernel_rfl) (by rfl) (fun K hK => ?_)
      go_simp
      go_at_call 49
      refine (HOG.out _).mono ?_
      rintro en w4 ⟨rfl, hb4⟩
      have g4 := hHeld.next hb4
      refine hK.out _ _ g4 (fun hHeld => ?_)
      clear hK g4 K hb4
      try simp only [Act.put, List.setIfInBounds_toArray, List.set_cons_zero, List.set_cons_succ]
      refine callV 12 rfl (by kernel_rfl) (by rfl) (fun K hK => ?_)
      go_simp
      go_at_call 63
      refine (trCmp_any _ _ _ _ _ _ _ _ _ _ _).mono ?_
      rintro en w5 ⟨rfl, hb5⟩
      have g5 := hHeld.next hb5
      refine hK.out _ _ g5 (fun hHeld => ?_)
      clear hK g5 K hb5
      try simp only [Act.put, List.setIfInBounds_toArray, List.set_cons_zero, List.set_cons_succ]
      refine takeV 13 (some 25) ((.bool tt)) rfl rfl (by kernel_rfl) (by kernel_rfl) (by kernel_rfl) (fun _ _ _ h => h) (by rfl) (by (intro _w _hSw; (try dsimp only at _hSw); go_simp)) (by assumption) ?_
      simp only [Act.put, List.setIfInBounds_toArray, List.set_cons_zero, List.set_cons_succ]
      refine takeV 14 (some 26) ((.bool tt)) rfl rfl (by kernel_rfl) (by kernel_rfl) (by kernel_rfl) (fun _ _ _ h => h) (by rfl) (by (intro _w _hSw; (try dsimp only at _hSw); go_simp)) (by assumption) ?_
      simp only [Act.put, List.setIfInBounds_toArray, List.set_cons_zero, List.set_cons_succ]
      refine wpAnyH_done (by kernel_rfl) ?_ _
      have HSE := Lib.hid hHeld.1
      have c0 := hHeld.2.1.1
      have c1 := hHeld.2.1.2.1
      have c2 := hHeld.2.1.2.2.1
      have c3 := hHeld.2.1.2.2.2.1
      have c4 := hHeld.2.1.2.2.2.2.1
      have c5 := hHeld.2.1.2.2.2.2.2
      have d0 := hHeld.2.2.2.1.1
      have d1 := hHeld.2.2.2.1.2.1
      have d2 := hHeld.2.2.2.1.2.2.1
      have d3 := hHeld.2.2.2.1.2.2.2.1
      have d4 := hHeld.2.2.2.1.2.2.2.2.1
      have d5 := hHeld.2.2.2.1.2.2.2.2.2
      clear hHeld htt
      cases tt
      · go_wp2_with fail
        refine (HOG.out _).mono ?_
        rintro en w9 ⟨rfl, hb9⟩
        have HB9 := Lib.hid (HSE.out.2.trans (hb9.mono HSE.out.2.size))
        have ht9 := HSE.out.1.next hb9
        have r0 := ht9.k0
        have r1 := ht9.k1
        have r2 := ht9.k2
        have r3 := ht9.k3
        have r4 := ht9.k4
        have rf := ht9.fz
        clear ht9 hb9
        go_wp2
        refine bodyPost_ret (v := .agg #[.int .i64 g.e, .int .i64 g.a, .int .i64 g.k, .int .i64 g.m, .string g.s]) ?_ rfl ⟨?_, ?_⟩
        · rw [results_cell_only rfl]; go_simp
        · rw [HLE.out]; rfl
        · exact ((((HB9.out.setCell (p := ⟨W.heap.size, 0, none⟩) (Nat.le_refl _) _).setCell (p := ⟨W.heap.size, 1, none⟩) (Nat.le_refl _) _).setCell (p := ⟨W.heap.size, 2, none⟩) (Nat.le_refl _) _).setCell (p := ⟨W.heap.size, 3, none⟩) (Nat.le_refl _) _).setCell (p := ⟨W.heap.size, 4, none⟩) (Nat.le_refl _) _
      · go_wp2_with fail
        refine (HOF.out _).mono ?_
        rintro en w9 ⟨rfl, hb9⟩
        have HB9 := Lib.hid (HSE.out.2.trans (hb9.mono HSE.out.2.size))
        have ht9 := HSE.out.1.next hb9
        have r0 := ht9.k0
        have r1 := ht9.k1
        have r2 := ht9.k2
        have r3 := ht9.k3
        have r4 := ht9.k4
        have rf := ht9.fz
        clear ht9 hb9
        go_wp2
        refine bodyPost_ret (v := .agg #[.int .i64 f.e, .int .i64 f.a, .int .i64 f.k, .int .i64 f.m, .string f.s]) ?_ rfl ⟨?_, ?_⟩
        · rw [results_cell_only rfl]; go_simp
        · rw [HLE.out]; rfl
        · exact ((((HB9.out.setCell (p := ⟨W.heap.size, 0, none⟩) (Nat.le_refl _) _).setCell (p := ⟨W.heap.size, 1, none⟩) (Nat.le_refl _) _).setCell (p := ⟨W.heap.size, 2, none⟩) (Nat.le_refl _) _).setCell (p := ⟨W.heap.size, 3, none⟩) (Nat.le_refl _) _).setCell (p := ⟨W.heap.size, 4, none⟩) (Nat.le_refl _) _
end Go.Proofs.Ytdhnajhfkmmjnaa
