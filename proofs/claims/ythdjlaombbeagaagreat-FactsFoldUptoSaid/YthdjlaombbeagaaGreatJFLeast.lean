import Derived.Test.YthdjlaombbeagaaGreatJFMay
import Derived.Test.YthdjlaombbeagaaGreatJFSame
import Derived.Test.YthdjlaombbeagaaGreatJFTurn
import Derived.Test.YthdjlaombbeagaaGreatJOArgs
/-
  CONTRACTS: slices.Clone at spans; facts.Spans.
-/
namespace Go.Proofs.YthdjlaombbeagaaGreat
open Go.RowKit Go.Shelf

theorem ownS_zero' (W : World) (B : Nat) (hB : B ≤ W.heap.size) : OwnS (W.alloc (.cells #[] 88)) B (.slice (some ⟨W.heap.size, 0, none⟩) 0 0) [] :=
  ⟨rfl, .inr ⟨W.heap.size, 0, #[], rfl, hB, heap_alloc_new W _, Nat.le_refl _, Nat.zero_le _, rfl, rfl⟩⟩
set_option maxRecDepth 100000 in
set_option maxHeartbeats 1000000 in
theorem cloneS_some (ad : Addr) (c : Nat) (l : List Sp) (w : World) (hs : SlS w w.heap.size (some ad) l) (hl : l.length ≤ 100000) :
    Calls Tryz.prog 54 #[.slice (some ad) l.length c] w fun e w' => ∃ v, e = .returned v ∧ OwnS w' w.heap.size v l ∧ Below w.heap.size w w' := by
  obtain ⟨i0, hi, hz0, hz1, hz2⟩ := info_parts info92
  have hmx : 100001 ≤ maxLen := by decide
  have HL0 := Lib.hid (ownS_zero' w w.heap.size (Nat.le_refl _))
  have HNW : Hid (∀ a', some ad = some a' → ∀ j u, (l.flatMap cellsS)[j]? = some u → (w.alloc (.cells #[] 88)).cell? (a'.add j) = some u) := fun a' h j u hu => (hs.next ((Below.refl _ _).alloc (Nat.le_refl _) _) (Nat.le_refl _)).news a' h j u hu
  clear hs
  have he := fun w => Lib.run_eql_slice_nil (P := Tryz.prog) w 60 88 (some ad) l.length c 0 0 Tryz.underlying60
  simp only [Option.isNone_some] at he
  go_enter Tryz.func54, Tryz.ntmps54
  go_wp2_with (at_builtin; refine wpList_append_any rfl _ _ 60 rfl w.heap.size 88 i0 (.agg #[.int .i64 0, .int .i64 0]) 2 16 Tryz.underlying60 hi hz0 hz1 hz2 rfl (by decide) _ _ _ rfl HL0.out (some ad) l.length c (l.flatMap cellsS) rfl (flatS_len l) (fun h => by cases h) HNW.out (cellsS_all l) (by simp; omega) (by simp; omega) (by simp) ?_; intro v1 w1 hown' hgrow; have HV1 : Hid (OwnS w1 w.heap.size v1 l) := ownS_of (a := []) hown'; have HB1 := Lib.hid (((Below.refl w.heap.size w).alloc (Nat.le_refl _) (.cells #[] 88)).trans (below_ownS HL0.out hgrow (by simp))); clear hown' hgrow)
  go_ret
  exact ⟨_, rfl, HV1.out, HB1.out⟩
set_option maxRecDepth 100000 in
set_option maxHeartbeats 400000 in
theorem cloneS_none (c : Nat) (w : World) :
    Calls Tryz.prog 54 #[.slice none 0 c] w fun e w' => e = .returned (.slice none 0 0) ∧ w = w' := by
  have he := fun w => Lib.run_eql_slice_nil (P := Tryz.prog) w 60 88 none 0 c 0 0 Tryz.underlying60
  simp only [Option.isNone_none] at he
  go_enter Tryz.func54, Tryz.ntmps54
  go_wp2
  go_ret
  exact ⟨rfl, rfl⟩
theorem cloneS_any (A : Option Addr) (c : Nat) (l : List Sp) (w : World) (hs : SlS w w.heap.size A l) (hl : l.length ≤ 100000) :
    Calls Tryz.prog 54 #[.slice A l.length c] w fun e w' => ∃ v, e = .returned v ∧ OwnS w' w.heap.size v l ∧ Below w.heap.size w w' := by
  cases A with
  | some ad => exact cloneS_some ad c l w hs hl
  | none =>
    have : l = [] := by
      cases l with
      | nil => rfl
      | cons x r =>
        obtain ⟨b, o, e, _⟩ := hs (by simp)
        cases e
    subst this
    refine (cloneS_none c w).mono ?_
    rintro e w' ⟨rfl, rfl⟩
    exact ⟨_, rfl, World.ownsRow_nil _ _ _ _, Below.refl _ _⟩

/-- a value in a box -/
def VBx (W : World) (b : Nat) (k m : Int) (s : ByteArray) : Prop := W.heap[b]? = some (.cells #[.int .i64 k, .int .i64 m, .string s] 42 (0, 0))
theorem VBx.cell {W : World} {b : Nat} {k m : Int} {s : ByteArray} (h : VBx W b k m s) (j : Nat) : W.cell? ⟨b, j, none⟩ = (#[Value.int .i64 k, .int .i64 m, .string s])[j]? := by unfold VBx at h; simp [World.cell?, h]
theorem VBx.k0 {W : World} {b : Nat} {k m : Int} {s : ByteArray} (h : VBx W b k m s) : W.cell? ⟨b, 0, none⟩ = some (.int .i64 k) := h.cell 0
theorem VBx.k1 {W : World} {b : Nat} {k m : Int} {s : ByteArray} (h : VBx W b k m s) : W.cell? ⟨b, 1, none⟩ = some (.int .i64 m) := h.cell 1
theorem VBx.k2 {W : World} {b : Nat} {k m : Int} {s : ByteArray} (h : VBx W b k m s) : W.cell? ⟨b, 2, none⟩ = some (.string s) := h.cell 2
theorem VBx.next {W W' : World} {b : Nat} {k m : Int} {s : ByteArray} (h : VBx W b k m s) (hb : Below W.heap.size W W') : VBx W' b k m s := (hb.block b (Array.getElem?_eq_some_iff.1 h).1).trans h
def FSS (w0 : World) (bx : Nat) (f : FactP) (sv : Value) (bv : Nat) (k m : Int) (s : ByteArray) (W : World) : Prop := FcBx W bx f sv ∧ SVa W sv f.l ∧ VBx W bv k m s ∧ Below w0.heap.size w0 W
theorem FSS.next {w0 W W' : World} {bx : Nat} {f : FactP} {sv : Value} {bv : Nat} {k m : Int} {s : ByteArray} (h : FSS w0 bx f sv bv k m s W) (hb : Below W.heap.size W W') : FSS w0 bx f sv bv k m s W' :=
  ⟨h.1.next hb, h.2.1.next hb, h.2.2.1.next hb, h.2.2.2.trans (hb.mono h.2.2.2.size)⟩
end Go.Proofs.YthdjlaombbeagaaGreat

/-
  CONTRACTS: the closure that says changes, and the one that says both kinds of a triple's.
-/
namespace Go.Proofs.YthdjlaombbeagaaGreat
open Go.RowKit Go.Shelf

/-- blocks of another type than datoms', but one, lie as they lay -/
def KeepT (Bl : Nat) (W W' : World) : Prop := W.heap.size ≤ W'.heap.size ∧ ∀ k cs t fr, k ≠ Bl → W.heap[k]? = some (Obj.cells cs t fr) → t ≠ 44 → W'.heap[k]? = some (Obj.cells cs t fr)
theorem KeepT.refl (Bl : Nat) (W : World) : KeepT Bl W W := ⟨Nat.le_refl _, fun _ _ _ _ _ h _ => h⟩
theorem KeepT.trans {Bl : Nat} {X Y Z : World} (h : KeepT Bl X Y) (k : KeepT Bl Y Z) : KeepT Bl X Z := ⟨Nat.le_trans h.1 k.1, fun i cs t fr h1 h2 h3 => k.2 i cs t fr h1 (h.2 i cs t fr h1 h2 h3) h3⟩
theorem KeepT.boxed {Bl : Nat} {W W' : World} (h : KeepT Bl W W') {b : Nat} {t : TypeId} {v : Value} (hb : Boxed W b t v) (hne : b ≠ Bl) (ht : t ≠ 44) : Boxed W' b t v := h.2 b _ _ _ hne hb ht
theorem KeepT.sv {Bl : Nat} {W W' : World} (h : KeepT Bl W W') {u v : Value} {l : List Sp} (hb : Boxed W Bl 22 u) (hs : SV W v l) : SV W' v l := by
  obtain ⟨A, c, e, h1, h2, h3, h4⟩ := hs
  by_cases hl : l = []
  · exact ⟨A, c, e, fun h => absurd hl h, h2, h3, fun h => absurd hl h⟩
  · obtain ⟨b, o, cs, fr, eb, hc⟩ := h4 hl
    have hne : b ≠ Bl := fun e2 => by
      subst e2
      rw [show W.heap[b]? = _ from hb] at hc
      injection hc with hc
      injection hc with _ h5 _
      exact absurd h5 (by decide)
    have hlt := (Array.getElem?_eq_some_iff.1 hc).1
    have hc' := h.2 b cs _ fr hne hc (by decide)
    have hbk : W'.heap[b]? = W.heap[b]? := hc'.trans hc.symm
    refine ⟨A, c, e, fun _ => ?_, h2, h3, fun _ => ⟨b, o, cs, fr, eb, hc'⟩⟩
    obtain ⟨b', o', e', hlt', hp⟩ := h1 hl
    rw [eb] at e'
    cases e'
    have hcell : ∀ i, W'.cell? ⟨b, i, none⟩ = W.cell? ⟨b, i, none⟩ := fun i => World.cell?_of_block (w := W) (a := ⟨b, i, none⟩) hbk
    exact ⟨b, o, eb, Nat.lt_of_lt_of_le hlt h.1, fun j q hq => ⟨(hcell _).trans (hp j q hq).c0, (hcell _).trans (hp j q hq).c1⟩⟩
end Go.Proofs.YthdjlaombbeagaaGreat

/-
  CONTRACTS: take, least and together of Changes.
-/
namespace Go.Proofs.YthdjlaombbeagaaGreat
open Go.RowKit Go.Shelf

/-- all blocks but one lie as they lay -/
def KeepX (Bx : Nat) (W W' : World) : Prop := W.heap.size ≤ W'.heap.size ∧ ∀ k, k < W.heap.size → k ≠ Bx → W'.heap[k]? = W.heap[k]?
theorem KeepX.trans {Bx : Nat} {X Y Z : World} (h : KeepX Bx X Y) (k : KeepX Bx Y Z) : KeepX Bx X Z := ⟨Nat.le_trans h.1 k.1, fun i h1 h2 => (k.2 i (Nat.lt_of_lt_of_le h1 h.1) h2).trans (h.2 i h1 h2)⟩
theorem KeepX.boxed {Bx : Nat} {W W' : World} (h : KeepX Bx W W') {b : Nat} {t : TypeId} {v : Value} (hb : Boxed W b t v) (hne : b ≠ Bx) : Boxed W' b t v := (h.2 b hb.lt hne).trans hb
def cutF (A : Option Addr) (c k : Nat) : Option Addr := if c = k then A else A.map (·.add (k * 6))
theorem FVa.tail {W : World} {A : Option Addr} {c : Nat} {f : FactP} {l : List FactP} (h : FVa W (.slice A (l.length + 1) c) (f :: l)) : FVa W (.slice (cutF A c 1) l.length (c - 1)) l := by
  obtain ⟨A2, c2, e, hs, h2, h3⟩ := h
  injection e with e1 e2 e3
  subst e1 e3
  rw [List.length_cons] at h2
  refine ⟨_, _, rfl, fun hl => ?_, by omega, by omega⟩
  obtain ⟨b, o, rfl, hlt, hc⟩ := hs (by simp)
  have hl0 := List.length_pos_iff.2 hl
  unfold cutF
  rw [if_neg (by omega)]
  refine ⟨b, o + 6, by show some (Addr.add ⟨b, o, none⟩ (1 * 6)) = _; rw [addI], hlt, fun j g hg => ?_⟩
  have := hc (j + 1) g (by simpa using hg)
  rwa [show o + (j + 1) * 6 = o + 6 + j * 6 by omega] at this

end Go.Proofs.YthdjlaombbeagaaGreat

/-
  CONTRACT: least of two lists of facts.
-/
namespace Go.Proofs.YthdjlaombbeagaaGreat
open Go.RowKit Go.Shelf

theorem TrAt.fz {W : World} {b : Nat} {e a k m : Int} {s : ByteArray} (h : TrAt W b e a k m s) (j : Nat) : W.frozen? ⟨b, j, none⟩ = false := by unfold TrAt at h; simp [World.frozen?, h]
def LstS (w : World) (bt : Nat) (b o : Nat) (f : FactP) (fv : Value) (b' o' : Nat) (g : FactP) (gv : Value) (W : World) : Prop := (TrAt W bt 0 0 0 0 ⟨#[]⟩ ∧ Below w.heap.size w W) ∧ FcV W b o f fv ∧ b < W.heap.size ∧ FcV W b' o' g gv ∧ b' < W.heap.size
theorem LstS.next {w W W' : World} {bt b o : Nat} {f : FactP} {fv : Value} {b' o' : Nat} {g : FactP} {gv : Value} (h : LstS w bt b o f fv b' o' g gv W) (hb : Below W.heap.size W W') : LstS w bt b o f fv b' o' g gv W' :=
  ⟨⟨h.1.1.next hb, h.1.2.trans (hb.mono h.1.2.size)⟩, h.2.1.next hb h.2.2.1, Nat.lt_of_lt_of_le h.2.2.1 hb.size, h.2.2.2.1.next hb h.2.2.2.2, Nat.lt_of_lt_of_le h.2.2.2.2 hb.size⟩
end Go.Proofs.YthdjlaombbeagaaGreat
