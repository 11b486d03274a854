import Derived.Laws.AppendOwnNone
import Derived.Test.YtoidkhojkekjeaaJORdNum
import Derived.Laws.StructEq
import Derived.Test.YtoidkhojkekjeaaJORdRead
import Derived.Test.YtoidkhojkekjeaaJDCmp
import Derived.Test.YtoidkhojkekjeaaJLeaf
import Derived.StillTailTactics
import Derived.Test.YtoidkhojkekjeaaJDComp
import Derived.WalkMore
/-
  CONTRACT: Value (the document's).
-/
namespace Go.Proofs.Ytoidkhojkekjeaa
open Go.RowKit Go.Shelf

theorem refMay_is {k n : Int} {s : ByteArray} {m : Bool} (w : World) (hs : s.size ≤ maxLen) (hm : mayB k n s = m) :
    Calls Try.prog 75 #[.agg #[.int .i64 k, .int .i64 n, .string s]] w fun e w' => e = .returned (.bool m) ∧ Below w.heap.size w w' :=
  (refMay_any k n s w hs).mono fun e w' ⟨h, hb⟩ => ⟨by rw [h, hm], hb⟩
theorem own_src {W : World} {B : Nat} {v : Value} {l : List UInt8} (h : OwnB W B v l) (hl : l ≠ []) : ∃ ad c, v = .slice (some ad) l.length c ∧ ad.block < W.heap.size ∧ ∀ j u, (cellsL l)[j]? = some u → W.cell? (ad.add j) = some u := by
  obtain ⟨A, c, rfl⟩ := ownB_form h
  obtain ⟨ad, rfl, hlt, hc⟩ := (SlB.of_own h).2 hl
  exact ⟨ad, c, rfl, hlt, fun j u hu => by obtain ⟨x, hx, rfl⟩ := cellsL_at hu; exact hc j x hx⟩
theorem numB_ne (n : Int) : numB n ≠ [] := by
  intro e
  have := congrArg List.length e
  rw [numB_len] at this
  cases this

end Go.Proofs.Ytoidkhojkekjeaa

/-
  THE LAW OrderReads: its walk.
-/
namespace Go.Proofs.Ytoidkhojkekjeaa
open Go.RowKit Go.Shelf

def readN (ks : List Bool) (b : List UInt8) : Int := if (readL ks b).isSome then 0 else 20
theorem readL_len {ks : List Bool} {b : List UInt8} : ((readL ks b).getD []).length ≤ ks.length := by
  unfold readL
  split
  · have := tellL_len ks b
    simpa using this
  · simp

theorem SlK.more {W : World} {B B' : Nat} {A : Option Addr} {l : List Bool} (h : SlK W B A l) (hB : B ≤ B') : SlK W B' A l := fun hl => by
  obtain ⟨a, e, hlt, hc⟩ := h hl
  exact ⟨a, e, by omega, hc⟩
theorem ownB_cap {W : World} {B : Nat} {A : Option Addr} {n c : Nat} {l : List UInt8} (h : OwnB W B (.slice A n c) l) : l.length ≤ c ∧ c ≤ maxLen := by
  rcases h.2 with ⟨e, h0⟩ | ⟨g, cap, cur, e, _, _, h1, h2, _⟩
  · injection e with _ _ e
    subst e
    exact ⟨by omega, Nat.zero_le _⟩
  · injection e with _ _ e
    subst e
    exact ⟨h1, h2⟩

end Go.Proofs.Ytoidkhojkekjeaa

/-
  CONTRACTS of the document's own answer over datoms: entity, May, Has, Compare, Key.
-/
namespace Go.Proofs.Ytoidkhojkekjeaa
open Go.RowKit

set_option maxHeartbeats 400000 in
theorem rEnt_is (v : Bool) (n : Int) (w : World) (h : entB n = v) : Calls Try.prog 74 #[.int .i64 n] w fun e w' => e = .returned (.bool v) ∧ w = w' := by
  subst h
  by_cases h0 : 0 ≤ n
  · by_cases h1 : n < 9007199254740992
    · have e : Hid (entB n = true) := by show _ = _; unfold entB; simp [h0, h1]
      go_enter Try.func74, Try.ntmps74
      go_wp2
      go_ret
      exact ⟨by rw [e.out]; rfl, rfl⟩
    · have e : Hid (entB n = false) := by show _ = _; unfold entB; simp; omega
      go_enter Try.func74, Try.ntmps74
      go_wp2
      go_ret
      exact ⟨by rw [e.out]; rfl, rfl⟩
  · have e : Hid (entB n = false) := by show _ = _; unfold entB; simp; omega
    have h0' : decide (0 ≤ n) = false := decide_eq_false h0
    go_enter Try.func74, Try.ntmps74
    go_wp2
    go_ret
    exact ⟨by rw [e.out]; rfl, rfl⟩

set_option maxRecDepth 100000 in
set_option maxHeartbeats 2000000 in
theorem rMay_any (d : Dat) (w : World) (hs : d.s.size ≤ maxLen) : Calls Try.prog 40 #[.agg #[.int .i64 d.e, .int .i64 d.a, .int .i64 d.k, .int .i64 d.m, .string d.s, .int .i64 d.t, .bool d.add, .int .i64 d.fr, .int .i64 d.til]] w fun e w' => e = .returned (.bool (mayD d)) ∧ Below w.heap.size w w' := by
  have HB0 : Hid (Below w.heap.size w (w.alloc (.cells #[.int .i64 d.e, .int .i64 d.a, .int .i64 d.k, .int .i64 d.m, .string d.s, .int .i64 d.t, .bool d.add, .int .i64 d.fr, .int .i64 d.til] 83))) := (Below.refl _ _).alloc (Nat.le_refl _) _
  have HDA := Lib.hid (datAt_new w d)
  have HM : Hid (mayD d = (entB d.e && entB d.a && mayB d.k d.m d.s && txB d.t && decide (d.fr < d.til))) := rfl
  obtain ⟨b1, h1⟩ : ∃ b, entB d.e = b := ⟨_, rfl⟩
  obtain ⟨b2, h2⟩ : ∃ b, entB d.a = b := ⟨_, rfl⟩
  obtain ⟨b3, h3⟩ : ∃ b, mayB d.k d.m d.s = b := ⟨_, rfl⟩
  rw [h1, h2, h3] at HM
  have H1 := Lib.hid h1
  have H2 := Lib.hid h2
  have H3 := Lib.hid h3
  clear h1 h2 h3
  go_enter Try.func40, Try.ntmps40
  go_wp2_with fail
  refine (rEnt_is b1 d.e _ H1.out).mono ?_
  rintro e w1 ⟨rfl, rfl⟩
  cases b1
  · have HF : Hid (mayD d = false) := HM.out
    go_wp2
    go_ret
    exact ⟨by rw [HF.out]; rfl, HB0.out⟩
  go_wp2_with fail
  refine (rEnt_is b2 d.a _ H2.out).mono ?_
  rintro e w1 ⟨rfl, rfl⟩
  cases b2
  · have HF : Hid (mayD d = false) := HM.out
    go_wp2
    go_ret
    exact ⟨by rw [HF.out]; rfl, HB0.out⟩
  go_wp2_with fail
  refine (refMay_is (m := b3) _ hs H3.out).mono ?_
  rintro e w1 ⟨rfl, hb⟩
  have HB1 := Lib.hid (HB0.out.trans (hb.mono HB0.out.size))
  have hx := HDA.out.next hb (by simp)
  have c5 := hx.c5
  have c7 := hx.c7
  have c8 := hx.c8
  clear hb hx
  cases b3
  · have HF : Hid (mayD d = false) := HM.out
    go_wp2
    go_ret
    exact ⟨by rw [HF.out]; rfl, HB1.out⟩
  by_cases t1 : 1 ≤ d.t
  · by_cases t2 : d.t ≤ 1099511627776
    · have HT : Hid (txB d.t = true) := by show _ = _; unfold txB; simp [t1, t2]
      by_cases t3 : d.fr < d.til
      · have HF : Hid (mayD d = true) := by show _ = _; rw [HM.out, HT.out, decide_eq_true t3]; rfl
        go_wp2
        go_ret
        exact ⟨by rw [HF.out]; rfl, HB1.out⟩
      · have HF : Hid (mayD d = false) := by show _ = _; rw [HM.out, HT.out, decide_eq_false t3]; rfl
        have t3' : decide (d.fr < d.til) = false := decide_eq_false t3
        go_wp2
        go_ret
        exact ⟨by rw [HF.out]; rfl, HB1.out⟩
    · have HT : Hid (txB d.t = false) := by show _ = _; unfold txB; simp; omega
      have HF : Hid (mayD d = false) := by show _ = _; rw [HM.out, HT.out]; rfl
      have t2' : decide (d.t ≤ 1099511627776) = false := decide_eq_false t2
      go_wp2
      go_ret
      exact ⟨by rw [HF.out]; rfl, HB1.out⟩
  · have HT : Hid (txB d.t = false) := by show _ = _; unfold txB; simp; omega
    have HF : Hid (mayD d = false) := by show _ = _; rw [HM.out, HT.out]; rfl
    have t1' : decide (1 ≤ d.t) = false := decide_eq_false t1
    go_wp2
    go_ret
    exact ⟨by rw [HF.out]; rfl, HB1.out⟩

/-- is it no order? in the walk's words -/
theorem noO {o : Int} (h : isO o = false) : o < 1 ∨ (1 ≤ o ∧ 4 < o) := by
  unfold isO at h
  rw [decide_eq_false_iff_not] at h
  omega
theorem yesO {o : Int} (h : isO o = true) : 1 ≤ o ∧ o ≤ 4 := by
  unfold isO at h
  rw [decide_eq_true_eq] at h
  exact h
/-- What Key answers. -/
def DKeyEnd (W : World) (o : Int) (d : Dat) (e : Ending) (w' : World) : Prop :=
  ((isO o = false ∧ e = .returned (.tuple #[.slice none 0 0, .int .i64 2])) ∨ (isO o = true ∧ fitD o d = false ∧ e = .returned (.tuple #[.slice none 0 0, .int .i64 40])) ∨ (fitD o d = true ∧ ∃ v, e = .returned (.tuple #[v, .int .i64 0]) ∧ OwnB w' W.heap.size v (keyD o d))) ∧ Below W.heap.size W w'
end Go.Proofs.Ytoidkhojkekjeaa

/-
  CONTRACT: the document's Sorted of datoms.
-/
namespace Go.Proofs.Ytoidkhojkekjeaa
open Go.RowKit Go.Shelf

theorem putsG_snoc {α : Type} (o : α → α → Int) (l : List α) (x : α) : putsG o (l ++ [x]) = putG o (putsG o l) x := by
  unfold putsG
  rw [List.foldl_append]; rfl
theorem filter_take {α : Type} (p : α → Bool) {l : List α} {j : Nat} (h : j < l.length) : (l.take (j + 1)).filter p = (l.take j).filter p ++ (if p l[j] then [l[j]] else []) := by
  rw [List.take_succ_eq_append_getElem h, List.filter_append]
  congr 1
  cases hq : p l[j] <;> simp [hq]
/-- what the document's Sorted answers -/
def sortsD (o : Int) (l : List Dat) : List Dat := if isO o = true then putsG (ordD o) (l.filter (hasD o)) else []
/-- what the comparing regions read -/
def CsD (N ba oa bb ob : Nat) (x y : Dat) (W : World) : Prop := DtAt W ba oa x ∧ DtAt W bb ob y ∧ (ba < N ∧ bb < N) ∧ N ≤ W.heap.size
theorem CsD.next {N ba oa bb ob : Nat} {x y : Dat} {W W' : World} (h : CsD N ba oa bb ob x y W) (hb : Below W.heap.size W W') : CsD N ba oa bb ob x y W' :=
  ⟨h.1.next hb (by have := h.2.2; omega), h.2.1.next hb (by have := h.2.2; omega), h.2.2.1, Nat.le_trans h.2.2.2 hb.size⟩

end Go.Proofs.Ytoidkhojkekjeaa

/-
  CONTRACT over datoms: the datom that has parts.
-/
namespace Go.Proofs.Ytoidkhojkekjeaa
open Go.RowKit

/-- a datom in a slot -/
def dV (d : Dat) : Value := .agg #[.int .i64 d.e, .int .i64 d.a, .int .i64 d.k, .int .i64 d.m, .string d.s, .int .i64 d.t, .bool d.add, .int .i64 d.fr, .int .i64 d.til]
/-- the datom that has parts, E, A and V at any three places -/
def datPl (pe pa pv : Nat) (l : List PartP) : Dat :=
  ⟨((l[pe]?).getD (numP 0)).n, ((l[pa]?).getD (numP 0)).n, ((l[pv]?).getD (numP 0)).k, ((l[pv]?).getD (numP 0)).m, ((l[pv]?).getD (numP 0)).s, ((l[3]?).getD (numP 0)).n, decide (((l[4]?).getD (numP 0)).n = 0), ((l[5]?).getD (numP 0)).n, ((l[6]?).getD (numP 0)).n⟩
theorem datPl_is (o : Int) (l : List PartP) : datPl (plE o) (plA o) (plV o) l = datL o l := rfl
theorem SlP.get {W : World} {b o : Nat} {l : List PartP} (h : ∀ (j : Nat) (p : PartP), l[j]? = some p → PartAt W b (o + j * 5) p) (j : Nat) (hj : j < l.length) : PartAt W b (o + j * 5) ((l[j]?).getD (numP 0)) := by
  have h1 := h j l[j] (List.getElem?_eq_getElem hj)
  rw [List.getElem?_eq_getElem hj]
  exact h1
/-- what the region reads -/
def MS (wz b o pe pa pv : Nat) (xe xa xv x3 x5 x6 : PartP) (W : World) : Prop :=
  (W.cell? ⟨wz, 0, none⟩ = some (.int .i64 (pe : Int)) ∧ W.cell? ⟨wz, 1, none⟩ = some (.int .i64 (pa : Int)) ∧ W.cell? ⟨wz, 2, none⟩ = some (.int .i64 (pv : Int))) ∧
  W.cell? ⟨b, o + pe * 5 + 1, none⟩ = some (.int .i64 xe.n) ∧ W.cell? ⟨b, o + pa * 5 + 1, none⟩ = some (.int .i64 xa.n) ∧
  (W.cell? ⟨b, o + pv * 5 + 2, none⟩ = some (.int .i64 xv.k) ∧ W.cell? ⟨b, o + pv * 5 + 2 + 1, none⟩ = some (.int .i64 xv.m) ∧ W.cell? ⟨b, o + pv * 5 + 2 + 2, none⟩ = some (.string xv.s)) ∧
  W.cell? ⟨b, o + 15 + 1, none⟩ = some (.int .i64 x3.n) ∧ W.cell? ⟨b, o + 25 + 1, none⟩ = some (.int .i64 x5.n) ∧ W.cell? ⟨b, o + 30 + 1, none⟩ = some (.int .i64 x6.n)
theorem MS.next {wz b o pe pa pv B : Nat} {xe xa xv x3 x5 x6 : PartP} {W W' : World} (h : MS wz b o pe pa pv xe xa xv x3 x5 x6 W) (hb : Below B W W') (h1 : wz < B) (h2 : b < B) : MS wz b o pe pa pv xe xa xv x3 x5 x6 W' := by
  obtain ⟨⟨a0, a1, a2⟩, a3, a4, ⟨a5, a6, a7⟩, a8, a9, a10⟩ := h
  have k1 : ∀ j, W'.cell? ⟨wz, j, none⟩ = W.cell? ⟨wz, j, none⟩ := fun j => hb.cell (p := ⟨wz, j, none⟩) h1
  have k2 : ∀ j, W'.cell? ⟨b, j, none⟩ = W.cell? ⟨b, j, none⟩ := fun j => hb.cell (p := ⟨b, j, none⟩) h2
  exact ⟨⟨(k1 _).trans a0, (k1 _).trans a1, (k1 _).trans a2⟩, (k2 _).trans a3, (k2 _).trans a4, ⟨(k2 _).trans a5, (k2 _).trans a6, (k2 _).trans a7⟩, (k2 _).trans a8, (k2 _).trans a9, (k2 _).trans a10⟩
theorem DatAt.set9 {W : World} {b : Nat} {d : Dat} (h : DatAt W b d) (q : Dat) :
    DatAt (((((((((W.setCell ⟨b, 0, none⟩ (.int .i64 q.e)).setCell ⟨b, 1, none⟩ (.int .i64 q.a)).setCell ⟨b, 2, none⟩ (.int .i64 q.k)).setCell ⟨b, 3, none⟩ (.int .i64 q.m)).setCell ⟨b, 4, none⟩ (.string q.s)).setCell ⟨b, 5, none⟩ (.int .i64 q.t)).setCell ⟨b, 6, none⟩ (.bool q.add)).setCell ⟨b, 7, none⟩ (.int .i64 q.fr)).setCell ⟨b, 8, none⟩ (.int .i64 q.til)) b q :=
  (heap_setCell_same _ _ _ _ _ _ (heap_setCell_same _ _ _ _ _ _ (heap_setCell_same _ _ _ _ _ _ (heap_setCell_same _ _ _ _ _ _ (heap_setCell_same _ _ _ _ _ _ (heap_setCell_same _ _ _ _ _ _ (heap_setCell_same _ _ _ _ _ _ (heap_setCell_same _ _ _ _ _ _ (heap_setCell_same _ _ _ _ _ _ h))))))))).trans (by simp)
theorem below_set9 {W : World} {B b : Nat} (hb : B ≤ b) (u0 u1 u2 u3 u4 u5 u6 u7 u8 : Value) :
    Below B W (((((((((W.setCell ⟨b, 0, none⟩ u0).setCell ⟨b, 1, none⟩ u1).setCell ⟨b, 2, none⟩ u2).setCell ⟨b, 3, none⟩ u3).setCell ⟨b, 4, none⟩ u4).setCell ⟨b, 5, none⟩ u5).setCell ⟨b, 6, none⟩ u6).setCell ⟨b, 7, none⟩ u7).setCell ⟨b, 8, none⟩ u8) :=
  ((((((((((Below.refl B W).setCell (p := ⟨b, 0, none⟩) hb _).setCell (p := ⟨b, 1, none⟩) hb _).setCell (p := ⟨b, 2, none⟩) hb _).setCell (p := ⟨b, 3, none⟩) hb _).setCell (p := ⟨b, 4, none⟩) hb _).setCell (p := ⟨b, 5, none⟩) hb _).setCell (p := ⟨b, 6, none⟩) hb _).setCell (p := ⟨b, 7, none⟩) hb _).setCell (p := ⟨b, 8, none⟩) hb _)

end Go.Proofs.Ytoidkhojkekjeaa
