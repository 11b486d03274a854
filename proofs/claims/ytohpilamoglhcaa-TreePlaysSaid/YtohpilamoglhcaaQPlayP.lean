/-
  TREES AND THE DOCUMENT'S, SIDE BY SIDE: what the law's rounds keep.
-/
import Derived.Test.YtohpilamoglhcaaQOne
namespace Go.Proofs.Ytohpilamoglhcaa
open Go.RowKit

/-- blocks that are not among some -/
@[reducible] def GbI (lo hi : Nat) : LT Gb := ⟨fun a _ => a.n < lo ∨ hi ≤ a.n⟩
theorem gbI_all (b : Nat) : @goodB (GbI 0 0) b := Or.inr (Nat.zero_le _)
/-- what a tree's blocks ask of a step -/
structure MoveT (i1 i2 : LT Gb) (w w' : World) : Prop where
  size : w.heap.size ≤ w'.heap.size
  hb : ∀ (b : Nat) (cs : Array Value) (t : TypeId) (fr : Nat × Nat), w.heap[b]? = some (.cells cs t fr) → (t = 50 ∨ t = 132 ∨ t = 93) → w'.heap[b]? = some (.cells cs t fr)
  hg : ∀ (b : Nat) (cs : Array Value) (fr : Nat × Nat), w.heap[b]? = some (.cells cs 5 fr) → @goodB i1 b → w'.heap[b]? = some (.cells cs 5 fr) ∧ @goodB i2 b
theorem slG_move {i1 i2 : LT Gb} {w w' : World} {A : Option Addr} {l : By} (h : @SlG i1 w A l) (m : MoveT i1 i2 w w') : @SlG i2 w' A l := by
  refine ⟨fun hl => ?_, fun hl a e => ?_⟩
  · obtain ⟨a, e, hlt, hc⟩ := h.1 hl
    obtain ⟨g, cs, fr, hb⟩ := h.2 hl a e
    have h2 := m.hg _ _ _ hb g
    exact ⟨a, e, Nat.lt_of_lt_of_le hlt m.size, fun j x hx => (World.cell?_of_block (w := w) (by show w'.heap[(a.add j).block]? = w.heap[(a.add j).block]?; rw [add_block, h2.1, hb])).trans (hc j x hx)⟩
  · obtain ⟨g, cs, fr, hb⟩ := h.2 hl a e
    have h2 := m.hg _ _ _ hb g
    exact ⟨h2.2, cs, fr, h2.1⟩
theorem pairAt_move {i1 i2 : LT Gb} {w w' : World} {pb : Nat} {p : Pr} (h : @PairAt i1 w pb p) (m : MoveT i1 i2 w w') : @PairAt i2 w' pb p := by
  obtain ⟨A, c, A', c', h1, h2, h3⟩ := h
  exact ⟨A, c, A', c', m.hb _ _ _ _ h1 (.inr (.inr rfl)), slG_move h2 m, slG_move h3 m⟩
theorem treeAt_move {i1 i2 : LT Gb} {w w' : World} (m : MoveT i1 i2 w w') : ∀ {t : Tr}, @TreeAt i1 w t → @TreeAt i2 w' t
  | .nil, _ => trivial
  | .nd _ _ _ _, ⟨⟨pb, h1, h2⟩, hl, hr⟩ => ⟨⟨pb, m.hb _ _ _ _ h1 (.inr (.inl rfl)), pairAt_move h2 m⟩, treeAt_move m hl, treeAt_move m hr⟩
theorem treeV_move {i1 i2 : LT Gb} {w w' : World} {v : Value} {L : List Pr} (h : @TreeV i1 w v L) (m : MoveT i1 i2 w w') : @TreeV i2 w' v L := by
  obtain ⟨⟨u, t, h1, h2, h3, h4⟩, h5, h6, h7⟩ := h
  refine ⟨⟨u, t, h1, ?_, treeAt_move m h3, h4⟩, h5, h6, h7⟩
  rcases h2 with h2 | ⟨b, e, h2⟩
  · exact .inl h2
  · exact .inr ⟨b, e, m.hb _ _ _ _ h2 (.inl rfl)⟩
theorem slR_move {w w' : World} {A : Option Addr} {L : List Pr} (h : SlR w A L) (hr : ∀ (b : Nat) (cs : Array Value) (fr : Nat × Nat), w.heap[b]? = some (.cells cs 100 fr) → w'.heap[b]? = some (.cells cs 100 fr)) : SlR w' A L := fun hl => by
  obtain ⟨g, o, e, ⟨cs, fr, hg⟩, hc⟩ := h hl
  have h2 := hr _ _ _ hg
  have hcell : ∀ a : Addr, a.block = g → w'.cell? a = w.cell? a := fun a ha => World.cell?_of_block (w := w) (by rw [ha, h2, hg])
  exact ⟨g, o, e, ⟨cs, fr, h2⟩, fun j p hp => ⟨(hcell _ rfl).trans (hc j p hp).1, (hcell _ rfl).trans (hc j p hp).2⟩⟩

/-- a tree, and the document's -/
structure TrP where
  p : Option Addr
  A : Option Addr
  c : Nat
  L : List Pr
def cellP (t : TrP) : Value := .pointer t.p
def cellU (t : TrP) : Value := .slice t.A t.L.length t.c
structure OkG (lo hi : Nat) (w : World) (t : TrP) : Prop where
  tv : @TreeV (GbI lo hi) w (.pointer t.p) t.L
  sr : SlR w t.A t.L
theorem MoveT.below {i : LT Gb} {w w' : World} (h : Below w.heap.size w w') : MoveT i i w w' :=
  ⟨h.size, fun b _ _ _ hb _ => (h.block b (Array.getElem?_eq_some_iff.1 hb).1).trans hb, fun b _ _ hb hg => ⟨(h.block b (Array.getElem?_eq_some_iff.1 hb).1).trans hb, hg⟩⟩
def TvG (lo hi : Nat) (w : World) (t : TrP) : Prop := @TreeV (GbI lo hi) w (.pointer t.p) t.L
theorem TvG.below {lo hi : Nat} {w w' : World} {t : TrP} (h : TvG lo hi w t) (hb : Below w.heap.size w w') : TvG lo hi w' t := treeV_move h (MoveT.below hb)
theorem OkG.below {lo hi : Nat} {w w' : World} {t : TrP} (h : OkG lo hi w t) (hb : Below w.heap.size w w') : OkG lo hi w' t :=
  ⟨treeV_move h.tv (MoveT.below hb), h.sr.next hb⟩
theorem cells_set_other {w : World} {g k b : Nat} {u : Value} {cs cs2 : Array Value} {t t2 : TypeId} {fr fr2 : Nat × Nat} (hb : w.heap[b]? = some (.cells cs t fr)) (hg : w.heap[g]? = some (.cells cs2 t2 fr2)) (ht : t ≠ t2) : (w.setCell ⟨g, k, none⟩ u).heap[b]? = some (.cells cs t fr) := by
  by_cases e : b = g
  · subst e
    rw [hg] at hb
    injection hb with hb
    injection hb with _ hb
    exact absurd hb.symm ht
  · exact (heap_setCell_other w ⟨g, k, none⟩ b u e).trans hb
/-- a byte of a block that is not marked is written -/
theorem TvG.set {lo hi g k : Nat} {w : World} {t : TrP} {cs : Array Value} {fr : Nat × Nat} (h : TvG lo hi w t) (u : Value) (hg : w.heap[g]? = some (.cells cs 5 fr)) (h1 : lo ≤ g) (h2 : g < hi) : TvG lo hi (w.setCell ⟨g, k, none⟩ u) t := by
  refine treeV_move h ⟨by simp, fun b cs2 t2 fr2 hb ht => cells_set_other hb hg (by rcases ht with rfl | rfl | rfl <;> decide), fun b cs2 fr2 hb hgd => ⟨?_, hgd⟩⟩
  have hne : b ≠ g := by
    rintro rfl
    rcases hgd with h3 | h3
    · exact absurd h3 (Nat.not_lt.2 h1)
    · exact absurd h2 (Nat.not_lt.2 h3)
  exact (heap_setCell_other w ⟨g, k, none⟩ b u hne).trans hb
theorem slR_set {g k : Nat} {w : World} {A : Option Addr} {L : List Pr} {cs : Array Value} {fr : Nat × Nat} (h : SlR w A L) (u : Value) (hg : w.heap[g]? = some (.cells cs 5 fr)) : SlR (w.setCell ⟨g, k, none⟩ u) A L := slR_move h (fun b cs2 fr2 hb => cells_set_other hb hg (by decide))
theorem row_ne {w : World} {B s n b : Nat} {e t : TypeId} {v : Value} {xs : List Value} {cs : Array Value} {fr : Nat × Nat} (h : w.ownsRow B e s v n xs) (hb : w.heap[b]? = some (.cells cs t fr)) (ht : t ≠ e) : some b ≠ v.ownBlock := by
  rcases h.2 with ⟨rfl, _⟩ | ⟨g, cap, cur, rfl, _, hgb, _⟩
  · simp [Value.ownBlock]
  · intro e2
    have e3 : b = g := by simpa [Value.ownBlock] using e2
    subst e3
    rw [hb] at hgb
    injection hgb with hgb
    injection hgb with _ hgb _
    exact ht hgb
/-- a row of another type grows -/
theorem grown_other {B s n : Nat} {w w' : World} {e : TypeId} {v : Value} {xs : List Value} (hr : w.ownsRow B e s v n xs) (he : e = 47 ∨ e = 54) (hg : w.grownBy w' v.ownBlock) (b : Nat) (cs : Array Value) (t : TypeId) (fr : Nat × Nat) (hb : w.heap[b]? = some (.cells cs t fr)) (ht : t = 50 ∨ t = 132 ∨ t = 93 ∨ t = 5 ∨ t = 100) : w'.heap[b]? = some (.cells cs t fr) :=
  (hg.block b (Array.getElem?_eq_some_iff.1 hb).1 (row_ne hr hb (by rcases ht with rfl | rfl | rfl | rfl | rfl <;> rcases he with rfl | rfl <;> decide))).trans hb
theorem TvG.grown {lo hi B s n : Nat} {w w' : World} {t : TrP} {e : TypeId} {v : Value} {xs : List Value} (h : TvG lo hi w t) (hr : w.ownsRow B e s v n xs) (he : e = 47 ∨ e = 54) (hg : w.grownBy w' v.ownBlock) : TvG lo hi w' t :=
  treeV_move h ⟨hg.size, fun b cs t2 fr hb ht => grown_other hr he hg b cs t2 fr hb (by rcases ht with h | h | h <;> simp [h]), fun b cs fr hb hgd => ⟨grown_other hr he hg b cs _ fr hb (by simp), hgd⟩⟩
theorem slR_grown {B s n : Nat} {w w' : World} {A : Option Addr} {L : List Pr} {e : TypeId} {v : Value} {xs : List Value} (h : SlR w A L) (hr : w.ownsRow B e s v n xs) (he : e = 47 ∨ e = 54) (hg : w.grownBy w' v.ownBlock) : SlR w' A L := slR_move h (fun b cs fr hb => grown_other hr he hg b cs _ fr hb (by simp))
/-- what was there ahead of some new blocks does not lie in them -/
theorem OkG.out_of {hi : Nat} {w w' : World} {t : TrP} (h : OkG 0 0 w t) (hb : Below w.heap.size w w') : OkG w.heap.size hi w' t :=
  ⟨treeV_move h.tv ⟨hb.size, fun b _ _ _ hc _ => (hb.block b (Array.getElem?_eq_some_iff.1 hc).1).trans hc, fun b _ _ hc _ => ⟨(hb.block b (Array.getElem?_eq_some_iff.1 hc).1).trans hc, Or.inl (Array.getElem?_eq_some_iff.1 hc).1⟩⟩, h.sr.next hb⟩
theorem OkG.free {lo hi : Nat} {w : World} {t : TrP} (h : OkG lo hi w t) : OkG 0 0 w t :=
  ⟨treeV_move h.tv ⟨Nat.le_refl _, fun _ _ _ _ hc _ => hc, fun b _ _ hc _ => ⟨hc, gbI_all b⟩⟩, h.sr⟩

/-- what a round has in hand: the rows of trees and of the document's, the copies of key and value, the boxes of the call and of the document's tree -/
structure StP (w : World) (lo hi : Nat) (tk : TrP) (xb ub : Nat) (vs : Array Value) (nk nv : Nat) (vk vv : Value) (t3 t4 : List TrP) (n3 : Nat) (l3 : List TrP) (v3 : Value) (n4 : Nat) (l4 : List TrP) (v4 : Value) (X : World) : Prop where
  low : Below w.heap.size w X
  r3 : X.ownsRow w.heap.size 47 1 v3 n3 (l3.map cellP)
  r4 : X.ownsRow w.heap.size 54 1 v4 n4 (l4.map cellU)
  ok3 : ∀ t ∈ t3, TvG lo hi X t
  ok4 : ∀ t ∈ t4, SlR X t.A t.L
  okk : OkG lo hi X tk
  bx : X.heap[xb]? = some (.cells vs 59 (0, 0))
  bu : Boxed X ub 54 (cellU tk)
  ky : ∃ l : By, l.length = nk ∧ OwnB X lo vk l
  vy : ∃ l : By, l.length = nv ∧ OwnB X lo vv l
theorem row_below {w w' : World} {B s n : Nat} {e : TypeId} {v : Value} {xs : List Value} (h : w.ownsRow B e s v n xs) (hb : Below w.heap.size w w') : w'.ownsRow B e s v n xs := by
  refine World.ownsRow.kept (row := none) h ⟨hb.os, hb.tape, hb.output, hb.size, fun k hk _ => hb.block k hk⟩ ?_
  rcases h.2 with ⟨rfl, _⟩ | ⟨g, cap, cur, rfl, _⟩
  · exact .inl rfl
  · exact .inr (by simp [Value.ownBlock])
section
variable {w X Y : World} {lo hi xb ub nk nv n3 n4 : Nat} {tk : TrP} {vs : Array Value} {vk vv v3 v4 : Value} {t3 t4 l3 l4 : List TrP}
theorem StP.below (h : StP w lo hi tk xb ub vs nk nv vk vv t3 t4 n3 l3 v3 n4 l4 v4 X) (hb : Below X.heap.size X Y) : StP w lo hi tk xb ub vs nk nv vk vv t3 t4 n3 l3 v3 n4 l4 v4 Y := by
  obtain ⟨lk, hk1, hk2⟩ := h.ky
  obtain ⟨lv, hv1, hv2⟩ := h.vy
  exact ⟨h.low.trans (hb.mono h.low.size), row_below h.r3 hb, row_below h.r4 hb, fun t ht => (h.ok3 t ht).below hb, fun t ht => (h.ok4 t ht).next hb, h.okk.below hb, (hb.block _ (Array.getElem?_eq_some_iff.1 h.bx).1).trans h.bx, (hb.block _ h.bu.lt).trans h.bu, ⟨lk, hk1, hk2.next hb⟩, ⟨lv, hv1, hv2.next hb⟩⟩
theorem StP.setAny {g k : Nat} {cs : Array Value} {fr : Nat × Nat} (h : StP w lo hi tk xb ub vs nk nv vk vv t3 t4 n3 l3 v3 n4 l4 v4 X) (u : Value) (hg : X.heap[g]? = some (.cells cs 5 fr)) (h0 : w.heap.size ≤ lo) (h1 : lo ≤ g) (h2 : g < hi)
    (hk : ∃ l : By, l.length = nk ∧ OwnB (X.setCell ⟨g, k, none⟩ u) lo vk l) (hv : ∃ l : By, l.length = nv ∧ OwnB (X.setCell ⟨g, k, none⟩ u) lo vv l) : StP w lo hi tk xb ub vs nk nv vk vv t3 t4 n3 l3 v3 n4 l4 v4 (X.setCell ⟨g, k, none⟩ u) := by
  have hgr := grown_set X g k u
  exact ⟨h.low.setCell (p := ⟨g, k, none⟩) (Nat.le_trans h0 h1) u, World.ownsRow.kept h.r3 hgr (.inr (row_ne h.r3 hg (by decide)).symm), World.ownsRow.kept h.r4 hgr (.inr (row_ne h.r4 hg (by decide)).symm), fun t ht => (h.ok3 t ht).set u hg h1 h2, fun t ht => slR_set (h.ok4 t ht) u hg, ⟨TvG.set h.okk.tv u hg h1 h2, slR_set h.okk.sr u hg⟩, cells_set_other h.bx hg (by decide), cells_set_other h.bu hg (by decide), hk, hv⟩
theorem ownB_other {B g k : Nat} {u v : Value} {l : By} (h : OwnB X B v l) (hne : v.ownBlock ≠ some g) : OwnB (X.setCell ⟨g, k, none⟩ u) B v l := World.ownsRow.kept h (grown_set X g k u) (.inr hne)
/-- a byte of the key's copy is written -/
theorem StP.setK {g k c : Nat} (h : StP w lo hi tk xb ub vs nk nv (.slice (some ⟨g, 0, none⟩) nk c) vv t3 t4 n3 l3 v3 n4 l4 v4 X) (h0 : w.heap.size ≤ lo) (h2 : g < hi) (hne : vv.ownBlock ≠ some g) (d : UInt8) (hn : 0 < nk) : StP w lo hi tk xb ub vs nk nv (.slice (some ⟨g, 0, none⟩) nk c) vv t3 t4 n3 l3 v3 n4 l4 v4 (X.setCell ⟨g, k, none⟩ (.int .u8 d.toNat)) := by
  obtain ⟨lk, hk1, hk2⟩ := h.ky
  obtain ⟨lv, hv1, hv2⟩ := h.vy
  obtain ⟨g1, cs, e1, _, hB1, hg1⟩ := ownB_some hk2 (by omega)
  cases e1
  exact h.setAny _ hg1 h0 hB1 h2 ⟨lk.set k d, by rw [List.length_set]; exact hk1, ownB_set d hk2 hk1.symm⟩ ⟨lv, hv1, ownB_other hv2 hne⟩
theorem StP.setV {g k c : Nat} (h : StP w lo hi tk xb ub vs nk nv vk (.slice (some ⟨g, 0, none⟩) nv c) t3 t4 n3 l3 v3 n4 l4 v4 X) (h0 : w.heap.size ≤ lo) (h2 : g < hi) (hne : vk.ownBlock ≠ some g) (d : UInt8) (hn : 0 < nv) : StP w lo hi tk xb ub vs nk nv vk (.slice (some ⟨g, 0, none⟩) nv c) t3 t4 n3 l3 v3 n4 l4 v4 (X.setCell ⟨g, k, none⟩ (.int .u8 d.toNat)) := by
  obtain ⟨lk, hk1, hk2⟩ := h.ky
  obtain ⟨lv, hv1, hv2⟩ := h.vy
  obtain ⟨g1, cs, e1, _, hB1, hg1⟩ := ownB_some hv2 (by omega)
  cases e1
  exact h.setAny _ hg1 h0 hB1 h2 ⟨lk, hk1, ownB_other hk2 hne⟩ ⟨lv.set k d, by rw [List.length_set]; exact hv1, ownB_set d hv2 hv1.symm⟩
theorem StP.cx (h : StP w lo hi tk xb ub vs nk nv vk vv t3 t4 n3 l3 v3 n4 l4 v4 X) (j : Nat) : X.cell? ⟨xb, j, none⟩ = vs[j]? := by
  simp [World.cell?, h.bx]
theorem ownB_grown {B B' s n : Nat} {e : TypeId} {v u : Value} {xs : List Value} {l : By} (h : OwnB X B u l) (hr : X.ownsRow B' e s v n xs) (he : e ≠ 5) (hg : X.grownBy Y v.ownBlock) : OwnB Y B u l := by
  refine World.ownsRow.kept h hg ?_
  rcases h.2 with ⟨rfl, _⟩ | ⟨g2, cap2, cur2, rfl, _, hg2, _⟩
  · exact .inl rfl
  · exact .inr (row_ne hr hg2 (fun e2 => he e2.symm))
theorem StP.more3 (h : StP w lo hi tk xb ub vs nk nv vk vv t3 t4 n3 l3 v3 n4 l4 v4 X) (t9 : TrP) (h9 : TvG lo hi X t9) : StP w lo hi tk xb ub vs nk nv vk vv (t3 ++ [t9]) t4 n3 l3 v3 n4 l4 v4 X :=
  ⟨h.low, h.r3, h.r4, fun t ht => by
    rcases List.mem_append.1 ht with ht | ht
    · exact h.ok3 t ht
    · rw [List.mem_singleton.1 ht]; exact h9, h.ok4, h.okk, h.bx, h.bu, h.ky, h.vy⟩
theorem StP.more4 (h : StP w lo hi tk xb ub vs nk nv vk vv t3 t4 n3 l3 v3 n4 l4 v4 X) (t9 : TrP) (h9 : SlR X t9.A t9.L) : StP w lo hi tk xb ub vs nk nv vk vv t3 (t4 ++ [t9]) n3 l3 v3 n4 l4 v4 X :=
  ⟨h.low, h.r3, h.r4, h.ok3, fun t ht => by
    rcases List.mem_append.1 ht with ht | ht
    · exact h.ok4 t ht
    · rw [List.mem_singleton.1 ht]; exact h9, h.okk, h.bx, h.bu, h.ky, h.vy⟩
/-- a tree and the document's, made apart, are one pair -/
theorem StP.fin {n : Nat} {ts : List TrP} {a b : TrP} (h : StP w lo hi tk xb ub vs nk nv vk vv (ts ++ [a]) (ts ++ [b]) n (ts ++ [a]) v3 n (ts ++ [b]) v4 X) (e : a.L = b.L) : StP w lo hi tk xb ub vs nk nv vk vv (ts ++ [⟨a.p, b.A, b.c, b.L⟩]) (ts ++ [⟨a.p, b.A, b.c, b.L⟩]) n (ts ++ [⟨a.p, b.A, b.c, b.L⟩]) v3 n (ts ++ [⟨a.p, b.A, b.c, b.L⟩]) v4 X := by
  refine ⟨h.low, ?_, ?_, fun t ht => ?_, fun t ht => ?_, h.okk, h.bx, h.bu, h.ky, h.vy⟩
  · have := h.r3
    rw [List.map_append] at this ⊢
    exact this
  · have := h.r4
    rw [List.map_append] at this ⊢
    exact this
  · rcases List.mem_append.1 ht with ht | ht
    · exact h.ok3 t (List.mem_append_left _ ht)
    · rw [List.mem_singleton.1 ht]
      have := h.ok3 a (List.mem_append_right _ (List.mem_singleton.2 rfl))
      unfold TvG at this ⊢
      rw [← e]
      exact this
  · rcases List.mem_append.1 ht with ht | ht
    · exact h.ok4 t (List.mem_append_left _ ht)
    · rw [List.mem_singleton.1 ht]
      exact h.ok4 b (List.mem_append_right _ (List.mem_singleton.2 rfl))
theorem StP.app3 {v3' : Value} (h : StP w lo hi tk xb ub vs nk nv vk vv t3 t4 n3 l3 v3 n4 l4 v4 X) (t9 : TrP) (hr : Y.ownsRow w.heap.size 47 1 v3' (n3 + 1) (l3.map cellP ++ [cellP t9])) (hg : X.grownBy Y v3.ownBlock) : StP w lo hi tk xb ub vs nk nv vk vv t3 t4 (n3 + 1) (l3 ++ [t9]) v3' n4 l4 v4 Y := by
  obtain ⟨lk, hk1, hk2⟩ := h.ky
  obtain ⟨lv, hv1, hv2⟩ := h.vy
  have hk : ∀ (b : Nat) (cs : Array Value) (t : TypeId) (fr : Nat × Nat), X.heap[b]? = some (.cells cs t fr) → t ≠ 47 → Y.heap[b]? = some (.cells cs t fr) := fun b cs t fr hb ht => (hg.block b (Array.getElem?_eq_some_iff.1 hb).1 (row_ne h.r3 hb ht)).trans hb
  refine ⟨h.low.grown hg h.low.size (fun k hk => (World.ownsRow.lt h.r3 k hk).1), by rw [List.map_append]; exact hr, ?_, fun t ht => (h.ok3 t ht).grown h.r3 (.inl rfl) hg, fun t ht => slR_grown (h.ok4 t ht) h.r3 (.inl rfl) hg, ⟨TvG.grown h.okk.tv h.r3 (.inl rfl) hg, slR_grown h.okk.sr h.r3 (.inl rfl) hg⟩, hk _ _ _ _ h.bx (by decide), hk _ _ _ _ h.bu (by decide), ⟨lk, hk1, ownB_grown hk2 h.r3 (by decide) hg⟩, ⟨lv, hv1, ownB_grown hv2 h.r3 (by decide) hg⟩⟩
  refine World.ownsRow.kept h.r4 hg ?_
  rcases h.r4.2 with ⟨rfl, _⟩ | ⟨g2, cap2, cur2, rfl, _, hg2, _⟩
  · exact .inl rfl
  · exact .inr (row_ne h.r3 hg2 (by decide))
theorem StP.app4 {v4' : Value} (h : StP w lo hi tk xb ub vs nk nv vk vv t3 t4 n3 l3 v3 n4 l4 v4 X) (hub : some ub ≠ v4.ownBlock) (t9 : TrP) (hr : Y.ownsRow w.heap.size 54 1 v4' (n4 + 1) (l4.map cellU ++ [cellU t9])) (hg : X.grownBy Y v4.ownBlock) : StP w lo hi tk xb ub vs nk nv vk vv t3 t4 n3 l3 v3 (n4 + 1) (l4 ++ [t9]) v4' Y := by
  obtain ⟨lk, hk1, hk2⟩ := h.ky
  obtain ⟨lv, hv1, hv2⟩ := h.vy
  have hk : ∀ (b : Nat) (cs : Array Value) (t : TypeId) (fr : Nat × Nat), X.heap[b]? = some (.cells cs t fr) → t ≠ 54 → Y.heap[b]? = some (.cells cs t fr) := fun b cs t fr hb ht => (hg.block b (Array.getElem?_eq_some_iff.1 hb).1 (row_ne h.r4 hb ht)).trans hb
  refine ⟨h.low.grown hg h.low.size (fun k hk => (World.ownsRow.lt h.r4 k hk).1), ?_, by rw [List.map_append]; exact hr, fun t ht => (h.ok3 t ht).grown h.r4 (.inr rfl) hg, fun t ht => slR_grown (h.ok4 t ht) h.r4 (.inr rfl) hg, ⟨TvG.grown h.okk.tv h.r4 (.inr rfl) hg, slR_grown h.okk.sr h.r4 (.inr rfl) hg⟩, hk _ _ _ _ h.bx (by decide), (hg.block _ h.bu.lt hub).trans h.bu, ⟨lk, hk1, ownB_grown hk2 h.r4 (by decide) hg⟩, ⟨lv, hv1, ownB_grown hv2 h.r4 (by decide) hg⟩⟩
  refine World.ownsRow.kept h.r3 hg ?_
  rcases h.r3.2 with ⟨rfl, _⟩ | ⟨g2, cap2, cur2, rfl, _, hg2, _⟩
  · exact .inl rfl
  · exact .inr (row_ne h.r4 hg2 (by decide))
end
/-- such a world, whatever the rows are -/
def StE (w : World) (lo hi : Nat) (tk : TrP) (xb ub : Nat) (vs : Array Value) (nk nv : Nat) (vk vv : Value) (X : World) : Prop := ∃ (t3 t4 : List TrP) (n3 : Nat) (l3 : List TrP) (v3 : Value) (n4 : Nat) (l4 : List TrP) (v4 : Value), StP w lo hi tk xb ub vs nk nv vk vv t3 t4 n3 l3 v3 n4 l4 v4 X
theorem StP.e {w X : World} {lo hi xb ub nk nv n3 n4 : Nat} {tk : TrP} {vs : Array Value} {vk vv v3 v4 : Value} {t3 t4 l3 l4 : List TrP} (h : StP w lo hi tk xb ub vs nk nv vk vv t3 t4 n3 l3 v3 n4 l4 v4 X) : StE w lo hi tk xb ub vs nk nv vk vv X := ⟨_, _, _, _, _, _, _, _, h⟩
theorem lit_cells {X : World} {b : Nat} {u : Value} {t : TypeId} (h : X.heap[b]? = some (.cells #[u] t (0, 0))) (j : Nat) (x : Value) (hx : [u][j]? = some x) : X.cell? ((⟨b, 0, none⟩ : Addr).add j) = some x := by
  rw [add0]
  simp only [World.cell?, h]
  simpa using hx
/-- a tree in its row -/
theorem row_at {w : World} {B n c : Nat} {e : TypeId} {A : Option Addr} {xs : List Value} (h : w.ownsRow B e 1 (.slice A n c) n xs) {k : Nat} {x : Value} (hk : xs[k]? = some x) : ∃ g, A = some ⟨g, 0, none⟩ ∧ w.cell? ⟨g, k, none⟩ = some x := by
  have h1 := h.1
  have hi : k < xs.length := (List.getElem?_eq_some_iff.1 hk).1
  rcases h.2 with ⟨e, h0⟩ | ⟨g, cap, cur, e, _, hgb, _⟩
  · omega
  · injection e with e1 e2 e3
    subst e1 e3
    refine ⟨g, rfl, ?_⟩
    rw [h.cellAt k (by omega), hk]
theorem row_form {w : World} {B s n : Nat} {e : TypeId} {v : Value} {xs : List Value} (h : w.ownsRow B e s v n xs) : ∃ A c, v = .slice A n c := by
  rcases h.2 with ⟨rfl, h0⟩ | ⟨g, cap, cur, rfl, _⟩
  · exact ⟨none, 0, by rw [h0]⟩
  · exact ⟨_, _, rfl⟩
end Go.Proofs.Ytohpilamoglhcaa
