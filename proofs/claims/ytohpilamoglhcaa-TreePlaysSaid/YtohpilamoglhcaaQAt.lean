/-
  WHAT LIES IN MEMORY: pairs, nodes, trees; CONTRACTS: bytes.Compare, bytes.Equal, count, weight.
-/
import Derived.Test.YtohpilamoglhcaaQP
import Derived.Test.YtohpilamoglhcaaQB
import Derived.Lib.Bytealg
import Derived.Lib.BytesEntry
import Derived.WalkLawsBesides
import Derived.Below
namespace Go.Proofs.Ytohpilamoglhcaa
open Go.RowKit

/-- a mark on blocks: bytes of a tree's pairs lie in marked blocks only -/
structure Gb where
  n : Nat
def goodB [LT Gb] (b : Nat) : Prop := (⟨b⟩ : Gb) < ⟨b⟩
/-- a slice of a pair's bytes -/
def SlG [LT Gb] (w : World) (A : Option Addr) (l : By) : Prop := SlB w w.heap.size A l ∧ (l ≠ [] → ∀ a, A = some a → goodB a.block ∧ ∃ cs fr, w.heap[a.block]? = some (.cells cs 5 fr))
theorem SlG.next [LT Gb] {w w' : World} {A : Option Addr} {l : By} (h : SlG w A l) (hb : Below w.heap.size w w') : SlG w' A l := ⟨fun hl => by
    obtain ⟨a, e, hlt, hc⟩ := (h.1.next hb (Nat.le_refl _)) hl
    exact ⟨a, e, Nat.lt_of_lt_of_le hlt hb.size, hc⟩, fun hl a e => by
    obtain ⟨hg, cs, fr, hc⟩ := h.2 hl a e
    exact ⟨hg, cs, fr, (hb.block _ (Array.getElem?_eq_some_iff.1 hc).1).trans hc⟩⟩
/-- a pair in a block -/
def PairAt [LT Gb] (w : World) (pb : Nat) (p : Pr) : Prop :=
  ∃ A c A' c', w.heap[pb]? = some (.cells #[.slice A p.1.length c, .slice A' p.2.length c'] 93 (0, 0)) ∧ SlG w A p.1 ∧ SlG w A' p.2
theorem PairAt.next [LT Gb] {w w' : World} {pb : Nat} {p : Pr} (h : PairAt w pb p) (hb : Below w.heap.size w w') : PairAt w' pb p := by
  obtain ⟨A, c, A', c', h1, h2, h3⟩ := h
  exact ⟨A, c, A', c', (hb.block pb (Array.getElem?_eq_some_iff.1 h1).1).trans h1, h2.next hb, h3.next hb⟩
/-- a node's cells -/
def NodeAt (w : World) (b pb : Nat) (l r : Value) (n : Int) : Prop :=
  w.heap[b]? = some (.cells #[.pointer (some ⟨pb, 0, none⟩), l, r, .int .i64 n] 132 (0, 0))
theorem NodeAt.next {w w' : World} {b pb : Nat} {n : Int} {l r : Value} (h : NodeAt w b pb l r n) {B : Nat} (hb : Below B w w') (hB : w.heap.size ≤ B) : NodeAt w' b pb l r n :=
  (hb.block b (Nat.lt_of_lt_of_le (Array.getElem?_eq_some_iff.1 h).1 hB)).trans h
theorem NodeAt.cell {w : World} {b pb : Nat} {n : Int} {l r : Value} (h : NodeAt w b pb l r n) (j : Nat) : w.cell? ⟨b, j, none⟩ = (#[Value.pointer (some ⟨pb, 0, none⟩), l, r, .int .i64 n])[j]? := by
  unfold NodeAt at h; simp [World.cell?, h]
theorem NodeAt.c0 {w : World} {b pb : Nat} {n : Int} {l r : Value} (h : NodeAt w b pb l r n) : w.cell? ⟨b, 0, none⟩ = some (.pointer (some ⟨pb, 0, none⟩)) := h.cell 0
theorem NodeAt.c1 {w : World} {b pb : Nat} {n : Int} {l r : Value} (h : NodeAt w b pb l r n) : w.cell? ⟨b, 1, none⟩ = some l := h.cell 1
theorem NodeAt.c2 {w : World} {b pb : Nat} {n : Int} {l r : Value} (h : NodeAt w b pb l r n) : w.cell? ⟨b, 2, none⟩ = some r := h.cell 2
theorem NodeAt.c3 {w : World} {b pb : Nat} {n : Int} {l r : Value} (h : NodeAt w b pb l r n) : w.cell? ⟨b, 3, none⟩ = some (.int .i64 n) := h.cell 3
/-- a tree in memory -/
def TreeAt [LT Gb] (w : World) : Tr → Prop
  | .nil => True
  | .nd b p l r => (∃ pb, NodeAt w b pb l.ptr r.ptr ((Tr.nd b p l r).cnt : Nat) ∧ PairAt w pb p) ∧ TreeAt w l ∧ TreeAt w r
theorem TreeAt.next [LT Gb] : ∀ {t : Tr} {w w' : World}, TreeAt w t → Below w.heap.size w w' → TreeAt w' t
  | .nil, _, _, _, _ => trivial
  | .nd _ _ _ _, _, _, ⟨⟨pb, h1, h2⟩, hl, hr⟩, hb => ⟨⟨pb, h1.next hb (Nat.le_refl _), h2.next hb⟩, TreeAt.next hl hb, TreeAt.next hr hb⟩

theorem qb_dn {B : Nat} {w w1 : World} (h : Below B w w1) (n : Nat) : Below B w (w1.drewN n) := ⟨h.os, h.tape, h.output, h.size, h.block⟩
theorem u8_map (l : List UInt8) : Lib.bytesOf (l.map (fun c : UInt8 => (c.toNat : Int))) = l := by
  unfold Lib.bytesOf
  rw [List.map_map]
  conv => rhs; rw [← List.map_id l]
  refine List.map_congr_left (fun c _ => ?_)
  simp
theorem slB_bytesOf {W : World} {B : Nat} {A : Option Addr} {l : List UInt8} (h : SlB W B A l) (c : Nat) : (Extern.Bytes.bytesOf (.slice A l.length c)).run Try.prog W = .ok ⟨l.toArray⟩ W := by
  cases A with
  | none =>
    have h0 : l = [] := by
      by_cases hl : l = []
      · exact hl
      · obtain ⟨a, e, _⟩ := h hl
        cases e
    subst h0
    rfl
  | some a =>
    have h1 := Lib.run_loadBytesX (P := Try.prog) W (l.map (fun c : UInt8 => (c.toNat : Int))) a .empty (fun j x hx => by
      rw [List.getElem?_map] at hx
      obtain ⟨y, hy, rfl⟩ := Option.map_eq_some_iff.1 hx
      have hl : l ≠ [] := fun e => by rw [e] at hy; simp at hy
      obtain ⟨a', e, _, hc⟩ := h hl
      injection e with e
      subst e
      exact hc j y hy)
    rw [u8_map, List.length_map] at h1
    show (Extern.Bytes.loadBytes a l.length .empty).run Try.prog W = _
    rw [h1]
    congr 1
    apply ByteArray.ext
    simp
theorem ordL_cmp : ∀ (l r : List UInt8), Lib.compareBytes l r = ordL l r
  | [], [] => rfl
  | [], _ :: _ => rfl
  | _ :: _, [] => rfl
  | x :: l, y :: r => by
    have ih := ordL_cmp l r
    unfold Lib.compareBytes ordL
    simp only [UInt8.lt_iff_toNat_lt, ih]
theorem compare_run {W : World} {B B' : Nat} {A A' : Option Addr} {l r : List UInt8} (h : SlB W B A l) (h' : SlB W B' A' r) (c c' : Nat) :
    (Extern.BytealgCompare.compare #[.slice A l.length c, .slice A' r.length c']).run Try.prog W = .ok (.int .i64 (ordL l r)) W := by
  change Sem.run Try.prog (do pure (goInt (Extern.BytealgCompare.cmp (← Extern.Bytes.bytesOf (.slice A l.length c)) (← Extern.Bytes.bytesOf (.slice A' r.length c'))))) W = _
  simp only [Sem.run_bind, Sem.run_pure, Result.andThen, slB_bytesOf h c, slB_bytesOf h' c']
  rw [Lib.cmp_eq, ordL_cmp]
  rfl
set_option maxRecDepth 100000 in
set_option maxHeartbeats 400000 in
theorem cmpB_any {B B' : Nat} (A A' : Option Addr) (c c' : Nat) (l r : List UInt8) (w : World) (h : SlB w B A l) (h' : SlB w B' A' r) :
    Calls Try.prog 48 #[.slice A l.length c, .slice A' r.length c'] w fun e w' => e = .returned (.int .i64 (ordL l r)) ∧ w = w' := by
  go_enter Try.func48, Try.ntmps48
  go_wp2
  rw [run_callFunc_extern Try.func89 (by kernel_rfl) (by kernel_rfl) (by kernel_rfl) (e := Extern.BytealgCompare.compare) (by kernel_rfl), compare_run h h' c c']
  simp only [Result.andThen]
  rw [Oper.upon_value]
  go_wp2
  go_ret
  exact ⟨rfl, rfl⟩
set_option maxRecDepth 100000 in
set_option maxHeartbeats 400000 in
theorem eqB_any {B B' : Nat} (A A' : Option Addr) (c c' : Nat) (l r : List UInt8) (w : World) (h : SlB w B A l) (h' : SlB w B' A' r) :
    Calls Try.prog 116 #[.slice A l.length c, .slice A' r.length c'] w fun e w' => e = .returned (.bool (l == r)) ∧ w = w' := by
  have h1 := slB_string h c
  have h2 := slB_string h' c'
  clear h h'
  go_enter Try.func116, Try.ntmps116
  go_wp2
  go_ret
  exact ⟨by simp, rfl⟩
set_option maxRecDepth 100000 in
set_option maxHeartbeats 400000 in
theorem count_any [LT Gb] (t : Tr) (w : World) (h : TreeAt w t) :
    Calls Try.prog 49 #[t.ptr] w fun e w' => e = .returned (.int .i64 (t.cnt : Nat)) ∧ w = w' := by
  cases t with
  | nil =>
    go_enter Try.func49, Try.ntmps49
    simp only [Tr.ptr]
    go_wp2
    go_ret
    exact ⟨rfl, rfl⟩
  | nd b p l r =>
    obtain ⟨⟨pb, h1, _⟩, _, _⟩ := h
    have c3 := h1.c3
    clear h1
    go_enter Try.func49, Try.ntmps49
    simp only [Tr.ptr]
    go_wp2
    go_ret
    exact ⟨rfl, rfl⟩
set_option maxRecDepth 100000 in
set_option maxHeartbeats 400000 in
theorem weight_any [LT Gb] (t : Tr) (w : World) (h : TreeAt w t) (hn : t.cnt ≤ 2000000) :
    Calls Try.prog 101 #[t.ptr] w fun e w' => e = .returned (.int .i64 ((t.cnt : Int) + 1)) ∧ w = w' := by
  have HC := Lib.hid (count_any t w h)
  clear h
  go_enter Try.func101, Try.ntmps101
  go_wp2_with fail
  refine HC.out.mono ?_
  rintro e w' ⟨rfl, rfl⟩
  go_wp2
  go_ret
  exact ⟨rfl, rfl⟩
end Go.Proofs.Ytohpilamoglhcaa
