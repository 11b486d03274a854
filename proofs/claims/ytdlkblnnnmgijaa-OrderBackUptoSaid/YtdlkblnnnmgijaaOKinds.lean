/-
  CONTRACTS: kinds, clean (of parts).
-/
import Derived.Test.YtdlkblnnnmgijaaOBkRead
import Derived.Test.YtdlkblnnnmgijaaOSame
import Derived.Test.YtdlkblnnnmgijaaORefRd
namespace Go.Proofs.Ytdlkblnnnmgijaa
open Go.RowKit Go.Shelf

theorem infoB : (Try.prog.info? 4).map (fun i => (i.zero, i.size, i.bytes)) = some (some (.bool false), 1, 1) := by kernel_rfl
/-- a slice of bools in blocks from B on, which the call has to itself -/
def OwnK (W : World) (B : Nat) (v : Value) (l : List Bool) : Prop := W.ownsRow B 4 1 v l.length (l.map Value.bool)
theorem OwnK.slk {W : World} {B : Nat} {v : Value} {l : List Bool} (h : OwnK W B v l) : ∃ A c, v = .slice A l.length c ∧ SlK W W.heap.size A l := by
  rcases h.2 with ⟨rfl, h0⟩ | ⟨g, cap, cur, rfl, _, hgb, _⟩
  · exact ⟨none, 0, by rw [h0], fun hl => absurd (List.length_eq_zero_iff.1 h0) hl⟩
  · refine ⟨_, _, rfl, fun _ => ⟨⟨g, 0, none⟩, rfl, (Array.getElem?_eq_some_iff.1 hgb).1, fun j x hx => ?_⟩⟩
    have hr : W.ownsRow B 4 1 (.slice (some ⟨g, 0, none⟩) l.length cap) l.length (l.map Value.bool) := h
    have hj : j < l.length := (List.getElem?_eq_some_iff.1 hx).1
    rw [add0, hr.cellAt j (by omega), List.getElem?_map, hx]; rfl
theorem below_ownK {W w1 : World} {B : Nat} {v : Value} {l : List Bool} (h : OwnK W B v l) (hg : W.grownBy w1 v.ownBlock) (hB : B ≤ W.heap.size) : Below B W w1 :=
  (Below.refl B W).grown hg hB (fun k hk => (World.ownsRow.lt h k hk).1)
theorem OwnK.alloc {W : World} {B : Nat} {v : Value} {l : List Bool} (h : OwnK W B v l) (o : Obj) : OwnK (W.alloc o) B v l := World.ownsRow.alloc h o
theorem ownK_snoc {W : World} {B : Nat} {v : Value} {l : List Bool} {x : Bool} (h : W.ownsRow B 4 1 v (l.length + 1) (l.map Value.bool ++ [.bool x])) : OwnK W B v (l ++ [x]) := by
  show World.ownsRow _ _ _ _ _ _ _
  simpa using h
theorem map_take_step {α β : Type} (f : α → β) {l : List α} {j : Nat} (h : j < l.length) : (l.take (j + 1)).map f = (l.take j).map f ++ [f l[j]] := by
  rw [List.take_succ_eq_append_getElem h, List.map_append]; rfl

set_option maxRecDepth 100000 in
set_option maxHeartbeats 2000000 in
theorem kinds_any (A : Option Addr) (c : Nat) (l : List PartP) (w : World) (hs : SlP w w.heap.size A l) (hl : l.length ≤ 1200) :
    Calls Try.prog 28 #[.slice A l.length c] w fun e w' => ∃ v, e = .returned v ∧ OwnK w' w.heap.size v (l.map (·.v)) ∧ Below w.heap.size w w' := by
  obtain ⟨i0, hi, hz0, hz1, hz2⟩ := info_parts infoB
  have hmx : 50000 ≤ maxLen := by decide
  go_enter Try.func28, Try.ntmps28
  go_wp2
  go_loopg [3, 4] l.length (fun g x y wr => ∃ (j : Nat) (v : Value), x = v ∧ y = .int .i64 j ∧ j + g = l.length ∧ Hid (OwnK wr w.heap.size v ((l.take j).map (·.v))) ∧ Hid (Below w.heap.size w wr) ∧ w.heap.size ≤ wr.heap.size)
  case atStart => exact ⟨0, _, rfl, rfl, by omega, World.ownsRow_nil _ _ _ _, Below.refl _ _, Nat.le_refl _⟩
  case round =>
    obtain ⟨j, v, rfl, rfl, hj, HO, HB, hsz⟩ := hrel
    cases gk with
    | zero =>
      have hjz : ¬ ((j : Int) < (l.length : Int)) := by omega
      have ht : l.take j = l := List.take_of_length_le (by omega)
      rw [ht] at HO
      clear ht
      go_wp2
      go_ret
      exact ⟨_, rfl, HO.out, HB.out⟩
    | succ g =>
      have hjz : (j : Int) < (l.length : Int) := by omega
      have hjn : j < l.length := by omega
      have HST := Lib.hid (map_take_step (·.v) hjn)
      have htl : ((l.take j).map (·.v)).length ≤ 1200 := by rw [List.length_map, List.length_take]; omega
      obtain ⟨b, o, rfl, _, hp⟩ := (hs.next HB.out (Nat.le_refl _)).at_ hjn
      obtain ⟨p, hpe⟩ : ∃ p, l[j] = p := ⟨_, rfl⟩
      rw [hpe] at hp HST
      have h0 := hp.c0
      obtain ⟨acc, hacc⟩ : ∃ acc, (l.take j).map (·.v) = acc := ⟨_, rfl⟩
      rw [hacc] at HO HST htl
      clear hp hpe hacc
      go_wp2_with (at_builtin; refine wpList_append_own _ rfl _ _ 44 rfl w.heap.size 4 i0 (.bool false) 1 1 Try.underlying44 hi hz0 hz1 hz2 rfl (by decide) _ _ _ rfl (HO.out.alloc _) ⟨wr.heap.size, 0, none⟩ 1 1 [.bool p.v] rfl rfl (fun j u h => cell_lit _ _ _ j u h) (by intro u hu; rw [List.mem_singleton.1 hu]; rfl) (by omega) (by omega) (by simp; omega) ?_; intro v' w4 hown' hgrow _)
      have hB4 := (HB.out.alloc hsz _).trans (below_ownK (HO.out.alloc _) hgrow (by simp; omega))
      go_roundg g
      case measure => omega
      case rel => exact ⟨j + 1, _, rfl, by go_num, by omega, (by show OwnK _ _ _ _; rw [HST.out]; exact ownK_snoc hown'), hB4, hB4.size⟩

theorem cleanP_true {p : PartP} (h : p.v = true) : cleanP p = ⟨true, 0, p.k, p.m, p.s⟩ := by unfold cleanP; rw [if_pos h]
theorem cleanP_false {p : PartP} (h : p.v = false) : cleanP p = ⟨false, p.n, 0, 0, ⟨#[]⟩⟩ := by unfold cleanP; rw [if_neg (by rw [h]; decide)]

set_option maxRecDepth 100000 in
set_option maxHeartbeats 2000000 in
theorem clean_any (A : Option Addr) (c : Nat) (l : List PartP) (w : World) (hs : SlP w w.heap.size A l) (hl : l.length ≤ 1200) :
    Calls Try.prog 29 #[.slice A l.length c] w fun e w' => ∃ v, e = .returned v ∧ OwnP w' w.heap.size v (l.map cleanP) ∧ Below w.heap.size w w' := by
  obtain ⟨i0, hi, hz0, hz1, hz2⟩ := info_parts info44
  have hmx : 50000 ≤ maxLen := by decide
  go_enter Try.func29, Try.ntmps29
  go_wp2
  go_loopg [3, 4] l.length (fun g x y wr => ∃ (j : Nat) (v : Value), x = v ∧ y = .int .i64 j ∧ j + g = l.length ∧ Hid (OwnP wr w.heap.size v ((l.take j).map cleanP)) ∧ Hid (Below w.heap.size w wr) ∧ w.heap.size ≤ wr.heap.size)
  case atStart => exact ⟨0, _, rfl, rfl, by omega, World.ownsRow_nil _ _ _ _, Below.refl _ _, Nat.le_refl _⟩
  case round =>
    obtain ⟨j, v, rfl, rfl, hj, HO, HB, hsz⟩ := hrel
    cases gk with
    | zero =>
      have hjz : ¬ ((j : Int) < (l.length : Int)) := by omega
      have ht : l.take j = l := List.take_of_length_le (by omega)
      rw [ht] at HO
      clear ht
      go_wp2
      go_ret
      exact ⟨_, rfl, HO.out, HB.out⟩
    | succ g =>
      have hjz : (j : Int) < (l.length : Int) := by omega
      have hjn : j < l.length := by omega
      have HST := Lib.hid (map_take_step cleanP hjn)
      have htl : ((l.take j).map cleanP).length ≤ 1200 := by rw [List.length_map, List.length_take]; omega
      obtain ⟨b, o, rfl, _, hp⟩ := (hs.next HB.out (Nat.le_refl _)).at_ hjn
      obtain ⟨p, hpe⟩ : ∃ p, l[j] = p := ⟨_, rfl⟩
      rw [hpe] at hp HST
      have h0 := hp.c0
      have h1 := hp.c1
      have h2 := hp.c2
      have h3 := hp.c3
      have h4 := hp.c4
      obtain ⟨acc, hacc⟩ : ∃ acc, (l.take j).map cleanP = acc := ⟨_, rfl⟩
      rw [hacc] at HO HST htl
      clear hp hpe hacc
      cases hv : p.v
      · rw [hv] at h0
        have HCP := Lib.hid (cleanP_false hv)
        clear hv
        go_wp2_with (at_builtin; refine wpList_append_own _ rfl _ _ 28 rfl w.heap.size 40 i0 (.agg #[.bool false, .int .i64 0, .int .i64 0, .int .i64 0, .string ⟨#[]⟩]) 5 48 Try.underlying28 hi hz0 hz1 hz2 rfl (by decide) _ _ _ rfl (HO.out.alloc _) ⟨wr.heap.size, 0, none⟩ 1 1 (cellsP (PartP.mk false p.n 0 0 ⟨#[]⟩)) rfl rfl (fun j u h => cell_lit _ _ _ j u h) (cellsP_one _) (by omega) (by omega) (by simp; omega) ?_; intro v' w4 hown' hgrow _)
        have hB4 := (HB.out.alloc hsz _).trans (below_ownP (HO.out.alloc _) hgrow (by simp; omega))
        go_roundg g
        case measure => omega
        case rel => exact ⟨j + 1, _, rfl, by go_num, by omega, (by show OwnP _ _ _ _; rw [HST.out, HCP.out]; exact ownP_snoc hown'), hB4, hB4.size⟩
      · rw [hv] at h0
        have HCP := Lib.hid (cleanP_true hv)
        clear hv
        go_wp2_with (at_builtin; refine wpList_append_own _ rfl _ _ 28 rfl w.heap.size 40 i0 (.agg #[.bool false, .int .i64 0, .int .i64 0, .int .i64 0, .string ⟨#[]⟩]) 5 48 Try.underlying28 hi hz0 hz1 hz2 rfl (by decide) _ _ _ rfl (HO.out.alloc _) ⟨wr.heap.size, 0, none⟩ 1 1 (cellsP (PartP.mk true 0 p.k p.m p.s)) rfl rfl (fun j u h => cell_lit _ _ _ j u h) (cellsP_one _) (by omega) (by omega) (by simp; omega) ?_; intro v' w4 hown' hgrow _)
        have hB4 := (HB.out.alloc hsz _).trans (below_ownP (HO.out.alloc _) hgrow (by simp; omega))
        go_roundg g
        case measure => omega
        case rel => exact ⟨j + 1, _, rfl, by go_num, by omega, (by show OwnP _ _ _ _; rw [HST.out, HCP.out]; exact ownP_snoc hown'), hB4, hB4.size⟩
end Go.Proofs.Ytdlkblnnnmgijaa
