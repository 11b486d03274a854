/-
  CONTRACTS: even.
-/
import Derived.Test.YtohpilamoglhcaaQTr
namespace Go.Proofs.Ytohpilamoglhcaa
open Go.RowKit

theorem turnL_any [LT Gb] (pb : Nat) (u1 u2 : Option Addr) (n0 : Int) (p : Pr) (l r : Tr) (w : World) (hp : PairAt w pb p) (hl : TreeAt w l) (hr : TreeAt w r) (hn : l.cnt + r.cnt ≤ 1000000) (hlt : 3 * (l.cnt + 1) < r.cnt + 1) :
    Calls Try.prog 102 #[.agg #[.pointer (some ⟨pb, 0, none⟩), .pointer u1, .pointer u2, .int .i64 n0], l.ptr, r.ptr] w (EvEnd w (l.list ++ p :: r.list)) := by
  cases r with
  | nil => simp only [Tr.cnt] at hlt; omega
  | nd rb q ri ro =>
    simp only [Tr.cnt] at hn hlt
    by_cases h : ri.cnt + 1 < 2 * (ro.cnt + 1)
    · exact turnL_a pb u1 u2 n0 p l rb q ri ro w hp hl hr (by omega) h
    · cases ri with
      | nil => simp only [Tr.cnt] at h; omega
      | nd ib s a b => exact turnL_b pb u1 u2 n0 p l rb q ib s a b ro w hp hl hr (by omega) h
theorem turnR_any [LT Gb] (pb : Nat) (u1 u2 : Option Addr) (n0 : Int) (p : Pr) (l r : Tr) (w : World) (hp : PairAt w pb p) (hl : TreeAt w l) (hr : TreeAt w r) (hn : l.cnt + r.cnt ≤ 1000000) (hlt : 3 * (r.cnt + 1) < l.cnt + 1) :
    Calls Try.prog 103 #[.agg #[.pointer (some ⟨pb, 0, none⟩), .pointer u1, .pointer u2, .int .i64 n0], l.ptr, r.ptr] w (EvEnd w (l.list ++ p :: r.list)) := by
  cases l with
  | nil => simp only [Tr.cnt] at hlt; omega
  | nd lb q ro ri =>
    simp only [Tr.cnt] at hn hlt
    by_cases h : ri.cnt + 1 < 2 * (ro.cnt + 1)
    · exact turnR_a pb u1 u2 n0 p r lb q ri ro w hp hr hl (by omega) h
    · cases ri with
      | nil => simp only [Tr.cnt] at h; omega
      | nd ib s a b => exact turnR_b pb u1 u2 n0 p r lb q ib s a b ro w hp hr hl (by omega) h
set_option maxRecDepth 100000 in
set_option maxHeartbeats 2000000 in
theorem even_any [LT Gb] (pb : Nat) (u1 u2 : Option Addr) (n0 : Int) (p : Pr) (l r : Tr) (w : World) (hp : PairAt w pb p) (hl : TreeAt w l) (hr : TreeAt w r) (hn : l.cnt + r.cnt ≤ 1000000) :
    Calls Try.prog 81 #[.agg #[.pointer (some ⟨pb, 0, none⟩), .pointer u1, .pointer u2, .int .i64 n0], l.ptr, r.ptr] w (EvEnd w (l.list ++ p :: r.list)) := by
  have HN := Lib.hid hn
  have HW1 := Lib.hid (fun X (hX : Below w.heap.size w X) => weight_any l X (hl.next hX) (by omega))
  have HW2 := Lib.hid (fun X (hX : Below w.heap.size w X) => weight_any r X (hr.next hX) (by omega))
  have HL := Lib.hid (fun X (hX : Below w.heap.size w X) h => turnL_any pb u1 u2 n0 p l r X (hp.next hX) (hl.next hX) (hr.next hX) hn h)
  have HR := Lib.hid (fun X (hX : Below w.heap.size w X) h => turnR_any pb u1 u2 n0 p l r X (hp.next hX) (hl.next hX) (hr.next hX) hn h)
  have HO := Lib.hid (fun X (hX : Below w.heap.size w X) => over_tree pb u1 u2 n0 p l r X (hp.next hX) (hl.next hX) (hr.next hX) (by omega) (by omega))
  have HF : Hid (∀ L e X Y, Below w.heap.size w X → EvEnd X L e Y → EvEnd w L e Y) := fun L e X Y hX ⟨t, h1, h2, h3, h4⟩ => ⟨t, h1, h2, h3, below_more hX h4 hX.size⟩
  obtain ⟨ul, hul⟩ := l.ptr_pointer
  obtain ⟨ur, hur⟩ := r.ptr_pointer
  rw [hul, hur] at HL HR HO
  rw [hul] at HW1
  rw [hur] at HW2
  rw [hul, hur]
  clear hp hl hr hul hur
  have HB := Lib.hid ((Below.refl w.heap.size w).alloc (Nat.le_refl _) (.cells #[.pointer (some ⟨pb, 0, none⟩), .pointer u1, .pointer u2, .int .i64 n0] 132))
  by_cases h1 : 3 * (l.cnt + 1) < r.cnt + 1
  · have g1 : decide (3 * ((l.cnt : Int) + 1) < (r.cnt : Int) + 1) = true := decide_eq_true (by omega)
    go_enter Try.func81, Try.ntmps81
    go_wp2_with fail
    refine (HW2.out _ HB.out).mono ?_
    rintro e w' ⟨rfl, rfl⟩
    go_wp2_with fail
    refine (HW1.out _ HB.out).mono ?_
    rintro e w' ⟨rfl, rfl⟩
    go_wp2_with fail
    refine (HL.out _ HB.out h1).mono ?_
    rintro e w' ⟨t, rfl, ht⟩
    obtain ⟨ut, hut⟩ := t.ptr_pointer
    have hf := HF.out _ _ _ _ HB.out ⟨t, rfl, ht⟩
    rw [hut] at hf ⊢
    clear hut ht
    go_wp2
    go_ret
    exact hf
  · have g1 : decide (3 * ((l.cnt : Int) + 1) < (r.cnt : Int) + 1) = false := decide_eq_false (by omega)
    by_cases h2 : 3 * (r.cnt + 1) < l.cnt + 1
    · have g2 : decide (3 * ((r.cnt : Int) + 1) < (l.cnt : Int) + 1) = true := decide_eq_true (by omega)
      go_enter Try.func81, Try.ntmps81
      go_wp2_with fail
      refine (HW2.out _ HB.out).mono ?_
      rintro e w' ⟨rfl, rfl⟩
      go_wp2_with fail
      refine (HW1.out _ HB.out).mono ?_
      rintro e w' ⟨rfl, rfl⟩
      go_wp2_with fail
      refine (HW1.out _ HB.out).mono ?_
      rintro e w' ⟨rfl, rfl⟩
      go_wp2_with fail
      refine (HW2.out _ HB.out).mono ?_
      rintro e w' ⟨rfl, rfl⟩
      go_wp2_with fail
      refine (HR.out _ HB.out h2).mono ?_
      rintro e w' ⟨t, rfl, ht⟩
      obtain ⟨ut, hut⟩ := t.ptr_pointer
      have hf := HF.out _ _ _ _ HB.out ⟨t, rfl, ht⟩
      rw [hut] at hf ⊢
      clear hut ht
      go_wp2
      go_ret
      exact hf
    · have g2 : decide (3 * ((r.cnt : Int) + 1) < (l.cnt : Int) + 1) = false := decide_eq_false (by omega)
      go_enter Try.func81, Try.ntmps81
      go_wp2_with fail
      refine (HW2.out _ HB.out).mono ?_
      rintro e w' ⟨rfl, rfl⟩
      go_wp2_with fail
      refine (HW1.out _ HB.out).mono ?_
      rintro e w' ⟨rfl, rfl⟩
      go_wp2_with fail
      refine (HW1.out _ HB.out).mono ?_
      rintro e w' ⟨rfl, rfl⟩
      go_wp2_with fail
      refine (HW2.out _ HB.out).mono ?_
      rintro e w' ⟨rfl, rfl⟩
      go_wp2_with fail
      refine (HO.out _ HB.out).mono ?_
      rintro e w' ⟨b, rfl, ht, hb⟩
      have hf := HF.out (l.list ++ p :: r.list) _ _ _ HB.out ⟨_, rfl, ht, rfl, hb⟩
      simp only [Tr.ptr] at hf
      clear ht hb
      go_wp2
      go_ret
      exact hf
end Go.Proofs.Ytohpilamoglhcaa
