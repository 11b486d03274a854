/-
  CONTRACT: the program's Alter: a set of what stays, that the call makes.
-/
import Derived.Test.YtikbpcfoagineaaAKey
import Derived.Deep.LoopGhost
import Derived.Lib.Hide
import Derived.Maps.AppendAt
namespace Go.Proofs.Ytikbpcfoagineaa
open Go.RowKit Go.Maps

theorem ownsMap_below {H : Type} {P : Program} {k : TypeId} {R : Value → Option (DataW H × List MemPlace)} {w w' : World} {b n B : Nat} {D : DataW H} (h : w.ownsMap P k R b n D) (hb : Below B w w') (hlt : b < B) : w'.ownsMap P k R b n D := by
  obtain ⟨es, clock, h1, r⟩ := h
  exact ⟨es, clock, (hb.block b hlt).trans h1, r⟩

set_option maxRecDepth 100000 in
set_option maxHeartbeats 4000000 in
theorem alter_any (A A' : Option Addr) (c c' : Nat) (l r : List Att) (w : World) (hs : SlA w w.heap.size A l) (hs' : SlA w w.heap.size A' r) (hl : l.length ≤ 1000) (hr : r.length ≤ 1000) (ok : ∀ a ∈ l, AttOk a) (ok' : ∀ a ∈ r, AttOk a) :
    Calls Try.prog 18 #[.slice A l.length c, .slice A' r.length c'] w fun e w' => e = .returned (.int .i64 (altN l r)) ∧ Below w.heap.size w w' := by
  have hmm := @run_makeMap Try.prog
  have HS := Lib.hid hs
  have HS' := Lib.hid hs'
  have HO := Lib.hid ok
  have HO' := Lib.hid ok'
  clear hs hs' ok ok'
  go_enter Try.func18, Try.ntmps18
  go_wp2
  go_loopg [15] r.length (fun g i wr => ∃ k : Nat, i = .int .i64 k ∧ k + g = r.length ∧ Hid (wr.ownsMap Try.prog 72 unitElem w.heap.size k (setA (H := Unit) (r.take k))) ∧ Hid (Below w.heap.size w wr) ∧ w.heap.size + 1 ≤ wr.heap.size)
  case atStart => exact ⟨0, rfl, by omega, by rw [List.take_zero]; exact World.ownsMap_made _ _ _ _, (Below.refl _ _).alloc (Nat.le_refl _) _, by simp⟩
  case round =>
    obtain ⟨k, rfl, hk, HM, HB, hsz⟩ := hrel
    cases gk with
    | zero =>
      have hki : ¬ (k : Int) < (r.length : Int) := by omega
      have HM2 : Hid (wr.ownsMap Try.prog 72 unitElem w.heap.size k (setA (H := Unit) r)) := by
        have := HM.out
        rw [List.take_of_length_le (by omega)] at this
        exact this
      clear HM
      go_wp2
      go_loopg [26] l.length (fun g i w2 => ∃ j : Nat, i = .int .i64 j ∧ j + g = l.length ∧ Hid (altB (l.drop j) r = altB l r) ∧ Hid (w2.ownsMap Try.prog 72 unitElem w.heap.size k (setA (H := Unit) r)) ∧ Hid (Below w.heap.size w w2) ∧ w.heap.size + 1 ≤ w2.heap.size)
      case atStart => exact ⟨0, rfl, by omega, by rw [List.drop_zero]; rfl, HM2, HB, hsz⟩
      case round =>
        obtain ⟨j, rfl, hj, HJ, HM3, HB3, hsz3⟩ := hrel
        cases gk with
        | zero =>
          have hji : ¬ (j : Int) < (l.length : Int) := by omega
          have HE : Hid (altN l r = 0) := by
            show _ = _
            have := HJ.out
            rw [List.drop_eq_nil_of_le (by omega)] at this
            unfold altN
            rw [← this]
            rfl
          go_wp2
          go_ret
          exact ⟨by rw [HE.out]; rfl, HB3.out⟩
        | succ g =>
          have hji : (j : Int) < (l.length : Int) := by omega
          have hjn : j < l.length := by omega
          obtain ⟨b, o, rfl, hbl, hp⟩ := (HS.out.next HB3.out (Nat.le_refl _)).at_ hjn
          have hd : altB (l.drop j) r = ((r.any fun a => sameA a l[j]) && altB (l.drop (j + 1)) r) := by rw [List.drop_eq_getElem_cons hjn]; rfl
          have hoy := HO.out _ (List.getElem_mem hjn)
          obtain ⟨y, hy⟩ : ∃ y, l[j] = y := ⟨_, rfl⟩
          rw [hy] at hp hd hoy
          have hha := has_setA (H := Unit) r y HO'.out hoy
          have hky := keyOf_att hoy
          have HD := Lib.hid hd
          have HH := Lib.hid hha
          have HK := Lib.hid hky
          have y0 := hp.c0
          have y1 := hp.c1
          have y2 := hp.c2
          have y3 := hp.c3
          have y4 := hp.c4
          have y5 := hp.c5
          have y6 := hp.c6
          clear hp hy hd hha hky hoy
          go_wp2_with (first
            | (go_at_call 35; refine (stays_any y _).mono ?_; rintro e w5 ⟨rfl, hb5⟩; have HB5 := Lib.hid hb5; have HM5 := Lib.hid (ownsMap_below (HM3.out.alloc _) hb5 (by simp; omega)); clear hb5)
            | (at_lookup; refine wpList_lookup_own_unit _ rfl _ _ 69 rfl 72 70 lawSt Try.underlying69 (zeroSt _) w.heap.size k _ rfl HM5.out _ _ rfl HK.out ?_)
            | go_in)
          · have ht : (!Maps.has (setA (H := Unit) r) (keyA y)) = true := by assumption
            have HE : altN l r = 77 := by
              rw [HH.out] at ht
              simp only [Bool.not_eq_true'] at ht
              unfold altN
              rw [← HJ.out, HD.out, ht]
              rfl
            go_ret
            have hbb := (HB3.out.alloc HB3.out.size _).trans (HB5.out.mono (by simp; omega))
            exact ⟨by rw [HE]; rfl, hbb.alloc hbb.size _⟩
          · have ht : (!Maps.has (setA (H := Unit) r) (keyA y)) = false := by assumption
            have HN : altB (l.drop (j + 1)) r = altB l r := by
              rw [HH.out] at ht
              simp only [Bool.not_eq_false'] at ht
              rw [← HJ.out, HD.out, ht, Bool.true_and]
            have s5 := HB5.out.size
            simp at s5
            go_roundg g
            case measure => omega
            case rel =>
              have hbb := (HB3.out.alloc HB3.out.size _).trans (HB5.out.mono (by simp; omega))
              exact ⟨j + 1, by go_num, by omega, HN, HM5.out.alloc _, hbb.alloc hbb.size _, by simp; omega⟩
    | succ g =>
      have hki : (k : Int) < (r.length : Int) := by omega
      have hkn : k < r.length := by omega
      obtain ⟨b, o, rfl, hbl, hp⟩ := (HS'.out.next HB.out (Nat.le_refl _)).at_ hkn
      have hse : setA (H := Unit) (r.take (k + 1)) = (setA (r.take k)).put (keyA r[k]) (.agg []) := by
        rw [← setA_snoc, List.take_add_one, List.getElem?_eq_getElem hkn]
        rfl
      have hoy := HO'.out _ (List.getElem_mem hkn)
      obtain ⟨y, hy⟩ : ∃ y, r[k] = y := ⟨_, rfl⟩
      rw [hy] at hp hse hoy
      have hky := keyOf_att hoy
      have HE := Lib.hid hse
      have HK := Lib.hid hky
      have y0 := hp.c0
      have y1 := hp.c1
      have y2 := hp.c2
      have y3 := hp.c3
      have y4 := hp.c4
      have y5 := hp.c5
      have y6 := hp.c6
      clear hp hy hse hky hoy
      go_wp2_with (first
        | (go_at_call 35; refine (stays_any y _).mono ?_; rintro e w5 ⟨rfl, hb5⟩; have HB5 := Lib.hid hb5; have HM5 := Lib.hid (ownsMap_below (HM.out.alloc _) hb5 (by simp; omega)); clear hb5)
        | (at_mapUpdate; refine wpList_mapUpdate_own _ rfl _ _ _ 69 rfl 72 70 lawSt Try.underlying69 (unitElem (H := Unit)) w.heap.size k _ rfl HM5.out (by unfold maxLen; omega) _ _ _ rfl rfl HK.out _ [] unitElem_mk ?_; intro w1 hown1 hgrow1)
        | go_in)
      go_roundg g
      case measure => omega
      case rel =>
        have s5 := HB5.out.size
        have s1 := hgrow1.size
        simp at s5 s1
        refine ⟨k + 1, by go_num, by omega, by rw [HE.out]; exact hown1, ?_, by omega⟩
        exact (((HB.out.alloc HB.out.size _).trans (HB5.out.mono (by simp; omega))).grown hgrow1 (by omega) (fun j hj => by cases hj; exact Nat.le_refl _))
end Go.Proofs.Ytikbpcfoagineaa
