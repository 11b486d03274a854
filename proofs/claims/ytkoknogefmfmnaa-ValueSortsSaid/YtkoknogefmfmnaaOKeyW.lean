/-
  CONTRACT of Key (the program's).
-/
import Derived.Test.YtkoknogefmfmnaaOParts
import Derived.Test.YtkoknogefmfmnaaOBkPure
namespace Go.Proofs.Ytkoknogefmfmnaa
open Go.RowKit Go.Shelf

theorem data_len (s : ByteArray) : s.data.toList.length = s.size := Array.length_toList
theorem partB_len (p : PartP) : (partB p).length ≤ 2 * (10 + p.s.size) := by
  unfold partB valB tailB
  have h1 := strB_len p.s.data.toList
  rw [data_len] at h1
  split
  · split
    · simp; omega
    · split
      · rw [List.length_cons, numB_len]; omega
      · rw [List.length_cons]; omega
  · rw [numB_len]; omega
theorem keyB_len (l : List PartP) : (keyB l).length ≤ 2 * costP l := by
  induction l with
  | nil => simp [keyB, costP]
  | cons p r ih =>
    have h := partB_len p
    unfold keyB costP at ih ⊢
    rw [List.flatMap_cons, List.length_append, List.map_cons, List.sum_cons]
    omega
theorem keyB_take {l : List PartP} {j : Nat} (h : j < l.length) : keyB (l.take (j + 1)) = keyB (l.take j) ++ partB l[j] := by
  unfold keyB
  rw [List.take_succ_eq_append_getElem h, List.flatMap_append]
  simp
theorem costP_mono (l : List PartP) (j : Nat) : costP (l.take j) ≤ costP l := by
  have h : costP l = costP (l.take j) + costP (l.drop j) := by
    unfold costP
    rw [← List.sum_append, ← List.map_append, List.take_append_drop]
  omega
theorem costP_mem {l : List PartP} {p : PartP} (h : p ∈ l) : 10 + p.s.size ≤ costP l := by
  induction l with
  | nil => cases h
  | cons q r ih =>
    unfold costP at ih ⊢
    rw [List.map_cons, List.sum_cons]
    rcases List.mem_cons.1 h with rfl | h
    · omega
    · have := ih h; omega
theorem costP_len (l : List PartP) : l.length * 10 ≤ costP l := by
  induction l with
  | nil => simp [costP]
  | cons q r ih =>
    unfold costP at ih ⊢
    rw [List.map_cons, List.sum_cons, List.length_cons]
    omega
theorem all_take {l : List PartP} {j : Nat} (h : j < l.length) : (l.take (j + 1)).all partMay = ((l.take j).all partMay && partMay l[j]) := by
  rw [List.take_succ_eq_append_getElem h, List.all_append]; simp
theorem all_no {l : List PartP} {j : Nat} (h : j < l.length) (hn : partMay l[j] = false) : l.all partMay = false := by
  rw [List.all_eq_false]
  exact ⟨l[j], List.getElem_mem h, by rw [hn]; simp⟩

/-- What Key answers. -/
def KeyEnd (W : World) (l : List PartP) (e : Ending) (w' : World) : Prop :=
  (l.all partMay = true ∧ (∃ v, e = .returned (.tuple #[v, .int .i64 0]) ∧ OwnB w' W.heap.size v (keyB l)) ∧ Below W.heap.size W w') ∨
  (l.all partMay = false ∧ e = .returned (.tuple #[.slice none 0 0, .int .i64 10]) ∧ Below W.heap.size W w')
theorem keyEnd_yes {W w' : World} {l : List PartP} {v : Value} (hm : l.all partMay = true) (ho : OwnB w' W.heap.size v (keyB l)) (hb : Below W.heap.size W w') : KeyEnd W l (.returned (.tuple #[v, .int .i64 0])) w' := .inl ⟨hm, ⟨v, rfl, ho⟩, hb⟩
theorem keyEnd_no {W w' : World} {l : List PartP} (hm : l.all partMay = false) (hb : Below W.heap.size W w') : KeyEnd W l (.returned (.tuple #[.slice none 0 0, .int .i64 10])) w' := .inr ⟨hm, rfl, hb⟩

/-- a part's own block -/
def PartBox (W : World) (b : Nat) (p : PartP) : Prop := W.heap[b]? = some (.cells #[.bool p.v, .int .i64 p.n, .int .i64 p.k, .int .i64 p.m, .string p.s] 45 (0, 0))
theorem PartBox.cell {W : World} {b : Nat} {p : PartP} (h : PartBox W b p) (j : Nat) : W.cell? ⟨b, j, none⟩ = (#[Value.bool p.v, .int .i64 p.n, .int .i64 p.k, .int .i64 p.m, .string p.s])[j]? := by unfold PartBox at h; simp [World.cell?, h]
theorem partBox_new (W : World) (p : PartP) : PartBox (W.alloc (.cells #[.bool p.v, .int .i64 p.n, .int .i64 p.k, .int .i64 p.m, .string p.s] 45)) W.heap.size p := heap_alloc_new W _
theorem PartBox.next {W W' : World} {b B : Nat} {p : PartP} (h : PartBox W b p) (hb : Below B W W') (hB : b < B) : PartBox W' b p := (hb.block b hB).trans h

set_option maxRecDepth 100000 in
set_option maxHeartbeats 4000000 in
theorem key_big (A : Option Addr) (c : Nat) (l : List PartP) (W : World) (hs : SlP W W.heap.size A l) (hl : costP l ≤ 7000) (hok : ∀ p ∈ l, partOk p) :
    Calls Try.prog 41 #[.slice A l.length c] W (KeyEnd W l) := by
  have HOK := Lib.hid hok
  have hll := costP_len l
  have HLL := Lib.hid hll
  have HC := Lib.hid hl
  have hl500 : l.length ≤ 700 := by omega
  clear hok hll hl
  go_enter Try.func41, Try.ntmps41
  go_wp2
  go_loopg [4, 6, 9] l.length (fun g x u y wr => ∃ (j : Nat) (v : Value), x = v ∧ y = .int .i64 j ∧ j + g = l.length ∧ Hid (OwnB wr W.heap.size v (keyB (l.take j))) ∧ Hid (Below W.heap.size W wr) ∧ W.heap.size ≤ wr.heap.size ∧ Hid ((l.take j).all partMay = true))
  case atStart => exact ⟨0, _, rfl, rfl, by omega, ownB_nil _ _, Below.refl _ _, Nat.le_refl _, rfl⟩
  case round =>
    obtain ⟨j, v, rfl, rfl, hj, HO, HB, hsz, HM⟩ := hrel
    cases gk with
    | zero =>
      have hjz : ¬ ((j : Int) < (l.length : Int)) := by omega
      have ht : l.take j = l := List.take_of_length_le (by omega)
      rw [ht] at HO HM
      clear ht
      go_wp2
      go_ret2
      exact keyEnd_yes HM.out HO.out HB.out
    | succ g =>
      have hjz : (j : Int) < (l.length : Int) := by omega
      have hjn : j < l.length := by omega
      have hpk := HOK.out _ (List.getElem_mem hjn)
      have hcm := costP_mem (List.getElem_mem hjn)
      have hkl : (keyB (l.take j)).length ≤ 14000 := by
        have h1 := keyB_len (l.take j)
        have h2 := costP_mono l j
        have h3 := HC.out
        omega
      have hps : l[j].s.size ≤ 7000 := by have := HC.out; omega
      have HKT := Lib.hid (keyB_take hjn)
      have HAT := Lib.hid (all_take hjn)
      have HAN := Lib.hid (fun h => all_no hjn h)
      obtain ⟨b, o, rfl, hblt, hp⟩ := (hs.next HB.out (Nat.le_refl _)).at_ hjn
      obtain ⟨p, hpe⟩ : ∃ p, l[j] = p := ⟨_, rfl⟩
      rw [hpe] at hp hpk hps HKT HAT HAN
      have h0 := hp.c0
      have h1 := hp.c1
      have h2 := hp.c2
      have h3 := hp.c3
      have h4 := hp.c4
      have HPK := Lib.hid hpk
      clear hp hpk hcm hpe
      cases hv : p.v
      · rw [hv] at h0
        have HPB : Hid (partB p = numB p.n) := by show _ = _; unfold partB; rw [hv]; rfl
        have HPM : Hid (partMay p = true) := by show _ = _; unfold partMay; rw [hv]; rfl
        go_wp2_with fail
        refine (appendNumber_any W.heap.size _ _ p.n _ (HO.out.alloc _) (by omega) (by simp; omega) HPK.out.1.1 HPK.out.1.2).mono ?_
        rintro e w1 ⟨v1, rfl, ho1, hb1⟩
        have HO1 := Lib.hid ho1
        have HB1 := Lib.hid ((HB.out.alloc hsz _).trans hb1)
        clear ho1 hb1 h0 h1 h2 h3 h4
        go_wp2
        go_roundg g
        case measure => omega
        case rel => exact ⟨j + 1, v1, rfl, by go_num, by omega, (by show OwnB _ _ _ _; rw [HKT.out, HPB.out]; exact HO1.out), HB1.out, HB1.out.size, (by show _ = _; rw [HAT.out, HM.out, HPM.out]; rfl)⟩
      · rw [hv] at h0
        have HPB : Hid (partB p = valB p.k p.m p.s) := by show _ = _; unfold partB; rw [hv]; rfl
        have HPM : Hid (partMay p = mayB p.k p.m p.s) := by show _ = _; unfold partMay; rw [hv]; rfl
        have HX := Lib.hid (partBox_new wr p)
        have hsx : p.s.size ≤ maxLen := by unfold maxLen; omega
        cases hm : mayB p.k p.m p.s
        · have HMB := Lib.hid hm
          clear hm
          go_wp2_with fail
          refine (check_no _ hsx HMB.out).mono ?_
          rintro e w1 ⟨rfl, hb1⟩
          have HB1 := Lib.hid ((HB.out.alloc hsz (.cells #[.bool true, .int .i64 p.n, .int .i64 p.k, .int .i64 p.m, .string p.s] 45)).trans (hb1.mono (by simp; omega)))
          clear hb1 h0 h1 h2 h3 h4
          go_wp2
          go_ret2
          exact keyEnd_no (HAN.out (by rw [HPM.out, HMB.out])) HB1.out
        · have HMB := Lib.hid hm
          clear hm
          go_wp2_with fail
          refine (check_yes _ hsx HMB.out).mono ?_
          rintro e w1 ⟨rfl, hb1⟩
          have hx1 := HX.out
          unfold PartBox at hx1
          rw [hv] at hx1
          have HX1 : Hid (w1.heap[wr.heap.size]? = some (.cells #[.bool true, .int .i64 p.n, .int .i64 p.k, .int .i64 p.m, .string p.s] 45 (0, 0))) := (hb1.block wr.heap.size (by simp)).trans hx1
          have g2 : w1.cell? ⟨wr.heap.size, 2, none⟩ = some (.int .i64 p.k) := by simp [World.cell?, HX1.out]
          have g3 : w1.cell? ⟨wr.heap.size, 3, none⟩ = some (.int .i64 p.m) := by simp [World.cell?, HX1.out]
          have g4 : w1.cell? ⟨wr.heap.size, 4, none⟩ = some (.string p.s) := by simp [World.cell?, HX1.out]
          have HO1 := Lib.hid ((HO.out.alloc (.cells #[.bool true, .int .i64 p.n, .int .i64 p.k, .int .i64 p.m, .string p.s] 45)).next hb1)
          have HB1 := Lib.hid ((HB.out.alloc hsz (.cells #[.bool true, .int .i64 p.n, .int .i64 p.k, .int .i64 p.m, .string p.s] 45)).trans (hb1.mono (by simp; omega)))
          clear hb1 h0 h1 h2 h3 h4 hx1
          go_wp2_with fail
          refine (appendValue_any W.heap.size _ _ p.k p.m p.s _ HO1.out (by omega) HB1.out.size (by have := mayB_size HMB.out; omega) HPK.out.2.1 HPK.out.2.2 HMB.out).mono ?_
          rintro e w2 ⟨v2, rfl, ho2, hb2⟩
          have HO2 := Lib.hid ho2
          have HB2 := Lib.hid (HB1.out.trans hb2)
          clear ho2 hb2 g2 g3 g4
          go_wp2
          go_roundg g
          case measure => omega
          case rel => exact ⟨j + 1, v2, rfl, by go_num, by omega, (by show OwnB _ _ _ _; rw [HKT.out, HPB.out]; exact HO2.out), HB2.out, HB2.out.size, (by show _ = _; rw [HAT.out, HM.out, HPM.out, HMB.out]; rfl)⟩

theorem key_any (A : Option Addr) (c : Nat) (l : List PartP) (W : World) (hs : SlP W W.heap.size A l) (hl : costP l ≤ 5000) (hok : ∀ p ∈ l, partOk p) :
    Calls Try.prog 41 #[.slice A l.length c] W (KeyEnd W l) := key_big A c l W hs (by omega) hok
end Go.Proofs.Ytkoknogefmfmnaa
