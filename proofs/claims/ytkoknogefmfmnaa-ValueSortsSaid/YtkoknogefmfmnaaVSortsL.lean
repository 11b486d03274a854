/-
  THE LAW ValueSorts.
-/
import Derived.Test.YtkoknogefmfmnaaVSorted
import Derived.Test.YtkoknogefmfmnaaVRefS
import Derived.Test.YtkoknogefmfmnaaVSame
namespace Go.Proofs.Ytkoknogefmfmnaa
open Go.RowKit Go.Shelf

/-- slices one by one, as they stand -/
theorem compG_len {α : Type} {o : α → α → Int} : ∀ l : List α, (compG o l).length ≤ l.length
  | [] => Nat.le_refl _
  | [x] => Nat.le_refl _
  | x :: y :: r => by
    have := compG_len (o := o) (y :: r)
    unfold compG
    split
    · simp at this ⊢; omega
    · simp at this ⊢; omega
theorem sortedV_any (A : Option Addr) (c : Nat) (l : List Vl) (w : World) (hs : SlV w w.heap.size A l) (hl : l.length ≤ 50000) (hA : A = none → l.length = 0 ∧ c = 0) (hsp : ∀ a, A = some a → a.spot = none) :
    Calls Try.prog 8 #[.slice A l.length c] w fun e w' => ∃ A' c', e = .returned (.slice A' (putsG VOrd.ordT l).length c') ∧ SlV w' w'.heap.size A' (putsG VOrd.ordT l) ∧ Below w.heap.size w w' := by
  rw [← sorted_once VOrd.ordT_is l]
  cases l with
  | nil =>
    have e : compG VOrd.ordT (riseG VOrd.ordT []) = [] := by
      have := compG_len (o := VOrd.ordT) (riseG VOrd.ordT [])
      rw [riseG_len] at this
      exact List.length_eq_zero_iff.1 (by simpa using this)
    rw [e]
    exact (sortedV_nil A c w (fun h => (hA h).2) hsp).mono fun e w' ⟨A', c', h1, h2⟩ => ⟨A', c', h1, fun h => absurd rfl h, h2⟩
  | cons x r =>
    obtain ⟨b, o, rfl, _⟩ := hs (by simp)
    exact sortedV_some b o c (x :: r) w hs hl (by simp)
theorem OwnV.spot {W : World} {B : Nat} {A : Option Addr} {n c : Nat} {l : List Vl} (h : OwnV W B (.slice A n c) l) : ∀ a, A = some a → a.spot = none := by
  intro a ha
  rcases h.2 with ⟨e, _⟩ | ⟨g, cap, cur, e, _⟩
  · rw [ha] at e; cases e
  · rw [ha] at e
    simp at e
    rw [e.1]
theorem putsG_len (l : List Vl) : (putsG VOrd.ordT l).length ≤ l.length := by
  rw [← sorted_once VOrd.ordT_is l]
  exact Nat.le_trans (compG_len _) (Nat.le_of_eq (riseG_len l))

set_option maxRecDepth 100000 in
set_option maxHeartbeats 2000000 in
theorem sortsL_any (A : Option Addr) (c : Nat) (l : List Vl) (w : World) (hs : SlV w w.heap.size A l) (hA : A = none → l.length = 0 ∧ c = 0) :
    Calls Try.prog 3 #[.slice A l.length c] w fun e w' => e = .returned (.bool true) ∧ Below w.heap.size w w' := by
  by_cases hl : 100 < l.length
  · have hli : (100 : Int) < (l.length : Int) := by omega
    clear hs
    go_enter Try.func3, Try.ntmps3
    go_wp2
    go_ret
    exact ⟨rfl, Below.refl _ _⟩
  · have hli : ¬ (100 : Int) < (l.length : Int) := by omega
    obtain ⟨i0, hi, hz0, hz1, hz2⟩ := info_parts info22
    have hmx : 50000 ≤ maxLen := by decide
    have HS := Lib.hid hs
    have HA0 := Lib.hid hA
    clear hs hA
    go_enter Try.func3, Try.ntmps3
    go_wp2
    go_loopg [3, 4] l.length (fun g x3 x4 wr => ∃ j : Nat, OwnV wr w.heap.size x3 (l.take j) ∧ x4 = .int .i64 j ∧ j + g = l.length ∧ Hid (∀ v ∈ l.take j, v.2.2.size ≤ 1000) ∧ Hid (Below w.heap.size w wr) ∧ w.heap.size ≤ wr.heap.size)
    case atStart => exact ⟨0, World.ownsRow_nil _ _ _ _, rfl, by omega, fun v hv => (by simp at hv), Below.refl _ _, Nat.le_refl _⟩
    case round =>
      obtain ⟨j, ho, rfl, hj, HZ, HB, hsz⟩ := hrel
      obtain ⟨A1, c1, rfl, hsA, hl1, hc1, hn1⟩ := ho.form
      have HO := Lib.hid ho
      have HSA := Lib.hid hsA
      have HN1 := Lib.hid hn1
      have HTL : Hid ((l.take j).length = j) := List.length_take_of_le (by omega)
      rw [HTL.out] at HN1 hl1 ⊢
      clear ho hsA hn1
      cases gk with
      | succ g =>
        have hji : (j : Int) < (l.length : Int) := by omega
        have hjn : j < l.length := by omega
        obtain ⟨b, o, rfl, hbl, hp⟩ := (HS.out.next HB.out (Nat.le_refl _)).at_ hjn
        have HTK : Hid (l.take (j + 1) = l.take j ++ [l[j]]) := List.take_succ_eq_append_getElem hjn
        obtain ⟨x, hpe⟩ : ∃ p, l[j] = p := ⟨_, rfl⟩
        rw [hpe] at hp HTK
        have p0 := hp.c0
        have p1 := hp.c1
        have p2 := hp.c2
        clear hp hpe
        by_cases hx : 1000 < x.2.2.size
        · have hxi : (1000 : Int) < (x.2.2.size : Int) := by omega
          go_wp2
          go_ret
          exact ⟨rfl, HB.out⟩
        · have hxi : ¬ (1000 : Int) < (x.2.2.size : Int) := by omega
          have HOA : Hid (OwnV (wr.alloc (.cells #[.int .i64 x.1, .int .i64 x.2.1, .string x.2.2] 24)) w.heap.size (.slice A1 j c1) (l.take j)) := by
            have := World.ownsRow.alloc HO.out (.cells #[.int .i64 x.1, .int .i64 x.2.1, .string x.2.2] 24)
            rw [HTL.out] at this
            show World.ownsRow _ _ _ _ _ _ _
            rw [HTL.out]; exact this
          have HBA := Lib.hid (HB.out.alloc hsz (.cells #[.int .i64 x.1, .int .i64 x.2.1, .string x.2.2] 24))
          have HLC := Lib.hid (litV wr x)
          have HXS : Hid (x.2.2.size ≤ 1000) := by show _ ≤ _; omega
          clear hx
          go_wp2_with (at_builtin; refine wpList_append_any rfl _ _ 22 rfl w.heap.size 24 i0 (.agg #[.int .i64 0, .int .i64 0, .string ⟨#[]⟩]) 3 32 Try.underlying22 hi hz0 hz1 hz2 rfl (by decide) _ _ _ rfl HOA.out (some ⟨wr.heap.size, 0, none⟩) 1 1 ([x].flatMap cellsV) rfl rfl (fun h => by cases h) HLC.out (cellsV_all _) (by rw [HTL.out]; omega) (by rw [HTL.out]; omega) HBA.out.size ?_; intro v1 w3 hown hgrow; have HV1 : Hid (OwnV w3 w.heap.size v1 (l.take j ++ [x])) := ownV_of hown; have HB3 := Lib.hid (HBA.out.trans (below_ownV HOA.out hgrow HBA.out.size)); clear hown hgrow p0 p1 p2)
          go_roundg g
          case measure => omega
          case rel =>
            refine ⟨j + 1, by rw [HTK.out]; exact HV1.out, by go_num, by omega, fun v hv => ?_, HB3.out, HB3.out.size⟩
            rw [HTK.out] at hv
            rcases List.mem_append.1 hv with h | h
            · exact HZ.out v h
            · rw [List.mem_singleton] at h
              rw [h]; exact HXS.out
      | zero =>
        obtain rfl : j = l.length := by omega
        have hji : ¬ ((l.length : Int) < (l.length : Int)) := by omega
        have hto : Hid (l.take l.length = l) := List.take_length
        have HZ2 : Hid (∀ v ∈ l, v.2.2.size ≤ maxLen) := fun v hv => by
          have h1 := HZ.out v (by rw [hto.out]; exact hv)
          omega
        have HSA2 : Hid (SlV wr wr.heap.size A1 l) := by
          have := HSA.out
          rwa [hto.out] at this
        have HO2 : Hid (OwnV wr w.heap.size (.slice A1 l.length c1) l) := by
          have := HO.out
          rwa [HTL.out, hto.out] at this
        have HC := Lib.hid (sortedV_any A1 c1 l wr HSA2.out (by omega) HN1.out HO2.out.spot)
        clear HTL HO HSA HZ hto
        go_wp2_with fail
        refine HC.out.mono ?_
        rintro e w2 ⟨A2, c2, rfl, hs2, hb2⟩
        have HS2 := Lib.hid hs2
        have HB2 := Lib.hid (HB.out.trans (hb2.mono hsz))
        have HBX := Lib.hid hb2
        have HSl := Lib.hid ((HS.out.next HB2.out (Nat.le_refl _)).more HB2.out.size)
        have HSo := Lib.hid ((HSA2.out.next hb2 (Nat.le_refl _)).more hb2.size)
        clear hs2 hb2 HC
        have HPL := Lib.hid (putsG_len l)
        have HC := Lib.hid (refSortV_any A c l w2 HSl.out (by omega) HZ2.out)
        go_wp2_with fail
        refine HC.out.mono ?_
        rintro e w3 ⟨v3, rfl, ho3, hb3⟩
        obtain ⟨A3, c3, rfl, hs3, _⟩ := ho3.slv
        have HS3 := Lib.hid hs3
        have HS23 := Lib.hid ((HS2.out.next hb3 (Nat.le_refl _)).more hb3.size)
        have HSl3 := Lib.hid ((HSl.out.next hb3 (Nat.le_refl _)).more hb3.size)
        have HSo3 := Lib.hid ((HSo.out.next hb3 (Nat.le_refl _)).more hb3.size)
        have HB3 := Lib.hid (HB2.out.trans (hb3.mono HB2.out.size))
        clear hs3 hb3 ho3 HC
        go_wp2_with fail
        refine (sameV_any A2 A3 c2 c3 (putsG VOrd.ordT l) w3 w3.heap.size HS23.out HS3.out (by have := HPL.out; omega)).mono ?_
        rintro e w4 ⟨rfl, n4, rfl⟩
        go_wp2_with fail
        refine (sameV_any A1 A c1 c l _ w3.heap.size (HSo3.out.next (below_drewN (n0 := w3.heap.size) w3 n4) (Nat.le_refl _)) (HSl3.out.next (below_drewN (n0 := w3.heap.size) w3 n4) (Nat.le_refl _)) (by omega)).mono ?_
        rintro e w5 ⟨rfl, n5, rfl⟩
        have HBE : Hid (Below w.heap.size w ((w3.drewN n4).drewN n5)) := HB3.out.trans ((below_drewN w3 n4).trans (below_drewN _ n5))
        rw [World.drewN_drewN] at HBE
        go_wp2
        go_ret
        exact ⟨rfl, HBE.out⟩
end Go.Proofs.Ytkoknogefmfmnaa
