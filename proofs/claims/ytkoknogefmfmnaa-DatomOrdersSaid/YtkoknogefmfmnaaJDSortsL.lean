import Derived.Test.YtkoknogefmfmnaaJDComp
import Derived.Test.YtkoknogefmfmnaaJDSlArgs
import Derived.Test.YtkoknogefmfmnaaJDSorted
/-
  CONTRACTS: the document's Same of two lists of datoms that are equal; Great; arguments.
-/
namespace Go.Proofs.Ytkoknogefmfmnaa
open Go.ChangeShapes Go.WideShapes Go.ChangeAt Go.RowKit Go.Joins Go.Deep

set_option maxRecDepth 100000 in
set_option maxHeartbeats 2000000 in
theorem sameD_any (A A' : Option Addr) (c c' : Nat) (l : List Dat) (w : World) (B : Nat) (hs : SlD w B A l) (hs' : SlD w B A' l) (hl : l.length ≤ 2000000000000) :
    Calls Try.prog 14 #[.slice A l.length c, .slice A' l.length c'] w fun e w' => e = .returned (.bool true) ∧ ∃ n, w' = w.drewN n := by
  go_enter Try.func14, Try.ntmps14
  go_wp2
  go_loopw [5] (fun i wr => ∃ j n : Nat, j ≤ l.length ∧ i = .int .i64 j ∧ wr = w.drewN n) (fun i _ => l.length - (intOf i).toNat)
  case atStart => exact ⟨0, 0, by omega, rfl, rfl⟩
  case round =>
    obtain ⟨j, n, hj, rfl, rfl⟩ := hrel
    by_cases h1 : j < l.length
    · have hji : (j : Int) < (l.length : Int) := by omega
      obtain ⟨b, o, rfl, _, hp⟩ := hs.at_ h1
      obtain ⟨b', o', rfl, _, hp'⟩ := hs'.at_ h1
      obtain ⟨x, hpe⟩ : ∃ p, l[j] = p := ⟨_, rfl⟩
      rw [hpe] at hp hp'
      have c0 := hp.c0
      have c1 := hp.c1
      have c2 := hp.c2
      have c3 := hp.c3
      have c4 := hp.c4
      have c5 := hp.c5
      have c6 := hp.c6
      have c7 := hp.c7
      have c8 := hp.c8
      have d0 := hp'.c0
      have d1 := hp'.c1
      have d2 := hp'.c2
      have d3 := hp'.c3
      have d4 := hp'.c4
      have d5 := hp'.c5
      have d6 := hp'.c6
      have d7 := hp'.c7
      have d8 := hp'.c8
      have hq := fun w => neD_run x x w
      rw [decide_eq_true (rfl : x = x)] at hq
      clear hp hp' hpe hs hs'
      go_wp2
      go_quiet (fail)
      go_wp2
      go_roundw
      case rel => exact ⟨j + 1, _, by omega, by go_num, rfl⟩
      case measure => simp [intOf]; omega
    · have hji : ¬ (j : Int) < (l.length : Int) := by omega
      go_wp2
      go_ret
      exact ⟨rfl, n, rfl⟩
/-- Great answers 0 or 1. -/
def GreatEnd (w : World) (e : Ending) (w' : World) : Prop := (e = .returned (.int .i64 0) ∨ e = .returned (.int .i64 1)) ∧ w = w'
set_option maxRecDepth 100000 in
set_option maxHeartbeats 2000000 in
theorem greatD_any (A : Option Addr) (c : Nat) (l : List Dat) (w : World) (B : Nat) (hs : SlD w B A l) (hl : l.length ≤ 2000000000000) :
    Calls Try.prog 11 #[.slice A l.length c] w (GreatEnd w) := by
  have HS := Lib.hid hs
  clear hs
  go_enter Try.func11, Try.ntmps11
  go_wp2
  go_loopg [3, 4] l.length (fun g x y wr => ∃ (j : Nat) (n : Int), x = .int .i64 n ∧ y = .int .i64 j ∧ j + g = l.length ∧ wr = w)
  case atStart => exact ⟨0, 0, rfl, rfl, by omega, rfl⟩
  case round =>
    obtain ⟨j, n, rfl, rfl, hj, rfl⟩ := hrel
    cases gk with
    | succ g =>
      have hji : (j : Int) < (l.length : Int) := by omega
      have hjn : j < l.length := by omega
      obtain ⟨b, o, rfl, _, hp⟩ := HS.out.at_ hjn
      have c4 := hp.c4
      have c4' : wr.cell? ⟨b, o + j * 9 + 2 + 2, none⟩ = some (.string l[j].s) := c4
      clear hp
      go_wp2
      go_roundg g
      case measure => omega
      case rel => exact ⟨j + 1, _, rfl, by go_num, by omega, rfl⟩
    | zero =>
      have hji : ¬ (j : Int) < (l.length : Int) := by omega
      by_cases hn : 4000 < n
      · go_wp2
        go_ret
        exact ⟨.inr rfl, rfl⟩
      · go_wp2
        go_ret
        exact ⟨.inl rfl, rfl⟩
end Go.Proofs.Ytkoknogefmfmnaa

/-
  THE LAW DatomSorts.
-/
namespace Go.Proofs.Ytkoknogefmfmnaa
open Go.RowKit Go.Shelf

theorem compG_len2 {α : Type} {o : α → α → Int} : ∀ l : List α, (compG o l).length ≤ l.length
  | [] => Nat.le_refl _
  | [x] => Nat.le_refl _
  | x :: y :: r => by
    have := compG_len2 (o := o) (y :: r)
    unfold compG
    split
    · simp at this ⊢; omega
    · simp at this ⊢; omega
theorem sortsD_len (o : Int) (l : List Dat) : (sortsD o l).length ≤ l.length := by
  unfold sortsD
  split
  · rename_i h
    rw [← sorted_once (ordD_is h)]
    exact Nat.le_trans (compG_len2 _) (Nat.le_trans (Nat.le_of_eq (riseG_len _)) (List.length_filter_le _ _))
  · exact Nat.zero_le _
set_option maxRecDepth 100000 in
set_option maxHeartbeats 1000000 in
theorem refSortD_any (o : Int) (A : Option Addr) (c : Nat) (l : List Dat) (w : World) (hs : SlD w w.heap.size A l) (hl : l.length * 80 ≤ 140737488355328) (hz : ∀ v ∈ l, v.s.size ≤ maxLen) :
    Calls Try.prog 13 #[.int .i64 o, .slice A l.length c] w fun e w' => ∃ v, e = .returned v ∧ OwnD w' w.heap.size v (sortsD o l) ∧ Below w.heap.size w w' := by
  cases ho : isO o with
  | true =>
    have e : sortsD o l = putsG (ordD o) (l.filter (hasD o)) := by unfold sortsD; rw [if_pos ho]
    rw [e]
    exact refSortD_yes o ho A c l w hs hl hz
  | false =>
    have e : sortsD o l = [] := by unfold sortsD; rw [if_neg (by rw [ho]; exact Bool.false_ne_true)]
    rw [e]
    rcases noO ho with h | ⟨h, h'⟩
    · clear ho hs hz
      go_enter Try.func13, Try.ntmps13
      go_wp2
      go_ret
      exact ⟨_, rfl, World.ownsRow_nil _ _ _ _, Below.refl _ _⟩
    · clear ho hs hz
      go_enter Try.func13, Try.ntmps13
      go_wp2
      go_ret
      exact ⟨_, rfl, World.ownsRow_nil _ _ _ _, Below.refl _ _⟩

set_option maxRecDepth 100000 in
set_option maxHeartbeats 2000000 in
theorem dSorts_any (o : Int) (A : Option Addr) (c : Nat) (l : List Dat) (w : World) (hs : SlD w w.heap.size A l) (hA : A = none → l.length = 0 ∧ c = 0) (hl : l.length * 80 ≤ 140737488355328) (hz : ∀ v ∈ l, v.s.size ≤ maxLen) :
    Calls Try.prog 4 #[.int .i64 o, .slice A l.length c] w fun e w' => e = .returned (.bool true) ∧ Below w.heap.size w w' := by
  obtain ⟨i0, hi, hz0, hz1, hz2⟩ := info_parts infoD
  have hmx : 2000000000000 ≤ maxLen := by decide
  have HS := Lib.hid hs
  have HZ := Lib.hid hz
  have HA := Lib.hid hA
  have HGR := Lib.hid (greatD_any A c l w w.heap.size hs (by omega))
  clear hs hz hA
  go_enter Try.func4, Try.ntmps4
  go_wp2_with fail
  refine HGR.out.mono ?_
  rintro e w' ⟨rfl | rfl, rfl⟩
  · have HL0 := Lib.hid (ownD_zero w w.heap.size (Nat.le_refl _))
    have HNW : Hid (∀ ad, A = some ad → ∀ j u, (l.flatMap cellsD)[j]? = some u → (w.alloc (.cells #[] 36)).cell? (ad.add j) = some u) := fun ad h j u hu => (HS.out.next ((Below.refl _ _).alloc (Nat.le_refl _) _) (Nat.le_refl _)).news ad h j u hu
    go_wp2_with (at_builtin; refine wpList_append_any rfl _ _ 28 rfl w.heap.size 36 i0 (.agg #[.int .i64 0, .int .i64 0, .int .i64 0, .int .i64 0, .string ⟨#[]⟩, .int .i64 0, .bool false, .int .i64 0, .int .i64 0]) 9 80 Try.underlying28 hi hz0 hz1 hz2 rfl (by decide) _ _ _ rfl HL0.out A l.length c (l.flatMap cellsD) rfl (flatD_len l) HA.out HNW.out (cellsD_all l) (by rw [List.length_nil]; omega) (by rw [List.length_nil]; omega) (by simp) ?_; intro v1 w1 hown' hgrow; have HV1 : Hid (OwnD w1 w.heap.size v1 l) := ownD_of (a := []) hown'; have HB1 := Lib.hid (((Below.refl w.heap.size w).alloc (Nat.le_refl _) (.cells #[] 36)).trans (below_ownD HL0.out hgrow (by simp))); clear hown' hgrow; obtain ⟨A1, c1, rfl, hsA, _, _, _, _⟩ := HV1.out.form; have HSO := Lib.hid hsA; have HC := Lib.hid (sortedD_any o A1 c1 l w1 hsA hl); clear hsA)
    refine HC.out.mono ?_
    rintro e w2 ⟨A2, c2, rfl, hs2, hb2⟩
    have HS2 := Lib.hid hs2
    have HB2 := Lib.hid (HB1.out.trans (hb2.mono HB1.out.size))
    have HSl := Lib.hid ((HS.out.next HB2.out (Nat.le_refl _)).more HB2.out.size)
    have HSo := Lib.hid ((HSO.out.next hb2 (Nat.le_refl _)).more hb2.size)
    clear hs2 hb2 HC
    have HPL := Lib.hid (sortsD_len o l)
    have HC := Lib.hid (refSortD_any o A c l w2 HSl.out hl HZ.out)
    go_wp2_with fail
    refine HC.out.mono ?_
    rintro e w3 ⟨v3, rfl, ho3, hb3⟩
    obtain ⟨A3, c3, rfl, hs3, _⟩ := ho3.form
    have HS3 := Lib.hid hs3
    have HS23 := Lib.hid ((HS2.out.next hb3 (Nat.le_refl _)).more hb3.size)
    have HSl3 := Lib.hid ((HSl.out.next hb3 (Nat.le_refl _)).more hb3.size)
    have HSo3 := Lib.hid ((HSo.out.next hb3 (Nat.le_refl _)).more hb3.size)
    have HB3 := Lib.hid (HB2.out.trans (hb3.mono HB2.out.size))
    clear hs3 hb3 ho3 HC
    go_wp2_with fail
    refine (sameD_any A2 A3 c2 c3 (sortsD o l) w3 w3.heap.size HS23.out HS3.out (by have := HPL.out; omega)).mono ?_
    rintro e w4 ⟨rfl, n4, rfl⟩
    go_wp2_with fail
    refine (sameD_any A1 A c1 c l _ w3.heap.size (HSo3.out.next (below_drewN (n0 := w3.heap.size) w3 n4) (Nat.le_refl _)) (HSl3.out.next (below_drewN (n0 := w3.heap.size) w3 n4) (Nat.le_refl _)) (by omega)).mono ?_
    rintro e w5 ⟨rfl, n5, rfl⟩
    have HBE : Hid (Below w.heap.size w ((w3.drewN n4).drewN n5)) := HB3.out.trans ((below_drewN w3 n4).trans (below_drewN _ n5))
    rw [World.drewN_drewN] at HBE
    go_wp2
    go_ret
    exact ⟨rfl, HBE.out⟩
  · go_wp2
    go_ret
    exact ⟨rfl, Below.refl _ _⟩
end Go.Proofs.Ytkoknogefmfmnaa
