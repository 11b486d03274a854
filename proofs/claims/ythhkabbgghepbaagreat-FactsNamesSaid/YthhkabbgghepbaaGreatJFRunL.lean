/-
  CONTRACTS: ofDatom, Fold's closures, ContainsFunc over datoms, runs.
-/
import Derived.Test.YthhkabbgghepbaaGreatJDSorted
import Derived.Test.YthhkabbgghepbaaGreatJFFoldP
import Derived.Test.YthhkabbgghepbaaGreatJOWords
namespace Go.Proofs.YthhkabbgghepbaaGreat
open Go.RowKit Go.Shelf

/-- a triple as a value -/
def triV (d : Dat) : Value := .agg #[.int .i64 d.e, .int .i64 d.a, .int .i64 d.k, .int .i64 d.m, .string d.s]
set_option maxRecDepth 100000 in
theorem ofDatom_any (d : Dat) (w : World) : Calls Tryz.prog 32 #[.agg #[.int .i64 d.e, .int .i64 d.a, .int .i64 d.k, .int .i64 d.m, .string d.s, .int .i64 d.t, .bool d.add, .int .i64 d.fr, .int .i64 d.til]] w fun e w' => e = .returned (triV d) ∧ Below w.heap.size w w' := by
  go_enter Tryz.func32, Tryz.ntmps32
  go_wp2
  refine bodyPost_ret (v := triV d) ?_ rfl ⟨rfl, ?_⟩
  · rw [results_cell_only rfl]; unfold triV; go_simp
  · exact ((Below.refl _ w).alloc (Nat.le_refl _) _).alloc (by simp) _
set_option maxRecDepth 100000 in
theorem fold2_any (d : Dat) (w : World) : Calls Tryz.prog 34 #[.agg #[.int .i64 d.e, .int .i64 d.a, .int .i64 d.k, .int .i64 d.m, .string d.s, .int .i64 d.t, .bool d.add, .int .i64 d.fr, .int .i64 d.til]] w fun e w' => e = .returned (.int .i64 d.t) ∧ Below w.heap.size w w' := by
  go_enter Tryz.func34, Tryz.ntmps34
  go_wp2
  go_ret
  exact ⟨rfl, (Below.refl _ w).alloc (Nat.le_refl _) _⟩
set_option maxRecDepth 100000 in
theorem fold1_any (d : Dat) (v : Bool) (hv : mayD d = v) (w : World) (hs : d.s.size ≤ maxLen) : Calls Tryz.prog 28 #[.agg #[.int .i64 d.e, .int .i64 d.a, .int .i64 d.k, .int .i64 d.m, .string d.s, .int .i64 d.t, .bool d.add, .int .i64 d.fr, .int .i64 d.til]] w fun e w' => e = .returned (.bool (!v)) ∧ Below w.heap.size w w' := by
  have HC := Lib.hid (fun w => dCheck_any d w hs)
  rw [hv] at HC
  clear hs hv
  go_enter Tryz.func28, Tryz.ntmps28
  go_wp2_with fail
  refine (HC.out _).mono ?_
  rintro e w1 ⟨rfl, hb⟩
  have HB := Lib.hid (((Below.refl _ w).alloc (Nat.le_refl _) (.cells #[.int .i64 d.e, .int .i64 d.a, .int .i64 d.k, .int .i64 d.m, .string d.s, .int .i64 d.t, .bool d.add, .int .i64 d.fr, .int .i64 d.til] 46)).trans (hb.mono (by simp)))
  clear hb HC
  cases v
  · go_wp2
    go_ret
    exact ⟨rfl, HB.out⟩
  · go_wp2
    go_ret
    exact ⟨rfl, HB.out⟩
def notMay (l : List Dat) : Bool := l.any fun d => !mayD d
set_option maxRecDepth 100000 in
set_option maxHeartbeats 1000000 in
theorem indexFD_any (A : Option Addr) (c : Nat) (l : List Dat) (w : World) (hs : SlD w w.heap.size A l) (hl : l.length * 80 ≤ 140737488355328) (hz : ∀ d ∈ l, d.s.size ≤ maxLen) :
    Calls Tryz.prog 55 #[.slice A l.length c, .func (.func 28) #[] #[]] w fun e w' => (∃ k : Int, e = .returned (.int .i64 k) ∧ (notMay l = true ∧ 0 ≤ k ∨ notMay l = false ∧ k = -1)) ∧ Below w.heap.size w w' := by
  have HS := Lib.hid hs
  have HZ := Lib.hid hz
  clear hs hz
  go_enter Tryz.func55, Tryz.ntmps55
  go_wp2
  go_loopg [5, 8] l.length (fun g _ y wr => ∃ j : Nat, y = .int .i64 j ∧ j + g = l.length ∧ Hid ((l.take j).any (fun d => !mayD d) = false) ∧ Hid (Below w.heap.size w wr))
  case atStart => exact ⟨0, rfl, by omega, rfl, Below.refl _ _⟩
  case round =>
    obtain ⟨j, rfl, hj, HN, HB⟩ := hrel
    cases gk with
    | zero =>
      have hjz : ¬ ((j : Int) < (l.length : Int)) := by omega
      have HE : Hid (notMay l = false) := by
        show _ = _
        unfold notMay
        have := HN.out
        rwa [List.take_of_length_le (by omega)] at this
      go_wp2
      go_ret
      exact ⟨⟨_, rfl, .inr ⟨HE.out, rfl⟩⟩, HB.out⟩
    | succ g =>
      have hjz : (j : Int) < (l.length : Int) := by omega
      have hjn : j < l.length := by omega
      obtain ⟨b, o, rfl, _, hp⟩ := (HS.out.next HB.out (Nat.le_refl _)).at_ hjn
      have hts := List.take_succ_eq_append_getElem hjn
      obtain ⟨d, hse⟩ : ∃ s, l[j] = s := ⟨_, rfl⟩
      have hmem : d ∈ l := by rw [← hse]; exact List.getElem_mem hjn
      rw [hse] at hp hts
      have c0 := hp.c0
      have c1 := hp.c1
      have c2 := hp.c2
      have c3 := hp.c3
      have c4 := hp.c4
      have c5 := hp.c5
      have c6 := hp.c6
      have c7 := hp.c7
      have c8 := hp.c8
      have HTS := Lib.hid hts
      have HM := Lib.hid hmem
      have hbz := HB.out.size
      clear hp hse hts hmem
      cases hv : mayD d
      · have HW := Lib.hid (fun X => fold1_any d false hv X (HZ.out d HM.out))
        have HE : Hid (notMay l = true) := by show _ = _; unfold notMay; rw [List.any_eq_true]; exact ⟨_, HM.out, by simp [hv]⟩
        clear hv
        go_wp2_with fail
        refine (HW.out _).mono ?_
        rintro e w9 ⟨rfl, hb9⟩
        have HB9 := Lib.hid (HB.out.trans (hb9.mono hbz))
        clear hb9 c0 c1 c2 c3 c4 c5 c6 c7 c8
        go_wp2
        go_ret
        exact ⟨⟨_, rfl, .inl ⟨HE.out, by omega⟩⟩, HB9.out⟩
      · have HW := Lib.hid (fun X => fold1_any d true hv X (HZ.out d HM.out))
        have HST : Hid ((l.take (j + 1)).any (fun d => !mayD d) = false) := by show _ = _; rw [HTS.out, List.any_append, HN.out]; simp [hv]
        clear hv
        go_wp2_with fail
        refine (HW.out _).mono ?_
        rintro e w9 ⟨rfl, hb9⟩
        have HB9 := Lib.hid (HB.out.trans (hb9.mono hbz))
        clear hb9 c0 c1 c2 c3 c4 c5 c6 c7 c8
        go_wp2
        go_roundg g
        case measure => omega
        case rel => exact ⟨j + 1, by go_num, by omega, HST.out, HB9.out⟩

set_option maxHeartbeats 1000000 in
theorem containsFD_any (A : Option Addr) (c : Nat) (l : List Dat) (w : World) (hs : SlD w w.heap.size A l) (hl : l.length * 80 ≤ 140737488355328) (hz : ∀ d ∈ l, d.s.size ≤ maxLen) :
    Calls Tryz.prog 27 #[.slice A l.length c, .func (.func 28) #[] #[]] w fun e w' => e = .returned (.bool (notMay l)) ∧ Below w.heap.size w w' := by
  have HC := Lib.hid (indexFD_any A c l w hs hl hz)
  clear hs hz
  go_enter Tryz.func27, Tryz.ntmps27
  go_wp2_with fail
  refine HC.out.mono ?_
  rintro e w' ⟨⟨k, rfl, h⟩, hb⟩
  have HB := Lib.hid hb
  rcases h with ⟨h1, h2⟩ | ⟨h1, rfl⟩
  · have HE := Lib.hid h1
    have hd : decide ((0 : Int) ≤ k) = true := decide_eq_true h2
    clear h1 hb
    go_wp2
    go_ret
    exact ⟨by rw [HE.out]; rfl, HB.out⟩
  · have HE := Lib.hid h1
    clear h1 hb
    go_wp2
    go_ret
    exact ⟨by rw [HE.out]; rfl, HB.out⟩


/-- the world with the iterator's two boxes -/
def boxRT (w : World) (A : Option Addr) (n c : Nat) : World := (w.alloc (.cells #[.slice A n c] 22)).alloc (.cells #[.func (.func 32) #[] #[]] 73)
set_option maxRecDepth 100000 in
theorem runsT_any (A : Option Addr) (n c : Nat) (w : World) : Calls Tryz.prog 30 #[.slice A n c, .func (.func 32) #[] #[]] w fun e w' =>
    e = .returned (.func (.func 57) #[] #[.pointer (some ⟨w.heap.size, 0, none⟩), .pointer (some ⟨w.heap.size + 1, 0, none⟩)]) ∧ w' = boxRT w A n c := by
  go_enter Tryz.func30, Tryz.ntmps30
  go_wp2
  go_ret
  exact ⟨rfl, rfl⟩

/-- the world with the iterator's two boxes -/
def boxRI (w : World) (A : Option Addr) (n c : Nat) : World := (w.alloc (.cells #[.slice A n c] 22)).alloc (.cells #[.func (.func 34) #[] #[]] 78)
set_option maxRecDepth 100000 in
theorem runsI_any (A : Option Addr) (n c : Nat) (w : World) : Calls Tryz.prog 33 #[.slice A n c, .func (.func 34) #[] #[]] w fun e w' =>
    e = .returned (.func (.func 63) #[] #[.pointer (some ⟨w.heap.size, 0, none⟩), .pointer (some ⟨w.heap.size + 1, 0, none⟩)]) ∧ w' = boxRI w A n c := by
  go_enter Tryz.func33, Tryz.ntmps33
  go_wp2
  go_ret
  exact ⟨rfl, rfl⟩
end Go.Proofs.YthhkabbgghepbaaGreat
