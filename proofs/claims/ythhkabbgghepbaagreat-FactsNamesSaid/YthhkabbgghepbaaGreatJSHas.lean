/-
  CONTRACT: Has.
-/
import Derived.RangeFuncBox
import Derived.Test.YthhkabbgghepbaaGreatJSSet
namespace Go.Proofs.YthhkabbgghepbaaGreat
open Go.RowKit

def inS (s : Sp) (t : Int) : Bool := decide (s.1 ≤ t) && decide (t < s.2)
theorem innB_any (l : List Sp) (t : Int) : innB l t = l.any fun s => inS s t := by
  rw [Bool.eq_iff_iff]
  unfold innB inS
  rw [decide_eq_true_iff, List.any_eq_true]
  constructor
  · rintro ⟨s, h, h1, h2⟩; exact ⟨s, h, by simp [h1, h2]⟩
  · rintro ⟨s, h, h1⟩
    simp only [Bool.and_eq_true, decide_eq_true_eq] at h1
    exact ⟨s, h, h1.1, h1.2⟩
set_option maxHeartbeats 1000000 in
theorem has1_any (x y t : Int) (Bt : Nat) (w : World) (v : Bool) (hv : inS (x, y) t = v) (hb : w.cell? ⟨Bt, 0, none⟩ = some (.int .i64 t)) (hlt : Bt < w.heap.size) :
    Calls Tryz.prog 81 #[.agg #[.int .i64 x, .int .i64 y], .pointer (some ⟨Bt, 0, none⟩)] w fun e w' => e = .returned (.bool v) ∧ Below w.heap.size w w' := by
  have b0 : (w.alloc (.cells #[.int .i64 x, .int .i64 y] 53)).cell? ⟨Bt, 0, none⟩ = some (.int .i64 t) := (World.cell?_alloc_lt _ _ ⟨Bt, 0, none⟩ hlt).trans hb
  subst hv
  clear hb
  by_cases h1 : x ≤ t
  · by_cases h2 : t < y
    · have e : Hid (inS (x, y) t = true) := by show _ = _; unfold inS; simp [h1, h2]
      go_enter Tryz.func81, Tryz.ntmps81
      go_wp2
      go_ret
      exact ⟨by rw [e.out]; rfl, (Below.refl _ _).alloc (Nat.le_refl _) _⟩
    · have e : Hid (inS (x, y) t = false) := by show _ = _; unfold inS; simp [h2]
      go_enter Tryz.func81, Tryz.ntmps81
      go_wp2
      go_ret
      exact ⟨by rw [e.out]; rfl, (Below.refl _ _).alloc (Nat.le_refl _) _⟩
  · have e : Hid (inS (x, y) t = false) := by show _ = _; unfold inS; simp [h1]
    have h1' : decide (x ≤ t) = false := decide_eq_false h1
    go_enter Tryz.func81, Tryz.ntmps81
    go_wp2
    go_ret
    exact ⟨by rw [e.out]; rfl, (Below.refl _ _).alloc (Nat.le_refl _) _⟩

set_option maxRecDepth 100000 in
set_option maxHeartbeats 1000000 in
theorem indexS_any (A : Option Addr) (c : Nat) (l : List Sp) (t : Int) (Bt : Nat) (w : World) (hs : SlS w w.heap.size A l) (hl : l.length ≤ 100000) (hb : w.cell? ⟨Bt, 0, none⟩ = some (.int .i64 t)) (hlt : Bt < w.heap.size) :
    Calls Tryz.prog 111 #[.slice A l.length c, .func (.func 81) #[] #[.pointer (some ⟨Bt, 0, none⟩)]] w fun e w' => (∃ k : Int, e = .returned (.int .i64 k) ∧ (innB l t = true ∧ 0 ≤ k ∨ innB l t = false ∧ k = -1)) ∧ Below w.heap.size w w' := by
  have HS := Lib.hid hs
  have HT := Lib.hid hb
  clear hs hb
  go_enter Tryz.func111, Tryz.ntmps111
  go_wp2
  go_loopg [5, 8] l.length (fun g _ y wr => ∃ j : Nat, y = .int .i64 j ∧ j + g = l.length ∧ Hid ((l.take j).any (fun s => inS s t) = false) ∧ Hid (Below w.heap.size w wr))
  case atStart => exact ⟨0, rfl, by omega, rfl, Below.refl _ _⟩
  case round =>
    obtain ⟨j, rfl, hj, HN, HB⟩ := hrel
    cases gk with
    | zero =>
      have hjz : ¬ ((j : Int) < (l.length : Int)) := by omega
      have HE : Hid (innB l t = false) := by
        show _ = _
        rw [innB_any]
        have := HN.out
        rwa [List.take_of_length_le (by omega)] at this
      go_wp2
      go_ret
      exact ⟨⟨_, rfl, .inr ⟨HE.out, rfl⟩⟩, HB.out⟩
    | succ g =>
      have hjz : (j : Int) < (l.length : Int) := by omega
      have hjn : j < l.length := by omega
      obtain ⟨b, o, rfl, _, hp⟩ := (HS.out.next HB.out (Nat.le_refl _)).at_ hjn
      have hts := List.take_succ_eq_append_getElem hjn
      obtain ⟨⟨x, y⟩, hse⟩ : ∃ s, l[j] = s := ⟨_, rfl⟩
      have hmem : (x, y) ∈ l := by rw [← hse]; exact List.getElem_mem hjn
      rw [hse] at hp hts
      have c0 := hp.c0
      have c1 := hp.c1
      have HTS := Lib.hid hts
      have HM := Lib.hid hmem
      have hbz := HB.out.size
      have hbt := (HB.out.cell (p := ⟨Bt, 0, none⟩) hlt).trans HT.out
      have HBT := Lib.hid hbt
      clear hp hse hts hbt hmem
      cases hv : inS (x, y) t
      · have HW := Lib.hid (fun X h1 h2 => has1_any x y t Bt X false hv h1 h2)
        have HST : Hid ((l.take (j + 1)).any (fun s => inS s t) = false) := by show _ = _; rw [HTS.out, List.any_append, HN.out]; simp [hv]
        clear hv
        go_wp2_with fail
        refine (HW.out _ HBT.out (by omega)).mono ?_
        rintro e w9 ⟨rfl, hb9⟩
        have HB9 := Lib.hid (HB.out.trans (hb9.mono hbz))
        clear hb9 c0 c1
        go_wp2
        go_roundg g
        case measure => omega
        case rel => exact ⟨j + 1, by go_num, by omega, HST.out, HB9.out⟩
      · have HW := Lib.hid (fun X h1 h2 => has1_any x y t Bt X true hv h1 h2)
        have HE : Hid (innB l t = true) := by show _ = _; rw [innB_any, List.any_eq_true]; exact ⟨_, HM.out, hv⟩
        clear hv
        go_wp2_with fail
        refine (HW.out _ HBT.out (by omega)).mono ?_
        rintro e w9 ⟨rfl, hb9⟩
        have HB9 := Lib.hid (HB.out.trans (hb9.mono hbz))
        clear hb9 c0 c1
        go_wp2
        go_ret
        exact ⟨⟨_, rfl, .inl ⟨HE.out, by omega⟩⟩, HB9.out⟩

set_option maxHeartbeats 1000000 in
theorem containsS_any (A : Option Addr) (c : Nat) (l : List Sp) (t : Int) (Bt : Nat) (w : World) (hs : SlS w w.heap.size A l) (hl : l.length ≤ 100000) (hb : w.cell? ⟨Bt, 0, none⟩ = some (.int .i64 t)) (hlt : Bt < w.heap.size) :
    Calls Tryz.prog 80 #[.slice A l.length c, .func (.func 81) #[] #[.pointer (some ⟨Bt, 0, none⟩)]] w fun e w' => e = .returned (.bool (innB l t)) ∧ Below w.heap.size w w' := by
  have HC := Lib.hid (indexS_any A c l t Bt w hs hl hb hlt)
  clear hs hb
  go_enter Tryz.func80, Tryz.ntmps80
  go_wp2_with fail
  refine HC.out.mono ?_
  rintro e w' ⟨⟨k, rfl, h⟩, hb⟩
  have HB := Lib.hid hb
  rcases h with ⟨h1, h2⟩ | ⟨h1, rfl⟩
  · have HE := Lib.hid h1
    have hd : decide ((0 : Int) ≤ k) = true := decide_eq_true h2
    clear h1 hb
    go_wp2
    go_ret
    exact ⟨by rw [HE.out]; rfl, HB.out⟩
  · have HE := Lib.hid h1
    clear h1 hb
    go_wp2
    go_ret
    exact ⟨by rw [HE.out]; rfl, HB.out⟩

set_option maxHeartbeats 1000000 in
theorem hasS_any (A : Option Addr) (c : Nat) (l : List Sp) (t : Int) (w : World) (hs : SlS w w.heap.size A l) (hl : l.length ≤ 100000) :
    Calls Tryz.prog 52 #[.slice A l.length c, .int .i64 t] w fun e w' => e = .returned (.bool (setB l && innB l t)) ∧ Below w.heap.size w w' := by
  have HB0 : Hid (Below w.heap.size w (w.alloc (.cells #[.int .i64 t] 2))) := (Below.refl _ _).alloc (Nat.le_refl _) _
  have HX := Lib.hid (Boxed.new w 2 (.int .i64 t))
  have HS := Lib.hid hs
  clear hs
  go_enter Tryz.func52, Tryz.ntmps52
  cases hv : setB l
  · have HIS := Lib.hid (fun X h => by have h9 := isSet_any A c l X h hl; rw [hv] at h9; exact h9)
    clear hv
    go_wp2_with fail
    refine (HIS.out _ ((HS.out.next HB0.out (Nat.le_refl _)).more HB0.out.size)).mono ?_
    rintro e w1 ⟨rfl, hb1⟩
    have HB1 := Lib.hid (HB0.out.trans (hb1.mono HB0.out.size))
    clear hb1
    go_wp2
    go_ret
    exact ⟨rfl, HB1.out⟩
  · have HIS := Lib.hid (fun X h => by have h9 := isSet_any A c l X h hl; rw [hv] at h9; exact h9)
    clear hv
    go_wp2_with fail
    refine (HIS.out _ ((HS.out.next HB0.out (Nat.le_refl _)).more HB0.out.size)).mono ?_
    rintro e w1 ⟨rfl, hb1⟩
    have HB1 := Lib.hid (HB0.out.trans (hb1.mono HB0.out.size))
    have HX1 := Lib.hid (show Boxed w1 _ _ _ from (hb1.block w.heap.size (by simp)).trans HX.out)
    have HS1 := Lib.hid ((HS.out.next HB1.out (Nat.le_refl _)).more HB1.out.size)
    clear hb1
    go_wp2_with fail
    refine (containsS_any A c l t w.heap.size _ HS1.out hl HX1.out.cell HX1.out.lt).mono ?_
    rintro e w2 ⟨rfl, hb2⟩
    have HB2 := Lib.hid (HB1.out.trans (hb2.mono HB1.out.size))
    clear hb2
    go_wp2
    go_ret
    exact ⟨rfl, HB2.out⟩
end Go.Proofs.YthhkabbgghepbaaGreat
