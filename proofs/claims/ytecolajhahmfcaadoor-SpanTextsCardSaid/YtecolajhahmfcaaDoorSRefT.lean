/-
  CONTRACT of the document's answer: a set's Text.
-/
import Derived.Test.YtecolajhahmfcaaDoorSDig
import Derived.Test.YtecolajhahmfcaaDoorRegion
import Derived.StillTailTactics
namespace Go.Proofs.YtecolajhahmfcaaDoor
open Go.RowKit Go.Shelf

def TBox (w : World) (b o : Nat) (s : Sp) (W : World) : Prop := SpAt W b o s ∧ b < w.heap.size ∧ Below w.heap.size w W ∧ w.heap.size ≤ W.heap.size
theorem TBox.next {w W W' : World} {b o : Nat} {s : Sp} (h : TBox w b o s W) (hb : Below W.heap.size W W') : TBox w b o s W' := by
  obtain ⟨h1, h2, h3, h4⟩ := h
  exact ⟨h1.next hb (by omega), h2, h3.trans (hb.mono h4), by have := hb.size; omega⟩
theorem TBox.drew {w W : World} {b o : Nat} {s : Sp} (h : TBox w b o s W) : TBox w b o s W.drew := by
  obtain ⟨h1, h2, h3, h4⟩ := h
  exact ⟨⟨h1.c0, h1.c1⟩, h2, below_ind h3 1, h4⟩
theorem cat_mk (a b : ByteArray) : (a ++ b).data.toList = a.data.toList ++ b.data.toList := by simp
/-- one more span's text, put together -/
theorem txt_more {r E1 E2 : ByteArray} {L : List UInt8} {s : Sp} (hr : r.data.toList = L) (h1 : E1.data.toList = endT s.1) (h2 : E2.data.toList = endT s.2) :
    (r ++ ⟨#[91]⟩ ++ E1 ++ ⟨#[44]⟩ ++ E2 ++ ⟨#[41]⟩ : ByteArray).data.toList = L ++ oneT s := by
  simp only [cat_mk, hr, h1, h2]
  unfold oneT
  simp
theorem refSet_is (A : Option Addr) (c : Nat) (l : List Sp) (w : World) (v : Bool) (hv : setB l = v) (hs : SlS w w.heap.size A l) (hl : l.length ≤ 1048576) :
    Calls Tryd.prog 13 #[.slice A l.length c] w fun e w' => e = .returned (.bool v) ∧ Below w.heap.size w w' := by
  subst hv
  exact (refSet_any A c l w w.heap.size hs hl).mono fun e w' ⟨h, n, hw⟩ => ⟨h, by subst hw; exact below_ind (Below.refl _ _) n⟩

set_option maxRecDepth 100000 in
set_option maxHeartbeats 4000000 in
theorem refTextS_yes (A : Option Addr) (c : Nat) (l : List Sp) (w : World) (hs : SlS w w.heap.size A l) (hl : l.length ≤ 6000) (hok : AllOk l) (hset : setB l = true) (hn : l ≠ []) :
    Calls Tryd.prog 6 #[.slice A l.length c] w fun e w' => e = .returned (.tuple #[.string ⟨(bodyT l).toArray⟩, .int .i64 0]) ∧ Below w.heap.size w w' := by
  have hI := refSet_is A c l w true hset hs (by omega)
  have HS := Lib.hid hs
  have HI := Lib.hid hI
  have HOK := Lib.hid hok
  have hl0 : 0 < l.length := List.length_pos_iff.2 hn
  have hl0' : ((l.length : Int) == 0) = false := by rw [beq_eq_false_iff_ne]; omega
  have hmx : 1000000 ≤ maxLen := by decide
  clear hs hok hset hI hn
  go_enter Tryd.func6, Tryd.ntmps6
  go_wp2_with fail
  refine HI.out.mono ?_
  rintro e w1 ⟨rfl, hb1⟩
  have HB1 := Lib.hid hb1
  clear hb1 HI
  go_wp2
  go_loopg [5, 6] l.length (fun g x y wr => ∃ (j : Nat) (r : ByteArray), x = .string r ∧ y = .int .i64 j ∧ j + g = l.length ∧ Hid (r.data.toList = bodyT (l.take j)) ∧ Hid (Below w.heap.size w wr))
  case atStart => exact ⟨0, ⟨#[]⟩, rfl, rfl, by omega, rfl, HB1.out⟩
  case round =>
    obtain ⟨j, r, rfl, rfl, hj, HR, HB⟩ := hrel
    cases gk with
    | zero =>
      have hjz : ¬ ((j : Int) < (l.length : Int)) := by omega
      have hle : l.take j = l := List.take_of_length_le (by omega)
      have HX : Hid ((⟨(bodyT l).toArray⟩ : ByteArray) = r) := by
        show _ = _
        rw [← hle, ← HR.out]
      go_wp2
      go_ret2
      exact ⟨by rw [HX.out]; rfl, HB.out⟩
    | succ g =>
      have hjz : (j : Int) < (l.length : Int) := by omega
      have hjn : j < l.length := by omega
      have hsr := HS.out.next HB.out (Nat.le_refl _)
      obtain ⟨b, o, hA, hbw, hp⟩ := hsr.at_ hjn
      obtain ⟨s, hse⟩ : ∃ s, l[j] = s := ⟨_, rfl⟩
      have hsg : l[j]? = some s := by rw [List.getElem?_eq_getElem hjn, hse]
      rw [hse] at hp
      have hm := body_more hsg
      have HSO := Lib.hid (HOK.out s (List.mem_of_getElem? hsg))
      have hrz : r.size ≤ 276000 := by
        have h1 : r.data.toList.length = r.size := Array.length_toList
        rw [HR.out] at h1
        rw [← h1]
        refine Nat.le_trans (bodyT_len (fun x hx => HOK.out x (List.mem_of_mem_take hx))) ?_
        rw [List.length_take]; omega
      have HA := Lib.hid hA
      subst hA
      obtain ⟨x, y⟩ := s
      have HX : Hid (TBox w b (o + j * 2) (x, y) wr) := ⟨hp, hbw, HB.out, HB.out.size⟩
      clear hp hse hsg hsr
      cases j with
      | zero =>
        have HM : Hid (bodyT (l.take 0) ++ oneT (x, y) = bodyT (l.take (0 + 1))) := hm.symm
        have HRR := HR
        simp only [Nat.zero_mul, Nat.add_zero] at HX
        clear hm
        obtain ⟨E1, hE1⟩ : ∃ E : ByteArray, (⟨(endT x).toArray⟩ : ByteArray) = E := ⟨_, rfl⟩
        obtain ⟨E2, hE2⟩ : ∃ E : ByteArray, (⟨(endT y).toArray⟩ : ByteArray) = E := ⟨_, rfl⟩
        have hl1 := (endT_len HSO.out.1).2
        have hl2 := (endT_len HSO.out.2).2
        have z1 : E1.size ≤ 21 := by rw [← hE1, size_mk]; exact hl1
        have z2 : E2.size ≤ 21 := by rw [← hE2, size_mk]; exact hl2
        have HNEW : Hid ((r ++ ⟨#[91]⟩ ++ E1 ++ ⟨#[44]⟩ ++ E2 ++ ⟨#[41]⟩ : ByteArray).data.toList = bodyT (l.take (0 + 1))) := by
          show _ = _
          rw [txt_more (s := (x, y)) HRR.out (by rw [← hE1]) (by rw [← hE2])]
          exact HM.out
        have m1 : (r ++ ⟨#[91]⟩ : ByteArray).size ≤ maxLen := by rw [ByteArray.size_append]; show _ + 1 ≤ _; omega
        have m2 : (r ++ ⟨#[91]⟩ ++ E1 : ByteArray).size ≤ maxLen := by rw [ByteArray.size_append, ByteArray.size_append]; show _ + 1 + _ ≤ _; omega
        have m3 : (r ++ ⟨#[91]⟩ ++ E1 ++ ⟨#[44]⟩ : ByteArray).size ≤ maxLen := by rw [ByteArray.size_append, ByteArray.size_append, ByteArray.size_append]; show _ + 1 + _ + 1 ≤ _; omega
        have m4 : (r ++ ⟨#[91]⟩ ++ E1 ++ ⟨#[44]⟩ ++ E2 : ByteArray).size ≤ maxLen := by rw [ByteArray.size_append, ByteArray.size_append, ByteArray.size_append, ByteArray.size_append]; show _ + 1 + _ + 1 + _ ≤ _; omega
        have m5 : (r ++ ⟨#[91]⟩ ++ E1 ++ ⟨#[44]⟩ ++ E2 ++ ⟨#[41]⟩ : ByteArray).size ≤ maxLen := by rw [ByteArray.size_append, ByteArray.size_append, ByteArray.size_append, ByteArray.size_append, ByteArray.size_append]; show _ + 1 + _ + 1 + _ + 1 ≤ _; omega
        have n1 : r.size ≤ 9223372036854775806 := by omega
        have n2 : r.size + 1 + E1.size ≤ 9223372036854775807 := by omega
        have n3 : r.size + 1 + E1.size ≤ 9223372036854775806 := by omega
        have n4 : r.size + 1 + E1.size + 1 + E2.size ≤ 9223372036854775807 := by omega
        have n5 : r.size + 1 + E1.size + 1 + E2.size ≤ 9223372036854775806 := by omega
        have HE1 := Lib.hid hE1
        have HE2 := Lib.hid hE2
        clear hE1 hE2 hl1 hl2 HRR HM z1 z2 hrz
        go_wp2
        refine wp_region_held_drew (S := TBox w b o (x, y)) (by kernel_rfl) HX.out.drew (fun hHeld => ?_)
        refine takeV 0 (some 21) ((.string r)) rfl rfl (by kernel_rfl) (by kernel_rfl) (by kernel_rfl) (fun _ _ _ h => h) (by rfl) (by (intro _w _hSw; (try dsimp only at _hSw); go_simp)) (by assumption) ?_
        simp only [Act.put, List.setIfInBounds_toArray, List.set_cons_zero, List.set_cons_succ]
        refine takeV 1 (some 22) ((.string (r ++ ⟨#[91]⟩))) rfl rfl (by kernel_rfl) (by kernel_rfl) (by kernel_rfl) (fun _ _ _ h => h) (by rfl) (by (intro _w _hSw; (try dsimp only at _hSw); go_simp)) (by assumption) ?_
        simp only [Act.put, List.setIfInBounds_toArray, List.set_cons_zero, List.set_cons_succ]
        refine takeV 2 (some 23) ((.slice (some ⟨b, o, none⟩) l.length c)) rfl rfl (by kernel_rfl) (by kernel_rfl) (by kernel_rfl) (fun _ _ _ h => h) (by rfl) (by (intro _w _hSw; (try dsimp only at _hSw); go_simp)) (by assumption) ?_
        simp only [Act.put, List.setIfInBounds_toArray, List.set_cons_zero, List.set_cons_succ]
        refine takeV 3 (some 24) ((.int .i64 0)) rfl rfl (by kernel_rfl) (by kernel_rfl) (by kernel_rfl) (fun _ _ _ h => h) (by rfl) (by (intro _w _hSw; (try dsimp only at _hSw); go_simp)) (by assumption) ?_
        simp only [Act.put, List.setIfInBounds_toArray, List.set_cons_zero, List.set_cons_succ]
        refine takeV 4 (some 25) ((.pointer (some ⟨b, o, none⟩))) rfl rfl (by kernel_rfl) (by kernel_rfl) (by kernel_rfl) (fun _ _ _ h => h) (by rfl) (by (intro _w _hSw; (try dsimp only at _hSw); go_simp)) (by assumption) ?_
        simp only [Act.put, List.setIfInBounds_toArray, List.set_cons_zero, List.set_cons_succ]
        refine takeV 5 (some 26) ((.pointer (some ⟨b, o, none⟩))) rfl rfl (by kernel_rfl) (by kernel_rfl) (by kernel_rfl) (fun _ _ _ h => h) (by rfl) (by (intro _w _hSw; (try dsimp only at _hSw); go_simp)) (by assumption) ?_
        simp only [Act.put, List.setIfInBounds_toArray, List.set_cons_zero, List.set_cons_succ]
        refine takeV 6 (some 27) ((.int .i64 x)) rfl rfl (by kernel_rfl) (by kernel_rfl) (by kernel_rfl) (fun _ _ _ h => h) (by rfl) (by (intro _w hSw; have q0 := hSw.1.c0; clear hSw; go_simp)) (by assumption) ?_
        simp only [Act.put, List.setIfInBounds_toArray, List.set_cons_zero, List.set_cons_succ]
        refine takeV 10 (some 31) ((.slice (some ⟨b, o, none⟩) l.length c)) rfl rfl (by kernel_rfl) (by kernel_rfl) (by kernel_rfl) (fun _ _ _ h => h) (by rfl) (by (intro _w _hSw; (try dsimp only at _hSw); go_simp)) (by assumption) ?_
        simp only [Act.put, List.setIfInBounds_toArray, List.set_cons_zero, List.set_cons_succ]
        refine takeV 11 (some 32) ((.int .i64 0)) rfl rfl (by kernel_rfl) (by kernel_rfl) (by kernel_rfl) (fun _ _ _ h => h) (by rfl) (by (intro _w _hSw; (try dsimp only at _hSw); go_simp)) (by assumption) ?_
        simp only [Act.put, List.setIfInBounds_toArray, List.set_cons_zero, List.set_cons_succ]
        refine takeV 12 (some 33) ((.pointer (some ⟨b, o, none⟩))) rfl rfl (by kernel_rfl) (by kernel_rfl) (by kernel_rfl) (fun _ _ _ h => h) (by rfl) (by (intro _w _hSw; (try dsimp only at _hSw); go_simp)) (by assumption) ?_
        simp only [Act.put, List.setIfInBounds_toArray, List.set_cons_zero, List.set_cons_succ]
        refine takeV 13 (some 34) ((.pointer (some ⟨b, o + 1, none⟩))) rfl rfl (by kernel_rfl) (by kernel_rfl) (by kernel_rfl) (fun _ _ _ h => h) (by rfl) (by (intro _w _hSw; (try dsimp only at _hSw); go_simp)) (by assumption) ?_
        simp only [Act.put, List.setIfInBounds_toArray, List.set_cons_zero, List.set_cons_succ]
        refine takeV 14 (some 35) ((.int .i64 y)) rfl rfl (by kernel_rfl) (by kernel_rfl) (by kernel_rfl) (fun _ _ _ h => h) (by rfl) (by (intro _w hSw; have q0 := hSw.1.c1; clear hSw; go_simp)) (by assumption) ?_
        simp only [Act.put, List.setIfInBounds_toArray, List.set_cons_zero, List.set_cons_succ]
        refine callV 7 rfl (by kernel_rfl) (by rfl) (fun K hK => ?_)
        go_simp
        go_at_call 14
        refine (refEnd_any x HSO.out.1 _).mono ?_
        rintro e w3 ⟨rfl, hb3⟩
        rw [HE1.out]
        have g3 := hHeld.next hb3
        refine hK.out _ _ g3 (fun hHeld3 => ?_)
        clear hK g3 K hHeld hb3
        try simp only [Act.put, List.setIfInBounds_toArray, List.set_cons_zero, List.set_cons_succ]
        refine takeV 8 (some 29) ((.string (r ++ ⟨#[91]⟩ ++ E1))) rfl rfl (by kernel_rfl) (by kernel_rfl) (by kernel_rfl) (fun _ _ _ h => h) (by rfl) (by (intro _w _hSw; (try dsimp only at _hSw); go_simp)) (by assumption) ?_
        simp only [Act.put, List.setIfInBounds_toArray, List.set_cons_zero, List.set_cons_succ]
        refine takeV 9 (some 30) ((.string (r ++ ⟨#[91]⟩ ++ E1 ++ ⟨#[44]⟩))) rfl rfl (by kernel_rfl) (by kernel_rfl) (by kernel_rfl) (fun _ _ _ h => h) (by rfl) (by (intro _w _hSw; (try dsimp only at _hSw); go_simp)) (by assumption) ?_
        simp only [Act.put, List.setIfInBounds_toArray, List.set_cons_zero, List.set_cons_succ]
        refine callV 15 rfl (by kernel_rfl) (by rfl) (fun K hK => ?_)
        go_simp
        go_at_call 14
        refine (refEnd_any y HSO.out.2 _).mono ?_
        rintro e w4 ⟨rfl, hb4⟩
        rw [HE2.out]
        have g4 := hHeld3.next hb4
        refine hK.out _ _ g4 (fun hHeld4 => ?_)
        clear hK g4 K hHeld3 hb4
        try simp only [Act.put, List.setIfInBounds_toArray, List.set_cons_zero, List.set_cons_succ]
        refine takeV 16 (some 37) ((.string (r ++ ⟨#[91]⟩ ++ E1 ++ ⟨#[44]⟩ ++ E2))) rfl rfl (by kernel_rfl) (by kernel_rfl) (by kernel_rfl) (fun _ _ _ h => h) (by rfl) (by (intro _w _hSw; (try dsimp only at _hSw); go_simp)) (by assumption) ?_
        simp only [Act.put, List.setIfInBounds_toArray, List.set_cons_zero, List.set_cons_succ]
        refine takeV 17 (some 38) ((.string (r ++ ⟨#[91]⟩ ++ E1 ++ ⟨#[44]⟩ ++ E2 ++ ⟨#[41]⟩))) rfl rfl (by kernel_rfl) (by kernel_rfl) (by kernel_rfl) (fun _ _ _ h => h) (by rfl) (by (intro _w _hSw; (try dsimp only at _hSw); go_simp)) (by assumption) ?_
        simp only [Act.put, List.setIfInBounds_toArray, List.set_cons_zero, List.set_cons_succ]
        refine takeV 18 (some 5) ((.string (r ++ ⟨#[91]⟩ ++ E1 ++ ⟨#[44]⟩ ++ E2 ++ ⟨#[41]⟩))) rfl rfl (by kernel_rfl) (by kernel_rfl) (by kernel_rfl) (fun _ _ _ h => h) (by rfl) (by (intro _w _hSw; (try dsimp only at _hSw); go_simp)) (by assumption) ?_
        simp only [Act.put, List.setIfInBounds_toArray, List.set_cons_zero, List.set_cons_succ]
        refine wpAnyH_done (by kernel_rfl) ?_ _
        have HBN := Lib.hid hHeld4.2.2.1
        clear hHeld4
        go_wp2
        go_roundg g
        case measure => omega
        case rel => exact ⟨0 + 1, _, rfl, by go_num, by omega, HNEW.out, HBN.out⟩
      | succ k =>
        have hk0 : (0 : Int) < ((k + 1 : Nat) : Int) := by omega
        have HM0 : Hid (bodyT (l.take (k + 1)) ++ [32] ++ oneT (x, y) = bodyT (l.take (k + 1 + 1))) := by
          show _ = _
          rw [hm, if_neg (by omega)]
        have hrz' : (r ++ ⟨#[32]⟩ : ByteArray).size ≤ 276001 := by rw [ByteArray.size_append]; show _ + 1 ≤ _; omega
        have m0 : (r ++ ⟨#[32]⟩ : ByteArray).size ≤ maxLen := by omega
        have HRR : Hid ((r ++ ⟨#[32]⟩ : ByteArray).data.toList = bodyT (l.take (k + 1)) ++ [32]) := by
          show _ = _
          rw [cat_mk, HR.out]
        have HM := HM0
        clear hm HM0
        have hrq := hrz
        clear hrz
        have hrz := hrz'
        clear hrz'
        obtain ⟨E1, hE1⟩ : ∃ E : ByteArray, (⟨(endT x).toArray⟩ : ByteArray) = E := ⟨_, rfl⟩
        obtain ⟨E2, hE2⟩ : ∃ E : ByteArray, (⟨(endT y).toArray⟩ : ByteArray) = E := ⟨_, rfl⟩
        have hl1 := (endT_len HSO.out.1).2
        have hl2 := (endT_len HSO.out.2).2
        have z1 : E1.size ≤ 21 := by rw [← hE1, size_mk]; exact hl1
        have z2 : E2.size ≤ 21 := by rw [← hE2, size_mk]; exact hl2
        have HNEW : Hid (((r ++ ⟨#[32]⟩) ++ ⟨#[91]⟩ ++ E1 ++ ⟨#[44]⟩ ++ E2 ++ ⟨#[41]⟩ : ByteArray).data.toList = bodyT (l.take (k + 1 + 1))) := by
          show _ = _
          rw [txt_more (s := (x, y)) HRR.out (by rw [← hE1]) (by rw [← hE2])]
          exact HM.out
        have m1 : ((r ++ ⟨#[32]⟩) ++ ⟨#[91]⟩ : ByteArray).size ≤ maxLen := by rw [ByteArray.size_append]; show _ + 1 ≤ _; omega
        have m2 : ((r ++ ⟨#[32]⟩) ++ ⟨#[91]⟩ ++ E1 : ByteArray).size ≤ maxLen := by rw [ByteArray.size_append, ByteArray.size_append]; show _ + 1 + _ ≤ _; omega
        have m3 : ((r ++ ⟨#[32]⟩) ++ ⟨#[91]⟩ ++ E1 ++ ⟨#[44]⟩ : ByteArray).size ≤ maxLen := by rw [ByteArray.size_append, ByteArray.size_append, ByteArray.size_append]; show _ + 1 + _ + 1 ≤ _; omega
        have m4 : ((r ++ ⟨#[32]⟩) ++ ⟨#[91]⟩ ++ E1 ++ ⟨#[44]⟩ ++ E2 : ByteArray).size ≤ maxLen := by rw [ByteArray.size_append, ByteArray.size_append, ByteArray.size_append, ByteArray.size_append]; show _ + 1 + _ + 1 + _ ≤ _; omega
        have m5 : ((r ++ ⟨#[32]⟩) ++ ⟨#[91]⟩ ++ E1 ++ ⟨#[44]⟩ ++ E2 ++ ⟨#[41]⟩ : ByteArray).size ≤ maxLen := by rw [ByteArray.size_append, ByteArray.size_append, ByteArray.size_append, ByteArray.size_append, ByteArray.size_append]; show _ + 1 + _ + 1 + _ + 1 ≤ _; omega
        have n0 : r.size ≤ 9223372036854775806 := by omega
        have hkn : ¬ ((k : Int) + 1 < 0) := by omega
        have n1 : r.size + 1 ≤ 9223372036854775806 := by omega
        have n1' : r.size ≤ 9223372036854775805 := by omega
        have n2 : r.size + 1 + 1 + E1.size ≤ 9223372036854775807 := by omega
        have n3 : r.size + 1 + 1 + E1.size ≤ 9223372036854775806 := by omega
        have n4 : r.size + 1 + 1 + E1.size + 1 + E2.size ≤ 9223372036854775807 := by omega
        have n5 : r.size + 1 + 1 + E1.size + 1 + E2.size ≤ 9223372036854775806 := by omega
        have HE1 := Lib.hid hE1
        have HE2 := Lib.hid hE2
        clear hE1 hE2 hl1 hl2 HRR HM z1 z2 hrz
        go_wp2
        refine wp_region_held_drew (S := TBox w b (o + (k + 1) * 2) (x, y)) (by kernel_rfl) HX.out.drew (fun hHeld => ?_)
        refine takeV 0 (some 21) ((.string (r ++ ⟨#[32]⟩))) rfl rfl (by kernel_rfl) (by kernel_rfl) (by kernel_rfl) (fun _ _ _ h => h) (by rfl) (by (intro _w _hSw; (try dsimp only at _hSw); go_simp)) (by assumption) ?_
        simp only [Act.put, List.setIfInBounds_toArray, List.set_cons_zero, List.set_cons_succ]
        refine takeV 1 (some 22) ((.string ((r ++ ⟨#[32]⟩) ++ ⟨#[91]⟩))) rfl rfl (by kernel_rfl) (by kernel_rfl) (by kernel_rfl) (fun _ _ _ h => h) (by rfl) (by (intro _w _hSw; (try dsimp only at _hSw); go_simp)) (by assumption) ?_
        simp only [Act.put, List.setIfInBounds_toArray, List.set_cons_zero, List.set_cons_succ]
        refine takeV 2 (some 23) ((.slice (some ⟨b, o, none⟩) l.length c)) rfl rfl (by kernel_rfl) (by kernel_rfl) (by kernel_rfl) (fun _ _ _ h => h) (by rfl) (by (intro _w _hSw; (try dsimp only at _hSw); go_simp)) (by assumption) ?_
        simp only [Act.put, List.setIfInBounds_toArray, List.set_cons_zero, List.set_cons_succ]
        refine takeV 3 (some 24) ((.int .i64 ((k + 1 : Nat) : Int))) rfl rfl (by kernel_rfl) (by kernel_rfl) (by kernel_rfl) (fun _ _ _ h => h) (by rfl) (by (intro _w _hSw; (try dsimp only at _hSw); go_simp)) (by assumption) ?_
        simp only [Act.put, List.setIfInBounds_toArray, List.set_cons_zero, List.set_cons_succ]
        refine takeV 4 (some 25) ((.pointer (some ⟨b, (o + (k + 1) * 2), none⟩))) rfl rfl (by kernel_rfl) (by kernel_rfl) (by kernel_rfl) (fun _ _ _ h => h) (by rfl) (by (intro _w _hSw; (try dsimp only at _hSw); go_simp)) (by assumption) ?_
        simp only [Act.put, List.setIfInBounds_toArray, List.set_cons_zero, List.set_cons_succ]
        refine takeV 5 (some 26) ((.pointer (some ⟨b, (o + (k + 1) * 2), none⟩))) rfl rfl (by kernel_rfl) (by kernel_rfl) (by kernel_rfl) (fun _ _ _ h => h) (by rfl) (by (intro _w _hSw; (try dsimp only at _hSw); go_simp)) (by assumption) ?_
        simp only [Act.put, List.setIfInBounds_toArray, List.set_cons_zero, List.set_cons_succ]
        refine takeV 6 (some 27) ((.int .i64 x)) rfl rfl (by kernel_rfl) (by kernel_rfl) (by kernel_rfl) (fun _ _ _ h => h) (by rfl) (by (intro _w hSw; have q0 := hSw.1.c0; clear hSw; go_simp)) (by assumption) ?_
        simp only [Act.put, List.setIfInBounds_toArray, List.set_cons_zero, List.set_cons_succ]
        refine takeV 10 (some 31) ((.slice (some ⟨b, o, none⟩) l.length c)) rfl rfl (by kernel_rfl) (by kernel_rfl) (by kernel_rfl) (fun _ _ _ h => h) (by rfl) (by (intro _w _hSw; (try dsimp only at _hSw); go_simp)) (by assumption) ?_
        simp only [Act.put, List.setIfInBounds_toArray, List.set_cons_zero, List.set_cons_succ]
        refine takeV 11 (some 32) ((.int .i64 ((k + 1 : Nat) : Int))) rfl rfl (by kernel_rfl) (by kernel_rfl) (by kernel_rfl) (fun _ _ _ h => h) (by rfl) (by (intro _w _hSw; (try dsimp only at _hSw); go_simp)) (by assumption) ?_
        simp only [Act.put, List.setIfInBounds_toArray, List.set_cons_zero, List.set_cons_succ]
        refine takeV 12 (some 33) ((.pointer (some ⟨b, (o + (k + 1) * 2), none⟩))) rfl rfl (by kernel_rfl) (by kernel_rfl) (by kernel_rfl) (fun _ _ _ h => h) (by rfl) (by (intro _w _hSw; (try dsimp only at _hSw); go_simp)) (by assumption) ?_
        simp only [Act.put, List.setIfInBounds_toArray, List.set_cons_zero, List.set_cons_succ]
        refine takeV 13 (some 34) ((.pointer (some ⟨b, (o + (k + 1) * 2) + 1, none⟩))) rfl rfl (by kernel_rfl) (by kernel_rfl) (by kernel_rfl) (fun _ _ _ h => h) (by rfl) (by (intro _w _hSw; (try dsimp only at _hSw); go_simp)) (by assumption) ?_
        simp only [Act.put, List.setIfInBounds_toArray, List.set_cons_zero, List.set_cons_succ]
        refine takeV 14 (some 35) ((.int .i64 y)) rfl rfl (by kernel_rfl) (by kernel_rfl) (by kernel_rfl) (fun _ _ _ h => h) (by rfl) (by (intro _w hSw; have q0 := hSw.1.c1; clear hSw; go_simp)) (by assumption) ?_
        simp only [Act.put, List.setIfInBounds_toArray, List.set_cons_zero, List.set_cons_succ]
        refine callV 7 rfl (by kernel_rfl) (by rfl) (fun K hK => ?_)
        go_simp
        go_at_call 14
        refine (refEnd_any x HSO.out.1 _).mono ?_
        rintro e w3 ⟨rfl, hb3⟩
        rw [HE1.out]
        have g3 := hHeld.next hb3
        refine hK.out _ _ g3 (fun hHeld3 => ?_)
        clear hK g3 K hHeld hb3
        try simp only [Act.put, List.setIfInBounds_toArray, List.set_cons_zero, List.set_cons_succ]
        refine takeV 8 (some 29) ((.string ((r ++ ⟨#[32]⟩) ++ ⟨#[91]⟩ ++ E1))) rfl rfl (by kernel_rfl) (by kernel_rfl) (by kernel_rfl) (fun _ _ _ h => h) (by rfl) (by (intro _w _hSw; (try dsimp only at _hSw); go_simp)) (by assumption) ?_
        simp only [Act.put, List.setIfInBounds_toArray, List.set_cons_zero, List.set_cons_succ]
        refine takeV 9 (some 30) ((.string ((r ++ ⟨#[32]⟩) ++ ⟨#[91]⟩ ++ E1 ++ ⟨#[44]⟩))) rfl rfl (by kernel_rfl) (by kernel_rfl) (by kernel_rfl) (fun _ _ _ h => h) (by rfl) (by (intro _w _hSw; (try dsimp only at _hSw); go_simp)) (by assumption) ?_
        simp only [Act.put, List.setIfInBounds_toArray, List.set_cons_zero, List.set_cons_succ]
        refine callV 15 rfl (by kernel_rfl) (by rfl) (fun K hK => ?_)
        go_simp
        go_at_call 14
        refine (refEnd_any y HSO.out.2 _).mono ?_
        rintro e w4 ⟨rfl, hb4⟩
        rw [HE2.out]
        have g4 := hHeld3.next hb4
        refine hK.out _ _ g4 (fun hHeld4 => ?_)
        clear hK g4 K hHeld3 hb4
        try simp only [Act.put, List.setIfInBounds_toArray, List.set_cons_zero, List.set_cons_succ]
        refine takeV 16 (some 37) ((.string ((r ++ ⟨#[32]⟩) ++ ⟨#[91]⟩ ++ E1 ++ ⟨#[44]⟩ ++ E2))) rfl rfl (by kernel_rfl) (by kernel_rfl) (by kernel_rfl) (fun _ _ _ h => h) (by rfl) (by (intro _w _hSw; (try dsimp only at _hSw); go_simp)) (by assumption) ?_
        simp only [Act.put, List.setIfInBounds_toArray, List.set_cons_zero, List.set_cons_succ]
        refine takeV 17 (some 38) ((.string ((r ++ ⟨#[32]⟩) ++ ⟨#[91]⟩ ++ E1 ++ ⟨#[44]⟩ ++ E2 ++ ⟨#[41]⟩))) rfl rfl (by kernel_rfl) (by kernel_rfl) (by kernel_rfl) (fun _ _ _ h => h) (by rfl) (by (intro _w _hSw; (try dsimp only at _hSw); go_simp)) (by assumption) ?_
        simp only [Act.put, List.setIfInBounds_toArray, List.set_cons_zero, List.set_cons_succ]
        refine takeV 18 (some 5) ((.string ((r ++ ⟨#[32]⟩) ++ ⟨#[91]⟩ ++ E1 ++ ⟨#[44]⟩ ++ E2 ++ ⟨#[41]⟩))) rfl rfl (by kernel_rfl) (by kernel_rfl) (by kernel_rfl) (fun _ _ _ h => h) (by rfl) (by (intro _w _hSw; (try dsimp only at _hSw); go_simp)) (by assumption) ?_
        simp only [Act.put, List.setIfInBounds_toArray, List.set_cons_zero, List.set_cons_succ]
        refine wpAnyH_done (by kernel_rfl) ?_ _
        have HBN := Lib.hid hHeld4.2.2.1
        clear hHeld4
        go_wp2
        go_roundg g
        case measure => omega
        case rel => exact ⟨k + 1 + 1, _, rfl, by go_num, by omega, HNEW.out, HBN.out⟩

end Go.Proofs.YtecolajhahmfcaaDoor

