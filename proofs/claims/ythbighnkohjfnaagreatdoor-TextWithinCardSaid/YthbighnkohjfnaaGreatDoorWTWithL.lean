/-
  THE LAW TextWithin: its walk.
-/
import Derived.Test.YthbighnkohjfnaaGreatDoorWTAlive
import Derived.Test.YthbighnkohjfnaaGreatDoorWTWithQ
import Derived.Test.YthbighnkohjfnaaGreatDoorWTDeep
import Derived.Test.YthbighnkohjfnaaGreatDoorJTParse
namespace Go.Proofs.YthbighnkohjfnaaGreatDoor
open Go.RowKit

/-- what Parse answers, by the document's nodes -/
theorem parse_res {s : ByteArray} {w : World} {e : Ending} {w' : World} (h : ParseT w s e w') :
    ((∃ (i k : Int) (p : Nat), nodesD pvL (s.size + 1) none s.data.toList 0 0 0 = .bad p ∧ e = .returned (.tuple #[.slice none 0 0, .int .i64 i, .int .i64 k, .int .i64 50])) ∨
      ∃ (l : List PN) (s2 : Bs) (p2 m2 : Nat) (A : Option Addr) (c : Nat), nodesD pvL (s.size + 1) none s.data.toList 0 0 0 = .ok l s2 p2 m2 ∧ e = .returned (.tuple #[.slice A (l.map (ndOf s.data.toList)).length c, .int .i64 0, .int .i64 0, .int .i64 0]) ∧ SlN 51 w' (fun g => w.heap.size ≤ g ∧ g < w'.heap.size) A (l.map (ndOf s.data.toList))) ∧ Below w.heap.size w w' := by
  have hd := parse_doc s
  obtain ⟨h1, h2⟩ := h
  refine ⟨?_, h2⟩
  cases hn : nodesD pvL (s.size + 1) none s.data.toList 0 0 0 with
  | bad p =>
    rw [hn] at hd
    cases hr : runA (tellB (s.size + 1) s (1, 1)) ([], [], 0) with
    | inl x => rw [hr] at h1; exact .inl ⟨_, _, p, rfl, h1⟩
    | inr a => rw [hr] at hd; exact hd.elim
  | ok l s2 p2 m2 =>
    rw [hn] at hd
    cases hr : runA (tellB (s.size + 1) s (1, 1)) ([], [], 0) with
    | inl x => rw [hr] at hd; exact hd.elim
    | inr a =>
      rw [hr] at hd h1
      have h3 : a.1 = l.map (ndOf s.data.toList) := hd
      obtain ⟨A, c, he, hs⟩ := h1
      rw [h3] at he hs
      exact .inr ⟨l, s2, p2, m2, A, c, rfl, he, hs⟩
theorem kids_may {vs s : ByteArray} {ks : List Nd} {ln co : Int} (h : mayNds 0 [.mk 5 0 0 vs s ks ln co] = true) : mayNds 0 ks = true := by
  rw [mayNds, mayNd, if_neg (by omega), if_neg (by omega), if_pos (by omega)] at h
  simp only [Bool.and_eq_true] at h
  exact mays_up 0 ks h.1.2.2.2
theorem good_may (S : Bs) {f : Nat} {e : Option UInt8} {s : Bs} {l : List PN} {s2 : Bs} {p2 m2 : Nat} (h : nodesD pvL f e s 0 0 0 = .ok l s2 p2 m2) (hs : s.length ≤ 60000) : mayL (l.map (ndOf S)) = true ∧ txL (l.map (ndOf S)) ∧ szL (l.map (ndOf S)) = m2 ∧ m2 ≤ 5000 ∧ dpL (l.map (ndOf S)) ≤ 50 := by
  obtain ⟨h1, h2, h3, h4, h5, _⟩ := nodes_good S f e s 0 0 0 l s2 p2 m2 h (by omega) (by omega) hs
  refine ⟨?_, h5, by omega, h2, by omega⟩
  unfold mayL
  rw [h4, decide_eq_true (by omega)]
  rfl
/-- the bracket's kids are the nodes -/
theorem kids_same (S S' : Bs) {f f' : Nat} {s s' : Bs} {l : List PN} {s2 s3 : Bs} {p2 m2 p3 m3 : Nat} (h : nodesD pvL f none s 0 0 0 = .ok l s2 p2 m2) (hs : s.length ≤ 60000) (h' : nodesD pvL f' none s' 0 0 0 = .ok [.mk 5 0 0 [] [] (shPs l) 0] s3 p3 m3) (hs' : s'.length ≤ 60000) :
    sameL ((shPs l).map (ndOf S')) (l.map (ndOf S)) = true ∧ txL ((shPs l).map (ndOf S')) ∧ txL (l.map (ndOf S)) := by
  obtain ⟨a1, a2, a3, a4, a5⟩ := good_may S h hs
  obtain ⟨b1, b2, b3, b4, b5⟩ := good_may S' h' hs'
  rw [List.map_cons, List.map_nil, ndOf_mk] at b1 b2 b3
  rw [szL_one, szL_nil] at b3
  have hz : szL ((shPs l).map (ndOf S')) ≤ 5000 := by
    have : szL ((shPs l).map (ndOf S')) + 1 ≤ m3 := by rw [← b3]; show _ ≤ 1 + szL ((shPs l).map (ndOf S')) + 0; omega
    omega
  have hm : mayL ((shPs l).map (ndOf S')) = true := by
    unfold mayL at b1 ⊢
    rw [Bool.and_eq_true] at b1
    rw [decide_eq_true hz, kids_may b1.2]
    rfl
  refine ⟨?_, ?_, a2⟩
  · unfold sameL
    rw [hm, a1, alks_sh]
    rfl
  · rw [txL, txN_eq] at b2
    exact b2.1.2.2
theorem brace_list (s : ByteArray) : (⟨#[123]⟩ ++ s ++ ⟨#[10, 125]⟩ : ByteArray).data.toList = 123 :: (s.data.toList ++ tlW) := by
  simp [ByteArray.data_append, tlW]
theorem brace_size (s : ByteArray) : (⟨#[123]⟩ ++ s ++ ⟨#[10, 125]⟩ : ByteArray).size = s.size + 3 := by
  rw [ByteArray.size_append, ByteArray.size_append]
  show 1 + s.size + 2 = _
  omega
theorem errs_up {w W : World} (h : Errs w) (hb : Below w.heap.size w W) : Errs W := errs_below h hb
set_option maxRecDepth 100000 in
set_option maxHeartbeats 1000000 in
theorem withinL_any (s : ByteArray) (w : World) (herr : Errs w) (htab : Tab w) : Calls Tryz.prog 5 #[.string s] w fun e w' => e = .returned (.bool true) ∧ Below w.heap.size w w' := by
  have HAL := Lib.hid (alive_any w herr htab)
  have HE := Lib.hid herr
  have HT := Lib.hid htab
  clear herr htab
  go_enter Tryz.func5, Tryz.ntmps5
  go_wp2_with fail
  refine HAL.out.mono ?_
  rintro e w1 ⟨rfl, hb1⟩
  have HB1 := Lib.hid hb1
  clear hb1 HAL
  by_cases hs : s.size ≤ 20000
  · have h1 : decide ((20000 : Int) < (s.size : Int)) = false := decide_eq_false (by omega)
    have HS := Lib.hid hs
    have hlen : s.data.toList.length ≤ 60000 := by have : s.data.toList.length = s.size := Array.length_toList; omega
    have HLN := Lib.hid hlen
    clear hs hlen
    go_wp2_with fail
    refine (parseT_any s _ (by have := HS.out; omega) (errs_up HE.out HB1.out) (tab_below HT.out HB1.out)).mono ?_
    rintro e w2 hp
    obtain ⟨hp, hb2⟩ := parse_res hp
    have HB2 := Lib.hid (HB1.out.trans (hb2.mono HB1.out.size))
    clear hb2
    rcases hp with ⟨i, k, p, hn, rfl⟩ | ⟨l, s2, p2, m2, A, c, hn, rfl, hsl⟩
    · clear hn
      go_wp2_with fail
      go_ret
      exact ⟨rfl, HB2.out⟩
    obtain ⟨L, hL⟩ : ∃ L, l.map (ndOf s.data.toList) = L := ⟨_, rfl⟩
    rw [hL] at hsl ⊢
    have HL := Lib.hid hL
    clear hL
    have HN := Lib.hid hn
    have HSL := Lib.hid hsl
    have hz1 : ¬ 9223372036854775807 < 1 + s.size := by have h9 := HS.out; omega
    have hz2 : ¬ 9223372036854775807 < 1 + s.size + 2 := by have h9 := HS.out; omega
    clear hn hsl
    go_wp2_with fail
    obtain ⟨t, ht⟩ : ∃ t, (⟨#[123]⟩ ++ s ++ ⟨#[10, 125]⟩ : ByteArray) = t := ⟨_, rfl⟩
    have htz : t.size = s.size + 3 := by rw [← ht]; exact brace_size s
    have htl : t.data.toList = 123 :: (s.data.toList ++ tlW) := by rw [← ht]; exact brace_list s
    rw [ht]
    clear ht
    refine (parseT_any t _ (by rw [htz]; have := HS.out; omega) (errs_up HE.out HB2.out) (tab_below HT.out HB2.out)).mono ?_
    rintro e w3 hp
    obtain ⟨hp, hb3⟩ := parse_res hp
    rw [htz, htl] at hp
    clear hz1 hz2
    have HB3 := Lib.hid (HB2.out.trans (hb3.mono HB2.out.size))
    have HSL3 := Lib.hid (HSL.out.keep (W' := w3) fun g hg => hb3.block g hg.2)
    have HSZ : Hid (w2.heap.size ≤ w3.heap.size) := hb3.size
    clear hb3
    have hW := within_top s.data.toList s.data.toList s.size l s2 p2 m2 HN.out HLN.out
    rcases hp with ⟨i, k, p, hn, rfl⟩ | ⟨l', s3, p3, m3, A3, c3, hn, rfl, hsl3⟩
    · rw [show s.size + 3 + 1 = s.size + 4 by omega] at hn
      rw [hn] at hW
      have hW2 : 5000 ≤ m2 ∨ 50 ≤ dpL (l.map (ndOf s.data.toList)) := hW
      rw [HL.out] at hW2
      obtain ⟨_, _, g3, g4, g5⟩ := good_may s.data.toList HN.out HLN.out
      rw [HL.out] at g3 g5
      have HZZ := Lib.hid (size_any 51 A c L w3 _ HSL3.out (fun g hg => Nat.lt_of_lt_of_le hg.2 HSZ.out))
      by_cases h5 : szL L = 5000
      · rw [h5] at HZZ
        clear hn hW hW2 g3 g4 g5 h5
        go_wp2_with fail
        refine HZZ.out.mono ?_
        rintro e w4 ⟨rfl, hb4⟩
        go_wp2_with fail
        go_ret
        exact ⟨rfl, HB3.out.trans (hb4.mono HB3.out.size)⟩
      · obtain ⟨q, hq⟩ : ∃ q, min (szL L) 5001 = q := ⟨_, rfl⟩
        have hqn : ((q : Int) == 5000) = false := by rw [beq_eq_false_iff_ne]; omega
        have h50 : dpL L = 50 := by omega
        rw [hq] at HZZ
        have HDD := Lib.hid (fun W (hb : Below w3.heap.size w3 W) => deep_any 51 A c L W _ (HSL3.out.keep (W' := W) fun g hg => hb.block g (Nat.lt_of_lt_of_le hg.2 HSZ.out)) (by decide))
        rw [h50] at HDD
        clear hn hW hW2 g3 g4 g5 h5 h50 hq
        go_wp2_with fail
        refine HZZ.out.mono ?_
        rintro e w4 ⟨rfl, hb4⟩
        have HB4 := Lib.hid hb4
        clear hb4
        go_wp2_with fail
        refine (HDD.out _ HB4.out).mono ?_
        rintro e w5 ⟨rfl, m, rfl⟩
        go_wp2_with fail
        go_ret
        exact ⟨rfl, (HB3.out.trans (HB4.out.mono HB3.out.size)).trans (below_drewN (Below.refl _ _) _)⟩
    · rw [show s.size + 3 + 1 = s.size + 4 by omega] at hn
      rw [hn] at hW
      have hl' : l' = [.mk 5 0 0 [] [] (shPs l) 0] := hW
      subst hl'
      have hlen' : (123 :: (s.data.toList ++ tlW)).length ≤ 60000 := by
        have h9 : s.data.toList.length = s.size := Array.length_toList
        have h8 := HS.out
        rw [List.length_cons, List.length_append]
        show _ + 2 + 1 ≤ _
        omega
      obtain ⟨k1, k2, k3⟩ := kids_same s.data.toList (123 :: (s.data.toList ++ tlW)) HN.out HLN.out hn hlen'
      rw [List.map_cons, List.map_nil, ndOf_mk] at hsl3 ⊢
      rw [HL.out] at k1 k3
      obtain ⟨KL, hKL⟩ : ∃ KL, (shPs l).map (ndOf (123 :: (s.data.toList ++ tlW))) = KL := ⟨_, rfl⟩
      rw [hKL] at hsl3 k1 k2 ⊢
      obtain ⟨bk, ok, K, kc, rfl, _, hc, hk⟩ := hsl3.at_ (j := 0) (by rw [List.length_singleton]; exact Nat.one_pos)
      have c0 : w3.cell? ⟨bk, ok, none⟩ = some (.int .i64 5) := hc 0 (by decide)
      have c5 : w3.cell? ⟨bk, ok + 5, none⟩ = some (.slice K KL.length kc) := hc 5 (by decide)
      have hSM := sameN_any 51 K A kc c KL L w3 _ _ (hk.upto (by decide)) HSL3.out (fun g hg => hg.2) (fun g hg => Nat.lt_of_lt_of_le hg.2 HSZ.out) k2 k3
      rw [k1] at hSM
      have HSM := Lib.hid hSM
      clear hSM hn hW hlen' k1 k2 k3 hsl3 hKL hc hk htz htl
      rw [List.length_singleton]
      go_wp2_with fail
      refine HSM.out.mono ?_
      rintro e w4 ⟨rfl, hb4⟩
      go_wp2
      go_ret
      exact ⟨rfl, HB3.out.trans (hb4.mono HB3.out.size)⟩
  · have h1 : decide ((20000 : Int) < (s.size : Int)) = true := decide_eq_true (by omega)
    clear hs
    go_wp2_with fail
    go_ret
    exact ⟨rfl, HB1.out⟩
end Go.Proofs.YthbighnkohjfnaaGreatDoor
