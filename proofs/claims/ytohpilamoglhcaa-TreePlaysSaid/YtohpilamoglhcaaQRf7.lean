/-
  THE DOCUMENT'S TREE; CONTRACT: Put, what it takes.
-/
import Derived.Test.YtohpilamoglhcaaQRf6
namespace Go.Proofs.Ytohpilamoglhcaa
open Go.RowKit
theorem SlR.drop {w : World} {ad : Addr} {M : List Pr} (h : SlR w (some ad) M) (r : Nat) : SlR w (some (ad.add (r * 2))) (M.drop r) := fun hl => by
  obtain ⟨g, o, e, hlt, hc⟩ := h (fun e => hl (by rw [e]; simp))
  injection e with e
  subst e
  refine ⟨g, o + r * 2, by rw [addO], hlt, fun j p hp => ?_⟩
  rw [List.getElem?_drop] at hp
  have h2 := hc _ p hp
  rw [show o + r * 2 + j * 2 = o + (r + j) * 2 by omega]
  exact h2
set_option maxRecDepth 100000 in
set_option maxHeartbeats 4000000 in
theorem putR_yes (A : Option Addr) (c : Nat) (L : List Pr) (k x : By) (w : World) (h : SlR w A L) (hl : L.length ≤ 1000000) (hR : Rise L) (hk : k.length ≤ 4096) (hx : x.length ≤ 65536) :
    Calls Try.prog 16 #[.agg #[.slice A L.length c], .string ⟨k.toArray⟩, .string ⟨x.toArray⟩] w fun e w' => ∃ A c, e = .returned (.tuple #[.agg #[.slice A (putL L (k, x)).length c], .int .i64 0]) ∧ SlR w' A (putL L (k, x)) ∧ Below w.heap.size w w' := by
  obtain ⟨w1, hw1⟩ : ∃ X, (w.alloc (.cells #[.slice A L.length c] 54)).alloc (.cells #[.slice none 0 0] 54) = X := ⟨_, rfl⟩
  have hb1 : Below w.heap.size w w1 := by rw [← hw1]; exact ((Below.refl _ _).alloc (Nat.le_refl _) _).alloc (by simp) _
  have hx1 : Boxed w1 w.heap.size 54 (.slice A L.length c) := by rw [← hw1]; exact (Boxed.new w _ _).alloc _
  have hy1 : Boxed w1 (w.heap.size + 1) 54 (.slice none 0 0) := by
    rw [← hw1]
    have := Boxed.new (w.alloc (.cells #[.slice A L.length c] 54)) 54 (.slice none 0 0)
    rw [World.size_alloc] at this
    exact this
  have HB1 := Lib.hid hb1
  have HX1 := Lib.hid hx1
  have HY1 := Lib.hid hy1
  have HH := Lib.hid (hasR_any A c L k w1 (h.next hb1) hl)
  have H1 := Lib.hid (h.next hb1)
  have b0 := hx1.cell
  have HPP := Lib.hid (put_parts hR k x)
  have HCL := Lib.hid (cut_le L k)
  have g1' : decide ((4096 : Int) < (k.length : Int)) = false := decide_eq_false (by omega)
  have g2' : decide ((65536 : Int) < (x.length : Int)) = false := decide_eq_false (by omega)
  have g3' : decide ((1048576 : Int) ≤ (L.length : Int)) = false := decide_eq_false (by omega)
  clear h hx1 hy1 hb1 hR
  go_enter Try.func16, Try.ntmps16
  go_wp2_with fail
  try rw [hw1]
  clear hw1
  refine HH.out.mono ?_
  rintro e w2 ⟨rfl, hb2⟩
  have b2 := (hb2.cell (p := ⟨w.heap.size, 0, none⟩) HX1.out.lt).trans b0
  have HB2 := Lib.hid (HB1.out.trans (hb2.mono HB1.out.size))
  have HY2 : Hid (Boxed w2 (w.heap.size + 1) 54 (.slice none 0 0)) := (hb2.block _ HY1.out.lt).trans HY1.out
  have HCU := Lib.hid (cutR_any A c L k w2 (H1.out.next hb2) hl)
  clear b0 hb2 HH
  go_wp2_with fail
  refine HCU.out.mono ?_
  rintro e w3 ⟨Ac, cc, rfl, hsl, hb3, hcc⟩
  clear g1' g2' g3' b2 HCU
  obtain ⟨M, hM⟩ : ∃ M, cutL L k = M := ⟨_, rfl⟩
  have HMM := Lib.hid hM
  rw [hM] at hsl HPP HCL hcc ⊢
  obtain ⟨w4, hw4⟩ : ∃ X, w3.alloc (.cells #[.slice Ac M.length cc] 54) = X := ⟨_, rfl⟩
  have hb4 : Below w3.heap.size w3 w4 := by rw [← hw4]; exact (Below.refl _ _).alloc (Nat.le_refl _) _
  have hz4 : Boxed w4 w3.heap.size 54 (.slice Ac M.length cc) := by rw [← hw4]; exact Boxed.new w3 _ _
  have z4 := hz4.cell
  have HZ4 := Lib.hid hz4
  have HS4 := Lib.hid (hsl.next hb4)
  have HB4 := Lib.hid (HB2.out.trans ((hb3.trans (hb4.mono hb3.size)).mono HB2.out.size))
  have HY4 : Hid (Boxed w4 (w.heap.size + 1) 54 (.slice none 0 0)) := ((hb3.trans (hb4.mono hb3.size)).block _ HY2.out.lt).trans HY2.out
  have HRK := Lib.hid (rankR_any Ac cc M k w4 (hsl.next hb4) (by have := HCL.out; omega))
  clear hM hsl hb3 hb4 hz4
  go_wp2_with fail
  try rw [hw4]
  clear hw4
  refine HRK.out.mono ?_
  rintro e w5 ⟨rfl, hb5⟩
  have z5 := (hb5.cell (p := ⟨w3.heap.size, 0, none⟩) HZ4.out.lt).trans z4
  have hrl : rankL M k ≤ M.length := rank_le M k
  obtain ⟨r, hr⟩ : ∃ r, rankL M k = r := ⟨_, rfl⟩
  rw [hr] at hrl HPP ⊢
  have hr1 : (r : Int) ≤ (cc : Int) := by omega
  have hr2 : (r : Int) ≤ (M.length : Int) := by omega
  have hr0 : (0 : Int) ≤ (r : Int) := by omega
  clear z4 hr HRK
  cases Ac with
  | none =>
    have hM0 : M = [] := by
      by_cases hM : M = []
      · exact hM
      · obtain ⟨_, _, e, _⟩ := HS4.out hM
        cases e
    subst hM0
    have hr00 : r = 0 := by simpa using hrl
    subst hr00
    obtain ⟨i0, hi, hz0, hz1, hz2⟩ := info_parts infoR
    have HB5 := Lib.hid (HB4.out.trans (hb5.mono HB4.out.size))
    have HY5 : Hid (Boxed w5 (w.heap.size + 1) 54 (.slice none 0 0)) := (hb5.block _ HY4.out.lt).trans HY4.out
    have HZ5 : Hid (Boxed w5 w3.heap.size 54 (.slice none ([] : List Pr).length cc)) := (hb5.block _ HZ4.out.lt).trans HZ4.out
    have HON := Lib.hid (ownR_nil w5 w5.heap.size)
    have HOA7 : Hid ((w5.alloc (.cells #[.string ⟨k.toArray⟩, .string ⟨x.toArray⟩] 100)).ownsRow w5.heap.size 100 2 (.slice none 0 0) 0 []) := World.ownsRow.alloc (show w5.ownsRow w5.heap.size 100 2 (.slice none 0 0) 0 [] from HON.out) _
    have HBS7 : Hid (w5.heap.size ≤ (w5.alloc (.cells #[.string ⟨k.toArray⟩, .string ⟨x.toArray⟩] 100)).heap.size) := by show _ ≤ _; simp
    clear hb5
    go_wp2_with (at_builtin; refine wpList_append_own _ rfl _ _ 52 rfl w5.heap.size 100 i0 (.agg #[.string ⟨#[]⟩, .string ⟨#[]⟩]) 2 32 Try.underlying52 hi hz0 hz1 hz2 rfl (by decide) (.slice none 0 0) 0 [] rfl HOA7.out ⟨w5.heap.size, 0, none⟩ 1 1 (cellsR (k, x)) rfl rfl (fun j u h => cell_lit w5 #[.string ⟨k.toArray⟩, .string ⟨x.toArray⟩] 100 j u h) (cellsR_one _) (by decide) (by decide) HBS7.out ?_; intro v7 w7 hown hgrow _; have hst := ownR_step (w := w5) (p := (k, x)) (M := []) HON.out (Below.refl _ _) hown hgrow; have HO7 := Lib.hid hst.1; have HB7 := Lib.hid hst.2.1; have z7 := (HB7.out.cell (p := ⟨w3.heap.size, 0, none⟩) HZ5.out.lt).trans HZ5.out.cell; obtain ⟨g7, c7, hv7⟩ := ownsRow_succ hown; subst hv7; have hcap : (1 : Int) ≤ (c7 : Int) := (by have := (OwnR.cap hst.1).2; simp at this; omega); have hcapn : 1 ≤ c7 := (by omega); have hy8 : Boxed w7 (w.heap.size + 1) 54 (.slice none 0 0) := (HB7.out.block _ HY5.out.lt).trans HY5.out; have HY8 := Lib.hid hy8; have y8 := hy8.cell; have f8 := hy8.frozen; clear hown hgrow hst hy8)
    obtain ⟨w9, hw9⟩ : ∃ X, w7.setCell ⟨w.heap.size + 1, 0, none⟩ (.slice (some ⟨g7, 0, none⟩) 1 c7) = X := ⟨_, rfl⟩
    have hx9 : Boxed w9 (w.heap.size + 1) 54 (.slice (some ⟨g7, 0, none⟩) 1 c7) := by rw [← hw9]; exact HY8.out.set _
    have ho9 : OwnR w9 w5.heap.size (.slice (some ⟨g7, 0, none⟩) 1 c7) ([] ++ [(k, x)]) := by rw [← hw9]; exact HO7.out.set HY8.out (by decide)
    have hb9 : Below w.heap.size w w9 := by rw [← hw9]; exact (HB5.out.trans (HB7.out.mono HB5.out.size)).setCell (p := ⟨w.heap.size + 1, 0, none⟩) (Nat.le_succ _) _
    have eP : putL L (k, x) = [] ++ [(k, x)] := by rw [HPP.out]; simp
    have q0 := hx9.cell
    rw [hw9]
    refine bodyPost_ret (v := .tuple #[.agg #[.slice (some ⟨g7, 0, none⟩) 1 c7], .int .i64 0]) ?_ rfl ⟨some ⟨g7, 0, none⟩, ⟨c7, by rw [eP]; rfl⟩, by rw [eP]; exact ho9.slR, hb9⟩
    rw [results_cell_tmp rfl]
    simp [go_sem, q0]
  | some ad =>
    have HSr := Lib.hid ((HS4.out.next hb5).take r)
    have hlr : (M.take r).length = r := by rw [List.length_take]; omega
    have HNR : Hid (((M.take r).flatMap cellsR).length = r * 2) := by show _ = _; rw [cellsR_len, hlr]
    have HB5 := Lib.hid (HB4.out.trans (hb5.mono HB4.out.size))
    have HRM : Hid (r ≤ 1000000) := by show _ ≤ _; have := HCL.out; omega
    obtain ⟨i0, hi, hz0, hz1, hz2⟩ := info_parts infoR
    have HON := Lib.hid (ownR_nil w5 w5.heap.size)
    have HBN1 : Hid (0 + r ≤ maxLen) := by show _ ≤ _; have := HRM.out; have : 2000000 ≤ maxLen := (by decide); omega
    have HBN2 : Hid ((0 + r) * 32 ≤ 140737488355328) := by show _ ≤ _; have := HRM.out; omega
    have HBS : Hid (w5.heap.size ≤ w5.heap.size) := Nat.le_refl _
    clear hlr
    have HZ5 : Hid (Boxed w5 w3.heap.size 54 (.slice (some ad) M.length cc)) := (hb5.block _ HZ4.out.lt).trans HZ4.out
    have HY5 : Hid (Boxed w5 (w.heap.size + 1) 54 (.slice none 0 0)) := (hb5.block _ HY4.out.lt).trans HY4.out
    have HS5 := Lib.hid (HS4.out.next hb5)
    have HTL : Hid ((M.take r).length = r) := by show _ = _; rw [List.length_take]; omega
    have HBN3 : Hid (r + 1 ≤ maxLen) := by show _ ≤ _; have := HRM.out; have : 2000000 ≤ maxLen := (by decide); omega
    have HBN4 : Hid ((r + 1) * 32 ≤ 140737488355328) := by show _ ≤ _; have := HRM.out; omega
    have HTM : Hid ((M.take r ++ [(k, x)]).length = r + 1) := by show _ = _; rw [List.length_append, HTL.out]; rfl
    have HLL : Hid ((M.take r ++ [(k, x)] ++ M.drop r).length = M.length + 1) := by show _ = _; rw [List.length_append, HTM.out, List.length_drop]; omega
    have HND : Hid (((M.drop r).flatMap cellsR).length = (M.length - r) * 2) := by show _ = _; rw [cellsR_len, List.length_drop]
    have HBN5 : Hid (r + 1 + (M.length - r) ≤ maxLen) := by show _ ≤ _; have := HCL.out; have : 2000000 ≤ maxLen := (by decide); omega
    have HBN6 : Hid ((r + 1 + (M.length - r)) * 32 ≤ 140737488355328) := by show _ ≤ _; have := HCL.out; omega
    clear hb5
    by_cases hrd : ¬ r < cc
    · obtain rfl : r = cc := by omega
      have HDN : Hid (M.drop r = []) := List.drop_eq_nil_of_le (by omega)
      go_wp2_with (at_builtin; first
        | (refine wpList_append_own _ rfl _ _ 52 rfl w5.heap.size 100 i0 (.agg #[.string ⟨#[]⟩, .string ⟨#[]⟩]) 2 32 Try.underlying52 hi hz0 hz1 hz2 rfl (by decide) (.slice none 0 0) 0 [] rfl HON.out ad r r ((M.take r).flatMap cellsR) rfl HNR.out HSr.out.cells (flat_one _) HBN1.out HBN2.out HBS.out ?_; intro v6 w6 hown hgrow _; have ho6 : w6.ownsRow w5.heap.size 100 2 v6 r ((M.take r).flatMap cellsR) := (by rw [Nat.zero_add, List.nil_append] at hown; exact hown); have HO6 : Hid (OwnR w6 w5.heap.size v6 (M.take r)) := (by show w6.ownsRow _ _ _ _ _ _; rw [HTL.out]; exact ho6); obtain ⟨A6, c6, hv6⟩ := HO6.out.form; rw [HTL.out] at hv6; subst hv6; have HB6 := Lib.hid ((Below.refl w5.heap.size w5).grown hgrow (Nat.le_refl _) (fun k hk => (World.ownsRow.lt HON.out k hk).1)); have HOA7 := Lib.hid (World.ownsRow.alloc ho6 (.cells #[.string ⟨k.toArray⟩, .string ⟨x.toArray⟩] 100)); have HBS7 : Hid (w5.heap.size ≤ (w6.alloc (.cells #[.string ⟨k.toArray⟩, .string ⟨x.toArray⟩] 100)).heap.size) := (by show _ ≤ _; have := HB6.out.size; simp; omega); clear hown hgrow ho6)
        | (refine wpList_append_own _ rfl _ _ 52 rfl w5.heap.size 100 i0 (.agg #[.string ⟨#[]⟩, .string ⟨#[]⟩]) 2 32 Try.underlying52 hi hz0 hz1 hz2 rfl (by decide) (.slice A6 r c6) r ((M.take r).flatMap cellsR) rfl HOA7.out ⟨w6.heap.size, 0, none⟩ 1 1 (cellsR (k, x)) rfl rfl (fun j u h => cell_lit w6 #[.string ⟨k.toArray⟩, .string ⟨x.toArray⟩] 100 j u h) (cellsR_one _) HBN3.out HBN4.out HBS7.out ?_; intro v7 w7 hown hgrow _; have hst := ownR_step (w := w5) (p := (k, x)) HO6.out HB6.out (by rw [HTL.out]; exact hown) hgrow; have HO7 := Lib.hid hst.1; have HB7 := Lib.hid hst.2.1; have z7 := (HB7.out.cell (p := ⟨w3.heap.size, 0, none⟩) HZ5.out.lt).trans HZ5.out.cell; obtain ⟨A7, c7, hv7⟩ := HO7.out.form; rw [HTM.out] at hv7; subst hv7; have HSD := Lib.hid (SlR.drop (HS5.out.next HB7.out) r); have HO7r : Hid (w7.ownsRow w5.heap.size 100 2 (.slice A7 (r + 1) c7) (r + 1) ((M.take r ++ [(k, x)]).flatMap cellsR)) := (by have h9 := HO7.out; unfold OwnR at h9; rw [HTM.out] at h9; exact h9); clear hown hgrow hst)
        | (refine wpList_append_own _ rfl _ _ 52 rfl w5.heap.size 100 i0 (.agg #[.string ⟨#[]⟩, .string ⟨#[]⟩]) 2 32 Try.underlying52 hi hz0 hz1 hz2 rfl (by decide) (.slice A7 (r + 1) c7) (r + 1) ((M.take r ++ [(k, x)]).flatMap cellsR) rfl HO7r.out _ 0 _ [] rfl rfl (fun j u h => by simp at h) (fun u h => by simp at h) HBN3.out HBN4.out HB7.out.size ?_; intro v8 w8 hown hgrow _; have HO8 : Hid (OwnR w8 w5.heap.size v8 (M.take r ++ [(k, x)] ++ M.drop r)) := (by show w8.ownsRow _ _ _ _ _ _; rw [HDN.out, List.append_nil, HTM.out]; simpa using hown); have HB8 := Lib.hid (HB7.out.grown hgrow HB7.out.size (fun k hk => (World.ownsRow.lt HO7r.out k hk).1)); obtain ⟨A8, c8, hv8⟩ := HO8.out.form; rw [HLL.out] at hv8; subst hv8; have hy8 : Boxed w8 (w.heap.size + 1) 54 (.slice none 0 0) := (HB8.out.block _ HY5.out.lt).trans HY5.out; have HY8 := Lib.hid hy8; have y8 := hy8.cell; have f8 := hy8.frozen; clear hown hgrow z7 hy8)
        | fail)
      obtain ⟨w9, hw9⟩ : ∃ X, w8.setCell ⟨w.heap.size + 1, 0, none⟩ (.slice A8 (M.length + 1) c8) = X := ⟨_, rfl⟩
      have hx9 : Boxed w9 (w.heap.size + 1) 54 (.slice A8 (M.length + 1) c8) := by rw [← hw9]; exact HY8.out.set _
      have ho9 : OwnR w9 w5.heap.size (.slice A8 (M.length + 1) c8) (M.take r ++ [(k, x)] ++ M.drop r) := by rw [← hw9]; exact HO8.out.set HY8.out (by decide)
      have hb9 : Below w.heap.size w w9 := by rw [← hw9]; exact (HB5.out.trans (HB8.out.mono HB5.out.size)).setCell (p := ⟨w.heap.size + 1, 0, none⟩) (Nat.le_succ _) _
      have eP : putL L (k, x) = M.take r ++ [(k, x)] ++ M.drop r := by rw [HPP.out]; simp
      have q0 := hx9.cell
      rw [hw9]
      refine bodyPost_ret (v := .tuple #[.agg #[.slice A8 (M.length + 1) c8], .int .i64 0]) ?_ rfl ⟨A8, ⟨c8, by rw [eP, HLL.out]⟩, by rw [eP]; exact ho9.slR, hb9⟩
      rw [results_cell_tmp rfl]
      simp [go_sem, q0]
    have hrc : r < cc := Classical.not_not.1 hrd
    clear hrd
    go_wp2_with (at_builtin; first
      | (refine wpList_append_own _ rfl _ _ 52 rfl w5.heap.size 100 i0 (.agg #[.string ⟨#[]⟩, .string ⟨#[]⟩]) 2 32 Try.underlying52 hi hz0 hz1 hz2 rfl (by decide) (.slice none 0 0) 0 [] rfl HON.out ad r cc ((M.take r).flatMap cellsR) rfl HNR.out HSr.out.cells (flat_one _) HBN1.out HBN2.out HBS.out ?_; intro v6 w6 hown hgrow _; have ho6 : w6.ownsRow w5.heap.size 100 2 v6 r ((M.take r).flatMap cellsR) := (by rw [Nat.zero_add, List.nil_append] at hown; exact hown); have HO6 : Hid (OwnR w6 w5.heap.size v6 (M.take r)) := (by show w6.ownsRow _ _ _ _ _ _; rw [HTL.out]; exact ho6); obtain ⟨A6, c6, hv6⟩ := HO6.out.form; rw [HTL.out] at hv6; subst hv6; have HB6 := Lib.hid ((Below.refl w5.heap.size w5).grown hgrow (Nat.le_refl _) (fun k hk => (World.ownsRow.lt HON.out k hk).1)); have HOA7 := Lib.hid (World.ownsRow.alloc ho6 (.cells #[.string ⟨k.toArray⟩, .string ⟨x.toArray⟩] 100)); have HBS7 : Hid (w5.heap.size ≤ (w6.alloc (.cells #[.string ⟨k.toArray⟩, .string ⟨x.toArray⟩] 100)).heap.size) := (by show _ ≤ _; have := HB6.out.size; simp; omega); clear hown hgrow ho6)
      | (refine wpList_append_own _ rfl _ _ 52 rfl w5.heap.size 100 i0 (.agg #[.string ⟨#[]⟩, .string ⟨#[]⟩]) 2 32 Try.underlying52 hi hz0 hz1 hz2 rfl (by decide) (.slice A6 r c6) r ((M.take r).flatMap cellsR) rfl HOA7.out ⟨w6.heap.size, 0, none⟩ 1 1 (cellsR (k, x)) rfl rfl (fun j u h => cell_lit w6 #[.string ⟨k.toArray⟩, .string ⟨x.toArray⟩] 100 j u h) (cellsR_one _) HBN3.out HBN4.out HBS7.out ?_; intro v7 w7 hown hgrow _; have hst := ownR_step (w := w5) (p := (k, x)) HO6.out HB6.out (by rw [HTL.out]; exact hown) hgrow; have HO7 := Lib.hid hst.1; have HB7 := Lib.hid hst.2.1; have z7 := (HB7.out.cell (p := ⟨w3.heap.size, 0, none⟩) HZ5.out.lt).trans HZ5.out.cell; obtain ⟨A7, c7, hv7⟩ := HO7.out.form; rw [HTM.out] at hv7; subst hv7; have HSD := Lib.hid (SlR.drop (HS5.out.next HB7.out) r); have HO7r : Hid (w7.ownsRow w5.heap.size 100 2 (.slice A7 (r + 1) c7) (r + 1) ((M.take r ++ [(k, x)]).flatMap cellsR)) := (by have h9 := HO7.out; unfold OwnR at h9; rw [HTM.out] at h9; exact h9); clear hown hgrow hst)
      | (refine wpList_append_own _ rfl _ _ 52 rfl w5.heap.size 100 i0 (.agg #[.string ⟨#[]⟩, .string ⟨#[]⟩]) 2 32 Try.underlying52 hi hz0 hz1 hz2 rfl (by decide) (.slice A7 (r + 1) c7) (r + 1) ((M.take r ++ [(k, x)]).flatMap cellsR) rfl HO7r.out _ (M.length - r) _ ((M.drop r).flatMap cellsR) rfl HND.out HSD.out.cells (flat_one _) HBN5.out HBN6.out HB7.out.size ?_; intro v8 w8 hown hgrow _; have HO8 : Hid (OwnR w8 w5.heap.size v8 (M.take r ++ [(k, x)] ++ M.drop r)) := (by show w8.ownsRow _ _ _ _ _ _; rw [List.length_append, HTM.out, List.length_drop, List.flatMap_append]; exact hown); have HB8 := Lib.hid (HB7.out.grown hgrow HB7.out.size (fun k hk => (World.ownsRow.lt HO7r.out k hk).1)); obtain ⟨A8, c8, hv8⟩ := HO8.out.form; rw [HLL.out] at hv8; subst hv8; have hy8 : Boxed w8 (w.heap.size + 1) 54 (.slice none 0 0) := (HB8.out.block _ HY5.out.lt).trans HY5.out; have HY8 := Lib.hid hy8; have y8 := hy8.cell; have f8 := hy8.frozen; clear hown hgrow z7 hy8)
      | fail)
    obtain ⟨w9, hw9⟩ : ∃ X, w8.setCell ⟨w.heap.size + 1, 0, none⟩ (.slice A8 (M.length + 1) c8) = X := ⟨_, rfl⟩
    have hx9 : Boxed w9 (w.heap.size + 1) 54 (.slice A8 (M.length + 1) c8) := by rw [← hw9]; exact HY8.out.set _
    have ho9 : OwnR w9 w5.heap.size (.slice A8 (M.length + 1) c8) (M.take r ++ [(k, x)] ++ M.drop r) := by rw [← hw9]; exact HO8.out.set HY8.out (by decide)
    have hb9 : Below w.heap.size w w9 := by rw [← hw9]; exact (HB5.out.trans (HB8.out.mono HB5.out.size)).setCell (p := ⟨w.heap.size + 1, 0, none⟩) (Nat.le_succ _) _
    have eP : putL L (k, x) = M.take r ++ [(k, x)] ++ M.drop r := by rw [HPP.out]; simp
    have q0 := hx9.cell
    rw [hw9]
    refine bodyPost_ret (v := .tuple #[.agg #[.slice A8 (M.length + 1) c8], .int .i64 0]) ?_ rfl ⟨A8, ⟨c8, by rw [eP, HLL.out]⟩, by rw [eP]; exact ho9.slR, hb9⟩
    rw [results_cell_tmp rfl]
    simp [go_sem, q0]
end Go.Proofs.Ytohpilamoglhcaa
