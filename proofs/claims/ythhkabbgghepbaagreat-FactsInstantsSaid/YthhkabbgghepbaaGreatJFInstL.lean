/-
  THE LAW FactsInstants: its walk.
-/
import Derived.Test.YthhkabbgghepbaaGreatJFOrderL
import Derived.Test.YthhkabbgghepbaaGreatJFSpans
import Derived.Test.YthhkabbgghepbaaGreatJSOfP
namespace Go.Proofs.YthhkabbgghepbaaGreat
open Go.RowKit Go.Shelf

theorem spansOf_small {fs : List FactP} (h : ∀ f ∈ fs, f.l.length ≤ 3000) (x : Int × Int × Int × Int × ByteArray) : (spansOf fs x).length ≤ 3000 := by
  unfold spansOf
  cases hq : fs.find? (fun g => decide (triF g = x)) with
  | none => exact Nat.zero_le _
  | some g => exact h g (List.mem_of_find?_eq_some hq)
theorem mayFs_small {fs : List FactP} (h : mayFs fs = true) : ∀ f ∈ fs, f.s.size ≤ 1000 := fun f hf => by
  have := (of_decide_eq_true h).1 f hf
  unfold mayF at this
  simp only [Bool.and_eq_true] at this
  exact mayB_size (mayD_val this.1.1)
theorem notMay_at {l : List Dat} (h : notMay l = false) {d : Dat} (hd : d ∈ l) : mayD d = true := by
  unfold notMay at h
  rw [List.any_eq_false] at h
  simpa using h d hd
theorem mayD_tx {d : Dat} (h : mayD d = true) : 1 ≤ d.t := by
  unfold mayD at h
  simp only [Bool.and_eq_true, decide_eq_true_eq] at h
  exact h.1.2.1

set_option maxRecDepth 100000 in
set_option maxHeartbeats 4000000 in
theorem fInst_any (by_ at_ : Int) (A : Option Addr) (c : Nat) (l : List Dat) (w : World) (hs : SlD w w.heap.size A l) (hl : l.length * 80 ≤ 140737488351232) (hz : ∀ d ∈ l, d.s.size ≤ maxLen) (hk : ∀ d ∈ l, SpOk (spD d)) :
    Calls Tryz.prog 8 #[.slice A l.length c, .int .i64 by_, .int .i64 at_] w fun e w' => e = .returned (.bool true) ∧ Below w.heap.size w w' := by
  have HS := Lib.hid hs
  have HZ := Lib.hid hz
  have HK := Lib.hid hk
  clear hs hz hk
  go_enter Tryz.func8, Tryz.ntmps8
  go_wp2_with fail
  refine (fAlive_any _).mono ?_
  rintro e w1 ⟨rfl, hb1⟩
  have HB1 := Lib.hid hb1
  have HS1 := Lib.hid ((HS.out.next hb1 (Nat.le_refl _)).more hb1.size)
  clear hb1
  have HGR := Lib.hid (great_u A c l w1 HS1.out (by omega))
  go_wp2_with fail
  refine HGR.out.mono ?_
  rintro e w' ⟨⟨rfl, hfew⟩ | rfl, rfl⟩
  · have HFEW := Lib.hid hfew
    clear hfew
    by_cases hp : l.length = 0
    · have hlz : ((l.length : Int) == 0) = true := by rw [hp]; rfl
      go_wp2
      go_ret
      exact ⟨rfl, HB1.out⟩
    · have hlz : ((l.length : Int) == 0) = false := by rw [beq_eq_false_iff_ne]; omega
      have hlne : (l.length : Int) ≠ 0 := by omega
      have hlpos : 0 < l.length := by omega
      clear hp
      obtain ⟨n, hnl, hne⟩ := turn_by by_ l.length hlpos (by omega)
      have hnn : (n : Int) < (l.length : Int) := by omega
      obtain ⟨b, o, rfl, hbl, hp⟩ := HS1.out.at_ hnl
      obtain ⟨d, hd⟩ : ∃ d, l[n] = d := ⟨_, rfl⟩
      rw [hd] at hp
      have HDM : Hid (d ∈ l) := by show _ ∈ _; rw [← hd]; exact List.getElem_mem _
      have c0 := hp.c0
      have c1 := hp.c1
      have c2 := hp.c2
      have c3 := hp.c3
      have c4 := hp.c4
      have c5 := hp.c5
      have c6 := hp.c6
      have c7 := hp.c7
      have c8 := hp.c8
      obtain ⟨w2, hw2⟩ : ∃ w2, w1.alloc (.cells #[.int .i64 d.e, .int .i64 d.a, .int .i64 d.k, .int .i64 d.m, .string d.s, .int .i64 d.t, .bool d.add, .int .i64 d.fr, .int .i64 d.til] 46) = w2 := ⟨_, rfl⟩
      have HDA : Hid (DatAt w2 w1.heap.size d) := by rw [← hw2]; exact datAt_new w1 d
      have HB2 : Hid (Below w1.heap.size w1 w2) := by rw [← hw2]; exact (Below.refl _ w1).alloc (Nat.le_refl _) _
      have HS2 := Lib.hid ((HS1.out.next HB2.out (Nat.le_refl _)).more HB2.out.size)
      have HFA := Lib.hid (fold_u (some ⟨b, o, none⟩) c l w2 HS2.out (by omega) HZ.out HK.out (fun h => ⟨by have := HFEW.out h; omega, by have := HFEW.out h; have := sorts_few l; omega⟩))
      clear hp hd
      go_upto_region 5 with (fail)
      try rw [hw2]
      clear hw2 c0 c1 c2 c3 c4 c5 c6 c7 c8
      go_wp2_with fail
      refine HFA.out.mono ?_
      rintro e w3 ⟨v, ec, rfl, hfu, hb3⟩
      have HB3 := Lib.hid (HB1.out.trans ((HB2.out.trans (hb3.mono HB2.out.size)).mono HB1.out.size))
      have HDB := Lib.hid (HDA.out.next hb3 HDA.out.lt)
      have HS3 := Lib.hid ((HS2.out.next hb3 (Nat.le_refl _)).more hb3.size)
      clear hb3 HFA
      rcases hfu with ⟨rfl, rfl, _⟩ | ⟨rfl, hm, hg, fs, hf, hv, hfl, hfn⟩
      · go_wp2
        go_ret
        exact ⟨rfl, HB3.out⟩
      · have HM := Lib.hid hm
        have HMF := Lib.hid (foldsTo_may hm hf)
        have HIN : Hid (∀ {t last : Int} {is : Bool}, LastIs l (triD d) t last is → innB (spansOf fs (triD d)) t = is) := fun h => lastIs_in hg hf hm HDM.out h
        obtain ⟨A4, c4, rfl, hv'⟩ := id hv
        have HFV := Lib.hid hv
        have HFL := Lib.hid (And.intro hfl hfn)
        clear hm hg hf hv hv' hfl hfn
        go_wp2_with fail
        go_loopg [11, 12, 13] l.length (fun g x11 x12 x13 wr => ∃ (j q : Nat) (last : Int) (is : Bool), x11 = .int .i64 last ∧ x12 = .bool is ∧ x13 = .int .i64 j ∧ j + g = l.length ∧ wr = w3.drewN q ∧ Hid (LastIs (l.take j) (triD d) at_ last is))
        case atStart => exact ⟨0, 0, 0, false, rfl, rfl, rfl, by omega, rfl, by rw [List.take_zero]; exact lastIs_nil _ _⟩
        case round =>
          obtain ⟨j, q, last, is, rfl, rfl, rfl, hj, rfl, HL⟩ := hrel
          cases gk with
          | zero =>
            have hji : ¬ (j : Int) < (l.length : Int) := by omega
            have HII : Hid (innB (spansOf fs (triD d)) at_ = is) := by
              have := HL.out
              rw [List.take_of_length_le (by omega)] at this
              exact HIN.out this
            have HFVq := Lib.hid (HFV.out.next (below_ind (Below.refl _ w3) q))
            have HSP := Lib.hid (spansF_any A4 c4 fs d.e d.a d.k d.m d.s (w3.drewN q) HFVq.out (by have := HFL.out.2; omega) (fun f hf => ⟨Nat.le_trans (mayFs_small HMF.out f hf) (by decide), by have := HFL.out.1 f hf; omega⟩))
            have d0 := (HDB.out.drewN q).cell 0
            have d1 := (HDB.out.drewN q).cell 1
            have d2 := (HDB.out.drewN q).cell 2
            have d3 := (HDB.out.drewN q).cell 3
            have d4 := (HDB.out.drewN q).cell 4
            simp at d0 d1 d2 d3 d4
            have HBq := Lib.hid (below_ind HB3.out q)
            go_wp2_with fail
            refine HSP.out.mono ?_
            rintro e w4 ⟨⟨v4, ec4, rfl, ⟨_, rfl, hsv⟩ | ⟨hno, _, _⟩⟩, hb4⟩
            · have HB4 := Lib.hid (HBq.out.trans (hb4.mono HBq.out.size))
              obtain ⟨A5, c5, rfl, hsl, _⟩ := hsv
              have HRI := Lib.hid (refIn_any A5 c5 (spansOf fs (triD d)) at_ w4 _ hsl (by have := spansOf_small HFL.out.1 (triD d); omega))
              rw [HII.out] at HRI
              have HRJ : Hid (Calls Tryz.prog 26 #[.slice A5 (spansOf fs (d.e, d.a, d.k, d.m, d.s)).length c5, .int .i64 at_] w4 fun e w' => e = .returned (.bool is) ∧ ∃ n, w' = w4.drewN n) := HRI.out
              clear hsl HRI hb4 d0 d1 d2 d3 d4
              go_wp2_with fail
              refine HRJ.out.mono ?_
              rintro e w5 ⟨rfl, q5, rfl⟩
              have HB5 := Lib.hid (below_ind HB4.out q5)
              cases is
              · go_wp2
                go_ret
                exact ⟨rfl, HB5.out⟩
              · go_wp2
                go_ret
                exact ⟨rfl, HB5.out⟩
            · rw [HMF.out] at hno
              cases hno
          | succ g =>
            have hji : (j : Int) < (l.length : Int) := by omega
            have hjn : j < l.length := by omega
            obtain ⟨b', o', e9, _, hp⟩ := HS3.out.at_ hjn
            cases e9
            obtain ⟨x, hx⟩ : ∃ x, l[j] = x := ⟨_, rfl⟩
            rw [hx] at hp
            have HTK : Hid (l.take (j + 1) = l.take j ++ [x]) := by show _ = _; rw [List.take_succ_eq_append_getElem hjn, hx]
            have HXM : Hid (x ∈ l) := by show _ ∈ _; rw [← hx]; exact List.getElem_mem _
            have HTX : Hid (1 ≤ x.t) := mayD_tx (notMay_at HM.out HXM.out)
            have c0 := hp.c0
            have c1 := hp.c1
            have c2 := hp.c2
            have c3 := hp.c3
            have c4 := hp.c4
            have c5 := hp.c5
            have c6 := hp.c6
            have c7 := hp.c7
            have c8 := hp.c8
            have d0 := HDB.out.cell 0
            have d1 := HDB.out.cell 1
            have d2 := HDB.out.cell 2
            have d3 := HDB.out.cell 3
            have d4 := HDB.out.cell 4
            simp at d0 d1 d2 d3 d4
            have hq := fun X => eqV_run (x.k, x.m, x.s) (d.k, d.m, d.s) X
            simp only at hq
            clear hp hx
            by_cases h1 : x.e = d.e
            · have g1 : (x.e == d.e) = true := by rw [h1]; exact beq_self_eq_true _
              by_cases h2 : x.a = d.a
              · have g2 : (x.a == d.a) = true := by rw [h2]; exact beq_self_eq_true _
                by_cases h3 : ((x.k, x.m, x.s) : Int × Int × ByteArray) = (d.k, d.m, d.s)
                · rw [decide_eq_true h3] at hq
                  by_cases h4 : last < x.t
                  · have g4 : decide (last < x.t) = true := decide_eq_true h4
                    by_cases h5 : x.fr ≤ at_
                    · have g5 : decide (x.fr ≤ at_) = true := decide_eq_true h5
                      by_cases h6 : at_ < x.til
                      · have g6 : decide (at_ < x.til) = true := decide_eq_true h6
                        have HN : Hid (LastIs (l.take (j + 1)) (triD d) at_ x.t x.add) := by
                          show LastIs _ _ _ _ _
                          rw [HTK.out]
                          refine lastIs_yes HL.out ?_ ⟨h5, h6⟩ h4
                          simp only [Prod.mk.injEq] at h3
                          unfold triD
                          rw [h1, h2, h3.1, h3.2.1, h3.2.2]
                        clear h1 h2 h3 h4 h5 h6
                        go_wp2
                        go_big_quiet (fail)
                        go_wp2
                        go_roundg g
                        case measure => omega
                        case rel => exact ⟨j + 1, _, x.t, x.add, rfl, rfl, by go_num, by omega, rfl, HN.out⟩
                      · have g6 : decide (at_ < x.til) = false := decide_eq_false h6
                        have HN : Hid (LastIs (l.take (j + 1)) (triD d) at_ last is) := by show LastIs _ _ _ _ _; rw [HTK.out]; exact lastIs_no HL.out HTX.out (fun h => h6 h.2.2.2)
                        go_wp2
                        go_big_quiet (fail)
                        go_wp2
                        go_roundg g
                        case measure => omega
                        case rel => exact ⟨j + 1, _, last, is, rfl, rfl, by go_num, by omega, rfl, HN.out⟩
                    · have g5 : decide (x.fr ≤ at_) = false := decide_eq_false h5
                      have HN : Hid (LastIs (l.take (j + 1)) (triD d) at_ last is) := by show LastIs _ _ _ _ _; rw [HTK.out]; exact lastIs_no HL.out HTX.out (fun h => h5 h.2.2.1)
                      go_wp2
                      go_big_quiet (fail)
                      go_wp2
                      go_roundg g
                      case measure => omega
                      case rel => exact ⟨j + 1, _, last, is, rfl, rfl, by go_num, by omega, rfl, HN.out⟩
                  · have g4 : decide (last < x.t) = false := decide_eq_false h4
                    have HN : Hid (LastIs (l.take (j + 1)) (triD d) at_ last is) := by show LastIs _ _ _ _ _; rw [HTK.out]; exact lastIs_no HL.out HTX.out (fun h => h4 h.2.1)
                    go_wp2
                    go_big_quiet (fail)
                    go_wp2
                    go_roundg g
                    case measure => omega
                    case rel => exact ⟨j + 1, _, last, is, rfl, rfl, by go_num, by omega, rfl, HN.out⟩
                · rw [decide_eq_false h3] at hq
                  have HN : Hid (LastIs (l.take (j + 1)) (triD d) at_ last is) := by show LastIs _ _ _ _ _; rw [HTK.out]; exact lastIs_no HL.out HTX.out (fun h => h3 (by have := h.1; unfold triD at this; simp only [Prod.mk.injEq] at this ⊢; exact this.2.2))
                  go_wp2
                  go_big_quiet (fail)
                  go_wp2
                  go_roundg g
                  case measure => omega
                  case rel => exact ⟨j + 1, _, last, is, rfl, rfl, by go_num, by omega, rfl, HN.out⟩
              · have g2 : (x.a == d.a) = false := by rw [beq_eq_false_iff_ne]; exact h2
                have HN : Hid (LastIs (l.take (j + 1)) (triD d) at_ last is) := by show LastIs _ _ _ _ _; rw [HTK.out]; exact lastIs_no HL.out HTX.out (fun h => h2 (by have := h.1; unfold triD at this; simp only [Prod.mk.injEq] at this; exact this.2.1))
                go_wp2
                go_big_quiet (fail)
                go_wp2
                go_roundg g
                case measure => omega
                case rel => exact ⟨j + 1, _, last, is, rfl, rfl, by go_num, by omega, rfl, HN.out⟩
            · have g1 : (x.e == d.e) = false := by rw [beq_eq_false_iff_ne]; exact h1
              have HN : Hid (LastIs (l.take (j + 1)) (triD d) at_ last is) := by show LastIs _ _ _ _ _; rw [HTK.out]; exact lastIs_no HL.out HTX.out (fun h => h1 (by have := h.1; unfold triD at this; simp only [Prod.mk.injEq] at this; exact this.1))
              go_wp2
              go_big_quiet (fail)
              go_wp2
              go_roundg g
              case measure => omega
              case rel => exact ⟨j + 1, _, last, is, rfl, rfl, by go_num, by omega, rfl, HN.out⟩
  · go_wp2
    go_ret
    exact ⟨rfl, HB1.out⟩
end Go.Proofs.YthhkabbgghepbaaGreat
