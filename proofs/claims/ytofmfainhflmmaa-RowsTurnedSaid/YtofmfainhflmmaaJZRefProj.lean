import Derived.Test.YtofmfainhflmmaaJZRefMay
import Derived.Test.YtofmfainhflmmaaJZJoinU
/-
  CONTRACTS: the document's within, pick, Has.
-/
namespace Go.Proofs.Ytofmfainhflmmaa
open Go.RowKit

set_option maxRecDepth 100000 in
set_option maxHeartbeats 1000000 in
theorem within_any (A : Option Addr) (c : Nat) (cols : List ByteArray) (A2 : Option Addr) (c2 : Nat) (among : List ByteArray) (w : World) (B : Nat) (hs : SlC w B A cols) (hs2 : SlC w B A2 among) (hl : cols.length ≤ 1000000000) (hl2 : among.length ≤ 1000000000) :
    Calls Try.prog 68 #[.slice A cols.length c, .slice A2 among.length c2] w fun e w' => e = .returned (.bool (inB cols among)) ∧ w = w' := by
  have HS := Lib.hid hs
  have HS2 := Lib.hid hs2
  clear hs hs2
  go_enter Try.func68, Try.ntmps68
  go_wp2
  go_loopg [5] cols.length (fun g x5 wr => ∃ j : Nat, x5 = .int .i64 j ∧ j + g = cols.length ∧ wr = w ∧ Hid (∀ (i : Nat) (x : ByteArray), i < j → cols[i]? = some x → hasS x among = true))
  case atStart => exact ⟨0, rfl, by omega, rfl, fun i x h => absurd h (Nat.not_lt_zero _)⟩
  case round =>
    obtain ⟨j, rfl, hj, rfl, HJ⟩ := hrel
    cases gk with
    | zero =>
      have hji : ¬ (j : Int) < (cols.length : Int) := by omega
      have HE : Hid (inB cols among = true) := by
        show _ = _
        unfold inB
        rw [List.all_eq_true]
        intro x hx
        obtain ⟨i, hi⟩ := List.getElem?_of_mem hx
        exact HJ.out i x (by have := (List.getElem?_eq_some_iff.1 hi).1; omega) hi
      go_wp2
      go_ret
      exact ⟨ret_bool (by rw [HE.out]), rfl⟩
    | succ g =>
      have hji : (j : Int) < (cols.length : Int) := by omega
      have hjn : j < cols.length := by omega
      obtain ⟨b, o, rfl, hb, hp⟩ := HS.out.at_ hjn
      have HR : Hid (cols[j]? = some cols[j]) := List.getElem?_eq_getElem hjn
      obtain ⟨x, hx⟩ : ∃ x, cols[j] = x := ⟨_, rfl⟩
      rw [hx] at hp HR
      unfold strV at hp
      have HC := Lib.hid (place_any A2 c2 among x wr B HS2.out (by omega))
      clear hx
      cases h2 : hasS x among with
      | true =>
        have HE : Hid (∀ (i : Nat) (y : ByteArray), i < j + 1 → cols[i]? = some y → hasS y among = true) := fun i y hi hy => by
          by_cases e : i = j
          · subst e
            rw [HR.out] at hy
            rw [← Option.some.inj hy]; exact h2
          · exact HJ.out i y (by omega) hy
        rw [(plI_has h2).1] at HC
        generalize plS x among = z at HC
        have hz : ¬ ((z : Int) < 0) := by omega
        clear h2
        go_wp2_with fail
        refine HC.out.mono ?_
        rintro e w' ⟨rfl, rfl⟩
        go_wp2
        go_roundg g
        case measure => omega
        case rel => exact ⟨j + 1, by go_num, by omega, rfl, HE.out⟩
      | false =>
        have HE : Hid (inB cols among = false) := by
          show _ = _
          unfold inB
          rw [List.all_eq_false]
          exact ⟨x, List.mem_of_getElem? HR.out, by rw [h2]; decide⟩
        rw [plI_not h2] at HC
        clear h2
        go_wp2_with fail
        refine HC.out.mono ?_
        rintro e w' ⟨rfl, rfl⟩
        go_wp2
        go_ret
        exact ⟨ret_bool (by rw [HE.out]), rfl⟩
set_option maxRecDepth 100000 in
set_option maxHeartbeats 2000000 in
theorem refPick_any (r : Rw) (A : Option Addr) (c : Nat) (cols : List ByteArray) (A2 : Option Addr) (c2 : Nat) (among : List ByteArray) (w : World) (hr : RwOk w w.heap.size r) (hs : SlC w w.heap.size A cols) (hs2 : SlC w w.heap.size A2 among) (hl : cols.length ≤ 1000000000) (hl2 : among.length ≤ 1000000000) (hin : inB cols among = true) (hrl : r.l.length = among.length) :
    Calls Try.prog 61 #[cellR r, .slice A cols.length c, .slice A2 among.length c2] w fun e w' => (∃ v, e = .returned v ∧ OwnV w' w.heap.size v (pickV (plN cols among) r.l)) ∧ Below w.heap.size w w' := by
  obtain ⟨i0, hi, hz0, hz1, hz2⟩ := info_parts infoV
  have hmx : 2000000000000 ≤ maxLen := by decide
  have HRD := Lib.hid hr
  have HS := Lib.hid hs
  have HS2 := Lib.hid hs2
  have HIN := Lib.hid hin
  have HRL := Lib.hid hrl
  have HPN : Hid ((plN cols among).length = cols.length) := by show _ = _; unfold plN; exact List.length_map ..
  clear hr hs hs2 hin hrl
  obtain ⟨A1, c1, l⟩ := r
  unfold cellR
  simp only at HRL ⊢
  go_enter Try.func61, Try.ntmps61
  go_wp2
  go_loopg [7, 8] cols.length (fun g x7 x8 wr => ∃ j : Nat, OwnV wr w.heap.size x7 ((pickV (plN cols among) l).take j) ∧ x8 = .int .i64 j ∧ j + g = cols.length ∧ Hid (Below w.heap.size w wr))
  case atStart => exact ⟨0, World.ownsRow_nil _ _ _ _, rfl, by omega, Below.refl _ _⟩
  case round =>
    obtain ⟨j, ho, rfl, hj, HB⟩ := hrel
    cases gk with
    | zero =>
      have hji : ¬ (j : Int) < (cols.length : Int) := by omega
      have HE : Hid (OwnV wr w.heap.size u7 (pickV (plN cols among) l)) := by
        have h := ho
        rw [List.take_of_length_le (by unfold pickV; rw [List.length_map, HPN.out]; omega)] at h
        exact h
      clear ho
      go_wp2
      go_ret
      exact ⟨⟨_, rfl, HE.out⟩, HB.out⟩
    | succ g =>
      have hji : (j : Int) < (cols.length : Int) := by omega
      have hjn : j < cols.length := by omega
      obtain ⟨b1, o1, rfl, hb1, p1⟩ := (Sl1.up HS.out HB.out (Nat.le_refl _)).at_ hjn
      have hmem : cols[j] ∈ cols := List.getElem_mem hjn
      have he1 : cols[j]? = some cols[j] := List.getElem?_eq_getElem hjn
      obtain ⟨x, hx⟩ : ∃ x, cols[j] = x := ⟨_, rfl⟩
      rw [hx] at p1 hmem he1
      unfold strV at p1
      have hhas : hasS x among = true := by
        have := HIN.out
        unfold inB at this
        rw [List.all_eq_true] at this
        exact this x hmem
      obtain ⟨hz, hzlt⟩ := plI_has hhas
      have HC := Lib.hid (place_any A2 c2 among x wr wr.heap.size (Sl1.up HS2.out HB.out (Nat.le_refl _)) (by omega))
      rw [hz] at HC
      have hI : (plN cols among)[j]? = some (plS x among) := by unfold plN; rw [List.getElem?_map, he1]; rfl
      obtain ⟨z, hzz⟩ : ∃ z, plS x among = z := ⟨_, rfl⟩
      rw [hzz] at HC hzlt hI
      have hzl : z < l.length := by rw [HRL.out]; exact hzlt
      have hzi : (z : Int) < (l.length : Int) := by omega
      have hxx : l[z]? = some l[z] := List.getElem?_eq_getElem hzl
      obtain ⟨y, hy⟩ : ∃ y, l[z] = y := ⟨_, rfl⟩
      rw [hy] at hxx
      have HTK : Hid ((pickV (plN cols among) l).take (j + 1) = (pickV (plN cols among) l).take j ++ [y]) := take_pick hI hxx
      have HTL : Hid (((pickV (plN cols among) l).take j).length = j) := List.length_take_of_le (by unfold pickV; rw [List.length_map, HPN.out]; omega)
      obtain ⟨b2, o2, hA2, hlt2, hp2⟩ := (HRD.out.up HB.out (Nat.le_refl _)).s (by intro e; have e2 : l = [] := e; rw [e2] at hzl; simp at hzl)
      simp only at hA2
      subst hA2
      have q := hp2 z y hxx
      have q0 := q.c0
      have q1 := q.c1
      have q2 := q.c2
      have HO := Lib.hid ho
      clear ho hxx hy hI hzz hz hhas hmem he1 hx hp2 q hzlt
      go_wp2_with fail
      refine HC.out.mono ?_
      rintro e w' ⟨rfl, rfl⟩
      have HOA : Hid (OwnV (wr.alloc (.cells #[.int .i64 y.1, .int .i64 y.2.1, .string y.2.2] 24)) w.heap.size u7 ((pickV (plN cols among) l).take j)) := owns_next HO.out ((Below.refl _ _).alloc (Nat.le_refl _) _)
      have HBA := Lib.hid (HB.out.alloc HB.out.size (.cells #[.int .i64 y.1, .int .i64 y.2.1, .string y.2.2] 24))
      have HLC := Lib.hid (litV wr y)
      go_wp2_with (at_builtin; refine wpList_append_any rfl _ _ 46 rfl w.heap.size 24 i0 (.agg #[.int .i64 0, .int .i64 0, .string ⟨#[]⟩]) 3 32 Try.underlying46 hi hz0 hz1 hz2 rfl (by decide) _ _ _ rfl HOA.out (some ⟨wr.heap.size, 0, none⟩) 1 1 ([y].flatMap cellsV) rfl rfl (fun h => by cases h) HLC.out (cellsV_all _) (by rw [HTL.out]; omega) (by rw [HTL.out]; omega) HBA.out.size ?_; intro v1 w3 hown hgrow; have HV1 : Hid (OwnV w3 w.heap.size v1 ((pickV (plN cols among) l).take j ++ [y])) := ownV_of hown; have HB3 := Lib.hid (HBA.out.trans (below_owns HOA.out hgrow HBA.out.size)); clear hown hgrow)
      go_roundg g
      case measure => omega
      case rel => exact ⟨j + 1, by rw [HTK.out]; exact HV1.out, by go_num, by omega, HB3.out⟩
end Go.Proofs.Ytofmfainhflmmaa

/-
  CONTRACTS: the document's Project, Rename.
-/
namespace Go.Proofs.Ytofmfainhflmmaa
open Go.RowKit

theorem mayRel_len {cols : List ByteArray} {R : List Rw} (h : mayRel cols R = true) : R.length ≤ 100000 := by
  unfold mayRel at h
  rw [Bool.and_eq_true, Bool.and_eq_true, Bool.and_eq_true, decide_eq_true_eq] at h
  exact h.1.1.2
theorem mayRel_cols {cols : List ByteArray} {R : List Rw} (h : mayRel cols R = true) : colsB cols = true := by
  unfold mayRel at h
  rw [Bool.and_eq_true, Bool.and_eq_true, Bool.and_eq_true] at h
  exact h.1.1.1
theorem colsB_len {cols : List ByteArray} (h : colsB cols = true) : cols.length ≤ 32 := by
  unfold colsB at h
  rw [Bool.and_eq_true, decide_eq_true_eq] at h
  exact h.1
theorem madeC_zero {n : Nat} {T : List (List Vl)} (h1 : n ≤ 32) (h2 : T.length ≤ 100000) : madeC n T = 0 := by
  unfold madeC
  have := putsG_len (o := ordR) T
  rw [if_neg (by omega), if_neg (by omega)]
set_option maxRecDepth 100000 in
set_option maxHeartbeats 8000000 in
theorem refProject_any (A0 : Option Addr) (c0 : Nat) (cols0 : List ByteArray) (A1 : Option Addr) (c1 : Nat) (R : List Rw) (A : Option Addr) (c : Nat) (cols : List ByteArray) (w : World) (hc0 : SlC w w.heap.size A0 cols0) (hR : SlR w w.heap.size A1 R) (hc : SlC w w.heap.size A cols)
    (hl0 : cols0.length ≤ 1000000000) (hl1 : R.length ≤ 100000000) (hl : cols.length ≤ 1000000000) (hll : ∀ r ∈ R, r.l.length ≤ 1000000000) :
    Calls Try.prog 50 #[.agg #[.slice A0 cols0.length c0, .slice A1 R.length c1], .slice A cols.length c] w (RefEnd w A c cols (projT cols0 R cols) (projC cols0 R cols)) := by
  have HC0 := Lib.hid hc0
  have HR := Lib.hid hR
  have HC := Lib.hid hc
  have HLL := Lib.hid hll
  clear hc0 hR hc hll
  obtain ⟨w0, hw0⟩ : ∃ w0, (w.alloc (.cells #[.slice A0 cols0.length c0, .slice A1 R.length c1] 43)).alloc (.cells #[.slice none 0 0, .slice none 0 0] 43) = w0 := ⟨_, rfl⟩
  have htw : Two w w0 (.slice A0 cols0.length c0) (.slice A1 R.length c1) := by rw [← hw0]; exact two_new _ _ _ _
  have hs1 : (w.alloc (.cells #[.slice A0 cols0.length c0, .slice A1 R.length c1] 43)).heap.size = w.heap.size + 1 := by simp
  have HBK : Hid (w0.heap[w.heap.size + 1]? = some (.cells #[.slice none 0 0, .slice none 0 0] 43 (0, 0))) := by show _ = _; rw [← hw0, ← hs1]; exact heap_alloc_new _ _
  have HM := Lib.hid (refMay_any A0 c0 cols0 A1 c1 R w0 (HC0.out.up htw.b (Nat.le_refl _)) (HR.out.up htw.b (Nat.le_refl _)) hl0 (by omega))
  have HWI := Lib.hid (fun W (hb : Below w.heap.size w W) => within_any A c cols A0 c0 cols0 W W.heap.size (Sl1.up HC.out hb (Nat.le_refl _)) (Sl1.up HC0.out hb (Nat.le_refl _)) hl hl0)
  have HON := Lib.hid (fun W (hb : Below w.heap.size w W) => once_any A c cols W W.heap.size (Sl1.up HC.out hb (Nat.le_refl _)) (by omega))
  have HT0 := Lib.hid htw
  obtain ⟨ya0, ya1, yc0, yc1, yf0, yf1⟩ : _ ∧ _ ∧ _ ∧ _ ∧ _ ∧ _ := ⟨htw.a0, htw.a1, htw.c0, htw.c1, htw.f0, htw.f1⟩
  clear htw
  obtain ⟨i0, hi, hz0, hz1, hz2⟩ := info_parts infoR
  have hmx : 2000000000000 ≤ maxLen := by decide
  by_cases q : mayRel cols0 R = true ∧ inB cols cols0 = true ∧ colsB cols = true
  · have HQ := Lib.hid q
    have HE : Hid (projC cols0 R cols = 0) := by show _ = _; unfold projC; rw [if_pos ⟨q.1, q.2.2, q.2.1⟩]
    rw [q.1] at HM
    rw [q.2.1] at HWI
    rw [q.2.2] at HON
    clear q
    go_enter Try.func50, Try.ntmps50
    go_wp2_with fail
    refine HM.out.mono ?_
    rintro e w1 ⟨rfl, hb1⟩
    have HT1 := Lib.hid (HT0.out.next hb1)
    have HBK1 := Lib.hid ((hb1.block _ HT0.out.lt).trans HBK.out)
    obtain ⟨xa0, xa1, xc0, xc1, xf0, xf1⟩ : _ ∧ _ ∧ _ ∧ _ ∧ _ ∧ _ := ⟨HT1.out.a0, HT1.out.a1, HT1.out.c0, HT1.out.c1, HT1.out.f0, HT1.out.f1⟩
    clear hb1 ya0 ya1 yc0 yc1 yf0 yf1 HM hw0
    go_wp2_with fail
    refine (HWI.out w1 HT1.out.b).mono ?_
    rintro e w2 ⟨rfl, rfl⟩
    go_wp2_with fail
    refine (HON.out w1 HT1.out.b).mono ?_
    rintro e w2 ⟨rfl, rfl⟩
    clear HWI HON
    go_wp2
    go_loopg [9, 10] R.length (fun g x9 x10 wr => ∃ (j : Nat) (acc : List Rw), OwnR wr w1.heap.size x9 acc ∧ x10 = .int .i64 j ∧ j + g = R.length ∧ acc.length = j ∧ Hid (txR acc = (R.take j).map (fun r => pickV (plN cols cols0) r.l)) ∧ Hid (Below w1.heap.size w1 wr))
    case atStart => exact ⟨0, [], ownR_nil _ _, rfl, by omega, rfl, by show _ = _; simp [txR], Below.refl _ _⟩
    case round =>
      clear xa0 xa1 xc0 xc1 xf0 xf1
      obtain ⟨j, acc, ho, rfl, hj, hal, HT, HB⟩ := hrel
      obtain ⟨A9, c9, rfl, hsA, hl9, hc9, hn9, _⟩ := ho.form
      have HTW := Lib.hid (HT1.out.next HB.out)
      have HLT : Hid (w.heap.size + 1 < wr.heap.size) := HTW.out.lt
      have HLT0 : Hid (w.heap.size < wr.heap.size) := by show _ < _; have := HLT.out; omega
      have ha1 := HTW.out.a1
      cases gk with
      | zero =>
        have hji : ¬ (j : Int) < (R.length : Int) := by omega
        have HTX : Hid (txR acc = (txR R).map (pickV (plN cols cols0))) := by
          show _ = _
          rw [HT.out, List.take_of_length_le (by omega)]
          unfold txR
          rw [List.map_map]; rfl
        have HBKW := Lib.hid ((HB.out.block _ HT1.out.lt).trans HBK1.out)
        have HMC : Hid (madeC cols.length (txR acc) = 0) := madeC_zero (colsB_len HQ.out.2.2) (by rw [txR_len, hal]; have := mayRel_len HQ.out.1; omega)
        have hacl : ∀ r ∈ acc, r.l.length ≤ 1000000000 := fun r hr => by
          have hm : r.l ∈ txR acc := List.mem_map.2 ⟨r, hr, rfl⟩
          rw [HTX.out] at hm
          obtain ⟨y, _, e⟩ := List.mem_map.1 hm
          rw [← e, pickV_len]
          unfold plN
          rw [List.length_map]; exact hl
        have HMD := made_any A c cols A9 c9 acc wr hsA (by omega) hacl
        rw [HMC.out] at HMD
        have HCL := Lib.hid HMD
        have HTP : Hid (putsG ordR (txR acc) = projT cols0 R cols) := by show _ = _; unfold projT; rw [HTX.out]
        have hc0' := HTW.out.c0
        have hc1' := HTW.out.c1
        have hf0' := HTW.out.f0
        have hf1' := HTW.out.f1
        clear HMD ho hsA hacl
        rw [hal] at HCL ⊢
        go_wp2_with fail
        refine HCL.out.mono ?_
        rintro e w3 ⟨hb3, vc, vr, rfl, hcase⟩
        have HCASE := Lib.hid hcase
        have HB3 := Lib.hid hb3
        obtain ⟨⟨a1, n1, k1, e1⟩, a2, n2, k2, e2⟩ := RefEnd.slices hcase
        subst e1 e2
        have z0 := (hb3.cell (p := ⟨w.heap.size + 1, 0, none⟩) HLT.out).trans hc0'
        have z1 := (hb3.cell (p := ⟨w.heap.size + 1, 1, none⟩) HLT.out).trans hc1'
        have zf0 := (hb3.frozen (p := ⟨w.heap.size + 1, 0, none⟩) HLT.out).trans hf0'
        have zf1 := (hb3.frozen (p := ⟨w.heap.size + 1, 1, none⟩) HLT.out).trans hf1'
        have HC2 := Lib.hid (cells_two (v0 := .slice a1 n1 k1) (v1 := .slice a2 n2 k2) z0 z1)
        clear hcase hb3 hc0' hc1' hf0' hf1' HCL ha1
        go_wp2
        refine bodyPost_ret (v := .tuple #[.agg #[.slice a1 n1 k1, .slice a2 n2 k2], .int .i64 0]) (by rw [results_ct rfl]; obtain ⟨x0, x1⟩ := HC2.out; clear z0 z1; go_simp) rfl ?_
        rw [HE.out, ← HTP.out]
        exact RefEnd.store HTW.out.b (Nat.le_succ _) HLT.out HB3.out HBKW.out (by rcases HCASE.out with ⟨_, h⟩ | ⟨h, _⟩; exact .inl ⟨rfl, h⟩; exact absurd rfl h)
      | succ g =>
        have hji : (j : Int) < (R.length : Int) := by omega
        have hjn : j < R.length := by omega
        obtain ⟨b, o, r, hA1, hb, hr, hp, hok⟩ := (HR.out.up HTW.out.b (Nat.le_refl _)).at_ hjn
        subst hA1
        have HTK : Hid (R.take (j + 1) = R.take j ++ [r]) := by
          show _ = _
          rw [List.take_succ_eq_append_getElem hjn]
          rw [List.getElem?_eq_getElem hjn] at hr
          rw [Option.some.inj hr]
        have hrlen : r.l.length = cols0.length := longB_all (mayRel_long HQ.out.1) r (List.mem_of_getElem? hr)
        have HCA := Lib.hid (fun W (hb : Below wr.heap.size wr W) => refPick_any r A c cols A0 c0 cols0 W (hok.up hb (Nat.le_refl _)) (Sl1.up HC.out (HTW.out.b.trans (hb.mono HTW.out.b.size)) (Nat.le_refl _)) (Sl1.up HC0.out (HTW.out.b.trans (hb.mono HTW.out.b.size)) (Nat.le_refl _)) hl hl0 HQ.out.2.1 hrlen)
        have HZQ0 : Hid (zOk (pickV (plN cols cols0) r.l)) := zOk_pick hok.z (fun i hi => by rw [hrlen]; exact plN_lt HQ.out.2.1 i hi)
        have HP := Lib.hid (show (wr.cell? ⟨b, o + j, none⟩ = _ ∧ b < wr.heap.size) ∧ wr.cell? ⟨w.heap.size, 1, none⟩ = _ ∧ wr.cell? ⟨w.heap.size, 0, none⟩ = _ from ⟨⟨hp, hb⟩, HTW.out.a1, HTW.out.a0⟩)
        have HO := Lib.hid ho
        have HAL := Lib.hid hal
        rw [hal] at HO hl9 ⊢
        obtain ⟨A3, c3, l3⟩ := r
        unfold cellR at HCA
        simp only at HCA HZQ0
        obtain ⟨P, hP⟩ : ∃ P, pickV (plN cols cols0) l3 = P := ⟨_, rfl⟩
        have HPP := Lib.hid hP
        rw [hP] at HCA HZQ0
        clear hr hok hrlen ho hsA hal hP hn9
        go_wp2_with fail
        obtain ⟨wd, hwd⟩ : ∃ wd, wr.drew = wd := ⟨_, rfl⟩
        have HSN : Hid (Snc wr wd) := by show Snc _ _; rw [← hwd]; exact (Below.refl _ _).drew
        refine wp_region_held_drew (S := Snc wr) (by kernel_rfl) (by rw [hwd]; exact HSN.out) (fun hHeld => ?_)
        rw [hwd] at hHeld ⊢
        clear hwd hp ha1
        refine takeV 0 (some 38) ((.pointer (some ⟨w.heap.size, 1, none⟩))) rfl rfl (by kernel_rfl) (by kernel_rfl) (by kernel_rfl) (fun _ _ _ h => h) (by rfl) (by (intro _w _hSw; (try dsimp only at _hSw); go_simp)) (by assumption) ?_
        simp only [Act.put, List.setIfInBounds_toArray, List.set_cons_zero, List.set_cons_succ]
        refine takeV 1 (some 39) ((.slice (some ⟨b, o, none⟩) R.length c1)) rfl rfl (by kernel_rfl) (by kernel_rfl) (by kernel_rfl) (fun _ _ _ h => h) (by rfl) (by (intro _w hSw; have k0 := (Below.cell (p := ⟨w.heap.size, 1, none⟩) hSw HLT0.out).trans HP.out.2.1; clear hSw; go_simp)) (by assumption) ?_
        simp only [Act.put, List.setIfInBounds_toArray, List.set_cons_zero, List.set_cons_succ]
        refine takeV 2 (some 40) ((.int .i64 j)) rfl rfl (by kernel_rfl) (by kernel_rfl) (by kernel_rfl) (fun _ _ _ h => h) (by rfl) (by (intro _w _hSw; (try dsimp only at _hSw); go_simp)) (by assumption) ?_
        simp only [Act.put, List.setIfInBounds_toArray, List.set_cons_zero, List.set_cons_succ]
        refine takeV 3 (some 41) ((.pointer (some ⟨b, o + j, none⟩))) rfl rfl (by kernel_rfl) (by kernel_rfl) (by kernel_rfl) (fun _ _ _ h => h) (by rfl) (by (intro _w _hSw; (try dsimp only at _hSw); go_simp)) (by assumption) ?_
        simp only [Act.put, List.setIfInBounds_toArray, List.set_cons_zero, List.set_cons_succ]
        refine takeV 4 (some 42) ((.slice A3 l3.length c3)) rfl rfl (by kernel_rfl) (by kernel_rfl) (by kernel_rfl) (fun _ _ _ h => h) (by rfl) (by (intro _w hSw; have k0 := (Below.cell (p := ⟨b, o + j, none⟩) hSw HP.out.1.2).trans HP.out.1.1; clear hSw; go_simp)) (by assumption) ?_
        simp only [Act.put, List.setIfInBounds_toArray, List.set_cons_zero, List.set_cons_succ]
        refine takeV 5 (some 43) ((.slice A cols.length c)) rfl rfl (by kernel_rfl) (by kernel_rfl) (by kernel_rfl) (fun _ _ _ h => h) (by rfl) (by (intro _w _hSw; (try dsimp only at _hSw); go_simp)) (by assumption) ?_
        simp only [Act.put, List.setIfInBounds_toArray, List.set_cons_zero, List.set_cons_succ]
        refine takeV 6 (some 44) ((.pointer (some ⟨w.heap.size, 0, none⟩))) rfl rfl (by kernel_rfl) (by kernel_rfl) (by kernel_rfl) (fun _ _ _ h => h) (by rfl) (by (intro _w _hSw; (try dsimp only at _hSw); go_simp)) (by assumption) ?_
        simp only [Act.put, List.setIfInBounds_toArray, List.set_cons_zero, List.set_cons_succ]
        refine takeV 7 (some 45) ((.slice A0 cols0.length c0)) rfl rfl (by kernel_rfl) (by kernel_rfl) (by kernel_rfl) (fun _ _ _ h => h) (by rfl) (by (intro _w hSw; have k0 := (Below.cell (p := ⟨w.heap.size, 0, none⟩) hSw HLT0.out).trans HP.out.2.2; clear hSw; go_simp)) (by assumption) ?_
        simp only [Act.put, List.setIfInBounds_toArray, List.set_cons_zero, List.set_cons_succ]
        refine callV 8 rfl (by kernel_rfl) (by rfl) (fun K hK => ?_)
        go_simp
        refine (HCA.out _ hHeld).mono ?_
        rintro e w2 ⟨⟨v2, rfl, hv2⟩, hb2⟩
        have hb2x : Below wr.heap.size wr w2 := hHeld.next hb2
        have hv2x : OwnV w2 wr.heap.size v2 P := hv2.low (Below.size hHeld)
        refine hK.out _ _ (hHeld.next hb2) (fun _ => ?_)
        clear hK K hHeld hb2 hv2
        try simp only [Act.put, List.setIfInBounds_toArray, List.set_cons_zero, List.set_cons_succ]
        obtain ⟨A2, c2, rfl, _, _, _, _⟩ := hv2x.form
        refine takeV 9 (some 11) ((.slice A2 P.length c2)) rfl rfl (by kernel_rfl) (by kernel_rfl) (by kernel_rfl) (fun _ _ _ h => h) (by rfl) (by (intro _w _hSw; (try dsimp only at _hSw); go_simp)) (by assumption) ?_
        simp only [Act.put, List.setIfInBounds_toArray, List.set_cons_zero, List.set_cons_succ]
        refine wpAnyH_done (by kernel_rfl) ?_ _
        have HB2 : Hid (Below w1.heap.size w1 w2) := HB.out.trans (hb2x.mono HB.out.size)
        obtain ⟨q, hq⟩ : ∃ q : Rw, q = ⟨A2, c2, P⟩ := ⟨_, rfl⟩
        have hq1 : Value.slice A2 P.length c2 = cellR q := by rw [hq]; rfl
        have HQL : Hid (q.l = P) := by rw [hq]; rfl
        rw [hq1] at hv2x
        have HV2 : Hid (OwnV w2 w1.heap.size (cellR q) q.l) := by
          show OwnV _ _ _ _
          rw [HQL.out]; exact hv2x.low HB.out.size
        have HZQ : Hid (zOk q.l) := by show zOk _; rw [HQL.out]; exact HZQ0.out
        have HO2 := Lib.hid (HO.out.next hb2x)
        have HOA := Lib.hid (HO2.out.alloc (.cells #[cellR q] 46))
        have HVA := Lib.hid (HV2.out.next ((Below.refl _ _).alloc (Nat.le_refl _) (.cells #[cellR q] 46)))
        have HLC := Lib.hid (lit1 cellR 46 w2 q)
        have HBA := Lib.hid (HB2.out.alloc HB2.out.size (.cells #[cellR q] 46))
        obtain ⟨n2, hn2x⟩ : ∃ n2, P.length = n2 := ⟨_, rfl⟩
        have hcv : cellR q = .slice A2 n2 c2 := by rw [hq, ← hn2x]; rfl
        have HCV := Lib.hid hcv
        rw [hn2x]
        rw [hcv] at HVA HLC HBA HOA
        clear hq hq1 hv2x hb2x hcv HO2 HV2 hn2x
        have HOX := Lib.hid HOA.out.o
        unfold Own1 at HOX
        rw [HAL.out] at HOX
        have HONE : Hid (∀ u ∈ [q].map cellR, u.oneCell' = true) := fun u hu => by obtain ⟨x, _, rfl⟩ := List.mem_map.1 hu; rfl
        go_wp2_with (at_builtin; refine wpList_append_any rfl _ _ 32 rfl w1.heap.size 46 i0 (.slice none 0 0) 1 24 Try.underlying32 hi hz0 hz1 hz2 rfl (by decide) _ _ _ rfl HOX.out (some ⟨w2.heap.size, 0, none⟩) 1 1 ([q].map cellR) rfl rfl (fun h => by cases h) HLC.out HONE.out (by omega) (by omega) HBA.out.size ?_; intro v1 w3 hown hgrow; have HV1 : Hid (OwnR w3 w1.heap.size v1 (acc ++ [q])) := HOA.out.snoc (by rw [HCV.out]; exact HVA.out) HZQ.out hown hgrow; have HB3 := Lib.hid (HBA.out.trans (below_owns HOX.out hgrow HBA.out.size)); clear hown hgrow)
        go_roundg g
        case measure => omega
        case rel =>
          refine ⟨j + 1, acc ++ [q], HV1.out, by go_num, by omega, by rw [List.length_append, HAL.out]; rfl, ?_, HB3.out⟩
          show _ = _
          unfold txR at HT ⊢
          rw [HTK.out, List.map_append, List.map_append, HT.out, List.map_cons, List.map_cons, HQL.out, ← HPP.out]
          rfl
  · have HE : Hid (projC cols0 R cols = 2) := by show _ = _; unfold projC; rw [if_neg (fun h => q ⟨h.1, h.2.2, h.2.1⟩)]
    generalize mayRel cols0 R = b1 at HM q
    generalize inB cols cols0 = b2 at HWI q
    generalize colsB cols = b3 at HON q
    cases b1 <;> cases b2 <;> cases b3
    all_goals try exact absurd ⟨rfl, rfl, rfl⟩ q
    all_goals
      clear q
      go_enter Try.func50, Try.ntmps50
      go_wp2_with fail
      refine HM.out.mono ?_
      rintro e w1 ⟨rfl, hb1⟩
      have HT1 := Lib.hid (HT0.out.next hb1)
      have HBK1 := Lib.hid ((hb1.block _ HT0.out.lt).trans HBK.out)
      obtain ⟨xa0, xa1, xc0, xc1, xf0, xf1⟩ : _ ∧ _ ∧ _ ∧ _ ∧ _ ∧ _ := ⟨HT1.out.a0, HT1.out.a1, HT1.out.c0, HT1.out.c1, HT1.out.f0, HT1.out.f1⟩
      clear hb1 ya0 ya1 yc0 yc1 yf0 yf1 HM hw0
      go_wp2_with fail
      refine (HWI.out w1 HT1.out.b).mono ?_
      rintro e w2 ⟨rfl, rfl⟩
      go_wp2_with fail
      refine (HON.out w1 HT1.out.b).mono ?_
      rintro e w2 ⟨rfl, rfl⟩
      have HC2 := Lib.hid (cells_two (v0 := .slice none 0 0) (v1 := .slice none 0 0) xc0 xc1)
      go_wp2
      refine bodyPost_ret (v := .tuple #[.agg #[.slice none 0 0, .slice none 0 0], .int .i64 2]) (by rw [results_ct rfl]; obtain ⟨x0, x1⟩ := HC2.out; clear xc0 xc1; go_simp) rfl ?_
      rw [HE.out]
      exact RefEnd.store HT1.out.b (Nat.le_succ _) HT1.out.lt (Below.refl _ _) HBK1.out (.inr ⟨by decide, rfl, rfl⟩)
/-- rows that rise, put, are themselves -/
theorem putsG_self {T : List (List Vl)} (h : Ups ordR T) : putsG ordR T = T := puts_self ordR_is h
end Go.Proofs.Ytofmfainhflmmaa
