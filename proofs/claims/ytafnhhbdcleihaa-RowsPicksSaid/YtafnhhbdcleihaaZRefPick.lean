/-
  CONTRACTS: the document's within, pick, Has.
-/
import Derived.Test.YtafnhhbdcleihaaZRefMay
namespace Go.Proofs.Ytafnhhbdcleihaa
open Go.RowKit

theorem plI_has {x : ByteArray} {l : List ByteArray} (h : hasS x l = true) : plI x l = (plS x l : Int) ∧ plS x l < l.length := by
  unfold hasS at h
  rw [decide_eq_true_eq] at h
  exact ⟨by unfold plI; rw [if_pos h], h⟩
theorem plI_not {x : ByteArray} {l : List ByteArray} (h : hasS x l = false) : plI x l = -1 := by
  unfold hasS at h
  rw [decide_eq_false_iff_not] at h
  unfold plI; rw [if_neg h]
set_option maxRecDepth 100000 in
set_option maxHeartbeats 1000000 in
theorem within_any (A : Option Addr) (c : Nat) (cols : List ByteArray) (A2 : Option Addr) (c2 : Nat) (among : List ByteArray) (w : World) (B : Nat) (hs : SlC w B A cols) (hs2 : SlC w B A2 among) (hl : cols.length ≤ 1000000000) (hl2 : among.length ≤ 1000000000) :
    Calls Try.prog 55 #[.slice A cols.length c, .slice A2 among.length c2] w fun e w' => e = .returned (.bool (inB cols among)) ∧ w = w' := by
  have HS := Lib.hid hs
  have HS2 := Lib.hid hs2
  clear hs hs2
  go_enter Try.func55, Try.ntmps55
  go_wp2
  go_loopg [5] cols.length (fun g x5 wr => ∃ j : Nat, x5 = .int .i64 j ∧ j + g = cols.length ∧ wr = w ∧ Hid (∀ (i : Nat) (x : ByteArray), i < j → cols[i]? = some x → hasS x among = true))
  case atStart => exact ⟨0, rfl, by omega, rfl, fun i x h => absurd h (Nat.not_lt_zero _)⟩
  case round =>
    obtain ⟨j, rfl, hj, rfl, HJ⟩ := hrel
    cases gk with
    | zero =>
      have hji : ¬ (j : Int) < (cols.length : Int) := by omega
      have HE : Hid (inB cols among = true) := by
        show _ = _
        unfold inB
        rw [List.all_eq_true]
        intro x hx
        obtain ⟨i, hi⟩ := List.getElem?_of_mem hx
        exact HJ.out i x (by have := (List.getElem?_eq_some_iff.1 hi).1; omega) hi
      go_wp2
      go_ret
      exact ⟨ret_bool (by rw [HE.out]), rfl⟩
    | succ g =>
      have hji : (j : Int) < (cols.length : Int) := by omega
      have hjn : j < cols.length := by omega
      obtain ⟨b, o, rfl, hb, hp⟩ := HS.out.at_ hjn
      have HR : Hid (cols[j]? = some cols[j]) := List.getElem?_eq_getElem hjn
      obtain ⟨x, hx⟩ : ∃ x, cols[j] = x := ⟨_, rfl⟩
      rw [hx] at hp HR
      unfold strV at hp
      have HC := Lib.hid (place_any A2 c2 among x wr B HS2.out (by omega))
      clear hx
      cases h2 : hasS x among with
      | true =>
        have HE : Hid (∀ (i : Nat) (y : ByteArray), i < j + 1 → cols[i]? = some y → hasS y among = true) := fun i y hi hy => by
          by_cases e : i = j
          · subst e
            rw [HR.out] at hy
            rw [← Option.some.inj hy]; exact h2
          · exact HJ.out i y (by omega) hy
        rw [(plI_has h2).1] at HC
        generalize plS x among = z at HC
        have hz : ¬ ((z : Int) < 0) := by omega
        clear h2
        go_wp2_with fail
        refine HC.out.mono ?_
        rintro e w' ⟨rfl, rfl⟩
        go_wp2
        go_roundg g
        case measure => omega
        case rel => exact ⟨j + 1, by go_num, by omega, rfl, HE.out⟩
      | false =>
        have HE : Hid (inB cols among = false) := by
          show _ = _
          unfold inB
          rw [List.all_eq_false]
          exact ⟨x, List.mem_of_getElem? HR.out, by rw [h2]; decide⟩
        rw [plI_not h2] at HC
        clear h2
        go_wp2_with fail
        refine HC.out.mono ?_
        rintro e w' ⟨rfl, rfl⟩
        go_wp2
        go_ret
        exact ⟨ret_bool (by rw [HE.out]), rfl⟩
set_option maxRecDepth 100000 in
set_option maxHeartbeats 2000000 in
theorem refPick_any (r : Rw) (A : Option Addr) (c : Nat) (cols : List ByteArray) (A2 : Option Addr) (c2 : Nat) (among : List ByteArray) (w : World) (hr : RwOk w w.heap.size r) (hs : SlC w w.heap.size A cols) (hs2 : SlC w w.heap.size A2 among) (hl : cols.length ≤ 1000000000) (hl2 : among.length ≤ 1000000000) (hin : inB cols among = true) (hrl : r.l.length = among.length) :
    Calls Try.prog 56 #[cellR r, .slice A cols.length c, .slice A2 among.length c2] w fun e w' => (∃ v, e = .returned v ∧ OwnV w' w.heap.size v (pickV (plN cols among) r.l)) ∧ Below w.heap.size w w' := by
  obtain ⟨i0, hi, hz0, hz1, hz2⟩ := info_parts infoV
  have hmx : 2000000000000 ≤ maxLen := by decide
  have HRD := Lib.hid hr
  have HS := Lib.hid hs
  have HS2 := Lib.hid hs2
  have HIN := Lib.hid hin
  have HRL := Lib.hid hrl
  have HPN : Hid ((plN cols among).length = cols.length) := by show _ = _; unfold plN; exact List.length_map ..
  clear hr hs hs2 hin hrl
  obtain ⟨A1, c1, l⟩ := r
  unfold cellR
  simp only at HRL ⊢
  go_enter Try.func56, Try.ntmps56
  go_wp2
  go_loopg [7, 8] cols.length (fun g x7 x8 wr => ∃ j : Nat, OwnV wr w.heap.size x7 ((pickV (plN cols among) l).take j) ∧ x8 = .int .i64 j ∧ j + g = cols.length ∧ Hid (Below w.heap.size w wr))
  case atStart => exact ⟨0, World.ownsRow_nil _ _ _ _, rfl, by omega, Below.refl _ _⟩
  case round =>
    obtain ⟨j, ho, rfl, hj, HB⟩ := hrel
    cases gk with
    | zero =>
      have hji : ¬ (j : Int) < (cols.length : Int) := by omega
      have HE : Hid (OwnV wr w.heap.size u7 (pickV (plN cols among) l)) := by
        have h := ho
        rw [List.take_of_length_le (by unfold pickV; rw [List.length_map, HPN.out]; omega)] at h
        exact h
      clear ho
      go_wp2
      go_ret
      exact ⟨⟨_, rfl, HE.out⟩, HB.out⟩
    | succ g =>
      have hji : (j : Int) < (cols.length : Int) := by omega
      have hjn : j < cols.length := by omega
      obtain ⟨b1, o1, rfl, hb1, p1⟩ := (Sl1.up HS.out HB.out (Nat.le_refl _)).at_ hjn
      have hmem : cols[j] ∈ cols := List.getElem_mem hjn
      have he1 : cols[j]? = some cols[j] := List.getElem?_eq_getElem hjn
      obtain ⟨x, hx⟩ : ∃ x, cols[j] = x := ⟨_, rfl⟩
      rw [hx] at p1 hmem he1
      unfold strV at p1
      have hhas : hasS x among = true := by
        have := HIN.out
        unfold inB at this
        rw [List.all_eq_true] at this
        exact this x hmem
      obtain ⟨hz, hzlt⟩ := plI_has hhas
      have HC := Lib.hid (place_any A2 c2 among x wr wr.heap.size (Sl1.up HS2.out HB.out (Nat.le_refl _)) (by omega))
      rw [hz] at HC
      have hI : (plN cols among)[j]? = some (plS x among) := by unfold plN; rw [List.getElem?_map, he1]; rfl
      obtain ⟨z, hzz⟩ : ∃ z, plS x among = z := ⟨_, rfl⟩
      rw [hzz] at HC hzlt hI
      have hzl : z < l.length := by rw [HRL.out]; exact hzlt
      have hzi : (z : Int) < (l.length : Int) := by omega
      have hxx : l[z]? = some l[z] := List.getElem?_eq_getElem hzl
      obtain ⟨y, hy⟩ : ∃ y, l[z] = y := ⟨_, rfl⟩
      rw [hy] at hxx
      have HTK : Hid ((pickV (plN cols among) l).take (j + 1) = (pickV (plN cols among) l).take j ++ [y]) := take_pick hI hxx
      have HTL : Hid (((pickV (plN cols among) l).take j).length = j) := List.length_take_of_le (by unfold pickV; rw [List.length_map, HPN.out]; omega)
      obtain ⟨b2, o2, hA2, hlt2, hp2⟩ := (HRD.out.up HB.out (Nat.le_refl _)).s (by intro e; have e2 : l = [] := e; rw [e2] at hzl; simp at hzl)
      simp only at hA2
      subst hA2
      have q := hp2 z y hxx
      have q0 := q.c0
      have q1 := q.c1
      have q2 := q.c2
      have HO := Lib.hid ho
      clear ho hxx hy hI hzz hz hhas hmem he1 hx hp2 q hzlt
      go_wp2_with fail
      refine HC.out.mono ?_
      rintro e w' ⟨rfl, rfl⟩
      have HOA : Hid (OwnV (wr.alloc (.cells #[.int .i64 y.1, .int .i64 y.2.1, .string y.2.2] 44)) w.heap.size u7 ((pickV (plN cols among) l).take j)) := owns_next HO.out ((Below.refl _ _).alloc (Nat.le_refl _) _)
      have HBA := Lib.hid (HB.out.alloc HB.out.size (.cells #[.int .i64 y.1, .int .i64 y.2.1, .string y.2.2] 44))
      have HLC := Lib.hid (litV wr y)
      go_wp2_with (at_builtin; refine wpList_append_any rfl _ _ 30 rfl w.heap.size 44 i0 (.agg #[.int .i64 0, .int .i64 0, .string ⟨#[]⟩]) 3 32 Try.underlying30 hi hz0 hz1 hz2 rfl (by decide) _ _ _ rfl HOA.out (some ⟨wr.heap.size, 0, none⟩) 1 1 ([y].flatMap cellsV) rfl rfl (fun h => by cases h) HLC.out (cellsV_all _) (by rw [HTL.out]; omega) (by rw [HTL.out]; omega) HBA.out.size ?_; intro v1 w3 hown hgrow; have HV1 : Hid (OwnV w3 w.heap.size v1 ((pickV (plN cols among) l).take j ++ [y])) := ownV_of hown; have HB3 := Lib.hid (HBA.out.trans (below_owns HOA.out hgrow HBA.out.size)); clear hown hgrow)
      go_roundg g
      case measure => omega
      case rel => exact ⟨j + 1, by rw [HTK.out]; exact HV1.out, by go_num, by omega, HB3.out⟩
set_option maxRecDepth 100000 in
set_option maxHeartbeats 2000000 in
theorem refHas_any (A : Option Addr) (c : Nat) (cols : List ByteArray) (A' : Option Addr) (c' : Nat) (R : List Rw) (x : Rw) (w : World) (hc : SlC w w.heap.size A cols) (hR : SlR w w.heap.size A' R) (hx : RwOk w w.heap.size x) (hl : cols.length ≤ 1000000000) (hl' : R.length ≤ 1000000000) :
    Calls Try.prog 28 #[.agg #[.slice A cols.length c, .slice A' R.length c'], cellR x] w fun e w' => e = .returned (.bool (hasRel cols R x.l)) ∧ Below w.heap.size w w' := by
  have HC := Lib.hid hc
  have HR := Lib.hid hR
  have HXX := Lib.hid hx
  clear hc hR hx
  obtain ⟨w0, hw0⟩ : ∃ w0, w.alloc (.cells #[.slice A cols.length c, .slice A' R.length c'] 34) = w0 := ⟨_, rfl⟩
  have hb0 : Below w.heap.size w w0 := by rw [← hw0]; exact (Below.refl _ _).alloc (Nat.le_refl _) _
  have ya0 : w0.cell? ⟨w.heap.size, 0, none⟩ = some (.slice A cols.length c) := by rw [← hw0, World.cell?_alloc_new]; rfl
  have ya1 : w0.cell? ⟨w.heap.size, 1, none⟩ = some (.slice A' R.length c') := by rw [← hw0, World.cell?_alloc_new]; rfl
  have hlt : w.heap.size < w0.heap.size := by rw [← hw0]; simp
  have HB0 := Lib.hid hb0
  have HM := Lib.hid (refMay_any A c cols A' c' R w0 (HC.out.up hb0 (Nat.le_refl _)) (HR.out.up hb0 (Nat.le_refl _)) hl hl')
  have HLT := Lib.hid hlt
  have HCA := Lib.hid (fun (r : Rw) (hr : r ∈ R) W (hb : Below w.heap.size w W) => refCmpR_any r x W ((HR.out.r r hr).up hb (Nat.le_refl _)) (HXX.out.up hb (Nat.le_refl _)))
  obtain ⟨A5, c5, l5⟩ := x
  unfold cellR at HCA ⊢
  simp only at HCA ⊢
  clear hlt hb0
  by_cases q1 : mayRel cols R = true
  · have HE : Hid (hasRel cols R l5 = hasB (txR R) l5) := by show _ = _; unfold hasRel; rw [q1]; rfl
    rw [q1] at HM
    clear q1
    go_enter Try.func28, Try.ntmps28
    go_wp2_with fail
    refine HM.out.mono ?_
    rintro e w1 ⟨rfl, hb1⟩
    have x1 := (hb1.cell (p := ⟨w.heap.size, 1, none⟩) HLT.out).trans ya1
    have HB1 := Lib.hid (HB0.out.trans (hb1.mono HB0.out.size))
    have HX1 := Lib.hid x1
    have HLT1 : Hid (w.heap.size < w1.heap.size) := Nat.lt_of_lt_of_le HLT.out hb1.size
    clear hb1 ya0 ya1 hw0 HM
    go_wp2
    clear x1
    go_loopg [6] R.length (fun g x6 wr => ∃ j : Nat, x6 = .int .i64 j ∧ j + g = R.length ∧ Hid (∀ (i : Nat) (y : List Vl), i < j → (txR R)[i]? = some y → y ≠ l5) ∧ Hid (Below w1.heap.size w1 wr))
    case atStart => exact ⟨0, rfl, by omega, fun i x h => absurd h (Nat.not_lt_zero _), Below.refl _ _⟩
    case round =>
      obtain ⟨j, rfl, hj, HJ, HB⟩ := hrel
      have x1 := (HB.out.cell (p := ⟨w.heap.size, 1, none⟩) HLT1.out).trans HX1.out
      have HBW : Hid (Below w.heap.size w wr) := HB1.out.trans (HB.out.mono HB1.out.size)
      cases gk with
      | zero =>
        have hji : ¬ (j : Int) < (R.length : Int) := by omega
        have HE2 : Hid (hasB (txR R) l5 = false) := hasB_no (fun hm => by
          obtain ⟨i, hi⟩ := List.getElem?_of_mem hm
          exact HJ.out i _ (by have := (List.getElem?_eq_some_iff.1 hi).1; rw [txR_len] at this; omega) hi rfl)
        go_wp2
        go_ret
        exact ⟨ret_bool (by rw [HE.out, HE2.out]), HBW.out⟩
      | succ g =>
        have hji : (j : Int) < (R.length : Int) := by omega
        have hjn : j < R.length := by omega
        obtain ⟨b, o, r, rfl, hb, hr, hp, hok⟩ := (HR.out.up HBW.out (Nat.le_refl _)).at_ hjn
        have HCC := Lib.hid (HCA.out r (List.mem_of_getElem? hr) wr HBW.out)
        have HTX := Lib.hid (txR_at hr)
        obtain ⟨A4, c4, l4⟩ := r
        simp only at HCC HTX
        obtain ⟨q, hq⟩ : ∃ q, ordR l4 l5 = q := ⟨_, rfl⟩
        have HQ := Lib.hid hq
        rw [hq] at HCC
        clear hr hok hq
        go_wp2_with fail
        refine HCC.out.mono ?_
        rintro e w3 ⟨rfl, hb3⟩
        have HB3 := Lib.hid hb3
        clear hb3 x1 hp
        by_cases h2 : q = 0
        · subst h2
          have HE2 : Hid (hasB (txR R) l5 = true) := hasB_yes (by
            rw [← (ordR_is.zero _ _).1 HQ.out]; exact List.mem_of_getElem? HTX.out)
          go_wp2
          go_ret
          exact ⟨ret_bool (by rw [HE.out, HE2.out]), HBW.out.trans (HB3.out.mono HBW.out.size)⟩
        · have h2b : (q == 0) = false := by rw [beq_eq_false_iff_ne]; exact h2
          have HE2 : Hid (∀ (i : Nat) (y : List Vl), i < j + 1 → (txR R)[i]? = some y → y ≠ l5) := fun i y hi hy => by
            by_cases e : i = j
            · subst e
              rw [HTX.out] at hy
              rw [← Option.some.inj hy]
              intro e2
              exact h2 (by rw [← HQ.out]; exact (ordR_is.zero _ _).2 e2)
            · exact HJ.out i y (by omega) hy
          clear h2
          go_wp2
          go_roundg g
          case measure => omega
          case rel => exact ⟨j + 1, by go_num, by omega, HE2.out, HB.out.trans (HB3.out.mono HB.out.size)⟩
  · rw [Bool.not_eq_true] at q1
    have HE : Hid (hasRel cols R l5 = false) := by show _ = _; unfold hasRel; rw [q1]; rfl
    rw [q1] at HM
    clear q1
    go_enter Try.func28, Try.ntmps28
    go_wp2_with fail
    refine HM.out.mono ?_
    rintro e w1 ⟨rfl, hb1⟩
    have HB1 := Lib.hid (HB0.out.trans (hb1.mono HB0.out.size))
    clear hb1 ya0 ya1 hw0
    go_wp2
    go_ret
    exact ⟨ret_bool (by rw [HE.out]), HB1.out⟩
end Go.Proofs.Ytafnhhbdcleihaa
