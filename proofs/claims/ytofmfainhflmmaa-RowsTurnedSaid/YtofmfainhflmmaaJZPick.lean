/-
  CONTRACTS: rows.picked, at values and at names.
-/
import Derived.Test.YtofmfainhflmmaaJZAt
import Derived.Test.YtofmfainhflmmaaJZGath
import Derived.Test.YtofmfainhflmmaaJZTold
namespace Go.Proofs.Ytofmfainhflmmaa
open Go.RowKit

/-- names at some places -/
def pickC (at_ : List Nat) (l : List ByteArray) : List ByteArray := at_.map fun i => l[i]!
theorem litV (w3 : World) (x : Vl) (ad : Addr) (h : some (⟨w3.heap.size, 0, none⟩ : Addr) = some ad) (j : Nat) (u : Value) (hu : ([x].flatMap cellsV)[j]? = some u) :
    (w3.alloc (.cells #[.int .i64 x.1, .int .i64 x.2.1, .string x.2.2] 24)).cell? (ad.add j) = some u := by
  cases h
  rw [addI, Nat.zero_add, World.cell?_alloc_new]
  simpa [cellsV] using hu
theorem take_pick {α : Type} [Inhabited α] {I : List Nat} {l : List α} {j i : Nat} {x : α} (h1 : I[j]? = some i) (h2 : l[i]? = some x) : (I.map fun i => l[i]!).take (j + 1) = (I.map fun i => l[i]!).take j ++ [x] := by
  have h : (I.map fun i => l[i]!)[j]? = some x := by
    rw [List.getElem?_map, h1]
    show some l[i]! = some x
    rw [List.getElem!_eq_getElem?_getD, h2]; rfl
  obtain ⟨hj, e⟩ := List.getElem?_eq_some_iff.1 h
  rw [List.take_succ_eq_append_getElem hj, e]

set_option maxHeartbeats 1000000 in
theorem pick1V_any (b i : Nat) (r : Rw) (x : Vl) (w : World) (hb : w.cell? ⟨b, 0, none⟩ = some (cellR r)) (hr : RwOk w w.heap.size r) (hx : r.l[i]? = some x) (hbl : b < w.heap.size) :
    Calls Try.prog 100 #[.int .i64 (i : Int), .pointer (some ⟨b, 0, none⟩)] w fun e w' => e = .returned (.agg #[.int .i64 x.1, .int .i64 x.2.1, .string x.2.2]) ∧ Below w.heap.size w w' := by
  obtain ⟨A, c, l⟩ := r
  simp only at hx
  have hi := (List.getElem?_eq_some_iff.1 hx).1
  have hba : Below w.heap.size w (w.alloc (.cells #[.int .i64 0, .int .i64 0, .string ⟨#[]⟩] 24)) := (Below.refl _ _).alloc (Nat.le_refl _) _
  obtain ⟨bb, o, hA, hlt, hp⟩ := hr.s (by intro e; have e2 : l = [] := e; rw [e2] at hi; simp at hi)
  simp only at hA
  subst hA
  have q := (hp i x hx).next hba hlt
  have q0 := q.c0
  have q1 := q.c1
  have q2 := q.c2
  unfold cellR at hb
  have k0 := (hba.cell (p := ⟨b, 0, none⟩) hbl).trans hb
  have r0 : (w.alloc (.cells #[.int .i64 0, .int .i64 0, .string ⟨#[]⟩] 24)).cell? ⟨w.heap.size, 0, none⟩ = some (.int .i64 0) := by rw [World.cell?_alloc_new]; rfl
  have r1 : (w.alloc (.cells #[.int .i64 0, .int .i64 0, .string ⟨#[]⟩] 24)).cell? ⟨w.heap.size, 1, none⟩ = some (.int .i64 0) := by rw [World.cell?_alloc_new]; rfl
  have r2 : (w.alloc (.cells #[.int .i64 0, .int .i64 0, .string ⟨#[]⟩] 24)).cell? ⟨w.heap.size, 2, none⟩ = some (.string ⟨#[]⟩) := by rw [World.cell?_alloc_new]; rfl
  have HBA := Lib.hid hba
  clear hr hp q hb hba
  go_enter Try.func100, Try.ntmps100
  go_wp2
  refine bodyPost_ret (v := .agg #[.int .i64 x.1, .int .i64 x.2.1, .string x.2.2]) (by rw [results_c1 rfl]; clear q0 q1 q2 k0; go_simp) rfl ⟨rfl, ?_⟩
  first
    | exact (Below.refl _ _).alloc (Nat.le_refl _) _
    | exact ((HBA.out.setCell (p := ⟨w.heap.size, 0, none⟩) (Nat.le_refl _) _).setCell (p := ⟨w.heap.size, 1, none⟩) (Nat.le_refl _) _).setCell (p := ⟨w.heap.size, 2, none⟩) (Nat.le_refl _) _

set_option maxHeartbeats 1000000 in
theorem pick1C_any (b i : Nat) (A : Option Addr) (c : Nat) (l : List ByteArray) (x : ByteArray) (w : World) (B : Nat) (hb : w.cell? ⟨b, 0, none⟩ = some (.slice A l.length c)) (hr : SlC w B A l) (hx : l[i]? = some x) :
    Calls Try.prog 95 #[.int .i64 (i : Int), .pointer (some ⟨b, 0, none⟩)] w fun e w' => e = .returned (.string x) ∧ Below w.heap.size w w' := by
  have hi := (List.getElem?_eq_some_iff.1 hx).1
  obtain ⟨bb, o, rfl, hlt, hp⟩ := hr (by intro e; rw [e] at hi; simp at hi)
  have q := hp i x hx
  unfold strV at q
  clear hr hp
  go_enter Try.func95, Try.ntmps95
  go_wp2
  go_ret
  exact ⟨rfl, Below.refl _ _⟩

set_option maxRecDepth 100000 in
set_option maxHeartbeats 2000000 in
theorem gathPV_any (b : Nat) (r : Rw) (A : Option Addr) (c : Nat) (I : List Nat) (w : World) (hb : w.cell? ⟨b, 0, none⟩ = some (cellR r)) (hr : RwOk w w.heap.size r) (hbl : b < w.heap.size) (hI : Sl1 natV w w.heap.size A I) (hl : I.length ≤ 1000000000) (hi' : ∀ i ∈ I, i < r.l.length) :
    Calls Try.prog 99 #[.slice A I.length c, .func (.func 100) #[] #[.pointer (some ⟨b, 0, none⟩)]] w fun e w' => (∃ v, e = .returned v ∧ OwnV w' w.heap.size v (pickV I r.l)) ∧ Below w.heap.size w w' := by
  obtain ⟨i0, hi, hz0, hz1, hz2⟩ := info_parts infoV
  have hmx : 2000000000000 ≤ maxLen := by decide
  have HBX := Lib.hid hb
  have HBL := Lib.hid hbl
  have HRD := Lib.hid hr
  have HI := Lib.hid hI
  have HII := Lib.hid hi'
  have HONE : Hid (∀ (l : List ByteArray), ∀ u ∈ l.map strV, u.oneCell' = true) := fun l u hu => by obtain ⟨x, _, rfl⟩ := List.mem_map.1 hu; rfl
  clear hb hbl hr hI hi'
  go_enter Try.func99, Try.ntmps99
  go_wp2_with (at_make; refine wpList_make_own _ rfl _ _ 22 rfl w.heap.size 24 i0 (.agg #[.int .i64 0, .int .i64 0, .string ⟨#[]⟩]) 3 Try.underlying22 hi hz0 hz1 .i64 .i64 _ I.length rfl rfl rfl (by rw [hz2]; omega) (by omega) (Nat.le_refl _) ?_; intro w0 hown0 hgrow0)
  have HO0 : Hid (OwnV w0 w.heap.size (.slice (some ⟨w.heap.size, 0, none⟩) 0 I.length) []) := hown0
  have HB0 : Hid (Below w.heap.size w w0) := (Below.refl _ _).grown hgrow0 (Nat.le_refl _) (fun k hk => by cases hk)
  clear hown0 hgrow0
  go_loopg [5, 13] I.length (fun g x5 x13 wr => ∃ j : Nat, OwnV wr w.heap.size x5 ((pickV I r.l).take j) ∧ x13 = .int .i64 j ∧ j + g = I.length ∧ Hid (Below w.heap.size w wr))
  case atStart => exact ⟨0, HO0.out, rfl, by omega, HB0.out⟩
  case round =>
    obtain ⟨j, ho, rfl, hj, HB⟩ := hrel
    cases gk with
    | zero =>
      have hji : ¬ (j : Int) < (I.length : Int) := by omega
      have HE : Hid (OwnV wr w.heap.size u5 (pickV I r.l)) := by
        have h := ho
        rw [List.take_of_length_le (by unfold pickV; rw [List.length_map]; omega)] at h
        exact h
      clear ho
      go_wp2
      go_ret
      exact ⟨⟨_, rfl, HE.out⟩, HB.out⟩
    | succ g =>
      have hji : (j : Int) < (I.length : Int) := by omega
      have hjn : j < I.length := by omega
      obtain ⟨b1, o1, rfl, hb1, p1⟩ := (HI.out.up HB.out (Nat.le_refl _)).at_ hjn
      have he1 : I[j]? = some I[j] := List.getElem?_eq_getElem hjn
      have hm1 := HII.out _ (List.getElem_mem hjn)
      obtain ⟨i, hi1⟩ : ∃ i, I[j] = i := ⟨_, rfl⟩
      rw [hi1] at p1 he1 hm1
      have hx : r.l[i]? = some r.l[i] := List.getElem?_eq_getElem hm1
      obtain ⟨x, hxx⟩ : ∃ x, r.l[i] = x := ⟨_, rfl⟩
      rw [hxx] at hx
      have HTK : Hid ((pickV I r.l).take (j + 1) = (pickV I r.l).take j ++ [x]) := take_pick he1 hx
      have HCC := Lib.hid ((pick1V_any b i r x wr ((HB.out.cell (p := ⟨b, 0, none⟩) HBL.out).trans HBX.out) (HRD.out.up HB.out (Nat.le_refl _)) hx (Nat.lt_of_lt_of_le HBL.out HB.out.size)))
      have HTL : Hid (((pickV I r.l).take j).length = j) := List.length_take_of_le (by unfold pickV; rw [List.length_map]; omega)
      have HO := Lib.hid ho
      unfold natV at p1
      clear ho he1 hxx hx hi1 hm1
      go_wp2_with fail
      refine HCC.out.mono ?_
      rintro e W9 ⟨rfl, hb9⟩
      have HB9 := Lib.hid (HB.out.trans (hb9.mono HB.out.size))
      have HOA : Hid (OwnV (W9.alloc (.cells #[.int .i64 x.1, .int .i64 x.2.1, .string x.2.2] 24)) w.heap.size u5 ((pickV I r.l).take j)) := owns_next (owns_next HO.out hb9) ((Below.refl _ _).alloc (Nat.le_refl _) _)
      have HBA := Lib.hid (HB9.out.alloc HB9.out.size (.cells #[.int .i64 x.1, .int .i64 x.2.1, .string x.2.2] 24))
      have HLC := Lib.hid (litV W9 x)
      clear hb9
      go_wp2_with (at_builtin; refine wpList_append_any rfl _ _ 22 rfl w.heap.size 24 i0 (.agg #[.int .i64 0, .int .i64 0, .string ⟨#[]⟩]) 3 32 Try.underlying22 hi hz0 hz1 hz2 rfl (by decide) _ _ _ rfl HOA.out (some ⟨W9.heap.size, 0, none⟩) 1 1 ([x].flatMap cellsV) rfl rfl (fun h => by cases h) HLC.out (cellsV_all _) (by rw [HTL.out]; omega) (by rw [HTL.out]; omega) HBA.out.size ?_; intro v1 w3 hown hgrow; have HV1 : Hid (OwnV w3 w.heap.size v1 ((pickV I r.l).take j ++ [x])) := ownV_of hown; have HB3 := Lib.hid (HBA.out.trans (below_owns HOA.out hgrow HBA.out.size)); clear hown hgrow)
      go_roundg g
      case measure => omega
      case rel => exact ⟨j + 1, by rw [HTK.out]; exact HV1.out, by go_num, by omega, HB3.out⟩

set_option maxRecDepth 100000 in
set_option maxHeartbeats 2000000 in
theorem gathPC_any (b : Nat) (A0 : Option Addr) (c0 : Nat) (l : List ByteArray) (A : Option Addr) (c : Nat) (I : List Nat) (w : World) (hb : w.cell? ⟨b, 0, none⟩ = some (.slice A0 l.length c0)) (hr : SlC w w.heap.size A0 l) (hbl : b < w.heap.size) (hI : Sl1 natV w w.heap.size A I) (hl : I.length ≤ 1000000000) (hi' : ∀ i ∈ I, i < l.length) :
    Calls Try.prog 94 #[.slice A I.length c, .func (.func 95) #[] #[.pointer (some ⟨b, 0, none⟩)]] w fun e w' => (∃ v, e = .returned v ∧ OwnC w' w.heap.size v (pickC I l)) ∧ Below w.heap.size w w' := by
  obtain ⟨i0, hi, hz0, hz1, hz2⟩ := info_parts infoS
  have hmx : 2000000000000 ≤ maxLen := by decide
  have HBX := Lib.hid hb
  have HBL := Lib.hid hbl
  have HRD := Lib.hid hr
  have HI := Lib.hid hI
  have HII := Lib.hid hi'
  have HONE : Hid (∀ (l : List ByteArray), ∀ u ∈ l.map strV, u.oneCell' = true) := fun l u hu => by obtain ⟨x, _, rfl⟩ := List.mem_map.1 hu; rfl
  clear hb hbl hr hI hi'
  go_enter Try.func94, Try.ntmps94
  go_wp2_with (at_make; refine wpList_make_own _ rfl _ _ 31 rfl w.heap.size 9 i0 (.string ⟨#[]⟩) 1 Try.underlying31 hi hz0 hz1 .i64 .i64 _ I.length rfl rfl rfl (by rw [hz2]; omega) (by omega) (Nat.le_refl _) ?_; intro w0 hown0 hgrow0)
  have HO0 : Hid (OwnC w0 w.heap.size (.slice (some ⟨w.heap.size, 0, none⟩) 0 I.length) []) := hown0
  have HB0 : Hid (Below w.heap.size w w0) := (Below.refl _ _).grown hgrow0 (Nat.le_refl _) (fun k hk => by cases hk)
  clear hown0 hgrow0
  go_loopg [5, 13] I.length (fun g x5 x13 wr => ∃ j : Nat, OwnC wr w.heap.size x5 ((pickC I l).take j) ∧ x13 = .int .i64 j ∧ j + g = I.length ∧ Hid (Below w.heap.size w wr))
  case atStart => exact ⟨0, HO0.out, rfl, by omega, HB0.out⟩
  case round =>
    obtain ⟨j, ho, rfl, hj, HB⟩ := hrel
    cases gk with
    | zero =>
      have hji : ¬ (j : Int) < (I.length : Int) := by omega
      have HE : Hid (OwnC wr w.heap.size u5 (pickC I l)) := by
        have h := ho
        rw [List.take_of_length_le (by unfold pickC; rw [List.length_map]; omega)] at h
        exact h
      clear ho
      go_wp2
      go_ret
      exact ⟨⟨_, rfl, HE.out⟩, HB.out⟩
    | succ g =>
      have hji : (j : Int) < (I.length : Int) := by omega
      have hjn : j < I.length := by omega
      obtain ⟨b1, o1, rfl, hb1, p1⟩ := (HI.out.up HB.out (Nat.le_refl _)).at_ hjn
      have he1 : I[j]? = some I[j] := List.getElem?_eq_getElem hjn
      have hm1 := HII.out _ (List.getElem_mem hjn)
      obtain ⟨i, hi1⟩ : ∃ i, I[j] = i := ⟨_, rfl⟩
      rw [hi1] at p1 he1 hm1
      have hx : l[i]? = some l[i] := List.getElem?_eq_getElem hm1
      obtain ⟨x, hxx⟩ : ∃ x, l[i] = x := ⟨_, rfl⟩
      rw [hxx] at hx
      have HTK : Hid ((pickC I l).take (j + 1) = (pickC I l).take j ++ [x]) := take_pick he1 hx
      have HCC := Lib.hid ((pick1C_any b i A0 c0 l x wr wr.heap.size ((HB.out.cell (p := ⟨b, 0, none⟩) HBL.out).trans HBX.out) (Sl1.up HRD.out HB.out (Nat.le_refl _)) hx))
      have HTL : Hid (((pickC I l).take j).length = j) := List.length_take_of_le (by unfold pickC; rw [List.length_map]; omega)
      have HO := Lib.hid ho
      unfold natV at p1
      clear ho he1 hxx hx hi1 hm1
      go_wp2_with fail
      refine HCC.out.mono ?_
      rintro e W9 ⟨rfl, hb9⟩
      have HB9 := Lib.hid (HB.out.trans (hb9.mono HB.out.size))
      have HOA : Hid (OwnC (W9.alloc (.cells #[.string x] 9)) w.heap.size u5 ((pickC I l).take j)) := owns_next (owns_next HO.out hb9) ((Below.refl _ _).alloc (Nat.le_refl _) _)
      have HBA := Lib.hid (HB9.out.alloc HB9.out.size (.cells #[.string x] 9))
      have HLC := Lib.hid (lit1 strV 9 W9 x)
      clear hb9
      go_wp2_with (at_builtin; refine wpList_append_any rfl _ _ 31 rfl w.heap.size 9 i0 (.string ⟨#[]⟩) 1 16 Try.underlying31 hi hz0 hz1 hz2 rfl (by decide) _ _ _ rfl HOA.out (some ⟨W9.heap.size, 0, none⟩) 1 1 ([x].map strV) rfl rfl (fun h => by cases h) HLC.out (HONE.out _) (by rw [HTL.out]; omega) (by rw [HTL.out]; omega) HBA.out.size ?_; intro v1 w3 hown hgrow; have HV1 : Hid (OwnC w3 w.heap.size v1 ((pickC I l).take j ++ [x])) := own1_of hown; have HB3 := Lib.hid (HBA.out.trans (below_owns HOA.out hgrow HBA.out.size)); clear hown hgrow)
      go_roundg g
      case measure => omega
      case rel => exact ⟨j + 1, by rw [HTK.out]; exact HV1.out, by go_num, by omega, HB3.out⟩
end Go.Proofs.Ytofmfainhflmmaa
