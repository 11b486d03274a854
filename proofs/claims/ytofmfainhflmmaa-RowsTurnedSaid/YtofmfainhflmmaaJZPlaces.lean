import Derived.Shelf.SlGeneric
import Derived.Shelf.Spec.SlicesGrow
import Derived.Ground.Names8Prog
import Derived.Test.YtofmfainhflmmaaProg
import Derived.Deep.LoopGhost
import Derived.Test.YtofmfainhflmmaaJZPick
/- Contracts of library functions at this program, laid by the tool. -/
namespace Go.Proofs
open Go.Shelf
def Try.growS_ren : Go.Shelf.Ren := ⟨fun | 4 => 93 | n => n, fun | 22 => 31 | 25 => 9 | 3 => 3 | 4 => 4 | 9 => 9 | 20 => 20 | 0 => 0 | n => n, fun | n => n⟩
theorem Try.growS : Go.Proofs.Lays8.n4 Try.prog Try.growS_ren := {
  mixed := by kernel_rfl
  f4 := ⟨Try.f93.name, by decide, Try.func93.trans (congrArg some (by kernel_rfl))⟩
  t0 := Try.underlying0
  a0 := Try.isAgg0
  z0 := Try.sizeOf0
  v0 := Try.zeroValue0
  t3 := Try.underlying3
  a3 := Try.isAgg3
  z3 := Try.sizeOf3
  v3 := Try.zeroValue3
  t4 := Try.underlying4
  a4 := Try.isAgg4
  z4 := Try.sizeOf4
  v4 := Try.zeroValue4
  t9 := Try.underlying9
  a9 := Try.isAgg9
  z9 := Try.sizeOf9
  v9 := Try.zeroValue9
  t20 := Try.underlying20
  a20 := Try.isAgg20
  z20 := Try.sizeOf20
  v20 := Try.zeroValue20
  t22 := Try.underlying31
  a22 := Try.isAgg31
  z22 := Try.sizeOf31
  v22 := Try.zeroValue31 }
def Try.growV_ren : Go.Shelf.Ren := ⟨fun | 4 => 98 | n => n, fun | 22 => 46 | 25 => 24 | 3 => 3 | 4 => 4 | 9 => 9 | 20 => 20 | 0 => 0 | n => n, fun | n => n⟩
theorem Try.growV : Go.Proofs.Lays8.n4 Try.prog Try.growV_ren := {
  mixed := by kernel_rfl
  f4 := ⟨Try.f98.name, by decide, Try.func98.trans (congrArg some (by kernel_rfl))⟩
  t0 := Try.underlying0
  a0 := Try.isAgg0
  z0 := Try.sizeOf0
  v0 := Try.zeroValue0
  t3 := Try.underlying3
  a3 := Try.isAgg3
  z3 := Try.sizeOf3
  v3 := Try.zeroValue3
  t4 := Try.underlying4
  a4 := Try.isAgg4
  z4 := Try.sizeOf4
  v4 := Try.zeroValue4
  t9 := Try.underlying9
  a9 := Try.isAgg9
  z9 := Try.sizeOf9
  v9 := Try.zeroValue9
  t20 := Try.underlying20
  a20 := Try.isAgg20
  z20 := Try.sizeOf20
  v20 := Try.zeroValue20
  t22 := Try.underlying46
  a22 := Try.isAgg46
  z22 := Try.sizeOf46
  v22 := Try.zeroValue46 }
def Try.growR_ren : Go.Shelf.Ren := ⟨fun | 4 => 106 | n => n, fun | 22 => 32 | 25 => 46 | 3 => 3 | 4 => 4 | 9 => 9 | 20 => 20 | 0 => 0 | n => n, fun | n => n⟩
theorem Try.growR : Go.Proofs.Lays8.n4 Try.prog Try.growR_ren := {
  mixed := by kernel_rfl
  f4 := ⟨Try.f106.name, by decide, Try.func106.trans (congrArg some (by kernel_rfl))⟩
  t0 := Try.underlying0
  a0 := Try.isAgg0
  z0 := Try.sizeOf0
  v0 := Try.zeroValue0
  t3 := Try.underlying3
  a3 := Try.isAgg3
  z3 := Try.sizeOf3
  v3 := Try.zeroValue3
  t4 := Try.underlying4
  a4 := Try.isAgg4
  z4 := Try.sizeOf4
  v4 := Try.zeroValue4
  t9 := Try.underlying9
  a9 := Try.isAgg9
  z9 := Try.sizeOf9
  v9 := Try.zeroValue9
  t20 := Try.underlying20
  a20 := Try.isAgg20
  z20 := Try.sizeOf20
  v20 := Try.zeroValue20
  t22 := Try.underlying32
  a22 := Try.isAgg32
  z22 := Try.sizeOf32
  v22 := Try.zeroValue32 }
end Go.Proofs

/-
  CONTRACTS: slices.Grow at nothing; slices.Concat; rows.picked.
-/
namespace Go.Proofs.Ytofmfainhflmmaa
open Go.RowKit Go.Shelf
open Go.Lib

/-- a piece of names -/
structure Cw where
  A : Option Addr
  c : Nat
  l : List ByteArray
def cellC (r : Cw) : Value := .slice r.A r.l.length r.c
structure CwOk (W : World) (B : Nat) (r : Cw) : Prop where
  s : SlC W B r.A r.l
  n : r.A = none → r.l.length = 0 ∧ r.c = 0
theorem CwOk.up {W W' : World} {r : Cw} (h : CwOk W W.heap.size r) {B' : Nat} (hb : Below B' W W') (hB : W.heap.size ≤ B') : CwOk W' W'.heap.size r := ⟨Sl1.up h.s hb hB, h.n⟩

theorem growV_any (n : Nat) (w : World) (hn : n ≤ 1000000000000) : Calls Try.prog 98 #[.slice none 0 0, .int .i64 (n : Int)] w fun e w' => (∃ v, e = .returned v ∧ OwnV w' w.heap.size v []) ∧ Below w.heap.size w w' := by
  obtain ⟨i0, hi, hz0, hz1, hz2⟩ := info_parts infoV
  have hmx : 1000000000000 ≤ maxLen := by decide
  by_cases h0 : n = 0
  · subst h0
    have h := Any8.slices_Grow_room Try.growV none 0 0 0 w (by omega) (by omega) (by omega) (by omega)
    change Calls Try.prog 98 #[.slice none 0 0, .int .i64 ((0 : Nat) : Int)] w _ at h
    refine h.mono ?_
    rintro e w' ⟨rfl, rfl⟩
    exact ⟨⟨_, rfl, World.ownsRow_nil _ _ _ _⟩, Below.refl _ _⟩
  · have h := Any8.slices_Grow_grow Try.growV i0 (.agg #[.int .i64 0, .int .i64 0, .string ⟨#[]⟩]) hi hz0 (by rw [hz1]; decide) none 0 0 n [] w (by omega) (by omega) (by rw [hz2]; omega) (by omega) (by simp) (fun _ => rfl) (fun a e => by cases e)
    change Calls Try.prog 98 #[.slice none 0 0, .int .i64 (n : Int)] w _ at h
    refine h.mono ?_
    rintro e w' ⟨rfl, rfl⟩
    have hge : 0 + n ≤ grownCap w (0 + n) 0 24 := grownCap_ge _ _ _ _
    have hle : grownCap w (0 + n) 0 24 ≤ maxLen := grownCap_le_maxLen _ _ _ _ (by omega)
    refine ⟨⟨_, rfl, ?_⟩, (Below.refl w.heap.size w).drew.alloc (Nat.le_refl _) _⟩
    exact World.ownsRow_made w.drew _ _ (Nat.le_refl _) hle (by
      have hs : (Value.cells (.agg #[.int .i64 0, .int .i64 0, .string ⟨#[]⟩])).size = 3 := rfl
      have hx : Try.growV_ren.t 25 = 24 := rfl
      rw [Nat.zero_add] at hge
      simp only [Array.size_append, Builtin.zeroCells, Array.size_map, Array.size_range, hs, hx, Nat.zero_add]
      simp
      omega)
set_option maxRecDepth 100000 in
set_option maxHeartbeats 2000000 in
theorem concatV_any (A : Option Addr) (c : Nat) (R : List Rw) (w : World) (hs : Sl1 cellR w w.heap.size A R) (hr : ∀ r ∈ R, RwOk w w.heap.size r) (hl : R.length ≤ 10) (hll : ∀ r ∈ R, r.l.length ≤ 1000000000) :
    Calls Try.prog 56 #[.slice A R.length c] w fun e w' => (∃ v, e = .returned v ∧ OwnV w' w.heap.size v (R.flatMap (·.l))) ∧ Below w.heap.size w w' := by
  obtain ⟨i0, hi, hz0, hz1, hz2⟩ := info_parts infoV
  have hmx : 2000000000000 ≤ maxLen := by decide
  have HS := Lib.hid hs
  have HR := Lib.hid hr
  have HLL := Lib.hid hll
  have HONE : Hid (∀ (l : List ByteArray), ∀ u ∈ l.map strV, u.oneCell' = true) := fun l u hu => by obtain ⟨x, _, rfl⟩ := List.mem_map.1 hu; rfl
  clear hs hr hll
  go_enter Try.func56, Try.ntmps56
  go_wp2
  go_loopg [3, 11] R.length (fun g x3 x11 wr => ∃ (j t : Nat), x3 = .int .i64 t ∧ x11 = .int .i64 j ∧ j + g = R.length ∧ t ≤ j * 1000000000 ∧ Hid (Below w.heap.size w wr))
  case atStart => exact ⟨0, 0, rfl, rfl, by omega, by omega, Below.refl _ _⟩
  case round =>
    obtain ⟨j, t, rfl, rfl, hj, ht, HB⟩ := hrel
    cases gk with
    | succ g =>
      have hji : (j : Int) < (R.length : Int) := by omega
      have hjn : j < R.length := by omega
      obtain ⟨b, o, rfl, hb, hp⟩ := (HS.out.up HB.out (Nat.le_refl _)).at_ hjn
      have hrl := HLL.out _ (List.getElem_mem hjn)
      obtain ⟨r, hre⟩ : ∃ r, R[j] = r := ⟨_, rfl⟩
      rw [hre] at hp hrl
      unfold cellR at hp
      have hlt : ¬ ((t : Int) + (r.l.length : Int) < 0) := by omega
      clear hre
      go_wp2
      go_roundg g
      case measure => omega
      case rel => exact ⟨j + 1, t + r.l.length, by go_num, by go_num, by omega, by omega, HB.out⟩
    | zero =>
      have hji : ¬ (j : Int) < (R.length : Int) := by omega
      have HG := Lib.hid (growV_any t wr (by omega))
      obtain ⟨wo, hwo⟩ : ∃ wo, wo = wr := ⟨_, rfl⟩
      subst hwo
      go_wp2_with fail
      refine HG.out.mono ?_
      rintro e w2 ⟨⟨v2, rfl, ho2⟩, hb2⟩
      have HB2 := Lib.hid (HB.out.trans (hb2.mono HB.out.size))
      have HO2 : Hid (OwnV w2 w.heap.size v2 []) := owns_low ho2 HB.out.size
      clear ho2 hb2
      go_wp2
      go_loopg [6, 27] R.length (fun g x6 x27 wr => ∃ j : Nat, OwnV wr w.heap.size x6 ((R.take j).flatMap (·.l)) ∧ x27 = .int .i64 j ∧ j + g = R.length ∧ ((R.take j).flatMap (·.l)).length ≤ j * 1000000000 ∧ Hid (Below w.heap.size w wr))
      case atStart => exact ⟨0, HO2.out, rfl, by omega, by simp, HB2.out⟩
      case round =>
        obtain ⟨k, ho, rfl, hk, hkl, HBk⟩ := hrel
        cases gk with
        | zero =>
          have hki : ¬ (k : Int) < (R.length : Int) := by omega
          have HE : Hid (OwnV wr w.heap.size u6 (R.flatMap (·.l))) := by
            have h := ho
            rw [List.take_of_length_le (by omega)] at h
            exact h
          clear ho hkl
          go_wp2
          go_ret
          exact ⟨⟨_, rfl, HE.out⟩, HBk.out⟩
        | succ g =>
          have hki : (k : Int) < (R.length : Int) := by omega
          have hkn : k < R.length := by omega
          obtain ⟨b, o, rfl, hb, hp⟩ := (HS.out.up HBk.out (Nat.le_refl _)).at_ hkn
          have hrl := HLL.out _ (List.getElem_mem hkn)
          have hrk := (HR.out _ (List.getElem_mem hkn)).up HBk.out (Nat.le_refl _)
          have HTK : Hid ((R.take (k + 1)).flatMap (·.l) = (R.take k).flatMap (·.l) ++ R[k].l) := by
            show _ = _
            rw [List.take_succ_eq_append_getElem hkn, List.flatMap_append]; simp
          obtain ⟨r, hre⟩ : ∃ r, R[k] = r := ⟨_, rfl⟩
          rw [hre] at hp hrl hrk HTK
          obtain ⟨L, hL⟩ : ∃ L, (R.take k).flatMap (·.l) = L := ⟨_, rfl⟩
          rw [hL] at HTK hkl ho
          obtain ⟨A9, c9, rfl, _⟩ := ho.form
          have HO := Lib.hid ho
          clear hL
          unfold cellR at hp
          have HNN := Lib.hid hrk.n
          have HNW := Lib.hid hrk.s.news
          clear hre hrk ho
          have HKL : Hid (L.length ≤ k * 1000000000) := hkl
          clear hkl
          go_wp2_with (at_builtin; refine wpList_append_any rfl _ _ 46 rfl w.heap.size 24 i0 (.agg #[.int .i64 0, .int .i64 0, .string ⟨#[]⟩]) 3 32 Try.underlying46 hi hz0 hz1 hz2 rfl (by decide) (.slice A9 L.length c9) L.length (L.flatMap cellsV) rfl HO.out r.A r.l.length r.c (r.l.flatMap cellsV) rfl (flatV_len _) HNN.out HNW.out (cellsV_all _) (by have := HKL.out; omega) (by have := HKL.out; omega) HBk.out.size ?_; intro v1 w3 hown hgrow; have HV1 : Hid (OwnV w3 w.heap.size v1 (L ++ r.l)) := ownV_of hown; have HB3 := Lib.hid (HBk.out.trans (below_owns HO.out hgrow HBk.out.size)); clear hown hgrow)
          go_roundg g
          case measure => omega
          case rel => exact ⟨k + 1, by rw [HTK.out]; exact HV1.out, by go_num, by omega, by rw [HTK.out, List.length_append]; have := HKL.out; omega, HB3.out⟩

theorem growS_any (n : Nat) (w : World) (hn : n ≤ 1000000000000) : Calls Try.prog 93 #[.slice none 0 0, .int .i64 (n : Int)] w fun e w' => (∃ v, e = .returned v ∧ OwnC w' w.heap.size v []) ∧ Below w.heap.size w w' := by
  obtain ⟨i0, hi, hz0, hz1, hz2⟩ := info_parts infoS
  have hmx : 1000000000000 ≤ maxLen := by decide
  by_cases h0 : n = 0
  · subst h0
    have h := Any8.slices_Grow_room Try.growS none 0 0 0 w (by omega) (by omega) (by omega) (by omega)
    change Calls Try.prog 93 #[.slice none 0 0, .int .i64 ((0 : Nat) : Int)] w _ at h
    refine h.mono ?_
    rintro e w' ⟨rfl, rfl⟩
    exact ⟨⟨_, rfl, World.ownsRow_nil _ _ _ _⟩, Below.refl _ _⟩
  · have h := Any8.slices_Grow_grow Try.growS i0 (.string ⟨#[]⟩) hi hz0 (by rw [hz1]; decide) none 0 0 n [] w (by omega) (by omega) (by rw [hz2]; omega) (by omega) (by simp) (fun _ => rfl) (fun a e => by cases e)
    change Calls Try.prog 93 #[.slice none 0 0, .int .i64 (n : Int)] w _ at h
    refine h.mono ?_
    rintro e w' ⟨rfl, rfl⟩
    have hge : 0 + n ≤ grownCap w (0 + n) 0 9 := grownCap_ge _ _ _ _
    have hle : grownCap w (0 + n) 0 9 ≤ maxLen := grownCap_le_maxLen _ _ _ _ (by omega)
    refine ⟨⟨_, rfl, ?_⟩, (Below.refl w.heap.size w).drew.alloc (Nat.le_refl _) _⟩
    exact World.ownsRow_made w.drew _ _ (Nat.le_refl _) hle (by
      have hs : (Value.cells (.string ⟨#[]⟩)).size = 1 := rfl
      have hx : Try.growS_ren.t 25 = 9 := rfl
      rw [Nat.zero_add] at hge
      simp only [Array.size_append, Builtin.zeroCells, Array.size_map, Array.size_range, hs, hx, Nat.zero_add]
      simp
      omega)
set_option maxRecDepth 100000 in
set_option maxHeartbeats 2000000 in
theorem concatS_any (A : Option Addr) (c : Nat) (R : List Cw) (w : World) (hs : Sl1 cellC w w.heap.size A R) (hr : ∀ r ∈ R, CwOk w w.heap.size r) (hl : R.length ≤ 10) (hll : ∀ r ∈ R, r.l.length ≤ 1000000000) :
    Calls Try.prog 53 #[.slice A R.length c] w fun e w' => (∃ v, e = .returned v ∧ OwnC w' w.heap.size v (R.flatMap (·.l))) ∧ Below w.heap.size w w' := by
  obtain ⟨i0, hi, hz0, hz1, hz2⟩ := info_parts infoS
  have hmx : 2000000000000 ≤ maxLen := by decide
  have HS := Lib.hid hs
  have HR := Lib.hid hr
  have HLL := Lib.hid hll
  have HONE : Hid (∀ (l : List ByteArray), ∀ u ∈ l.map strV, u.oneCell' = true) := fun l u hu => by obtain ⟨x, _, rfl⟩ := List.mem_map.1 hu; rfl
  clear hs hr hll
  go_enter Try.func53, Try.ntmps53
  go_wp2
  go_loopg [3, 11] R.length (fun g x3 x11 wr => ∃ (j t : Nat), x3 = .int .i64 t ∧ x11 = .int .i64 j ∧ j + g = R.length ∧ t ≤ j * 1000000000 ∧ Hid (Below w.heap.size w wr))
  case atStart => exact ⟨0, 0, rfl, rfl, by omega, by omega, Below.refl _ _⟩
  case round =>
    obtain ⟨j, t, rfl, rfl, hj, ht, HB⟩ := hrel
    cases gk with
    | succ g =>
      have hji : (j : Int) < (R.length : Int) := by omega
      have hjn : j < R.length := by omega
      obtain ⟨b, o, rfl, hb, hp⟩ := (HS.out.up HB.out (Nat.le_refl _)).at_ hjn
      have hrl := HLL.out _ (List.getElem_mem hjn)
      obtain ⟨r, hre⟩ : ∃ r, R[j] = r := ⟨_, rfl⟩
      rw [hre] at hp hrl
      unfold cellC at hp
      have hlt : ¬ ((t : Int) + (r.l.length : Int) < 0) := by omega
      clear hre
      go_wp2
      go_roundg g
      case measure => omega
      case rel => exact ⟨j + 1, t + r.l.length, by go_num, by go_num, by omega, by omega, HB.out⟩
    | zero =>
      have hji : ¬ (j : Int) < (R.length : Int) := by omega
      have HG := Lib.hid (growS_any t wr (by omega))
      obtain ⟨wo, hwo⟩ : ∃ wo, wo = wr := ⟨_, rfl⟩
      subst hwo
      go_wp2_with fail
      refine HG.out.mono ?_
      rintro e w2 ⟨⟨v2, rfl, ho2⟩, hb2⟩
      have HB2 := Lib.hid (HB.out.trans (hb2.mono HB.out.size))
      have HO2 : Hid (OwnC w2 w.heap.size v2 []) := owns_low ho2 HB.out.size
      clear ho2 hb2
      go_wp2
      go_loopg [6, 27] R.length (fun g x6 x27 wr => ∃ j : Nat, OwnC wr w.heap.size x6 ((R.take j).flatMap (·.l)) ∧ x27 = .int .i64 j ∧ j + g = R.length ∧ ((R.take j).flatMap (·.l)).length ≤ j * 1000000000 ∧ Hid (Below w.heap.size w wr))
      case atStart => exact ⟨0, HO2.out, rfl, by omega, by simp, HB2.out⟩
      case round =>
        obtain ⟨k, ho, rfl, hk, hkl, HBk⟩ := hrel
        cases gk with
        | zero =>
          have hki : ¬ (k : Int) < (R.length : Int) := by omega
          have HE : Hid (OwnC wr w.heap.size u6 (R.flatMap (·.l))) := by
            have h := ho
            rw [List.take_of_length_le (by omega)] at h
            exact h
          clear ho hkl
          go_wp2
          go_ret
          exact ⟨⟨_, rfl, HE.out⟩, HBk.out⟩
        | succ g =>
          have hki : (k : Int) < (R.length : Int) := by omega
          have hkn : k < R.length := by omega
          obtain ⟨b, o, rfl, hb, hp⟩ := (HS.out.up HBk.out (Nat.le_refl _)).at_ hkn
          have hrl := HLL.out _ (List.getElem_mem hkn)
          have hrk := (HR.out _ (List.getElem_mem hkn)).up HBk.out (Nat.le_refl _)
          have HTK : Hid ((R.take (k + 1)).flatMap (·.l) = (R.take k).flatMap (·.l) ++ R[k].l) := by
            show _ = _
            rw [List.take_succ_eq_append_getElem hkn, List.flatMap_append]; simp
          obtain ⟨r, hre⟩ : ∃ r, R[k] = r := ⟨_, rfl⟩
          rw [hre] at hp hrl hrk HTK
          obtain ⟨L, hL⟩ : ∃ L, (R.take k).flatMap (·.l) = L := ⟨_, rfl⟩
          rw [hL] at HTK hkl ho
          obtain ⟨A9, c9, rfl, _⟩ := ho.form
          have HO := Lib.hid ho
          clear hL
          unfold cellC at hp
          have HNN := Lib.hid hrk.n
          have HNW := Lib.hid hrk.s.news
          clear hre hrk ho
          have HKL : Hid (L.length ≤ k * 1000000000) := hkl
          clear hkl
          go_wp2_with (at_builtin; refine wpList_append_any rfl _ _ 31 rfl w.heap.size 9 i0 (.string ⟨#[]⟩) 1 16 Try.underlying31 hi hz0 hz1 hz2 rfl (by decide) (.slice A9 L.length c9) L.length (L.map strV) rfl HO.out r.A r.l.length r.c (r.l.map strV) rfl (by simp) HNN.out HNW.out (HONE.out _) (by have := HKL.out; omega) (by have := HKL.out; omega) HBk.out.size ?_; intro v1 w3 hown hgrow; have HV1 : Hid (OwnC w3 w.heap.size v1 (L ++ r.l)) := own1_of hown; have HB3 := Lib.hid (HBk.out.trans (below_owns HO.out hgrow HBk.out.size)); clear hown hgrow)
          go_roundg g
          case measure => omega
          case rel => exact ⟨k + 1, by rw [HTK.out]; exact HV1.out, by go_num, by omega, by rw [HTK.out, List.length_append]; have := HKL.out; omega, HB3.out⟩

theorem cells_new (w : World) (c : Value) (t : TypeId) : (w.alloc (.cells #[c] t)).cell? ⟨w.heap.size, 0, none⟩ = some c := by rw [World.cell?_alloc_new]; rfl
set_option maxHeartbeats 1000000 in
theorem pickedV_any (r : Rw) (A : Option Addr) (c : Nat) (I : List Nat) (w : World) (hr : RwOk w w.heap.size r) (hI : Sl1 natV w w.heap.size A I) (hl : I.length ≤ 1000000000) (hi : ∀ i ∈ I, i < r.l.length) :
    Calls Try.prog 57 #[cellR r, .slice A I.length c] w fun e w' => (∃ v, e = .returned v ∧ OwnV w' w.heap.size v (pickV I r.l)) ∧ Below w.heap.size w w' := by
  have hba : Below w.heap.size w (w.alloc (.cells #[cellR r] 46)) := (Below.refl _ _).alloc (Nat.le_refl _) _
  have HC := Lib.hid (gathPV_any w.heap.size r A c I (w.alloc (.cells #[cellR r] 46)) (cells_new _ _ _) (hr.up hba (Nat.le_refl _)) (by simp) (Sl1.up hI hba (Nat.le_refl _)) hl hi)
  have HBA := Lib.hid hba
  generalize pickV I r.l = P at HC ⊢
  generalize I.length = n at HC ⊢
  clear hr hI hba hi hl
  obtain ⟨A1, c1, l⟩ := r
  unfold cellR at HC HBA ⊢
  simp only at HC HBA ⊢
  go_enter Try.func57, Try.ntmps57
  go_wp2_with fail
  refine HC.out.mono ?_
  rintro e w2 ⟨⟨v, rfl, ho⟩, hb⟩
  have HO := Lib.hid ho
  have HB := Lib.hid hb
  clear ho hb
  go_wp2
  go_ret
  exact ⟨⟨_, rfl, owns_low HO.out HBA.out.size⟩, HBA.out.trans (HB.out.mono HBA.out.size)⟩
set_option maxHeartbeats 1000000 in
theorem pickedC_any (A0 : Option Addr) (c0 : Nat) (l : List ByteArray) (A : Option Addr) (c : Nat) (I : List Nat) (w : World) (hr : SlC w w.heap.size A0 l) (hI : Sl1 natV w w.heap.size A I) (hl : I.length ≤ 1000000000) (hi : ∀ i ∈ I, i < l.length) :
    Calls Try.prog 54 #[.slice A0 l.length c0, .slice A I.length c] w fun e w' => (∃ v, e = .returned v ∧ OwnC w' w.heap.size v (pickC I l)) ∧ Below w.heap.size w w' := by
  have hba : Below w.heap.size w (w.alloc (.cells #[.slice A0 l.length c0] 31)) := (Below.refl _ _).alloc (Nat.le_refl _) _
  have HC := Lib.hid (gathPC_any w.heap.size A0 c0 l A c I (w.alloc (.cells #[.slice A0 l.length c0] 31)) (cells_new _ _ _) (Sl1.up hr hba (Nat.le_refl _)) (by simp) (Sl1.up hI hba (Nat.le_refl _)) hl hi)
  have HBA := Lib.hid hba
  generalize pickC I l = P at HC ⊢
  generalize I.length = n at HC ⊢
  generalize l.length = m at HC HBA ⊢
  clear hr hI hba hi hl
  go_enter Try.func54, Try.ntmps54
  go_wp2_with fail
  refine HC.out.mono ?_
  rintro e w2 ⟨⟨v, rfl, ho⟩, hb⟩
  have HO := Lib.hid ho
  have HB := Lib.hid hb
  clear ho hb
  go_wp2
  go_ret
  exact ⟨⟨_, rfl, owns_low HO.out HBA.out.size⟩, HBA.out.trans (HB.out.mono HBA.out.size)⟩
end Go.Proofs.Ytofmfainhflmmaa

/-
  CONTRACTS: rows.places, picker.
-/
namespace Go.Proofs.Ytofmfainhflmmaa
open Go.RowKit

def intV (z : Int) : Value := .int .i64 z
set_option maxHeartbeats 1000000 in
theorem place1_any (b : Nat) (A : Option Addr) (c : Nat) (l : List ByteArray) (x : ByteArray) (w : World) (B : Nat) (hb : w.cell? ⟨b, 0, none⟩ = some (.slice A l.length c)) (hs : SlC w B A l) (hl : l.length ≤ 1000000000) :
    Calls Try.prog 103 #[.string x, .pointer (some ⟨b, 0, none⟩)] w fun e w' => e = .returned (.int .i64 (plI x l)) ∧ w = w' := by
  have HC := Lib.hid (index_any A c l x w B hs (by omega))
  generalize plI x l = z at HC ⊢
  clear hs
  go_enter Try.func103, Try.ntmps103
  go_wp2_with fail
  refine HC.out.mono ?_
  rintro e w' ⟨rfl, rfl⟩
  go_wp2
  go_ret
  exact ⟨rfl, rfl⟩
theorem infoI : (Try.prog.info? 3).map (fun i => (i.zero, i.size, i.bytes)) = some (some (.int .i64 0), 1, 8) := by kernel_rfl
set_option maxRecDepth 100000 in
set_option maxHeartbeats 2000000 in
theorem gathI_any (b : Nat) (A0 : Option Addr) (c0 : Nat) (l : List ByteArray) (A : Option Addr) (c : Nat) (I : List ByteArray) (w : World) (hb : w.cell? ⟨b, 0, none⟩ = some (.slice A0 l.length c0)) (hbl : b < w.heap.size) (hr : SlC w w.heap.size A0 l) (hI : SlC w w.heap.size A I) (hl : I.length ≤ 1000000000) (hl2 : l.length ≤ 1000000000) :
    Calls Try.prog 102 #[.slice A I.length c, .func (.func 103) #[] #[.pointer (some ⟨b, 0, none⟩)]] w fun e w' => (∃ v, e = .returned v ∧ Own1 3 intV w' w.heap.size v (I.map fun x => plI x l)) ∧ Below w.heap.size w w' := by
  obtain ⟨i0, hi, hz0, hz1, hz2⟩ := info_parts infoI
  have hmx : 2000000000000 ≤ maxLen := by decide
  have HBX := Lib.hid hb
  have HBL := Lib.hid hbl
  have HRD := Lib.hid hr
  have HI := Lib.hid hI
  have HONE : Hid (∀ (l : List Int), ∀ u ∈ l.map intV, u.oneCell' = true) := fun l u hu => by obtain ⟨x, _, rfl⟩ := List.mem_map.1 hu; rfl
  clear hb hbl hr hI
  go_enter Try.func102, Try.ntmps102
  go_wp2_with (at_make; refine wpList_make_own _ rfl _ _ 71 rfl w.heap.size 3 i0 (.int .i64 0) 1 Try.underlying71 hi hz0 hz1 .i64 .i64 _ I.length rfl rfl rfl (by rw [hz2]; omega) (by omega) (Nat.le_refl _) ?_; intro w0 hown0 hgrow0)
  have HO0 : Hid (Own1 3 intV w0 w.heap.size (.slice (some ⟨w.heap.size, 0, none⟩) 0 I.length) []) := hown0
  have HB0 : Hid (Below w.heap.size w w0) := (Below.refl _ _).grown hgrow0 (Nat.le_refl _) (fun k hk => by cases hk)
  clear hown0 hgrow0
  go_loopg [5, 13] I.length (fun g x5 x13 wr => ∃ j : Nat, Own1 3 intV wr w.heap.size x5 ((I.take j).map fun x => plI x l) ∧ x13 = .int .i64 j ∧ j + g = I.length ∧ Hid (Below w.heap.size w wr))
  case atStart => exact ⟨0, HO0.out, rfl, by omega, HB0.out⟩
  case round =>
    obtain ⟨j, ho, rfl, hj, HB⟩ := hrel
    cases gk with
    | zero =>
      have hji : ¬ (j : Int) < (I.length : Int) := by omega
      have HE : Hid (Own1 3 intV wr w.heap.size u5 (I.map fun x => plI x l)) := by
        have h := ho
        rw [List.take_of_length_le (by omega)] at h
        exact h
      clear ho
      go_wp2
      go_ret
      exact ⟨⟨_, rfl, HE.out⟩, HB.out⟩
    | succ g =>
      have hji : (j : Int) < (I.length : Int) := by omega
      have hjn : j < I.length := by omega
      obtain ⟨b1, o1, rfl, hb1, p1⟩ := (Sl1.up HI.out HB.out (Nat.le_refl _)).at_ hjn
      have HTK0 : (I.take (j + 1)) = I.take j ++ [I[j]] := List.take_succ_eq_append_getElem hjn
      obtain ⟨x, hxx⟩ : ∃ x, I[j] = x := ⟨_, rfl⟩
      rw [hxx] at p1 HTK0
      have HCC := Lib.hid (place1_any b A0 c0 l x wr wr.heap.size ((HB.out.cell (p := ⟨b, 0, none⟩) HBL.out).trans HBX.out) (Sl1.up HRD.out HB.out (Nat.le_refl _)) hl2)
      obtain ⟨z, hz⟩ : ∃ z, plI x l = z := ⟨_, rfl⟩
      obtain ⟨T, hT⟩ : ∃ T, (I.take j).map (fun x => plI x l) = T := ⟨_, rfl⟩
      have HTK : Hid ((I.take (j + 1)).map (fun x => plI x l) = T ++ [z]) := by show _ = _; rw [HTK0, List.map_append, hT, ← hz]; rfl
      have HTL : Hid (T.length = j) := by show _ = _; rw [← hT, List.length_map]; exact List.length_take_of_le (by omega)
      rw [hz] at HCC
      rw [hT] at ho
      have HO := Lib.hid ho
      unfold strV at p1
      clear ho hxx hz hT HTK0
      go_wp2_with fail
      refine HCC.out.mono ?_
      rintro e W9 ⟨rfl, rfl⟩
      have HOA : Hid (Own1 3 intV (wr.alloc (.cells #[.int .i64 z] 3)) w.heap.size u5 T) := owns_next HO.out ((Below.refl _ _).alloc (Nat.le_refl _) _)
      have HBA := Lib.hid (HB.out.alloc HB.out.size (.cells #[.int .i64 z] 3))
      have HLC := Lib.hid (lit1 intV 3 wr z)
      go_wp2_with (at_builtin; refine wpList_append_any rfl _ _ 71 rfl w.heap.size 3 i0 (.int .i64 0) 1 8 Try.underlying71 hi hz0 hz1 hz2 rfl (by decide) _ _ _ rfl HOA.out (some ⟨wr.heap.size, 0, none⟩) 1 1 ([z].map intV) rfl rfl (fun h => by cases h) HLC.out (HONE.out _) (by rw [HTL.out]; omega) (by rw [HTL.out]; omega) HBA.out.size ?_; intro v1 w3 hown hgrow; have HV1 : Hid (Own1 3 intV w3 w.heap.size v1 (T ++ [z])) := own1_of hown; have HB3 := Lib.hid (HBA.out.trans (below_owns HOA.out hgrow HBA.out.size)); clear hown hgrow)
      go_roundg g
      case measure => omega
      case rel => exact ⟨j + 1, by rw [HTK.out]; exact HV1.out, by go_num, by omega, HB3.out⟩

/-- is minus one there? -/
def negB (l : List Int) : Bool := l.any fun z => z == -1
set_option maxRecDepth 100000 in
set_option maxHeartbeats 1000000 in
theorem indexI_any (A : Option Addr) (c : Nat) (l : List Int) (w : World) (B : Nat) (hs : Sl1 intV w B A l) (hl : l.length ≤ 4611686018427387904) :
    Calls Try.prog 114 #[.slice A l.length c, .int .i64 (-1)] w fun e w' => (∃ z : Int, e = .returned (.int .i64 z) ∧ decide (0 ≤ z) = negB l) ∧ w = w' := by
  have HS := Lib.hid hs
  clear hs
  go_enter Try.func114, Try.ntmps114
  go_wp2
  go_loopg [8] l.length (fun g i wr => ∃ j : Nat, i = .int .i64 j ∧ j + g = l.length ∧ wr = w ∧ Hid (∀ i (z : Int), i < j → l[i]? = some z → z ≠ -1))
  case atStart => exact ⟨0, rfl, by omega, rfl, fun i z h => absurd h (Nat.not_lt_zero _)⟩
  case round =>
    obtain ⟨j, rfl, hj, rfl, HJ⟩ := hrel
    cases gk with
    | succ g =>
      have h1i : (j : Int) < (l.length : Int) := by omega
      have h1 : j < l.length := by omega
      obtain ⟨b, o, rfl, hb, hp⟩ := HS.out.at_ h1
      have HR : Hid (l[j]? = some l[j]) := List.getElem?_eq_getElem h1
      obtain ⟨z, hz⟩ : ∃ z, l[j] = z := ⟨_, rfl⟩
      rw [hz] at hp HR
      unfold intV at hp
      clear hz
      by_cases h2 : z = -1
      · subst h2
        have HE : Hid (negB l = true) := by
          show _ = _
          unfold negB
          rw [List.any_eq_true]
          exact ⟨-1, List.mem_of_getElem? HR.out, rfl⟩
        go_wp2
        go_ret
        refine ⟨⟨_, rfl, ?_⟩, rfl⟩
        rw [HE.out, decide_eq_true (by omega)]
      · have h2b : ((-1 : Int) == z) = false := by rw [beq_eq_false_iff_ne]; exact fun e => h2 e.symm
        have HE : Hid (∀ i (q : Int), i < j + 1 → l[i]? = some q → q ≠ -1) := fun i q hi hq => by
          by_cases e : i = j
          · subst e
            rw [HR.out] at hq
            rw [← Option.some.inj hq]; exact h2
          · exact HJ.out i q (by omega) hq
        clear h2
        go_wp2
        go_roundg g
        case measure => omega
        case rel => exact ⟨j + 1, by go_num, by omega, rfl, HE.out⟩
    | zero =>
      have h1i : ¬ (j : Int) < (l.length : Int) := by omega
      have HE : Hid (negB l = false) := by
        show _ = _
        unfold negB
        rw [List.any_eq_false]
        intro z hz
        obtain ⟨i, hi⟩ := List.getElem?_of_mem hz
        have := HJ.out i z (by have := (List.getElem?_eq_some_iff.1 hi).1; omega) hi
        simpa using this
      go_wp2
      go_ret
      refine ⟨⟨_, rfl, ?_⟩, rfl⟩
      rw [HE.out]; rfl
/-- are names all among others? -/
def inB (cols among : List ByteArray) : Bool := cols.all fun x => hasS x among
theorem neg_in (cols among : List ByteArray) : negB (cols.map fun x => plI x among) = !inB cols among := by
  unfold negB inB
  rw [List.any_map]
  induction cols with
  | nil => rfl
  | cons x r ih =>
    rw [List.any_cons, List.all_cons, Bool.not_and, ← ih]
    congr 1
    show (plI x among == -1) = !hasS x among
    unfold plI hasS
    by_cases h : plS x among < among.length
    · rw [if_pos h, decide_eq_true h]
      show _ = false
      rw [beq_eq_false_iff_ne]; omega
    · rw [if_neg h, decide_eq_false h]; rfl
/-- where names stand among others -/
def plN (cols among : List ByteArray) : List Nat := cols.map fun x => plS x among
theorem plN_int {cols among : List ByteArray} (h : inB cols among = true) : (cols.map fun x => plI x among).map intV = (plN cols among).map natV := by
  unfold plN
  rw [List.map_map, List.map_map]
  apply List.map_congr_left
  intro x hx
  unfold inB at h
  rw [List.all_eq_true] at h
  have := h x hx
  unfold hasS at this
  rw [decide_eq_true_eq] at this
  show intV (plI x among) = natV (plS x among)
  unfold plI
  rw [if_pos this]; rfl
theorem plN_lt {cols among : List ByteArray} (h : inB cols among = true) : ∀ i ∈ plN cols among, i < among.length := by
  intro i hi
  unfold plN at hi
  obtain ⟨x, hx, rfl⟩ := List.mem_map.1 hi
  unfold inB at h
  rw [List.all_eq_true] at h
  have := h x hx
  unfold hasS at this
  rwa [decide_eq_true_eq] at this
/-- what places answers -/
def PlEnd (w : World) (cols among : List ByteArray) (e : Ending) (w' : World) : Prop :=
  Below w.heap.size w w' ∧ ∃ A c, e = .returned (.tuple #[.slice A cols.length c, .bool (inB cols among)]) ∧ (inB cols among = true → Own1 3 natV w' w.heap.size (.slice A cols.length c) (plN cols among))
set_option maxRecDepth 100000 in
set_option maxHeartbeats 2000000 in
theorem places_any (A0 : Option Addr) (c0 : Nat) (l : List ByteArray) (A : Option Addr) (c : Nat) (I : List ByteArray) (w : World) (hr : SlC w w.heap.size A0 l) (hI : SlC w w.heap.size A I) (hl : I.length ≤ 1000000000) (hl2 : l.length ≤ 1000000000) :
    Calls Try.prog 63 #[.slice A I.length c, .slice A0 l.length c0] w (PlEnd w I l) := by
  have hba : Below w.heap.size w (w.alloc (.cells #[.slice A0 l.length c0] 31)) := (Below.refl _ _).alloc (Nat.le_refl _) _
  have HC := Lib.hid (gathI_any w.heap.size A0 c0 l A c I (w.alloc (.cells #[.slice A0 l.length c0] 31)) (cells_new _ _ _) (by simp) (Sl1.up hr hba (Nat.le_refl _)) (Sl1.up hI hba (Nat.le_refl _)) hl hl2)
  have HBA := Lib.hid hba
  have HML : Hid ((I.map fun x => plI x l).length = I.length) := List.length_map ..
  obtain ⟨n, hn⟩ : ∃ n, I.length = n := ⟨_, rfl⟩
  obtain ⟨m, hm⟩ : ∃ m, l.length = m := ⟨_, rfl⟩
  have HN := Lib.hid hn
  have HNL : Hid (n ≤ 1000000000) := hn ▸ hl
  rw [hn, hm] at HC
  rw [hn, hm]
  rw [hm] at HBA
  clear hr hI hba hm hn
  go_enter Try.func63, Try.ntmps63
  go_wp2_with fail
  refine HC.out.mono ?_
  rintro e w2 ⟨⟨v, rfl, ho⟩, hb⟩
  obtain ⟨A5, c5, rfl, hs5, _⟩ := ho.form
  have HO := Lib.hid ho
  have HB := Lib.hid (HBA.out.trans (hb.mono HBA.out.size))
  have HX := Lib.hid (indexI_any A5 c5 (I.map fun x => plI x l) w2 w2.heap.size hs5 (by have := HNL.out; rw [HML.out, HN.out]; omega))
  rw [neg_in] at HX
  have HQ : Hid (∀ q, q = inB I l → True) := fun _ _ => trivial
  have HCC : Hid (Calls Try.prog 83 #[.slice A5 n c5, .int .i64 (-1)] w2 fun e w' => e = .returned (.bool (!inB I l)) ∧ w2 = w') := by
    have HX2 := HX
    rw [HML.out, HN.out] at HX2
    generalize inB I l = q at HX2 ⊢
    clear HX HC ho hb hs5 HO HB HBA HQ
    show Calls _ _ _ _ _
    go_enter Try.func83, Try.ntmps83
    go_wp2_with fail
    refine HX2.out.mono ?_
    rintro e w' ⟨⟨z, rfl, hz⟩, rfl⟩
    have HZ := Lib.hid hz
    clear hz
    go_wp2
    go_ret
    exact ⟨ret_bool HZ.out, rfl⟩
  have HPL : Hid (inB I l = true → Own1 3 natV w2 w.heap.size (.slice A5 n c5) (plN I l)) := fun hq => by
    have h := HO.out
    unfold Own1 at h ⊢
    rw [plN_int hq, HML.out, HN.out] at h
    have e : (plN I l).length = n := by unfold plN; rw [List.length_map]; exact HN.out
    rw [e]
    exact owns_low h HBA.out.size
  obtain ⟨q, hq⟩ : ∃ q, inB I l = q := ⟨_, rfl⟩
  have HQQ := Lib.hid hq
  rw [hq] at HCC
  rw [HML.out, HN.out]
  clear ho hb hs5 hq HQ HX
  go_wp2_with fail
  refine HCC.out.mono ?_
  rintro e w3 ⟨rfl, rfl⟩
  go_wp2
  go_ret2
  refine ⟨HB.out, A5, c5, ?_, ?_⟩
  · rw [HQQ.out, HN.out]; simp
  · rw [HN.out]; exact HPL.out
set_option maxHeartbeats 1000000 in
theorem picker_any (A : Option Addr) (n c : Nat) (w : World) :
    Calls Try.prog 67 #[.slice A n c] w fun e w' => e = .returned (.func (.func 107) #[] #[.pointer (some ⟨w.heap.size, 0, none⟩)]) ∧ w' = w.alloc (.cells #[.slice A n c] 71) := by
  go_enter Try.func67, Try.ntmps67
  go_wp2
  go_ret
  exact ⟨rfl, rfl⟩
theorem eg_picker : ∀ args w, (callFunc 107 args).run Try.prog w = .ok (.enter 107 args) w := enters_of Try.func107 (by kernel_rfl) rfl
set_option maxHeartbeats 1000000 in
theorem becomes_pick (b : Nat) (A : Option Addr) (c : Nat) (I : List Nat) {R : List Rw} {w : World} (hb : w.cell? ⟨b, 0, none⟩ = some (.slice A I.length c)) (hbl : b < w.heap.size) (hI : Sl1 natV w w.heap.size A I) (hl : I.length ≤ 1000000000) (hs : ∀ r ∈ R, RwOk w w.heap.size r) (hlt : ∀ r ∈ R, ∀ i ∈ I, i < r.l.length) :
    Becomes 107 #[.pointer (some ⟨b, 0, none⟩)] (pickV I) R w := fun r hr W hW => by
  have k0 := (hW.cell (p := ⟨b, 0, none⟩) hbl).trans hb
  have HC := Lib.hid (pickedV_any r A c I W ((hs r hr).up hW (Nat.le_refl _)) (Sl1.up hI hW (Nat.le_refl _)) hl (hlt r hr))
  generalize pickV I r.l = P at HC ⊢
  generalize I.length = n at HC k0 ⊢
  obtain ⟨A1, c1, l⟩ := r
  unfold cellR at HC
  simp only at HC ⊢
  clear hs hlt hI hl hb hr
  show Calls Try.prog 107 #[.slice A1 l.length c1, .pointer (some ⟨b, 0, none⟩)] W _
  have HG : Hid (Calls Try.prog 107 #[.slice A1 l.length c1, .pointer (some ⟨b, 0, none⟩)] W fun e w' => (∃ v, e = .returned v ∧ OwnV w' W.heap.size v P) ∧ Below W.heap.size W w') := by
    show Calls _ _ _ _ _
    go_enter Try.func107, Try.ntmps107
    go_wp2_with fail
    refine HC.out.mono ?_
    rintro e w2 ⟨⟨v, rfl, ho⟩, hb2⟩
    have HO := Lib.hid ho
    have HB := Lib.hid hb2
    clear ho hb2
    go_wp2
    go_ret
    exact ⟨⟨_, rfl, HO.out⟩, HB.out⟩
  exact HG.out.mono fun e w' ⟨⟨v, h1, h2⟩, h3⟩ => ⟨v, h1, h2, h3⟩
end Go.Proofs.Ytofmfainhflmmaa
