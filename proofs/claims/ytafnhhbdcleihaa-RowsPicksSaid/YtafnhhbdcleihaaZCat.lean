/-
  CONTRACTS: slices.Grow at nothing; slices.Concat; rows.picked.
-/
import Derived.Test.YtafnhhbdcleihaaGrows
import Derived.Test.YtafnhhbdcleihaaZPick
import Derived.Deep.LoopGhost
namespace Go.Proofs.Ytafnhhbdcleihaa
open Go.RowKit Go.Shelf
open Go.Lib

/-- a piece of names -/
structure Cw where
  A : Option Addr
  c : Nat
  l : List ByteArray
def cellC (r : Cw) : Value := .slice r.A r.l.length r.c
structure CwOk (W : World) (B : Nat) (r : Cw) : Prop where
  s : SlC W B r.A r.l
  n : r.A = none → r.l.length = 0 ∧ r.c = 0
theorem CwOk.up {W W' : World} {r : Cw} (h : CwOk W W.heap.size r) {B' : Nat} (hb : Below B' W W') (hB : W.heap.size ≤ B') : CwOk W' W'.heap.size r := ⟨Sl1.up h.s hb hB, h.n⟩

theorem growV_any (n : Nat) (w : World) (hn : n ≤ 1000000000000) : Calls Try.prog 95 #[.slice none 0 0, .int .i64 (n : Int)] w fun e w' => (∃ v, e = .returned v ∧ OwnV w' w.heap.size v []) ∧ Below w.heap.size w w' := by
  obtain ⟨i0, hi, hz0, hz1, hz2⟩ := info_parts infoV
  have hmx : 1000000000000 ≤ maxLen := by decide
  by_cases h0 : n = 0
  · subst h0
    have h := Any8.slices_Grow_room Try.growV none 0 0 0 w (by omega) (by omega) (by omega) (by omega)
    change Calls Try.prog 95 #[.slice none 0 0, .int .i64 ((0 : Nat) : Int)] w _ at h
    refine h.mono ?_
    rintro e w' ⟨rfl, rfl⟩
    exact ⟨⟨_, rfl, World.ownsRow_nil _ _ _ _⟩, Below.refl _ _⟩
  · have h := Any8.slices_Grow_grow Try.growV i0 (.agg #[.int .i64 0, .int .i64 0, .string ⟨#[]⟩]) hi hz0 (by rw [hz1]; decide) none 0 0 n [] w (by omega) (by omega) (by rw [hz2]; omega) (by omega) (by simp) (fun _ => rfl) (fun a e => by cases e)
    change Calls Try.prog 95 #[.slice none 0 0, .int .i64 (n : Int)] w _ at h
    refine h.mono ?_
    rintro e w' ⟨rfl, rfl⟩
    have hge : 0 + n ≤ grownCap w (0 + n) 0 44 := grownCap_ge _ _ _ _
    have hle : grownCap w (0 + n) 0 44 ≤ maxLen := grownCap_le_maxLen _ _ _ _ (by omega)
    refine ⟨⟨_, rfl, ?_⟩, (Below.refl w.heap.size w).drew.alloc (Nat.le_refl _) _⟩
    exact World.ownsRow_made w.drew _ _ (Nat.le_refl _) hle (by
      have hs : (Value.cells (.agg #[.int .i64 0, .int .i64 0, .string ⟨#[]⟩])).size = 3 := rfl
      have hx : Try.growV_ren.t 25 = 44 := rfl
      rw [Nat.zero_add] at hge
      simp only [Array.size_append, Builtin.zeroCells, Array.size_map, Array.size_range, hs, hx, Nat.zero_add]
      simp
      omega)
set_option maxRecDepth 100000 in
set_option maxHeartbeats 2000000 in
theorem concatV_any (A : Option Addr) (c : Nat) (R : List Rw) (w : World) (hs : Sl1 cellR w w.heap.size A R) (hr : ∀ r ∈ R, RwOk w w.heap.size r) (hl : R.length ≤ 10) (hll : ∀ r ∈ R, r.l.length ≤ 1000000000) :
    Calls Try.prog 67 #[.slice A R.length c] w fun e w' => (∃ v, e = .returned v ∧ OwnV w' w.heap.size v (R.flatMap (·.l))) ∧ Below w.heap.size w w' := by
  obtain ⟨i0, hi, hz0, hz1, hz2⟩ := info_parts infoV
  have hmx : 2000000000000 ≤ maxLen := by decide
  have HS := Lib.hid hs
  have HR := Lib.hid hr
  have HLL := Lib.hid hll
  have HONE : Hid (∀ (l : List ByteArray), ∀ u ∈ l.map strV, u.oneCell' = true) := fun l u hu => by obtain ⟨x, _, rfl⟩ := List.mem_map.1 hu; rfl
  clear hs hr hll
  go_enter Try.func67, Try.ntmps67
  go_wp2
  go_loopg [3, 11] R.length (fun g x3 x11 wr => ∃ (j t : Nat), x3 = .int .i64 t ∧ x11 = .int .i64 j ∧ j + g = R.length ∧ t ≤ j * 1000000000 ∧ Hid (Below w.heap.size w wr))
  case atStart => exact ⟨0, 0, rfl, rfl, by omega, by omega, Below.refl _ _⟩
  case round =>
    obtain ⟨j, t, rfl, rfl, hj, ht, HB⟩ := hrel
    cases gk with
    | succ g =>
      have hji : (j : Int) < (R.length : Int) := by omega
      have hjn : j < R.length := by omega
      obtain ⟨b, o, rfl, hb, hp⟩ := (HS.out.up HB.out (Nat.le_refl _)).at_ hjn
      have hrl := HLL.out _ (List.getElem_mem hjn)
      obtain ⟨r, hre⟩ : ∃ r, R[j] = r := ⟨_, rfl⟩
      rw [hre] at hp hrl
      unfold cellR at hp
      have hlt : ¬ ((t : Int) + (r.l.length : Int) < 0) := by omega
      clear hre
      go_wp2
      go_roundg g
      case measure => omega
      case rel => exact ⟨j + 1, t + r.l.length, by go_num, by go_num, by omega, by omega, HB.out⟩
    | zero =>
      have hji : ¬ (j : Int) < (R.length : Int) := by omega
      have HG := Lib.hid (growV_any t wr (by omega))
      obtain ⟨wo, hwo⟩ : ∃ wo, wo = wr := ⟨_, rfl⟩
      subst hwo
      go_wp2_with fail
      refine HG.out.mono ?_
      rintro e w2 ⟨⟨v2, rfl, ho2⟩, hb2⟩
      have HB2 := Lib.hid (HB.out.trans (hb2.mono HB.out.size))
      have HO2 : Hid (OwnV w2 w.heap.size v2 []) := owns_low ho2 HB.out.size
      clear ho2 hb2
      go_wp2
      go_loopg [6, 27] R.length (fun g x6 x27 wr => ∃ j : Nat, OwnV wr w.heap.size x6 ((R.take j).flatMap (·.l)) ∧ x27 = .int .i64 j ∧ j + g = R.length ∧ ((R.take j).flatMap (·.l)).length ≤ j * 1000000000 ∧ Hid (Below w.heap.size w wr))
      case atStart => exact ⟨0, HO2.out, rfl, by omega, by simp, HB2.out⟩
      case round =>
        obtain ⟨k, ho, rfl, hk, hkl, HBk⟩ := hrel
        cases gk with
        | zero =>
          have hki : ¬ (k : Int) < (R.length : Int) := by omega
          have HE : Hid (OwnV wr w.heap.size u6 (R.flatMap (·.l))) := by
            have h := ho
            rw [List.take_of_length_le (by omega)] at h
            exact h
          clear ho hkl
          go_wp2
          go_ret
          exact ⟨⟨_, rfl, HE.out⟩, HBk.out⟩
        | succ g =>
          have hki : (k : Int) < (R.length : Int) := by omega
          have hkn : k < R.length := by omega
          obtain ⟨b, o, rfl, hb, hp⟩ := (HS.out.up HBk.out (Nat.le_refl _)).at_ hkn
          have hrl := HLL.out _ (List.getElem_mem hkn)
          have hrk := (HR.out _ (List.getElem_mem hkn)).up HBk.out (Nat.le_refl _)
          have HTK : Hid ((R.take (k + 1)).flatMap (·.l) = (R.take k).flatMap (·.l) ++ R[k].l) := by
            show _ = _
            rw [List.take_succ_eq_append_getElem hkn, List.flatMap_append]; simp
          obtain ⟨r, hre⟩ : ∃ r, R[k] = r := ⟨_, rfl⟩
          rw [hre] at hp hrl hrk HTK
          obtain ⟨L, hL⟩ : ∃ L, (R.take k).flatMap (·.l) = L := ⟨_, rfl⟩
          rw [hL] at HTK hkl ho
          obtain ⟨A9, c9, rfl, _⟩ := ho.form
          have HO := Lib.hid ho
          clear hL
          unfold cellR at hp
          have HNN := Lib.hid hrk.n
          have HNW := Lib.hid hrk.s.news
          clear hre hrk ho
          have HKL : Hid (L.length ≤ k * 1000000000) := hkl
          clear hkl
          go_wp2_with (at_builtin; refine wpList_append_any rfl _ _ 30 rfl w.heap.size 44 i0 (.agg #[.int .i64 0, .int .i64 0, .string ⟨#[]⟩]) 3 32 Try.underlying30 hi hz0 hz1 hz2 rfl (by decide) (.slice A9 L.length c9) L.length (L.flatMap cellsV) rfl HO.out r.A r.l.length r.c (r.l.flatMap cellsV) rfl (flatV_len _) HNN.out HNW.out (cellsV_all _) (by have := HKL.out; omega) (by have := HKL.out; omega) HBk.out.size ?_; intro v1 w3 hown hgrow; have HV1 : Hid (OwnV w3 w.heap.size v1 (L ++ r.l)) := ownV_of hown; have HB3 := Lib.hid (HBk.out.trans (below_owns HO.out hgrow HBk.out.size)); clear hown hgrow)
          go_roundg g
          case measure => omega
          case rel => exact ⟨k + 1, by rw [HTK.out]; exact HV1.out, by go_num, by omega, by rw [HTK.out, List.length_append]; have := HKL.out; omega, HB3.out⟩

theorem growS_any (n : Nat) (w : World) (hn : n ≤ 1000000000000) : Calls Try.prog 90 #[.slice none 0 0, .int .i64 (n : Int)] w fun e w' => (∃ v, e = .returned v ∧ OwnC w' w.heap.size v []) ∧ Below w.heap.size w w' := by
  obtain ⟨i0, hi, hz0, hz1, hz2⟩ := info_parts infoS
  have hmx : 1000000000000 ≤ maxLen := by decide
  by_cases h0 : n = 0
  · subst h0
    have h := Any8.slices_Grow_room Try.growS none 0 0 0 w (by omega) (by omega) (by omega) (by omega)
    change Calls Try.prog 90 #[.slice none 0 0, .int .i64 ((0 : Nat) : Int)] w _ at h
    refine h.mono ?_
    rintro e w' ⟨rfl, rfl⟩
    exact ⟨⟨_, rfl, World.ownsRow_nil _ _ _ _⟩, Below.refl _ _⟩
  · have h := Any8.slices_Grow_grow Try.growS i0 (.string ⟨#[]⟩) hi hz0 (by rw [hz1]; decide) none 0 0 n [] w (by omega) (by omega) (by rw [hz2]; omega) (by omega) (by simp) (fun _ => rfl) (fun a e => by cases e)
    change Calls Try.prog 90 #[.slice none 0 0, .int .i64 (n : Int)] w _ at h
    refine h.mono ?_
    rintro e w' ⟨rfl, rfl⟩
    have hge : 0 + n ≤ grownCap w (0 + n) 0 9 := grownCap_ge _ _ _ _
    have hle : grownCap w (0 + n) 0 9 ≤ maxLen := grownCap_le_maxLen _ _ _ _ (by omega)
    refine ⟨⟨_, rfl, ?_⟩, (Below.refl w.heap.size w).drew.alloc (Nat.le_refl _) _⟩
    exact World.ownsRow_made w.drew _ _ (Nat.le_refl _) hle (by
      have hs : (Value.cells (.string ⟨#[]⟩)).size = 1 := rfl
      have hx : Try.growS_ren.t 25 = 9 := rfl
      rw [Nat.zero_add] at hge
      simp only [Array.size_append, Builtin.zeroCells, Array.size_map, Array.size_range, hs, hx, Nat.zero_add]
      simp
      omega)
set_option maxRecDepth 100000 in
set_option maxHeartbeats 2000000 in
theorem concatS_any (A : Option Addr) (c : Nat) (R : List Cw) (w : World) (hs : Sl1 cellC w w.heap.size A R) (hr : ∀ r ∈ R, CwOk w w.heap.size r) (hl : R.length ≤ 10) (hll : ∀ r ∈ R, r.l.length ≤ 1000000000) :
    Calls Try.prog 64 #[.slice A R.length c] w fun e w' => (∃ v, e = .returned v ∧ OwnC w' w.heap.size v (R.flatMap (·.l))) ∧ Below w.heap.size w w' := by
  obtain ⟨i0, hi, hz0, hz1, hz2⟩ := info_parts infoS
  have hmx : 2000000000000 ≤ maxLen := by decide
  have HS := Lib.hid hs
  have HR := Lib.hid hr
  have HLL := Lib.hid hll
  have HONE : Hid (∀ (l : List ByteArray), ∀ u ∈ l.map strV, u.oneCell' = true) := fun l u hu => by obtain ⟨x, _, rfl⟩ := List.mem_map.1 hu; rfl
  clear hs hr hll
  go_enter Try.func64, Try.ntmps64
  go_wp2
  go_loopg [3, 11] R.length (fun g x3 x11 wr => ∃ (j t : Nat), x3 = .int .i64 t ∧ x11 = .int .i64 j ∧ j + g = R.length ∧ t ≤ j * 1000000000 ∧ Hid (Below w.heap.size w wr))
  case atStart => exact ⟨0, 0, rfl, rfl, by omega, by omega, Below.refl _ _⟩
  case round =>
    obtain ⟨j, t, rfl, rfl, hj, ht, HB⟩ := hrel
    cases gk with
    | succ g =>
      have hji : (j : Int) < (R.length : Int) := by omega
      have hjn : j < R.length := by omega
      obtain ⟨b, o, rfl, hb, hp⟩ := (HS.out.up HB.out (Nat.le_refl _)).at_ hjn
      have hrl := HLL.out _ (List.getElem_mem hjn)
      obtain ⟨r, hre⟩ : ∃ r, R[j] = r := ⟨_, rfl⟩
      rw [hre] at hp hrl
      unfold cellC at hp
      have hlt : ¬ ((t : Int) + (r.l.length : Int) < 0) := by omega
      clear hre
      go_wp2
      go_roundg g
      case measure => omega
      case rel => exact ⟨j + 1, t + r.l.length, by go_num, by go_num, by omega, by omega, HB.out⟩
    | zero =>
      have hji : ¬ (j : Int) < (R.length : Int) := by omega
      have HG := Lib.hid (growS_any t wr (by omega))
      obtain ⟨wo, hwo⟩ : ∃ wo, wo = wr := ⟨_, rfl⟩
      subst hwo
      go_wp2_with fail
      refine HG.out.mono ?_
      rintro e w2 ⟨⟨v2, rfl, ho2⟩, hb2⟩
      have HB2 := Lib.hid (HB.out.trans (hb2.mono HB.out.size))
      have HO2 : Hid (OwnC w2 w.heap.size v2 []) := owns_low ho2 HB.out.size
      clear ho2 hb2
      go_wp2
      go_loopg [6, 27] R.length (fun g x6 x27 wr => ∃ j : Nat, OwnC wr w.heap.size x6 ((R.take j).flatMap (·.l)) ∧ x27 = .int .i64 j ∧ j + g = R.length ∧ ((R.take j).flatMap (·.l)).length ≤ j * 1000000000 ∧ Hid (Below w.heap.size w wr))
      case atStart => exact ⟨0, HO2.out, rfl, by omega, by simp, HB2.out⟩
      case round =>
        obtain ⟨k, ho, rfl, hk, hkl, HBk⟩ := hrel
        cases gk with
        | zero =>
          have hki : ¬ (k : Int) < (R.length : Int) := by omega
          have HE : Hid (OwnC wr w.heap.size u6 (R.flatMap (·.l))) := by
            have h := ho
            rw [List.take_of_length_le (by omega)] at h
            exact h
          clear ho hkl
          go_wp2
          go_ret
          exact ⟨⟨_, rfl, HE.out⟩, HBk.out⟩
        | succ g =>
          have hki : (k : Int) < (R.length : Int) := by omega
          have hkn : k < R.length := by omega
          obtain ⟨b, o, rfl, hb, hp⟩ := (HS.out.up HBk.out (Nat.le_refl _)).at_ hkn
          have hrl := HLL.out _ (List.getElem_mem hkn)
          have hrk := (HR.out _ (List.getElem_mem hkn)).up HBk.out (Nat.le_refl _)
          have HTK : Hid ((R.take (k + 1)).flatMap (·.l) = (R.take k).flatMap (·.l) ++ R[k].l) := by
            show _ = _
            rw [List.take_succ_eq_append_getElem hkn, List.flatMap_append]; simp
          obtain ⟨r, hre⟩ : ∃ r, R[k] = r := ⟨_, rfl⟩
          rw [hre] at hp hrl hrk HTK
          obtain ⟨L, hL⟩ : ∃ L, (R.take k).flatMap (·.l) = L := ⟨_, rfl⟩
          rw [hL] at HTK hkl ho
          obtain ⟨A9, c9, rfl, _⟩ := ho.form
          have HO := Lib.hid ho
          clear hL
          unfold cellC at hp
          have HNN := Lib.hid hrk.n
          have HNW := Lib.hid hrk.s.news
          clear hre hrk ho
          have HKL : Hid (L.length ≤ k * 1000000000) := hkl
          clear hkl
          go_wp2_with (at_builtin; refine wpList_append_any rfl _ _ 22 rfl w.heap.size 9 i0 (.string ⟨#[]⟩) 1 16 Try.underlying22 hi hz0 hz1 hz2 rfl (by decide) (.slice A9 L.length c9) L.length (L.map strV) rfl HO.out r.A r.l.length r.c (r.l.map strV) rfl (by simp) HNN.out HNW.out (HONE.out _) (by have := HKL.out; omega) (by have := HKL.out; omega) HBk.out.size ?_; intro v1 w3 hown hgrow; have HV1 : Hid (OwnC w3 w.heap.size v1 (L ++ r.l)) := own1_of hown; have HB3 := Lib.hid (HBk.out.trans (below_owns HO.out hgrow HBk.out.size)); clear hown hgrow)
          go_roundg g
          case measure => omega
          case rel => exact ⟨k + 1, by rw [HTK.out]; exact HV1.out, by go_num, by omega, by rw [HTK.out, List.length_append]; have := HKL.out; omega, HB3.out⟩

theorem cells_new (w : World) (c : Value) (t : TypeId) : (w.alloc (.cells #[c] t)).cell? ⟨w.heap.size, 0, none⟩ = some c := by rw [World.cell?_alloc_new]; rfl
set_option maxHeartbeats 1000000 in
theorem pickedV_any (r : Rw) (A : Option Addr) (c : Nat) (I : List Nat) (w : World) (hr : RwOk w w.heap.size r) (hI : Sl1 natV w w.heap.size A I) (hl : I.length ≤ 1000000000) (hi : ∀ i ∈ I, i < r.l.length) :
    Calls Try.prog 68 #[cellR r, .slice A I.length c] w fun e w' => (∃ v, e = .returned v ∧ OwnV w' w.heap.size v (pickV I r.l)) ∧ Below w.heap.size w w' := by
  have hba : Below w.heap.size w (w.alloc (.cells #[cellR r] 30)) := (Below.refl _ _).alloc (Nat.le_refl _) _
  have HC := Lib.hid (gathPV_any w.heap.size r A c I (w.alloc (.cells #[cellR r] 30)) (cells_new _ _ _) (hr.up hba (Nat.le_refl _)) (by simp) (Sl1.up hI hba (Nat.le_refl _)) hl hi)
  have HBA := Lib.hid hba
  generalize pickV I r.l = P at HC ⊢
  generalize I.length = n at HC ⊢
  clear hr hI hba hi hl
  obtain ⟨A1, c1, l⟩ := r
  unfold cellR at HC HBA ⊢
  simp only at HC HBA ⊢
  go_enter Try.func68, Try.ntmps68
  go_wp2_with fail
  refine HC.out.mono ?_
  rintro e w2 ⟨⟨v, rfl, ho⟩, hb⟩
  have HO := Lib.hid ho
  have HB := Lib.hid hb
  clear ho hb
  go_wp2
  go_ret
  exact ⟨⟨_, rfl, owns_low HO.out HBA.out.size⟩, HBA.out.trans (HB.out.mono HBA.out.size)⟩
set_option maxHeartbeats 1000000 in
theorem pickedC_any (A0 : Option Addr) (c0 : Nat) (l : List ByteArray) (A : Option Addr) (c : Nat) (I : List Nat) (w : World) (hr : SlC w w.heap.size A0 l) (hI : Sl1 natV w w.heap.size A I) (hl : I.length ≤ 1000000000) (hi : ∀ i ∈ I, i < l.length) :
    Calls Try.prog 65 #[.slice A0 l.length c0, .slice A I.length c] w fun e w' => (∃ v, e = .returned v ∧ OwnC w' w.heap.size v (pickC I l)) ∧ Below w.heap.size w w' := by
  have hba : Below w.heap.size w (w.alloc (.cells #[.slice A0 l.length c0] 22)) := (Below.refl _ _).alloc (Nat.le_refl _) _
  have HC := Lib.hid (gathPC_any w.heap.size A0 c0 l A c I (w.alloc (.cells #[.slice A0 l.length c0] 22)) (cells_new _ _ _) (Sl1.up hr hba (Nat.le_refl _)) (by simp) (Sl1.up hI hba (Nat.le_refl _)) hl hi)
  have HBA := Lib.hid hba
  generalize pickC I l = P at HC ⊢
  generalize I.length = n at HC ⊢
  generalize l.length = m at HC HBA ⊢
  clear hr hI hba hi hl
  go_enter Try.func65, Try.ntmps65
  go_wp2_with fail
  refine HC.out.mono ?_
  rintro e w2 ⟨⟨v, rfl, ho⟩, hb⟩
  have HO := Lib.hid ho
  have HB := Lib.hid hb
  clear ho hb
  go_wp2
  go_ret
  exact ⟨⟨_, rfl, owns_low HO.out HBA.out.size⟩, HBA.out.trans (HB.out.mono HBA.out.size)⟩
end Go.Proofs.Ytafnhhbdcleihaa
