/-
  CONTRACTS: bytes.IndexByte at byte 0; readString (the program's).
-/
import Derived.Test.YtdlkblnnnmgijaaORdByte
import Derived.Shelf.Bytes.SlIndexAt
import Derived.Lib.IndexLaws
import Derived.WalkMore
namespace Go.Proofs.Ytdlkblnnnmgijaa
open Go.RowKit Go.Shelf

/-- where the first byte 0 stands -/
def zeroAt (l : List UInt8) (z : Nat) : Prop := l[z]? = some 0 ∧ ∀ k, k < z → l[k]? ≠ some 0
theorem txtR_none : ∀ l : List UInt8, (∀ k : Nat, l[k]? ≠ some 0) → txtR l = none
  | [], _ => rfl
  | [_], _ => rfl
  | c :: d :: r, h => by
    have hc : c ≠ 0 := fun e => h 0 (by simp [e])
    rw [txtR, if_neg hc, txtR_none (d :: r) (fun k => by have := h (k + 1); simpa using this)]
    rfl
theorem txtR_last : ∀ (l : List UInt8) (z : Nat), zeroAt l z → z + 1 = l.length → txtR l = none
  | [], _, _, _ => rfl
  | [_], _, _, _ => rfl
  | c :: d :: r, 0, _, he => by simp at he
  | c :: d :: r, z + 1, h, he => by
    have hc : c ≠ 0 := fun e => h.2 0 (by omega) (by simp [e])
    rw [txtR, if_neg hc, txtR_last (d :: r) z ⟨by have := h.1; simpa using this, fun k hk => by have := h.2 (k + 1) (by omega); simpa using this⟩ (by simpa using he)]
    rfl
theorem txtR_at : ∀ (l : List UInt8) (z : Nat) (d : UInt8), zeroAt l z → l[z + 1]? = some d → txtR l = if d = 1 then some (l.take z, l.drop (z + 2)) else if d = 255 then (txtR (l.drop (z + 2))).map (fun p => (l.take z ++ 0 :: p.1, p.2)) else none
  | [], z, d, _, h => by simp at h
  | [_], 0, d, _, h => by simp at h
  | [_], z + 1, d, _, h => by simp at h
  | c :: e :: r, 0, d, hz, h => by
    have hc : c = 0 := by have := hz.1; simpa using this
    have hd : e = d := by simpa using h
    subst hd
    rw [txtR, if_pos hc]
    simp
  | c :: e :: r, z + 1, d, hz, h => by
    have hc : c ≠ 0 := fun e => hz.2 0 (by omega) (by simp [e])
    have ih := txtR_at (e :: r) z d ⟨by have := hz.1; simpa using this, fun k hk => by have := hz.2 (k + 1) (by omega); simpa using this⟩ (by simpa using h)
    rw [txtR, if_neg hc, ih]
    by_cases h1 : d = 1
    · rw [if_pos h1, if_pos h1]; simp
    · rw [if_neg h1, if_neg h1]
      by_cases h2 : d = 255
      · rw [if_pos h2, if_pos h2]
        simp [Option.map_map, Function.comp_def]
      · rw [if_neg h2, if_neg h2]; rfl

theorem bytesOf_nums (l : List UInt8) : Lib.bytesOf (l.map fun c : UInt8 => (c.toNat : Int)) = l := by
  unfold Lib.bytesOf
  rw [List.map_map]
  conv => rhs; rw [← List.map_id l]
  exact List.map_congr_left fun c _ => by simp

/-- What IndexByte of byte 0 answers. -/
def IdxZ (l : List UInt8) (v : Int) : Prop := (v = -1 ∧ ∀ k : Nat, l[k]? ≠ some 0) ∨ ∃ z : Nat, v = z ∧ zeroAt l z
theorem idxZ_of (l : List UInt8) : IdxZ l (Lib.indexByte l 0) := by
  have hge := Lib.indexByte_ge l 0
  by_cases h : Lib.indexByte l 0 = -1
  · exact .inl ⟨h, Lib.indexByte_none h⟩
  · obtain ⟨z, hz⟩ : ∃ z : Nat, Lib.indexByte l 0 = z := ⟨(Lib.indexByte l 0).toNat, by omega⟩
    exact .inr ⟨z, hz, Lib.indexByte_some hz⟩

set_option maxRecDepth 100000 in
set_option maxHeartbeats 1000000 in
theorem indexZero_any (A : Option Addr) (c : Nat) (l : List UInt8) (w : World) (B : Nat) (hs : SlB w B A l) (hA : A = none → c = 0) :
    Calls Try.prog 134 #[.slice A l.length c, .int .u8 0] w fun e w' => ∃ v, e = .returned (.int .i64 v) ∧ IdxZ l v ∧ w' = w := by
  go_enter Try.func134, Try.ntmps134
  cases A with
  | none =>
    have hl : l = [] := by
      by_cases e : l = []
      · exact e
      · obtain ⟨a, h, _⟩ := hs e
        cases h
    subst hl
    obtain rfl := hA rfl
    go_wp2
    rw [run_callFunc_extern Try.func138 (by kernel_rfl) (by kernel_rfl) (by kernel_rfl) (e := Extern.BytealgIndexByte.indexByte) (by kernel_rfl), Lib.run_indexByteNil w 0 0 0]
    simp only [Result.andThen]
    rw [Oper.upon_value]
    go_wp2
    go_ret
    exact ⟨-1, rfl, .inl ⟨rfl, fun k => by simp⟩, rfl⟩
  | some a =>
    have hc : ∀ i, i < l.length → w.cell? (a.add i) = some (.int .u8 ((l.map fun c : UInt8 => (c.toNat : Int)).getD i 0)) := fun i hi => by
      obtain ⟨a', h, _, hcc⟩ := hs (by intro e; rw [e] at hi; simp at hi)
      injection h with h
      subst h
      rw [hcc i _ (List.getElem?_eq_getElem hi)]
      simp [List.getD, List.getElem?_eq_getElem hi]
    have hrun := Lib.run_indexByteAt (P := Try.prog) w a l.length c (l.map fun c : UInt8 => (c.toNat : Int)) (List.length_map _) hc 0
    rw [bytesOf_nums] at hrun
    go_wp2
    rw [run_callFunc_extern Try.func138 (by kernel_rfl) (by kernel_rfl) (by kernel_rfl) (e := Extern.BytealgIndexByte.indexByte) (by kernel_rfl), hrun]
    simp only [Result.andThen]
    rw [Oper.upon_value]
    go_wp2
    go_ret
    exact ⟨_, rfl, idxZ_of l, rfl⟩

theorem add_succ' (a : Addr) (k : Nat) : a.add (k + 1) = ⟨a.block, a.off + (k + 1), none⟩ := by
  unfold Addr.add
  simp
/-- What readString answers. -/
def TxtRd (W : World) (B : Nat) (l : List UInt8) (e : Ending) (w' : World) : Prop :=
  (∃ s t r, txtR l = some (s, t) ∧ e = .returned (.tuple #[.string ⟨s.toArray⟩, r, .bool true]) ∧ Rest w' B r t ∧ Below W.heap.size W w') ∨
  (txtR l = none ∧ e = .returned (.tuple #[.string ⟨#[]⟩, .slice none 0 0, .bool false]) ∧ Below W.heap.size W w')
theorem txtRd_yes {W w' : World} {B : Nat} {l s t : List UInt8} {r : Value} (h : txtR l = some (s, t)) (hr : Rest w' B r t) (hb : Below W.heap.size W w') : TxtRd W B l (.returned (.tuple #[.string ⟨s.toArray⟩, r, .bool true])) w' := .inl ⟨s, t, r, h, rfl, hr, hb⟩
theorem txtRd_no {W w' : World} {B : Nat} {l : List UInt8} (h : txtR l = none) (hb : Below W.heap.size W w') : TxtRd W B l (.returned (.tuple #[.string ⟨#[]⟩, .slice none 0 0, .bool false])) w' := .inr ⟨h, rfl, hb⟩
/-- what was read so far, ahead of the rest -/
def onward (acc : List UInt8) (o : Option (List UInt8 × List UInt8)) : Option (List UInt8 × List UInt8) := o.map fun p => (acc ++ p.1, p.2)

set_option maxRecDepth 100000 in
set_option maxHeartbeats 4000000 in
theorem readString_any (A : Option Addr) (c : Nat) (l : List UInt8) (W : World) (B : Nat) (hBW : B ≤ W.heap.size) (hs : SlB W B A l) (hA : A = none → c = 0) (hlc : l.length ≤ c) (hc : c ≤ maxLen) (hl : l.length ≤ 10000) :
    Calls Try.prog 124 #[.slice A l.length c] W (TxtRd W B l) := by
  obtain ⟨i0, hi, hz0, hz1, hz2⟩ := info_parts info8
  have hmx : 50000 ≤ maxLen := by decide
  unfold maxLen at hc
  have HL := Lib.hid hl
  go_enter Try.func124, Try.ntmps124
  go_wp2
  go_step3
  go_wp2
  go_step3
  go_wp2
  go_loopg [0, 5] l.length (fun g x y wr => ∃ (A' : Option Addr) (c' : Nat) (L acc : List UInt8) (v : Value), x = .slice A' L.length c' ∧ y = v ∧ Hid (L.length = g) ∧ L.length ≤ c' ∧ c' ≤ 9223372036854775807 ∧ (A' = none → c' = 0) ∧ acc.length + L.length ≤ l.length ∧ Hid (SlB W B A' L) ∧ Hid (txtR l = onward acc (txtR L)) ∧ Hid (OwnB wr W.heap.size v acc) ∧ Hid (Below W.heap.size W wr) ∧ W.heap.size ≤ wr.heap.size)
  case atStart => exact ⟨A, c, l, [], _, rfl, rfl, (by show _ = _; rfl), hlc, by omega, hA, by simp, hs, (by show _ = _; unfold onward; simp), ownB_nil _ _, Below.refl _ _, Nat.le_refl _⟩
  case round =>
    obtain ⟨A', c', L, acc, v, rfl, rfl, hg, hlc', hc', hA', hacc, HS, HT, HO, HB, hsz⟩ := hrel
    clear hs hA
    have HSr := Lib.hid (HS.out.next HB.out hBW)
    go_wp2_with fail
    refine (indexZero_any A' c' L _ _ HSr.out hA').mono ?_
    rintro e w1 ⟨z, rfl, hz | ⟨z, rfl, hz⟩, rfl⟩
    · obtain ⟨rfl, hz⟩ := hz
      have HN := Lib.hid (txtR_none L hz)
      clear hz
      go_wp2
      rw [Exit.noGoto_ret]
      go_ret3
      exact txtRd_no (by rw [HT.out, HN.out]; rfl) HB.out
    · have HZ := Lib.hid hz
      have hzl : z < L.length := (List.getElem?_eq_some_iff.1 hz.1).1
      clear hz
      have hzn : ¬ ((z : Int) < 0) := by omega
      by_cases hlast : z + 1 = L.length
      · have HN := Lib.hid (txtR_last L z HZ.out hlast)
        have hlb : ((z : Int) + 1 == (L.length : Int)) = true := by simp; omega
        go_wp2
        rw [Exit.noGoto_ret]
        go_ret3
        exact txtRd_no (by rw [HT.out, HN.out]; rfl) HB.out
      · have hlb : ((z : Int) + 1 == (L.length : Int)) = false := by simp; omega
        obtain ⟨a, rfl, hal, hcells⟩ := HSr.out (by intro e; rw [e] at hzl; simp at hzl)
        have hz1l : z + 1 < L.length := by omega
        obtain ⟨d, hd⟩ : ∃ d, L[z + 1]? = some d := ⟨_, List.getElem?_eq_getElem hz1l⟩
        have HAT := Lib.hid (txtR_at L z d HZ.out hd)
        have HC := Lib.hid hcells
        have hd1 := hcells (z + 1) d hd
        clear hcells hd hA'
        have HAL := Lib.hid (show a.block < W.heap.size from Nat.lt_of_lt_of_le hal hBW)
        have HLT : Hid ((L.take z).length = z) := by show _ = _; rw [List.length_take]; omega
        have HCL : Hid (∀ j u, (cellsL (L.take z))[j]? = some u → w1.cell? (a.add j) = some u) := fun j u hu => by
          obtain ⟨x, hx, rfl⟩ := cellsL_at hu
          rw [List.getElem?_take] at hx
          split at hx
          · exact HC.out j x hx
          · cases hx
        have HG := Lib.hid hg.out
        have tok : True := trivial
        have hcm : c' ≤ maxLen := by unfold maxLen; omega
        have HLC := Lib.hid hlc'
        have hdn := d.toNat_lt
        have hz2i : (z : Int) + 2 ≤ (c' : Int) := by omega
        have hz1i : (z : Int) + 1 < (L.length : Int) := by omega
        clear hg hal
        by_cases hc2 : c' = z + 2
        · have HR : Hid (Rest W B (.slice (some a) (L.length - (z + 2)) (c' - (z + 2))) (L.drop (z + 2))) := by
            show Rest _ _ _ _
            have := rest_cut HS.out hlc' hcm (z + 2)
            rwa [if_pos hc2] at this
          have HRS : Hid (SlB W B (some a) (L.drop (z + 2))) := by have := HS.out.cut hlc' (z + 2); rwa [if_pos hc2] at this
          subst hc2
          by_cases h1 : d = 1
          · have e1 : ((d.toNat : Int) == 1) = true := by rw [h1]; rfl
            rw [h1, if_pos rfl] at HAT
            clear h1
            go_wp2_with (at_builtin; have _t := tok; refine wpList_append_own _ rfl _ _ 29 rfl W.heap.size 5 i0 (.int .u8 0) 1 1 Try.underlying29 hi hz0 hz1 hz2 rfl (by decide) _ _ _ rfl HO.out a z (z + 2) (cellsL (L.take z)) rfl (by rw [cellsL_len, HLT.out, Nat.mul_one]) HCL.out (cellsL_one _) (by have := HL.out; omega) (by have := HL.out; omega) (by omega) ?_; intro v' w3 hown' hgrow _; have HO3 : Hid (OwnB w3 W.heap.size v' (acc ++ L.take z)) := (by show World.ownsRow _ _ _ _ _ _ _; rw [List.length_append, HLT.out]; rw [← cellsL_app] at hown'; exact hown'); have HB3 := Lib.hid (HB.out.trans (below_own HO.out hgrow hsz)); have hd3 := ((below_own HO.out hgrow hsz).cell (p := a.add (z + 1)) (by rw [add_block]; exact HAL.out)).trans hd1; rw [add_succ'] at hd3; have hcv3 := ownB_string w3 _ _ _ HO3.out; clear tok hown' hgrow hd1)
            rw [Exit.noGoto_ret]
            go_ret3
            exact txtRd_yes (by rw [HT.out, HAT.out]; rfl) (HR.out.next HB3.out hBW) HB3.out
          have e1 : ((d.toNat : Int) == 1) = false := by
            rw [beq_eq_false_iff_ne]
            exact fun e => h1 (UInt8.toNat_inj.1 (by show d.toNat = 1; omega))
          rw [if_neg h1] at HAT
          clear h1
          by_cases h2 : d = 255
          · have e2 : ((d.toNat : Int) == 255) = true := by rw [h2]; rfl
            rw [if_pos h2] at HAT
            clear h2
            go_wp2_with (first | (at_builtin; have _t := tok; refine wpList_append_own _ rfl _ _ 29 rfl W.heap.size 5 i0 (.int .u8 0) 1 1 Try.underlying29 hi hz0 hz1 hz2 rfl (by decide) _ _ _ rfl HO.out a z (z + 2) (cellsL (L.take z)) rfl (by rw [cellsL_len, HLT.out, Nat.mul_one]) HCL.out (cellsL_one _) (by have := HL.out; omega) (by have := HL.out; omega) (by omega) ?_; intro v' w3 hown' hgrow _; have HO3 : Hid (OwnB w3 W.heap.size v' (acc ++ L.take z)) := (by show World.ownsRow _ _ _ _ _ _ _; rw [List.length_append, HLT.out]; rw [← cellsL_app] at hown'; exact hown'); have HB3 := Lib.hid (HB.out.trans (below_own HO.out hgrow hsz)); have hd3 := ((below_own HO.out hgrow hsz).cell (p := a.add (z + 1)) (by rw [add_block]; exact HAL.out)).trans hd1; rw [add_succ'] at hd3; have hcv3 := ownB_string w3 _ _ _ HO3.out; clear tok hown' hgrow hd1) | (at_builtin; refine wpList_append_own _ rfl _ _ 29 rfl W.heap.size 5 i0 (.int .u8 0) 1 1 Try.underlying29 hi hz0 hz1 hz2 rfl (by decide) _ _ _ rfl (HO3.out.alloc _) ⟨w3.heap.size, 0, none⟩ 1 1 (cellsL [0]) rfl rfl (fun j u h => cell_lit _ _ _ j u h) (cellsL_one _) (by rw [List.length_append, HLT.out]; have := HL.out; omega) (by rw [List.length_append, HLT.out]; have := HL.out; omega) (by have := HB3.out.size; simp; omega) ?_; intro v'' w4 hown'' hgrow' _))
            go_roundg (L.length - (z + 2))
            case measure => have := HG.out; omega
            case rel => exact ⟨some a, (z + 2) - (z + 2), L.drop (z + 2), acc ++ L.take z ++ [0], v'', (by first | (rw [List.length_drop]; done) | (rw [List.length_drop, show L.length - (z + 2) = 0 by have := HLC.out; omega, Nat.sub_self])), rfl, by show _ = _; rw [List.length_drop], by rw [List.length_drop]; omega, by omega, fun h => (by cases h), by simp only [List.length_append, List.length_drop, HLT.out, List.length_singleton]; omega, HRS.out, (by show _ = _; rw [HT.out, HAT.out]; unfold onward; simp [Option.map_map, Function.comp_def]), (by rw [← cellsL_app] at hown''; show World.ownsRow _ _ _ _ _ _ _; simpa [Nat.add_assoc] using hown''), HB3.out.trans (((Below.refl _ _).alloc HB3.out.size _).trans (below_own (HO3.out.alloc _) hgrow' (by have := HB3.out.size; simp; omega))), by have q1 := hgrow'.size; have q2 := HB3.out.size; simp at q1; omega⟩
          · have e2 : ((d.toNat : Int) == 255) = false := by
              rw [beq_eq_false_iff_ne]
              exact fun e => h2 (UInt8.toNat_inj.1 (by show d.toNat = 255; omega))
            rw [if_neg h2] at HAT
            clear h2
            go_wp2_with (at_builtin; have _t := tok; refine wpList_append_own _ rfl _ _ 29 rfl W.heap.size 5 i0 (.int .u8 0) 1 1 Try.underlying29 hi hz0 hz1 hz2 rfl (by decide) _ _ _ rfl HO.out a z (z + 2) (cellsL (L.take z)) rfl (by rw [cellsL_len, HLT.out, Nat.mul_one]) HCL.out (cellsL_one _) (by have := HL.out; omega) (by have := HL.out; omega) (by omega) ?_; intro v' w3 hown' hgrow _; have HO3 : Hid (OwnB w3 W.heap.size v' (acc ++ L.take z)) := (by show World.ownsRow _ _ _ _ _ _ _; rw [List.length_append, HLT.out]; rw [← cellsL_app] at hown'; exact hown'); have HB3 := Lib.hid (HB.out.trans (below_own HO.out hgrow hsz)); have hd3 := ((below_own HO.out hgrow hsz).cell (p := a.add (z + 1)) (by rw [add_block]; exact HAL.out)).trans hd1; rw [add_succ'] at hd3; have hcv3 := ownB_string w3 _ _ _ HO3.out; clear tok hown' hgrow hd1)
            rw [Exit.noGoto_ret]
            go_ret3
            exact txtRd_no (by rw [HT.out, HAT.out]; rfl) HB3.out
        · have HR := Lib.hid (rest_on HS.out hlc' hcm (z + 2) hc2)
          have HRS : Hid (SlB W B (some ⟨a.block, a.off + (z + 2), none⟩) (L.drop (z + 2))) := by have := HS.out.cut hlc' (z + 2); rwa [if_neg hc2] at this
          by_cases h1 : d = 1
          · have e1 : ((d.toNat : Int) == 1) = true := by rw [h1]; rfl
            rw [h1, if_pos rfl] at HAT
            clear h1
            go_wp2_with (at_builtin; have _t := tok; refine wpList_append_own _ rfl _ _ 29 rfl W.heap.size 5 i0 (.int .u8 0) 1 1 Try.underlying29 hi hz0 hz1 hz2 rfl (by decide) _ _ _ rfl HO.out a z c' (cellsL (L.take z)) rfl (by rw [cellsL_len, HLT.out, Nat.mul_one]) HCL.out (cellsL_one _) (by have := HL.out; omega) (by have := HL.out; omega) (by omega) ?_; intro v' w3 hown' hgrow _; have HO3 : Hid (OwnB w3 W.heap.size v' (acc ++ L.take z)) := (by show World.ownsRow _ _ _ _ _ _ _; rw [List.length_append, HLT.out]; rw [← cellsL_app] at hown'; exact hown'); have HB3 := Lib.hid (HB.out.trans (below_own HO.out hgrow hsz)); have hd3 := ((below_own HO.out hgrow hsz).cell (p := a.add (z + 1)) (by rw [add_block]; exact HAL.out)).trans hd1; rw [add_succ'] at hd3; have hcv3 := ownB_string w3 _ _ _ HO3.out; clear tok hown' hgrow hd1)
            rw [Exit.noGoto_ret]
            go_ret3
            exact txtRd_yes (by rw [HT.out, HAT.out]; rfl) (HR.out.next HB3.out hBW) HB3.out
          have e1 : ((d.toNat : Int) == 1) = false := by
            rw [beq_eq_false_iff_ne]
            exact fun e => h1 (UInt8.toNat_inj.1 (by show d.toNat = 1; omega))
          rw [if_neg h1] at HAT
          clear h1
          by_cases h2 : d = 255
          · have e2 : ((d.toNat : Int) == 255) = true := by rw [h2]; rfl
            rw [if_pos h2] at HAT
            clear h2
            go_wp2_with (first | (at_builtin; have _t := tok; refine wpList_append_own _ rfl _ _ 29 rfl W.heap.size 5 i0 (.int .u8 0) 1 1 Try.underlying29 hi hz0 hz1 hz2 rfl (by decide) _ _ _ rfl HO.out a z c' (cellsL (L.take z)) rfl (by rw [cellsL_len, HLT.out, Nat.mul_one]) HCL.out (cellsL_one _) (by have := HL.out; omega) (by have := HL.out; omega) (by omega) ?_; intro v' w3 hown' hgrow _; have HO3 : Hid (OwnB w3 W.heap.size v' (acc ++ L.take z)) := (by show World.ownsRow _ _ _ _ _ _ _; rw [List.length_append, HLT.out]; rw [← cellsL_app] at hown'; exact hown'); have HB3 := Lib.hid (HB.out.trans (below_own HO.out hgrow hsz)); have hd3 := ((below_own HO.out hgrow hsz).cell (p := a.add (z + 1)) (by rw [add_block]; exact HAL.out)).trans hd1; rw [add_succ'] at hd3; have hcv3 := ownB_string w3 _ _ _ HO3.out; clear tok hown' hgrow hd1) | (at_builtin; refine wpList_append_own _ rfl _ _ 29 rfl W.heap.size 5 i0 (.int .u8 0) 1 1 Try.underlying29 hi hz0 hz1 hz2 rfl (by decide) _ _ _ rfl (HO3.out.alloc _) ⟨w3.heap.size, 0, none⟩ 1 1 (cellsL [0]) rfl rfl (fun j u h => cell_lit _ _ _ j u h) (cellsL_one _) (by rw [List.length_append, HLT.out]; have := HL.out; omega) (by rw [List.length_append, HLT.out]; have := HL.out; omega) (by have := HB3.out.size; simp; omega) ?_; intro v'' w4 hown'' hgrow' _))
            go_roundg (L.length - (z + 2))
            case measure => have := HG.out; omega
            case rel => exact ⟨some ⟨a.block, a.off + (z + 2), none⟩, c' - (z + 2), L.drop (z + 2), acc ++ L.take z ++ [0], v'', (by first | (rw [List.length_drop]; done) | (rw [List.length_drop, show L.length - (z + 2) = 0 by have := HLC.out; omega, Nat.sub_self])), rfl, by show _ = _; rw [List.length_drop], by rw [List.length_drop]; omega, by omega, fun h => (by cases h), by simp only [List.length_append, List.length_drop, HLT.out, List.length_singleton]; omega, HRS.out, (by show _ = _; rw [HT.out, HAT.out]; unfold onward; simp [Option.map_map, Function.comp_def]), (by rw [← cellsL_app] at hown''; show World.ownsRow _ _ _ _ _ _ _; simpa [Nat.add_assoc] using hown''), HB3.out.trans (((Below.refl _ _).alloc HB3.out.size _).trans (below_own (HO3.out.alloc _) hgrow' (by have := HB3.out.size; simp; omega))), by have q1 := hgrow'.size; have q2 := HB3.out.size; simp at q1; omega⟩
          · have e2 : ((d.toNat : Int) == 255) = false := by
              rw [beq_eq_false_iff_ne]
              exact fun e => h2 (UInt8.toNat_inj.1 (by show d.toNat = 255; omega))
            rw [if_neg h2] at HAT
            clear h2
            go_wp2_with (at_builtin; have _t := tok; refine wpList_append_own _ rfl _ _ 29 rfl W.heap.size 5 i0 (.int .u8 0) 1 1 Try.underlying29 hi hz0 hz1 hz2 rfl (by decide) _ _ _ rfl HO.out a z c' (cellsL (L.take z)) rfl (by rw [cellsL_len, HLT.out, Nat.mul_one]) HCL.out (cellsL_one _) (by have := HL.out; omega) (by have := HL.out; omega) (by omega) ?_; intro v' w3 hown' hgrow _; have HO3 : Hid (OwnB w3 W.heap.size v' (acc ++ L.take z)) := (by show World.ownsRow _ _ _ _ _ _ _; rw [List.length_append, HLT.out]; rw [← cellsL_app] at hown'; exact hown'); have HB3 := Lib.hid (HB.out.trans (below_own HO.out hgrow hsz)); have hd3 := ((below_own HO.out hgrow hsz).cell (p := a.add (z + 1)) (by rw [add_block]; exact HAL.out)).trans hd1; rw [add_succ'] at hd3; have hcv3 := ownB_string w3 _ _ _ HO3.out; clear tok hown' hgrow hd1)
            rw [Exit.noGoto_ret]
            go_ret3
            exact txtRd_no (by rw [HT.out, HAT.out]; rfl) HB3.out
end Go.Proofs.Ytdlkblnnnmgijaa
