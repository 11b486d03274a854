import Derived.Deep.Draws
import Derived.BigQuiet
import Derived.Laws.StructEq
import Derived.Test.YtlmihlepaoifiaaGreatJAValR
import Derived.Maps.AppendAt
import Derived.Deep.Cut
/-
  CONTRACTS: the program's Builtin; the document's Same of two lists of attributes.
-/
namespace Go.Proofs.YtlmihlepaoifiaaGreat
open Go.RowKit

/-- the seven that are built in -/
def builtL : List Att := [⟨1, ⟨#[100, 98, 47, 110, 97, 109, 101]⟩, 7, false, 2, false, false⟩, ⟨2, ⟨#[100, 98, 47, 116, 121, 112, 101]⟩, 1, false, 0, false, false⟩, ⟨3, ⟨#[100, 98, 47, 109, 97, 110, 121]⟩, 2, false, 0, false, false⟩, ⟨4, ⟨#[100, 98, 47, 117, 110, 105, 113, 117, 101]⟩, 1, false, 0, false, false⟩, ⟨5, ⟨#[100, 98, 47, 112, 97, 114, 116]⟩, 2, false, 0, false, false⟩, ⟨6, ⟨#[100, 98, 47, 105, 110, 100, 101, 120]⟩, 2, false, 0, false, false⟩, ⟨7, ⟨#[100, 98, 47, 100, 111, 99]⟩, 3, false, 0, false, false⟩]
theorem built_ok : ∀ a ∈ builtL, AttOk a := by
  intro a ha
  simp [builtL] at ha
  rcases ha with rfl | rfl | rfl | rfl | rfl | rfl | rfl <;> exact ⟨by decide, by decide, by decide⟩
set_option maxRecDepth 100000 in
set_option maxHeartbeats 1000000 in
theorem built_any (w : World) : Calls Tryz.prog 45 #[] w fun e w' => ∃ A c, e = .returned (.slice A builtL.length c) ∧ SlA w' w'.heap.size A builtL ∧ Below w.heap.size w w' := by
  go_enter Tryz.func45, Tryz.ntmps45
  go_wp2
  go_ret
  refine ⟨_, _, rfl, fun _ => ⟨w.heap.size, 0, rfl, by simp, fun j v hv => ?_⟩, (Below.refl _ _).alloc (Nat.le_refl _) _⟩
  intro i hi
  have hh := heap_alloc_new w (.cells #[.int .i64 1, .string ⟨#[100, 98, 47, 110, 97, 109, 101]⟩, .int .i64 7, .bool false, .int .i64 2, .bool false, .bool false, .int .i64 2, .string ⟨#[100, 98, 47, 116, 121, 112, 101]⟩, .int .i64 1, .bool false, .int .i64 0, .bool false, .bool false, .int .i64 3, .string ⟨#[100, 98, 47, 109, 97, 110, 121]⟩, .int .i64 2, .bool false, .int .i64 0, .bool false, .bool false, .int .i64 4, .string ⟨#[100, 98, 47, 117, 110, 105, 113, 117, 101]⟩, .int .i64 1, .bool false, .int .i64 0, .bool false, .bool false, .int .i64 5, .string ⟨#[100, 98, 47, 112, 97, 114, 116]⟩, .int .i64 2, .bool false, .int .i64 0, .bool false, .bool false, .int .i64 6, .string ⟨#[100, 98, 47, 105, 110, 100, 101, 120]⟩, .int .i64 2, .bool false, .int .i64 0, .bool false, .bool false, .int .i64 7, .string ⟨#[100, 98, 47, 100, 111, 99]⟩, .int .i64 3, .bool false, .int .i64 0, .bool false, .bool false] 43)
  have hc : ∀ q, (w.alloc (.cells #[.int .i64 1, .string ⟨#[100, 98, 47, 110, 97, 109, 101]⟩, .int .i64 7, .bool false, .int .i64 2, .bool false, .bool false, .int .i64 2, .string ⟨#[100, 98, 47, 116, 121, 112, 101]⟩, .int .i64 1, .bool false, .int .i64 0, .bool false, .bool false, .int .i64 3, .string ⟨#[100, 98, 47, 109, 97, 110, 121]⟩, .int .i64 2, .bool false, .int .i64 0, .bool false, .bool false, .int .i64 4, .string ⟨#[100, 98, 47, 117, 110, 105, 113, 117, 101]⟩, .int .i64 1, .bool false, .int .i64 0, .bool false, .bool false, .int .i64 5, .string ⟨#[100, 98, 47, 112, 97, 114, 116]⟩, .int .i64 2, .bool false, .int .i64 0, .bool false, .bool false, .int .i64 6, .string ⟨#[100, 98, 47, 105, 110, 100, 101, 120]⟩, .int .i64 2, .bool false, .int .i64 0, .bool false, .bool false, .int .i64 7, .string ⟨#[100, 98, 47, 100, 111, 99]⟩, .int .i64 3, .bool false, .int .i64 0, .bool false, .bool false] 43)).cell? ⟨w.heap.size, q, none⟩ = (#[.int .i64 1, .string ⟨#[100, 98, 47, 110, 97, 109, 101]⟩, .int .i64 7, .bool false, .int .i64 2, .bool false, .bool false, .int .i64 2, .string ⟨#[100, 98, 47, 116, 121, 112, 101]⟩, .int .i64 1, .bool false, .int .i64 0, .bool false, .bool false, .int .i64 3, .string ⟨#[100, 98, 47, 109, 97, 110, 121]⟩, .int .i64 2, .bool false, .int .i64 0, .bool false, .bool false, .int .i64 4, .string ⟨#[100, 98, 47, 117, 110, 105, 113, 117, 101]⟩, .int .i64 1, .bool false, .int .i64 0, .bool false, .bool false, .int .i64 5, .string ⟨#[100, 98, 47, 112, 97, 114, 116]⟩, .int .i64 2, .bool false, .int .i64 0, .bool false, .bool false, .int .i64 6, .string ⟨#[100, 98, 47, 105, 110, 100, 101, 120]⟩, .int .i64 2, .bool false, .int .i64 0, .bool false, .bool false, .int .i64 7, .string ⟨#[100, 98, 47, 100, 111, 99]⟩, .int .i64 3, .bool false, .int .i64 0, .bool false, .bool false] : Array Value)[q]? := fun q => by unfold World.cell?; rw [hh]; rfl
  have hj : j < 7 := (List.getElem?_eq_some_iff.1 hv).1
  refine (hc _).trans ?_
  have hd : ∀ j : Fin 7, ∀ i : Fin 7, (#[.int .i64 1, .string ⟨#[100, 98, 47, 110, 97, 109, 101]⟩, .int .i64 7, .bool false, .int .i64 2, .bool false, .bool false, .int .i64 2, .string ⟨#[100, 98, 47, 116, 121, 112, 101]⟩, .int .i64 1, .bool false, .int .i64 0, .bool false, .bool false, .int .i64 3, .string ⟨#[100, 98, 47, 109, 97, 110, 121]⟩, .int .i64 2, .bool false, .int .i64 0, .bool false, .bool false, .int .i64 4, .string ⟨#[100, 98, 47, 117, 110, 105, 113, 117, 101]⟩, .int .i64 1, .bool false, .int .i64 0, .bool false, .bool false, .int .i64 5, .string ⟨#[100, 98, 47, 112, 97, 114, 116]⟩, .int .i64 2, .bool false, .int .i64 0, .bool false, .bool false, .int .i64 6, .string ⟨#[100, 98, 47, 105, 110, 100, 101, 120]⟩, .int .i64 2, .bool false, .int .i64 0, .bool false, .bool false, .int .i64 7, .string ⟨#[100, 98, 47, 100, 111, 99]⟩, .int .i64 3, .bool false, .int .i64 0, .bool false, .bool false] : Array Value)[0 + j.val * 7 + i.val]? = (cellsA (builtL.getD j.val zA))[i.val]? := by
    intro j i
    match j, i with
    | 0, 0 | 0, 1 | 0, 2 | 0, 3 | 0, 4 | 0, 5 | 0, 6 => rfl
    | 1, 0 | 1, 1 | 1, 2 | 1, 3 | 1, 4 | 1, 5 | 1, 6 => rfl
    | 2, 0 | 2, 1 | 2, 2 | 2, 3 | 2, 4 | 2, 5 | 2, 6 => rfl
    | 3, 0 | 3, 1 | 3, 2 | 3, 3 | 3, 4 | 3, 5 | 3, 6 => rfl
    | 4, 0 | 4, 1 | 4, 2 | 4, 3 | 4, 4 | 4, 5 | 4, 6 => rfl
    | 5, 0 | 5, 1 | 5, 2 | 5, 3 | 5, 4 | 5, 5 | 5, 6 => rfl
    | 6, 0 | 6, 1 | 6, 2 | 6, 3 | 6, 4 | 6, 5 | 6, 6 => rfl
  have := hd ⟨j, hj⟩ ⟨i, hi⟩
  have he : builtL.getD j zA = v := by rw [List.getD, hv]; rfl
  rw [he] at this
  exact this
end Go.Proofs.YtlmihlepaoifiaaGreat

/-
  CONTRACT: the document's Builtin.
-/
namespace Go.Proofs.YtlmihlepaoifiaaGreat
open Go.RowKit

theorem infoA : (Tryz.prog.info? 43).map (fun i => (i.zero, i.size, i.bytes)) = some (some (.agg #[.int .i64 0, .string ⟨#[]⟩, .int .i64 0, .bool false, .int .i64 0, .bool false, .bool false]), 7, 56) := by kernel_rfl
/-- the names and types, in their blocks -/
def NtAt (W : World) (b1 b2 : Nat) : Prop := (∀ (j : Nat) (v : Value), (#[.string ⟨#[110, 97, 109, 101]⟩, .string ⟨#[116, 121, 112, 101]⟩, .string ⟨#[109, 97, 110, 121]⟩, .string ⟨#[117, 110, 105, 113, 117, 101]⟩, .string ⟨#[112, 97, 114, 116]⟩, .string ⟨#[105, 110, 100, 101, 120]⟩, .string ⟨#[100, 111, 99]⟩] : Array Value)[j]? = some v → W.cell? ⟨b1, j, none⟩ = some v) ∧ (∀ (j : Nat) (v : Value), (#[.int .i64 7, .int .i64 1, .int .i64 2, .int .i64 1, .int .i64 2, .int .i64 2, .int .i64 3] : Array Value)[j]? = some v → W.cell? ⟨b2, j, none⟩ = some v)
theorem NtAt.next {W W' : World} {b1 b2 B : Nat} (h : NtAt W b1 b2) (hb : Below B W W') (h1 : b1 < B) (h2 : b2 < B) : NtAt W' b1 b2 :=
  ⟨fun j v hv => (hb.cell (p := ⟨b1, j, none⟩) h1).trans (h.1 j v hv), fun j v hv => (hb.cell (p := ⟨b2, j, none⟩) h2).trans (h.2 j v hv)⟩
def OwnA (W : World) (B : Nat) (v : Value) (l : List Att) : Prop := W.ownsRow B 43 7 v l.length (l.flatMap cellsA)

theorem cellsA_one (a : Att) : ∀ u ∈ cellsA a, u.oneCell' = true := by
  intro u hu
  simp [cellsA] at hu
  rcases hu with rfl | rfl | rfl | rfl | rfl | rfl | rfl <;> rfl
theorem OwnA.next {W W' : World} {B : Nat} {v : Value} {l : List Att} (h : OwnA W B v l) (hb : Below W.heap.size W W') : OwnA W' B v l := by
  refine ⟨h.1, ?_⟩
  rcases h.2 with h | ⟨g, cap, cur, h1, h2, h3, h4⟩
  · exact .inl h
  · exact .inr ⟨g, cap, cur, h1, h2, (hb.block g (Array.getElem?_eq_some_iff.1 h3).1).trans h3, h4⟩
theorem litA (w3 : World) (x : Att) (j : Nat) (u : Value) (hu : (cellsA x)[j]? = some u) :
    (w3.alloc (.cells #[.int .i64 x.id, .string x.nm, .int .i64 x.ty, .bool x.many, .int .i64 x.un, .bool x.part, .bool x.ix] 43)).cell? ((⟨w3.heap.size, 0, none⟩ : Addr).add j) = some u := by
  have e : (⟨w3.heap.size, 0, none⟩ : Addr).add j = ⟨w3.heap.size, j, none⟩ := by unfold Addr.add; split <;> simp_all
  rw [e, World.cell?_alloc_new]
  simpa [cellsA] using hu

set_option maxRecDepth 100000 in
set_option maxHeartbeats 4000000 in
theorem refBuilt_any (w : World) : Calls Tryz.prog 40 #[] w fun e w' => ∃ v, e = .returned v ∧ OwnA w' (w.heap.size + 2) v builtL ∧ Below w.heap.size w w' := by
  obtain ⟨i0, hi, hz0, hz1, hz2⟩ := info_parts infoA
  obtain ⟨w0, hw0⟩ : ∃ w0, (w.alloc (.cells #[.string ⟨#[110, 97, 109, 101]⟩, .string ⟨#[116, 121, 112, 101]⟩, .string ⟨#[109, 97, 110, 121]⟩, .string ⟨#[117, 110, 105, 113, 117, 101]⟩, .string ⟨#[112, 97, 114, 116]⟩, .string ⟨#[105, 110, 100, 101, 120]⟩, .string ⟨#[100, 111, 99]⟩] 9)).alloc (.cells #[.int .i64 7, .int .i64 1, .int .i64 2, .int .i64 1, .int .i64 2, .int .i64 2, .int .i64 3] 3) = w0 := ⟨_, rfl⟩
  have hb0 : Below w.heap.size w w0 := by rw [← hw0]; exact ((Below.refl _ _).alloc (Nat.le_refl _) _).alloc (by simp) _
  have hz9 : w0.heap.size = w.heap.size + 2 := by rw [← hw0]; simp
  have hnt : NtAt w0 w.heap.size (w.heap.size + 1) := by
    rw [← hw0]
    refine ⟨fun j v hv => ?_, fun j v hv => ?_⟩
    · refine (World.cell?_alloc_lt _ _ ⟨w.heap.size, j, none⟩ (by simp)).trans ?_
      unfold World.cell?
      rw [heap_alloc_new]
      exact hv
    · unfold World.cell?
      rw [heap_alloc2_new]
      exact hv
  have HB0 := Lib.hid hb0
  have HZ9 := Lib.hid hz9
  have HNT0 := Lib.hid hnt
  clear hb0 hz9 hnt
  go_enter Tryz.func40, Tryz.ntmps40
  go_upto_region 3 with (fail)
  try rw [hw0]
  clear hw0
  go_wp2
  go_loopg [3, 4, 5] 7 (fun g x y _ wr => ∃ j : Nat, y = .int .i64 j ∧ j + g = 7 ∧ Hid (OwnA wr (w.heap.size + 2) x (builtL.take j)) ∧ Hid (NtAt wr w.heap.size (w.heap.size + 1)) ∧ Hid (Below w.heap.size w wr) ∧ w.heap.size + 2 ≤ wr.heap.size)
  case atStart => exact ⟨0, rfl, by omega, World.ownsRow_nil _ _ _ _, HNT0, HB0, by have := HZ9.out; omega⟩
  case round =>
    obtain ⟨j, rfl, hj, HO, HNT, HB, hsz⟩ := hrel
    cases gk with
    | zero =>
      obtain rfl : j = 7 := by omega
      go_wp2
      go_ret
      exact ⟨_, rfl, HO.out, HB.out⟩
    | succ g =>
      have hj7 : j = 0 ∨ j = 1 ∨ j = 2 ∨ j = 3 ∨ j = 4 ∨ j = 5 ∨ j = 6 := by omega
      rcases hj7 with rfl | rfl | rfl | rfl | rfl | rfl | rfl
      · -- name
        have HW : Hid (wr.cell? ⟨w.heap.size, 0, none⟩ = some (.string ⟨#[110, 97, 109, 101]⟩)) := HNT.out.1 0 _ rfl
        have HT : Hid (wr.cell? ⟨w.heap.size + 1, 0, none⟩ = some (.int .i64 7)) := HNT.out.2 0 _ rfl
        have n0 := HW.out
        have t0 := HT.out
        have HAL := Lib.hid ((Below.refl wr.heap.size wr).alloc (Nat.le_refl _) (.cells #[.int .i64 0, .string ⟨#[]⟩, .int .i64 0, .bool false, .int .i64 0, .bool false, .bool false] 43))
        have HNA := Lib.hid (HNT.out.next HAL.out (by omega) (by omega))
        have n1 := HNA.out.1 0 _ rfl
        have t1 := HNA.out.2 0 _ rfl
        have hst : (⟨#[100, 98, 47]⟩ : ByteArray) ++ ⟨#[110, 97, 109, 101]⟩ = ⟨#[100, 98, 47, 110, 97, 109, 101]⟩ := by kernel_rfl
        go_wp2_with fail
        go_region
        clear n0 t0 n1 t1 hst
        obtain ⟨wz, hwz⟩ : ∃ wz, (wr.alloc (.cells #[.int .i64 1, .string ⟨#[100, 98, 47, 110, 97, 109, 101]⟩, .int .i64 7, .bool false, .int .i64 0, .bool false, .bool false] 43)).drew = wz := ⟨_, rfl⟩
        have hx : BxA wz wr.heap.size ⟨1, ⟨#[100, 98, 47, 110, 97, 109, 101]⟩, 7, false, 0, false, false⟩ := by rw [← hwz]; exact bxA_new wr ⟨1, ⟨#[100, 98, 47, 110, 97, 109, 101]⟩, 7, false, 0, false, false⟩
        have hbz : Below wr.heap.size wr wz := by rw [← hwz]; exact ((Below.refl wr.heap.size wr).alloc (Nat.le_refl _) _).drew
        rw [hwz]
        have hsz1 : wr.heap.size + 1 ≤ wz.heap.size := by have := (Array.getElem?_eq_some_iff.1 hx).1; omega
        clear hwz
        have z4 := BxA.cell hx 4
        have q4 := BxA.fz hx 4
        have hx2 : BxA (wz.setCell ⟨wr.heap.size, 4, none⟩ (.int .i64 2)) wr.heap.size ⟨1, ⟨#[100, 98, 47, 110, 97, 109, 101]⟩, 7, false, 2, false, false⟩ := (heap_setCell_same _ _ _ _ _ _ hx).trans (by simp)
        have hbz2 : Below wr.heap.size wr (wz.setCell ⟨wr.heap.size, 4, none⟩ (.int .i64 2)) := hbz.setCell (p := ⟨wr.heap.size, 4, none⟩) (Nat.le_refl _) _
        have c0 := hx2.cell 0
        have c1 := hx2.cell 1
        have c2 := hx2.cell 2
        have c3 := hx2.cell 3
        have c4 := hx2.cell 4
        have c5 := hx2.cell 5
        have c6 := hx2.cell 6
        have hbl : Below wr.heap.size wr ((wz.setCell ⟨wr.heap.size, 4, none⟩ (.int .i64 2)).alloc (.cells #[.int .i64 1, .string ⟨#[100, 98, 47, 110, 97, 109, 101]⟩, .int .i64 7, .bool false, .int .i64 2, .bool false, .bool false] 43)) := hbz2.alloc hbz2.size _
        have hoa : OwnA ((wz.setCell ⟨wr.heap.size, 4, none⟩ (.int .i64 2)).alloc (.cells #[.int .i64 1, .string ⟨#[100, 98, 47, 110, 97, 109, 101]⟩, .int .i64 7, .bool false, .int .i64 2, .bool false, .bool false] 43)) (w.heap.size + 2) u3 (builtL.take 0) := HO.out.next hbl
        have HOA := Lib.hid hoa
        have HBL := Lib.hid hbl
        have hzz : (wz.setCell ⟨wr.heap.size, 4, none⟩ (.int .i64 2)).heap.size = wz.heap.size := by simp
        have hlc := litA (wz.setCell ⟨wr.heap.size, 4, none⟩ (.int .i64 2)) ⟨1, ⟨#[100, 98, 47, 110, 97, 109, 101]⟩, 7, false, 2, false, false⟩
        rw [hzz] at hlc
        have HLC := Lib.hid hlc
        have hbs : w.heap.size + 2 ≤ ((wz.setCell ⟨wr.heap.size, 4, none⟩ (.int .i64 2)).alloc (.cells #[.int .i64 1, .string ⟨#[100, 98, 47, 110, 97, 109, 101]⟩, .int .i64 7, .bool false, .int .i64 2, .bool false, .bool false] 43)).heap.size := by have := hbl.size; omega
        have HBS := Lib.hid hbs
        clear hx hbz hbz2 hx2 hbl hoa hbs hlc hzz
        go_wp2_with (at_builtin; refine wpList_append_own _ rfl _ _ 32 rfl (w.heap.size + 2) 43 i0 (.agg #[.int .i64 0, .string ⟨#[]⟩, .int .i64 0, .bool false, .int .i64 0, .bool false, .bool false]) 7 56 Tryz.underlying32 hi hz0 hz1 hz2 rfl (by decide) _ _ _ rfl HOA.out ⟨wz.heap.size, 0, none⟩ 1 1 (cellsA ⟨1, ⟨#[100, 98, 47, 110, 97, 109, 101]⟩, 7, false, 2, false, false⟩) rfl rfl HLC.out (cellsA_one _) (by simp [builtL, maxLen]) (by simp [builtL]) HBS.out ?_; intro v1 w3 hown hgrow hnil; have HV1 : Hid (OwnA w3 (w.heap.size + 2) v1 (builtL.take 1)) := hown; have HB3 : Hid (Below (w.heap.size + 2) wr w3) := (HBL.out.mono hsz).trans ((Below.refl _ _).grown hgrow HBS.out (fun k hk => (World.ownsRow.lt HOA.out k hk).1)); clear hown hgrow hnil)
        go_roundg g
        case measure => omega
        case rel => exact ⟨1, by go_num, by omega, HV1.out, HNT.out.next HB3.out (by omega) (by omega), HB.out.trans (HB3.out.mono (by omega)), by have := HB3.out.size; omega⟩
      · -- type
        have HW : Hid (wr.cell? ⟨w.heap.size, 1, none⟩ = some (.string ⟨#[116, 121, 112, 101]⟩)) := HNT.out.1 1 _ rfl
        have HT : Hid (wr.cell? ⟨w.heap.size + 1, 1, none⟩ = some (.int .i64 1)) := HNT.out.2 1 _ rfl
        have n0 := HW.out
        have t0 := HT.out
        have HAL := Lib.hid ((Below.refl wr.heap.size wr).alloc (Nat.le_refl _) (.cells #[.int .i64 0, .string ⟨#[]⟩, .int .i64 0, .bool false, .int .i64 0, .bool false, .bool false] 43))
        have HNA := Lib.hid (HNT.out.next HAL.out (by omega) (by omega))
        have n1 := HNA.out.1 1 _ rfl
        have t1 := HNA.out.2 1 _ rfl
        have hst : (⟨#[100, 98, 47]⟩ : ByteArray) ++ ⟨#[116, 121, 112, 101]⟩ = ⟨#[100, 98, 47, 116, 121, 112, 101]⟩ := by kernel_rfl
        go_wp2_with fail
        go_region
        clear n0 t0 n1 t1 hst
        obtain ⟨wz, hwz⟩ : ∃ wz, (wr.alloc (.cells #[.int .i64 2, .string ⟨#[100, 98, 47, 116, 121, 112, 101]⟩, .int .i64 1, .bool false, .int .i64 0, .bool false, .bool false] 43)).drew = wz := ⟨_, rfl⟩
        have hx : BxA wz wr.heap.size ⟨2, ⟨#[100, 98, 47, 116, 121, 112, 101]⟩, 1, false, 0, false, false⟩ := by rw [← hwz]; exact bxA_new wr ⟨2, ⟨#[100, 98, 47, 116, 121, 112, 101]⟩, 1, false, 0, false, false⟩
        have hbz : Below wr.heap.size wr wz := by rw [← hwz]; exact ((Below.refl wr.heap.size wr).alloc (Nat.le_refl _) _).drew
        rw [hwz]
        have hsz1 : wr.heap.size + 1 ≤ wz.heap.size := by have := (Array.getElem?_eq_some_iff.1 hx).1; omega
        clear hwz
        have hx2 := hx
        have hbz2 := hbz
        have c0 := hx2.cell 0
        have c1 := hx2.cell 1
        have c2 := hx2.cell 2
        have c3 := hx2.cell 3
        have c4 := hx2.cell 4
        have c5 := hx2.cell 5
        have c6 := hx2.cell 6
        have hbl : Below wr.heap.size wr (wz.alloc (.cells #[.int .i64 2, .string ⟨#[100, 98, 47, 116, 121, 112, 101]⟩, .int .i64 1, .bool false, .int .i64 0, .bool false, .bool false] 43)) := hbz2.alloc hbz2.size _
        have hoa : OwnA (wz.alloc (.cells #[.int .i64 2, .string ⟨#[100, 98, 47, 116, 121, 112, 101]⟩, .int .i64 1, .bool false, .int .i64 0, .bool false, .bool false] 43)) (w.heap.size + 2) u3 (builtL.take 1) := HO.out.next hbl
        have HOA := Lib.hid hoa
        have HBL := Lib.hid hbl
        have hzz : wz.heap.size = wz.heap.size := by simp
        have hlc := litA wz ⟨2, ⟨#[100, 98, 47, 116, 121, 112, 101]⟩, 1, false, 0, false, false⟩
        skip
        have HLC := Lib.hid hlc
        have hbs : w.heap.size + 2 ≤ (wz.alloc (.cells #[.int .i64 2, .string ⟨#[100, 98, 47, 116, 121, 112, 101]⟩, .int .i64 1, .bool false, .int .i64 0, .bool false, .bool false] 43)).heap.size := by have := hbl.size; omega
        have HBS := Lib.hid hbs
        clear hx hbz hbz2 hx2 hbl hoa hbs hlc hzz
        go_wp2_with (at_builtin; refine wpList_append_own _ rfl _ _ 32 rfl (w.heap.size + 2) 43 i0 (.agg #[.int .i64 0, .string ⟨#[]⟩, .int .i64 0, .bool false, .int .i64 0, .bool false, .bool false]) 7 56 Tryz.underlying32 hi hz0 hz1 hz2 rfl (by decide) _ _ _ rfl HOA.out ⟨wz.heap.size, 0, none⟩ 1 1 (cellsA ⟨2, ⟨#[100, 98, 47, 116, 121, 112, 101]⟩, 1, false, 0, false, false⟩) rfl rfl HLC.out (cellsA_one _) (by simp [builtL, maxLen]) (by simp [builtL]) HBS.out ?_; intro v1 w3 hown hgrow hnil; have HV1 : Hid (OwnA w3 (w.heap.size + 2) v1 (builtL.take 2)) := hown; have HB3 : Hid (Below (w.heap.size + 2) wr w3) := (HBL.out.mono hsz).trans ((Below.refl _ _).grown hgrow HBS.out (fun k hk => (World.ownsRow.lt HOA.out k hk).1)); clear hown hgrow hnil)
        go_roundg g
        case measure => omega
        case rel => exact ⟨2, by go_num, by omega, HV1.out, HNT.out.next HB3.out (by omega) (by omega), HB.out.trans (HB3.out.mono (by omega)), by have := HB3.out.size; omega⟩
      · -- many
        have HW : Hid (wr.cell? ⟨w.heap.size, 2, none⟩ = some (.string ⟨#[109, 97, 110, 121]⟩)) := HNT.out.1 2 _ rfl
        have HT : Hid (wr.cell? ⟨w.heap.size + 1, 2, none⟩ = some (.int .i64 2)) := HNT.out.2 2 _ rfl
        have n0 := HW.out
        have t0 := HT.out
        have HAL := Lib.hid ((Below.refl wr.heap.size wr).alloc (Nat.le_refl _) (.cells #[.int .i64 0, .string ⟨#[]⟩, .int .i64 0, .bool false, .int .i64 0, .bool false, .bool false] 43))
        have HNA := Lib.hid (HNT.out.next HAL.out (by omega) (by omega))
        have n1 := HNA.out.1 2 _ rfl
        have t1 := HNA.out.2 2 _ rfl
        have hst : (⟨#[100, 98, 47]⟩ : ByteArray) ++ ⟨#[109, 97, 110, 121]⟩ = ⟨#[100, 98, 47, 109, 97, 110, 121]⟩ := by kernel_rfl
        go_wp2_with fail
        go_region
        clear n0 t0 n1 t1 hst
        obtain ⟨wz, hwz⟩ : ∃ wz, (wr.alloc (.cells #[.int .i64 3, .string ⟨#[100, 98, 47, 109, 97, 110, 121]⟩, .int .i64 2, .bool false, .int .i64 0, .bool false, .bool false] 43)).drew = wz := ⟨_, rfl⟩
        have hx : BxA wz wr.heap.size ⟨3, ⟨#[100, 98, 47, 109, 97, 110, 121]⟩, 2, false, 0, false, false⟩ := by rw [← hwz]; exact bxA_new wr ⟨3, ⟨#[100, 98, 47, 109, 97, 110, 121]⟩, 2, false, 0, false, false⟩
        have hbz : Below wr.heap.size wr wz := by rw [← hwz]; exact ((Below.refl wr.heap.size wr).alloc (Nat.le_refl _) _).drew
        rw [hwz]
        have hsz1 : wr.heap.size + 1 ≤ wz.heap.size := by have := (Array.getElem?_eq_some_iff.1 hx).1; omega
        clear hwz
        have hx2 := hx
        have hbz2 := hbz
        have c0 := hx2.cell 0
        have c1 := hx2.cell 1
        have c2 := hx2.cell 2
        have c3 := hx2.cell 3
        have c4 := hx2.cell 4
        have c5 := hx2.cell 5
        have c6 := hx2.cell 6
        have hbl : Below wr.heap.size wr (wz.alloc (.cells #[.int .i64 3, .string ⟨#[100, 98, 47, 109, 97, 110, 121]⟩, .int .i64 2, .bool false, .int .i64 0, .bool false, .bool false] 43)) := hbz2.alloc hbz2.size _
        have hoa : OwnA (wz.alloc (.cells #[.int .i64 3, .string ⟨#[100, 98, 47, 109, 97, 110, 121]⟩, .int .i64 2, .bool false, .int .i64 0, .bool false, .bool false] 43)) (w.heap.size + 2) u3 (builtL.take 2) := HO.out.next hbl
        have HOA := Lib.hid hoa
        have HBL := Lib.hid hbl
        have hzz : wz.heap.size = wz.heap.size := by simp
        have hlc := litA wz ⟨3, ⟨#[100, 98, 47, 109, 97, 110, 121]⟩, 2, false, 0, false, false⟩
        skip
        have HLC := Lib.hid hlc
        have hbs : w.heap.size + 2 ≤ (wz.alloc (.cells #[.int .i64 3, .string ⟨#[100, 98, 47, 109, 97, 110, 121]⟩, .int .i64 2, .bool false, .int .i64 0, .bool false, .bool false] 43)).heap.size := by have := hbl.size; omega
        have HBS := Lib.hid hbs
        clear hx hbz hbz2 hx2 hbl hoa hbs hlc hzz
        go_wp2_with (at_builtin; refine wpList_append_own _ rfl _ _ 32 rfl (w.heap.size + 2) 43 i0 (.agg #[.int .i64 0, .string ⟨#[]⟩, .int .i64 0, .bool false, .int .i64 0, .bool false, .bool false]) 7 56 Tryz.underlying32 hi hz0 hz1 hz2 rfl (by decide) _ _ _ rfl HOA.out ⟨wz.heap.size, 0, none⟩ 1 1 (cellsA ⟨3, ⟨#[100, 98, 47, 109, 97, 110, 121]⟩, 2, false, 0, false, false⟩) rfl rfl HLC.out (cellsA_one _) (by simp [builtL, maxLen]) (by simp [builtL]) HBS.out ?_; intro v1 w3 hown hgrow hnil; have HV1 : Hid (OwnA w3 (w.heap.size + 2) v1 (builtL.take 3)) := hown; have HB3 : Hid (Below (w.heap.size + 2) wr w3) := (HBL.out.mono hsz).trans ((Below.refl _ _).grown hgrow HBS.out (fun k hk => (World.ownsRow.lt HOA.out k hk).1)); clear hown hgrow hnil)
        go_roundg g
        case measure => omega
        case rel => exact ⟨3, by go_num, by omega, HV1.out, HNT.out.next HB3.out (by omega) (by omega), HB.out.trans (HB3.out.mono (by omega)), by have := HB3.out.size; omega⟩
      · -- unique
        have HW : Hid (wr.cell? ⟨w.heap.size, 3, none⟩ = some (.string ⟨#[117, 110, 105, 113, 117, 101]⟩)) := HNT.out.1 3 _ rfl
        have HT : Hid (wr.cell? ⟨w.heap.size + 1, 3, none⟩ = some (.int .i64 1)) := HNT.out.2 3 _ rfl
        have n0 := HW.out
        have t0 := HT.out
        have HAL := Lib.hid ((Below.refl wr.heap.size wr).alloc (Nat.le_refl _) (.cells #[.int .i64 0, .string ⟨#[]⟩, .int .i64 0, .bool false, .int .i64 0, .bool false, .bool false] 43))
        have HNA := Lib.hid (HNT.out.next HAL.out (by omega) (by omega))
        have n1 := HNA.out.1 3 _ rfl
        have t1 := HNA.out.2 3 _ rfl
        have hst : (⟨#[100, 98, 47]⟩ : ByteArray) ++ ⟨#[117, 110, 105, 113, 117, 101]⟩ = ⟨#[100, 98, 47, 117, 110, 105, 113, 117, 101]⟩ := by kernel_rfl
        go_wp2_with fail
        go_region
        clear n0 t0 n1 t1 hst
        obtain ⟨wz, hwz⟩ : ∃ wz, (wr.alloc (.cells #[.int .i64 4, .string ⟨#[100, 98, 47, 117, 110, 105, 113, 117, 101]⟩, .int .i64 1, .bool false, .int .i64 0, .bool false, .bool false] 43)).drew = wz := ⟨_, rfl⟩
        have hx : BxA wz wr.heap.size ⟨4, ⟨#[100, 98, 47, 117, 110, 105, 113, 117, 101]⟩, 1, false, 0, false, false⟩ := by rw [← hwz]; exact bxA_new wr ⟨4, ⟨#[100, 98, 47, 117, 110, 105, 113, 117, 101]⟩, 1, false, 0, false, false⟩
        have hbz : Below wr.heap.size wr wz := by rw [← hwz]; exact ((Below.refl wr.heap.size wr).alloc (Nat.le_refl _) _).drew
        rw [hwz]
        have hsz1 : wr.heap.size + 1 ≤ wz.heap.size := by have := (Array.getElem?_eq_some_iff.1 hx).1; omega
        clear hwz
        have hx2 := hx
        have hbz2 := hbz
        have c0 := hx2.cell 0
        have c1 := hx2.cell 1
        have c2 := hx2.cell 2
        have c3 := hx2.cell 3
        have c4 := hx2.cell 4
        have c5 := hx2.cell 5
        have c6 := hx2.cell 6
        have hbl : Below wr.heap.size wr (wz.alloc (.cells #[.int .i64 4, .string ⟨#[100, 98, 47, 117, 110, 105, 113, 117, 101]⟩, .int .i64 1, .bool false, .int .i64 0, .bool false, .bool false] 43)) := hbz2.alloc hbz2.size _
        have hoa : OwnA (wz.alloc (.cells #[.int .i64 4, .string ⟨#[100, 98, 47, 117, 110, 105, 113, 117, 101]⟩, .int .i64 1, .bool false, .int .i64 0, .bool false, .bool false] 43)) (w.heap.size + 2) u3 (builtL.take 3) := HO.out.next hbl
        have HOA := Lib.hid hoa
        have HBL := Lib.hid hbl
        have hzz : wz.heap.size = wz.heap.size := by simp
        have hlc := litA wz ⟨4, ⟨#[100, 98, 47, 117, 110, 105, 113, 117, 101]⟩, 1, false, 0, false, false⟩
        skip
        have HLC := Lib.hid hlc
        have hbs : w.heap.size + 2 ≤ (wz.alloc (.cells #[.int .i64 4, .string ⟨#[100, 98, 47, 117, 110, 105, 113, 117, 101]⟩, .int .i64 1, .bool false, .int .i64 0, .bool false, .bool false] 43)).heap.size := by have := hbl.size; omega
        have HBS := Lib.hid hbs
        clear hx hbz hbz2 hx2 hbl hoa hbs hlc hzz
        go_wp2_with (at_builtin; refine wpList_append_own _ rfl _ _ 32 rfl (w.heap.size + 2) 43 i0 (.agg #[.int .i64 0, .string ⟨#[]⟩, .int .i64 0, .bool false, .int .i64 0, .bool false, .bool false]) 7 56 Tryz.underlying32 hi hz0 hz1 hz2 rfl (by decide) _ _ _ rfl HOA.out ⟨wz.heap.size, 0, none⟩ 1 1 (cellsA ⟨4, ⟨#[100, 98, 47, 117, 110, 105, 113, 117, 101]⟩, 1, false, 0, false, false⟩) rfl rfl HLC.out (cellsA_one _) (by simp [builtL, maxLen]) (by simp [builtL]) HBS.out ?_; intro v1 w3 hown hgrow hnil; have HV1 : Hid (OwnA w3 (w.heap.size + 2) v1 (builtL.take 4)) := hown; have HB3 : Hid (Below (w.heap.size + 2) wr w3) := (HBL.out.mono hsz).trans ((Below.refl _ _).grown hgrow HBS.out (fun k hk => (World.ownsRow.lt HOA.out k hk).1)); clear hown hgrow hnil)
        go_roundg g
        case measure => omega
        case rel => exact ⟨4, by go_num, by omega, HV1.out, HNT.out.next HB3.out (by omega) (by omega), HB.out.trans (HB3.out.mono (by omega)), by have := HB3.out.size; omega⟩
      · -- part
        have HW : Hid (wr.cell? ⟨w.heap.size, 4, none⟩ = some (.string ⟨#[112, 97, 114, 116]⟩)) := HNT.out.1 4 _ rfl
        have HT : Hid (wr.cell? ⟨w.heap.size + 1, 4, none⟩ = some (.int .i64 2)) := HNT.out.2 4 _ rfl
        have n0 := HW.out
        have t0 := HT.out
        have HAL := Lib.hid ((Below.refl wr.heap.size wr).alloc (Nat.le_refl _) (.cells #[.int .i64 0, .string ⟨#[]⟩, .int .i64 0, .bool false, .int .i64 0, .bool false, .bool false] 43))
        have HNA := Lib.hid (HNT.out.next HAL.out (by omega) (by omega))
        have n1 := HNA.out.1 4 _ rfl
        have t1 := HNA.out.2 4 _ rfl
        have hst : (⟨#[100, 98, 47]⟩ : ByteArray) ++ ⟨#[112, 97, 114, 116]⟩ = ⟨#[100, 98, 47, 112, 97, 114, 116]⟩ := by kernel_rfl
        go_wp2_with fail
        go_region
        clear n0 t0 n1 t1 hst
        obtain ⟨wz, hwz⟩ : ∃ wz, (wr.alloc (.cells #[.int .i64 5, .string ⟨#[100, 98, 47, 112, 97, 114, 116]⟩, .int .i64 2, .bool false, .int .i64 0, .bool false, .bool false] 43)).drew = wz := ⟨_, rfl⟩
        have hx : BxA wz wr.heap.size ⟨5, ⟨#[100, 98, 47, 112, 97, 114, 116]⟩, 2, false, 0, false, false⟩ := by rw [← hwz]; exact bxA_new wr ⟨5, ⟨#[100, 98, 47, 112, 97, 114, 116]⟩, 2, false, 0, false, false⟩
        have hbz : Below wr.heap.size wr wz := by rw [← hwz]; exact ((Below.refl wr.heap.size wr).alloc (Nat.le_refl _) _).drew
        rw [hwz]
        have hsz1 : wr.heap.size + 1 ≤ wz.heap.size := by have := (Array.getElem?_eq_some_iff.1 hx).1; omega
        clear hwz
        have hx2 := hx
        have hbz2 := hbz
        have c0 := hx2.cell 0
        have c1 := hx2.cell 1
        have c2 := hx2.cell 2
        have c3 := hx2.cell 3
        have c4 := hx2.cell 4
        have c5 := hx2.cell 5
        have c6 := hx2.cell 6
        have hbl : Below wr.heap.size wr (wz.alloc (.cells #[.int .i64 5, .string ⟨#[100, 98, 47, 112, 97, 114, 116]⟩, .int .i64 2, .bool false, .int .i64 0, .bool false, .bool false] 43)) := hbz2.alloc hbz2.size _
        have hoa : OwnA (wz.alloc (.cells #[.int .i64 5, .string ⟨#[100, 98, 47, 112, 97, 114, 116]⟩, .int .i64 2, .bool false, .int .i64 0, .bool false, .bool false] 43)) (w.heap.size + 2) u3 (builtL.take 4) := HO.out.next hbl
        have HOA := Lib.hid hoa
        have HBL := Lib.hid hbl
        have hzz : wz.heap.size = wz.heap.size := by simp
        have hlc := litA wz ⟨5, ⟨#[100, 98, 47, 112, 97, 114, 116]⟩, 2, false, 0, false, false⟩
        skip
        have HLC := Lib.hid hlc
        have hbs : w.heap.size + 2 ≤ (wz.alloc (.cells #[.int .i64 5, .string ⟨#[100, 98, 47, 112, 97, 114, 116]⟩, .int .i64 2, .bool false, .int .i64 0, .bool false, .bool false] 43)).heap.size := by have := hbl.size; omega
        have HBS := Lib.hid hbs
        clear hx hbz hbz2 hx2 hbl hoa hbs hlc hzz
        go_wp2_with (at_builtin; refine wpList_append_own _ rfl _ _ 32 rfl (w.heap.size + 2) 43 i0 (.agg #[.int .i64 0, .string ⟨#[]⟩, .int .i64 0, .bool false, .int .i64 0, .bool false, .bool false]) 7 56 Tryz.underlying32 hi hz0 hz1 hz2 rfl (by decide) _ _ _ rfl HOA.out ⟨wz.heap.size, 0, none⟩ 1 1 (cellsA ⟨5, ⟨#[100, 98, 47, 112, 97, 114, 116]⟩, 2, false, 0, false, false⟩) rfl rfl HLC.out (cellsA_one _) (by simp [builtL, maxLen]) (by simp [builtL]) HBS.out ?_; intro v1 w3 hown hgrow hnil; have HV1 : Hid (OwnA w3 (w.heap.size + 2) v1 (builtL.take 5)) := hown; have HB3 : Hid (Below (w.heap.size + 2) wr w3) := (HBL.out.mono hsz).trans ((Below.refl _ _).grown hgrow HBS.out (fun k hk => (World.ownsRow.lt HOA.out k hk).1)); clear hown hgrow hnil)
        go_roundg g
        case measure => omega
        case rel => exact ⟨5, by go_num, by omega, HV1.out, HNT.out.next HB3.out (by omega) (by omega), HB.out.trans (HB3.out.mono (by omega)), by have := HB3.out.size; omega⟩
      · -- index
        have HW : Hid (wr.cell? ⟨w.heap.size, 5, none⟩ = some (.string ⟨#[105, 110, 100, 101, 120]⟩)) := HNT.out.1 5 _ rfl
        have HT : Hid (wr.cell? ⟨w.heap.size + 1, 5, none⟩ = some (.int .i64 2)) := HNT.out.2 5 _ rfl
        have n0 := HW.out
        have t0 := HT.out
        have HAL := Lib.hid ((Below.refl wr.heap.size wr).alloc (Nat.le_refl _) (.cells #[.int .i64 0, .string ⟨#[]⟩, .int .i64 0, .bool false, .int .i64 0, .bool false, .bool false] 43))
        have HNA := Lib.hid (HNT.out.next HAL.out (by omega) (by omega))
        have n1 := HNA.out.1 5 _ rfl
        have t1 := HNA.out.2 5 _ rfl
        have hst : (⟨#[100, 98, 47]⟩ : ByteArray) ++ ⟨#[105, 110, 100, 101, 120]⟩ = ⟨#[100, 98, 47, 105, 110, 100, 101, 120]⟩ := by kernel_rfl
        go_wp2_with fail
        go_region
        clear n0 t0 n1 t1 hst
        obtain ⟨wz, hwz⟩ : ∃ wz, (wr.alloc (.cells #[.int .i64 6, .string ⟨#[100, 98, 47, 105, 110, 100, 101, 120]⟩, .int .i64 2, .bool false, .int .i64 0, .bool false, .bool false] 43)).drew = wz := ⟨_, rfl⟩
        have hx : BxA wz wr.heap.size ⟨6, ⟨#[100, 98, 47, 105, 110, 100, 101, 120]⟩, 2, false, 0, false, false⟩ := by rw [← hwz]; exact bxA_new wr ⟨6, ⟨#[100, 98, 47, 105, 110, 100, 101, 120]⟩, 2, false, 0, false, false⟩
        have hbz : Below wr.heap.size wr wz := by rw [← hwz]; exact ((Below.refl wr.heap.size wr).alloc (Nat.le_refl _) _).drew
        rw [hwz]
        have hsz1 : wr.heap.size + 1 ≤ wz.heap.size := by have := (Array.getElem?_eq_some_iff.1 hx).1; omega
        clear hwz
        have hx2 := hx
        have hbz2 := hbz
        have c0 := hx2.cell 0
        have c1 := hx2.cell 1
        have c2 := hx2.cell 2
        have c3 := hx2.cell 3
        have c4 := hx2.cell 4
        have c5 := hx2.cell 5
        have c6 := hx2.cell 6
        have hbl : Below wr.heap.size wr (wz.alloc (.cells #[.int .i64 6, .string ⟨#[100, 98, 47, 105, 110, 100, 101, 120]⟩, .int .i64 2, .bool false, .int .i64 0, .bool false, .bool false] 43)) := hbz2.alloc hbz2.size _
        have hoa : OwnA (wz.alloc (.cells #[.int .i64 6, .string ⟨#[100, 98, 47, 105, 110, 100, 101, 120]⟩, .int .i64 2, .bool false, .int .i64 0, .bool false, .bool false] 43)) (w.heap.size + 2) u3 (builtL.take 5) := HO.out.next hbl
        have HOA := Lib.hid hoa
        have HBL := Lib.hid hbl
        have hzz : wz.heap.size = wz.heap.size := by simp
        have hlc := litA wz ⟨6, ⟨#[100, 98, 47, 105, 110, 100, 101, 120]⟩, 2, false, 0, false, false⟩
        skip
        have HLC := Lib.hid hlc
        have hbs : w.heap.size + 2 ≤ (wz.alloc (.cells #[.int .i64 6, .string ⟨#[100, 98, 47, 105, 110, 100, 101, 120]⟩, .int .i64 2, .bool false, .int .i64 0, .bool false, .bool false] 43)).heap.size := by have := hbl.size; omega
        have HBS := Lib.hid hbs
        clear hx hbz hbz2 hx2 hbl hoa hbs hlc hzz
        go_wp2_with (at_builtin; refine wpList_append_own _ rfl _ _ 32 rfl (w.heap.size + 2) 43 i0 (.agg #[.int .i64 0, .string ⟨#[]⟩, .int .i64 0, .bool false, .int .i64 0, .bool false, .bool false]) 7 56 Tryz.underlying32 hi hz0 hz1 hz2 rfl (by decide) _ _ _ rfl HOA.out ⟨wz.heap.size, 0, none⟩ 1 1 (cellsA ⟨6, ⟨#[100, 98, 47, 105, 110, 100, 101, 120]⟩, 2, false, 0, false, false⟩) rfl rfl HLC.out (cellsA_one _) (by simp [builtL, maxLen]) (by simp [builtL]) HBS.out ?_; intro v1 w3 hown hgrow hnil; have HV1 : Hid (OwnA w3 (w.heap.size + 2) v1 (builtL.take 6)) := hown; have HB3 : Hid (Below (w.heap.size + 2) wr w3) := (HBL.out.mono hsz).trans ((Below.refl _ _).grown hgrow HBS.out (fun k hk => (World.ownsRow.lt HOA.out k hk).1)); clear hown hgrow hnil)
        go_roundg g
        case measure => omega
        case rel => exact ⟨6, by go_num, by omega, HV1.out, HNT.out.next HB3.out (by omega) (by omega), HB.out.trans (HB3.out.mono (by omega)), by have := HB3.out.size; omega⟩
      · -- doc
        have HW : Hid (wr.cell? ⟨w.heap.size, 6, none⟩ = some (.string ⟨#[100, 111, 99]⟩)) := HNT.out.1 6 _ rfl
        have HT : Hid (wr.cell? ⟨w.heap.size + 1, 6, none⟩ = some (.int .i64 3)) := HNT.out.2 6 _ rfl
        have n0 := HW.out
        have t0 := HT.out
        have HAL := Lib.hid ((Below.refl wr.heap.size wr).alloc (Nat.le_refl _) (.cells #[.int .i64 0, .string ⟨#[]⟩, .int .i64 0, .bool false, .int .i64 0, .bool false, .bool false] 43))
        have HNA := Lib.hid (HNT.out.next HAL.out (by omega) (by omega))
        have n1 := HNA.out.1 6 _ rfl
        have t1 := HNA.out.2 6 _ rfl
        have hst : (⟨#[100, 98, 47]⟩ : ByteArray) ++ ⟨#[100, 111, 99]⟩ = ⟨#[100, 98, 47, 100, 111, 99]⟩ := by kernel_rfl
        go_wp2_with fail
        go_region
        clear n0 t0 n1 t1 hst
        obtain ⟨wz, hwz⟩ : ∃ wz, (wr.alloc (.cells #[.int .i64 7, .string ⟨#[100, 98, 47, 100, 111, 99]⟩, .int .i64 3, .bool false, .int .i64 0, .bool false, .bool false] 43)).drew = wz := ⟨_, rfl⟩
        have hx : BxA wz wr.heap.size ⟨7, ⟨#[100, 98, 47, 100, 111, 99]⟩, 3, false, 0, false, false⟩ := by rw [← hwz]; exact bxA_new wr ⟨7, ⟨#[100, 98, 47, 100, 111, 99]⟩, 3, false, 0, false, false⟩
        have hbz : Below wr.heap.size wr wz := by rw [← hwz]; exact ((Below.refl wr.heap.size wr).alloc (Nat.le_refl _) _).drew
        rw [hwz]
        have hsz1 : wr.heap.size + 1 ≤ wz.heap.size := by have := (Array.getElem?_eq_some_iff.1 hx).1; omega
        clear hwz
        have hx2 := hx
        have hbz2 := hbz
        have c0 := hx2.cell 0
        have c1 := hx2.cell 1
        have c2 := hx2.cell 2
        have c3 := hx2.cell 3
        have c4 := hx2.cell 4
        have c5 := hx2.cell 5
        have c6 := hx2.cell 6
        have hbl : Below wr.heap.size wr (wz.alloc (.cells #[.int .i64 7, .string ⟨#[100, 98, 47, 100, 111, 99]⟩, .int .i64 3, .bool false, .int .i64 0, .bool false, .bool false] 43)) := hbz2.alloc hbz2.size _
        have hoa : OwnA (wz.alloc (.cells #[.int .i64 7, .string ⟨#[100, 98, 47, 100, 111, 99]⟩, .int .i64 3, .bool false, .int .i64 0, .bool false, .bool false] 43)) (w.heap.size + 2) u3 (builtL.take 6) := HO.out.next hbl
        have HOA := Lib.hid hoa
        have HBL := Lib.hid hbl
        have hzz : wz.heap.size = wz.heap.size := by simp
        have hlc := litA wz ⟨7, ⟨#[100, 98, 47, 100, 111, 99]⟩, 3, false, 0, false, false⟩
        skip
        have HLC := Lib.hid hlc
        have hbs : w.heap.size + 2 ≤ (wz.alloc (.cells #[.int .i64 7, .string ⟨#[100, 98, 47, 100, 111, 99]⟩, .int .i64 3, .bool false, .int .i64 0, .bool false, .bool false] 43)).heap.size := by have := hbl.size; omega
        have HBS := Lib.hid hbs
        clear hx hbz hbz2 hx2 hbl hoa hbs hlc hzz
        go_wp2_with (at_builtin; refine wpList_append_own _ rfl _ _ 32 rfl (w.heap.size + 2) 43 i0 (.agg #[.int .i64 0, .string ⟨#[]⟩, .int .i64 0, .bool false, .int .i64 0, .bool false, .bool false]) 7 56 Tryz.underlying32 hi hz0 hz1 hz2 rfl (by decide) _ _ _ rfl HOA.out ⟨wz.heap.size, 0, none⟩ 1 1 (cellsA ⟨7, ⟨#[100, 98, 47, 100, 111, 99]⟩, 3, false, 0, false, false⟩) rfl rfl HLC.out (cellsA_one _) (by simp [builtL, maxLen]) (by simp [builtL]) HBS.out ?_; intro v1 w3 hown hgrow hnil; have HV1 : Hid (OwnA w3 (w.heap.size + 2) v1 (builtL.take 7)) := hown; have HB3 : Hid (Below (w.heap.size + 2) wr w3) := (HBL.out.mono hsz).trans ((Below.refl _ _).grown hgrow HBS.out (fun k hk => (World.ownsRow.lt HOA.out k hk).1)); clear hown hgrow hnil)
        go_roundg g
        case measure => omega
        case rel => exact ⟨7, by go_num, by omega, HV1.out, HNT.out.next HB3.out (by omega) (by omega), HB.out.trans (HB3.out.mono (by omega)), by have := HB3.out.size; omega⟩
end Go.Proofs.YtlmihlepaoifiaaGreat
