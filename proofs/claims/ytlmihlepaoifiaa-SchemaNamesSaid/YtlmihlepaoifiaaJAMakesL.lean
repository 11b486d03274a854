import Derived.Deep.Draws
import Derived.BigQuiet
import Derived.Laws.StructEq
import Derived.Test.YtlmihlepaoifiaaJAValR
import Derived.Maps.AppendAt
import Derived.Deep.Cut
import Derived.Laws.AppendOwnNone
import Derived.Test.YtlmihlepaoifiaaJAMayE
import Derived.Test.YtlmihlepaoifiaaJFMay
import Derived.Test.YtlmihlepaoifiaaJOrd
import Derived.Test.YtlmihlepaoifiaaJDCmp
import Derived.Test.YtlmihlepaoifiaaJORdRead
import Derived.Test.YtlmihlepaoifiaaJORdNum
import Derived.Test.YtlmihlepaoifiaaJOParts
import Derived.Test.YtlmihlepaoifiaaJOBkPure
import Derived.Test.YtlmihlepaoifiaaJFRunG
import Derived.Test.YtlmihlepaoifiaaJSSet
import Derived.RangeFuncBox
/-
  CONTRACTS: the program's Builtin; the document's Same of two lists of attributes.
-/
namespace Go.Proofs.Ytlmihlepaoifiaa
open Go.RowKit

/-- the seven that are built in -/
def builtL : List Att := [⟨1, ⟨#[100, 98, 47, 110, 97, 109, 101]⟩, 7, false, 2, false, false⟩, ⟨2, ⟨#[100, 98, 47, 116, 121, 112, 101]⟩, 1, false, 0, false, false⟩, ⟨3, ⟨#[100, 98, 47, 109, 97, 110, 121]⟩, 2, false, 0, false, false⟩, ⟨4, ⟨#[100, 98, 47, 117, 110, 105, 113, 117, 101]⟩, 1, false, 0, false, false⟩, ⟨5, ⟨#[100, 98, 47, 112, 97, 114, 116]⟩, 2, false, 0, false, false⟩, ⟨6, ⟨#[100, 98, 47, 105, 110, 100, 101, 120]⟩, 2, false, 0, false, false⟩, ⟨7, ⟨#[100, 98, 47, 100, 111, 99]⟩, 3, false, 0, false, false⟩]
theorem built_ok : ∀ a ∈ builtL, AttOk a := by
  intro a ha
  simp [builtL] at ha
  rcases ha with rfl | rfl | rfl | rfl | rfl | rfl | rfl <;> exact ⟨by decide, by decide, by decide⟩
set_option maxRecDepth 100000 in
set_option maxHeartbeats 1000000 in
theorem built_any (w : World) : Calls Try.prog 12 #[] w fun e w' => ∃ A c, e = .returned (.slice A builtL.length c) ∧ SlA w' w'.heap.size A builtL ∧ Below w.heap.size w w' := by
  go_enter Try.func12, Try.ntmps12
  go_wp2
  go_ret
  refine ⟨_, _, rfl, fun _ => ⟨w.heap.size, 0, rfl, by simp, fun j v hv => ?_⟩, (Below.refl _ _).alloc (Nat.le_refl _) _⟩
  intro i hi
  have hh := heap_alloc_new w (.cells #[.int .i64 1, .string ⟨#[100, 98, 47, 110, 97, 109, 101]⟩, .int .i64 7, .bool false, .int .i64 2, .bool false, .bool false, .int .i64 2, .string ⟨#[100, 98, 47, 116, 121, 112, 101]⟩, .int .i64 1, .bool false, .int .i64 0, .bool false, .bool false, .int .i64 3, .string ⟨#[100, 98, 47, 109, 97, 110, 121]⟩, .int .i64 2, .bool false, .int .i64 0, .bool false, .bool false, .int .i64 4, .string ⟨#[100, 98, 47, 117, 110, 105, 113, 117, 101]⟩, .int .i64 1, .bool false, .int .i64 0, .bool false, .bool false, .int .i64 5, .string ⟨#[100, 98, 47, 112, 97, 114, 116]⟩, .int .i64 2, .bool false, .int .i64 0, .bool false, .bool false, .int .i64 6, .string ⟨#[100, 98, 47, 105, 110, 100, 101, 120]⟩, .int .i64 2, .bool false, .int .i64 0, .bool false, .bool false, .int .i64 7, .string ⟨#[100, 98, 47, 100, 111, 99]⟩, .int .i64 3, .bool false, .int .i64 0, .bool false, .bool false] 39)
  have hc : ∀ q, (w.alloc (.cells #[.int .i64 1, .string ⟨#[100, 98, 47, 110, 97, 109, 101]⟩, .int .i64 7, .bool false, .int .i64 2, .bool false, .bool false, .int .i64 2, .string ⟨#[100, 98, 47, 116, 121, 112, 101]⟩, .int .i64 1, .bool false, .int .i64 0, .bool false, .bool false, .int .i64 3, .string ⟨#[100, 98, 47, 109, 97, 110, 121]⟩, .int .i64 2, .bool false, .int .i64 0, .bool false, .bool false, .int .i64 4, .string ⟨#[100, 98, 47, 117, 110, 105, 113, 117, 101]⟩, .int .i64 1, .bool false, .int .i64 0, .bool false, .bool false, .int .i64 5, .string ⟨#[100, 98, 47, 112, 97, 114, 116]⟩, .int .i64 2, .bool false, .int .i64 0, .bool false, .bool false, .int .i64 6, .string ⟨#[100, 98, 47, 105, 110, 100, 101, 120]⟩, .int .i64 2, .bool false, .int .i64 0, .bool false, .bool false, .int .i64 7, .string ⟨#[100, 98, 47, 100, 111, 99]⟩, .int .i64 3, .bool false, .int .i64 0, .bool false, .bool false] 39)).cell? ⟨w.heap.size, q, none⟩ = (#[.int .i64 1, .string ⟨#[100, 98, 47, 110, 97, 109, 101]⟩, .int .i64 7, .bool false, .int .i64 2, .bool false, .bool false, .int .i64 2, .string ⟨#[100, 98, 47, 116, 121, 112, 101]⟩, .int .i64 1, .bool false, .int .i64 0, .bool false, .bool false, .int .i64 3, .string ⟨#[100, 98, 47, 109, 97, 110, 121]⟩, .int .i64 2, .bool false, .int .i64 0, .bool false, .bool false, .int .i64 4, .string ⟨#[100, 98, 47, 117, 110, 105, 113, 117, 101]⟩, .int .i64 1, .bool false, .int .i64 0, .bool false, .bool false, .int .i64 5, .string ⟨#[100, 98, 47, 112, 97, 114, 116]⟩, .int .i64 2, .bool false, .int .i64 0, .bool false, .bool false, .int .i64 6, .string ⟨#[100, 98, 47, 105, 110, 100, 101, 120]⟩, .int .i64 2, .bool false, .int .i64 0, .bool false, .bool false, .int .i64 7, .string ⟨#[100, 98, 47, 100, 111, 99]⟩, .int .i64 3, .bool false, .int .i64 0, .bool false, .bool false] : Array Value)[q]? := fun q => by unfold World.cell?; rw [hh]; rfl
  have hj : j < 7 := (List.getElem?_eq_some_iff.1 hv).1
  refine (hc _).trans ?_
  have hd : ∀ j : Fin 7, ∀ i : Fin 7, (#[.int .i64 1, .string ⟨#[100, 98, 47, 110, 97, 109, 101]⟩, .int .i64 7, .bool false, .int .i64 2, .bool false, .bool false, .int .i64 2, .string ⟨#[100, 98, 47, 116, 121, 112, 101]⟩, .int .i64 1, .bool false, .int .i64 0, .bool false, .bool false, .int .i64 3, .string ⟨#[100, 98, 47, 109, 97, 110, 121]⟩, .int .i64 2, .bool false, .int .i64 0, .bool false, .bool false, .int .i64 4, .string ⟨#[100, 98, 47, 117, 110, 105, 113, 117, 101]⟩, .int .i64 1, .bool false, .int .i64 0, .bool false, .bool false, .int .i64 5, .string ⟨#[100, 98, 47, 112, 97, 114, 116]⟩, .int .i64 2, .bool false, .int .i64 0, .bool false, .bool false, .int .i64 6, .string ⟨#[100, 98, 47, 105, 110, 100, 101, 120]⟩, .int .i64 2, .bool false, .int .i64 0, .bool false, .bool false, .int .i64 7, .string ⟨#[100, 98, 47, 100, 111, 99]⟩, .int .i64 3, .bool false, .int .i64 0, .bool false, .bool false] : Array Value)[0 + j.val * 7 + i.val]? = (cellsA (builtL.getD j.val zA))[i.val]? := by
    intro j i
    match j, i with
    | 0, 0 | 0, 1 | 0, 2 | 0, 3 | 0, 4 | 0, 5 | 0, 6 => rfl
    | 1, 0 | 1, 1 | 1, 2 | 1, 3 | 1, 4 | 1, 5 | 1, 6 => rfl
    | 2, 0 | 2, 1 | 2, 2 | 2, 3 | 2, 4 | 2, 5 | 2, 6 => rfl
    | 3, 0 | 3, 1 | 3, 2 | 3, 3 | 3, 4 | 3, 5 | 3, 6 => rfl
    | 4, 0 | 4, 1 | 4, 2 | 4, 3 | 4, 4 | 4, 5 | 4, 6 => rfl
    | 5, 0 | 5, 1 | 5, 2 | 5, 3 | 5, 4 | 5, 5 | 5, 6 => rfl
    | 6, 0 | 6, 1 | 6, 2 | 6, 3 | 6, 4 | 6, 5 | 6, 6 => rfl
  have := hd ⟨j, hj⟩ ⟨i, hi⟩
  have he : builtL.getD j zA = v := by rw [List.getD, hv]; rfl
  rw [he] at this
  exact this
end Go.Proofs.Ytlmihlepaoifiaa

/-
  CONTRACT: the document's Builtin.
-/
namespace Go.Proofs.Ytlmihlepaoifiaa
open Go.RowKit

theorem infoA : (Try.prog.info? 39).map (fun i => (i.zero, i.size, i.bytes)) = some (some (.agg #[.int .i64 0, .string ⟨#[]⟩, .int .i64 0, .bool false, .int .i64 0, .bool false, .bool false]), 7, 56) := by kernel_rfl
/-- the names and types, in their blocks -/
def NtAt (W : World) (b1 b2 : Nat) : Prop := (∀ (j : Nat) (v : Value), (#[.string ⟨#[110, 97, 109, 101]⟩, .string ⟨#[116, 121, 112, 101]⟩, .string ⟨#[109, 97, 110, 121]⟩, .string ⟨#[117, 110, 105, 113, 117, 101]⟩, .string ⟨#[112, 97, 114, 116]⟩, .string ⟨#[105, 110, 100, 101, 120]⟩, .string ⟨#[100, 111, 99]⟩] : Array Value)[j]? = some v → W.cell? ⟨b1, j, none⟩ = some v) ∧ (∀ (j : Nat) (v : Value), (#[.int .i64 7, .int .i64 1, .int .i64 2, .int .i64 1, .int .i64 2, .int .i64 2, .int .i64 3] : Array Value)[j]? = some v → W.cell? ⟨b2, j, none⟩ = some v)
theorem NtAt.next {W W' : World} {b1 b2 B : Nat} (h : NtAt W b1 b2) (hb : Below B W W') (h1 : b1 < B) (h2 : b2 < B) : NtAt W' b1 b2 :=
  ⟨fun j v hv => (hb.cell (p := ⟨b1, j, none⟩) h1).trans (h.1 j v hv), fun j v hv => (hb.cell (p := ⟨b2, j, none⟩) h2).trans (h.2 j v hv)⟩
def OwnA (W : World) (B : Nat) (v : Value) (l : List Att) : Prop := W.ownsRow B 39 7 v l.length (l.flatMap cellsA)

theorem cellsA_one (a : Att) : ∀ u ∈ cellsA a, u.oneCell' = true := by
  intro u hu
  simp [cellsA] at hu
  rcases hu with rfl | rfl | rfl | rfl | rfl | rfl | rfl <;> rfl
theorem OwnA.next {W W' : World} {B : Nat} {v : Value} {l : List Att} (h : OwnA W B v l) (hb : Below W.heap.size W W') : OwnA W' B v l := by
  refine ⟨h.1, ?_⟩
  rcases h.2 with h | ⟨g, cap, cur, h1, h2, h3, h4⟩
  · exact .inl h
  · exact .inr ⟨g, cap, cur, h1, h2, (hb.block g (Array.getElem?_eq_some_iff.1 h3).1).trans h3, h4⟩
theorem litA (w3 : World) (x : Att) (j : Nat) (u : Value) (hu : (cellsA x)[j]? = some u) :
    (w3.alloc (.cells #[.int .i64 x.id, .string x.nm, .int .i64 x.ty, .bool x.many, .int .i64 x.un, .bool x.part, .bool x.ix] 39)).cell? ((⟨w3.heap.size, 0, none⟩ : Addr).add j) = some u := by
  have e : (⟨w3.heap.size, 0, none⟩ : Addr).add j = ⟨w3.heap.size, j, none⟩ := by unfold Addr.add; split <;> simp_all
  rw [e, World.cell?_alloc_new]
  simpa [cellsA] using hu

end Go.Proofs.Ytlmihlepaoifiaa

/-
  CONTRACT of the document's own answer: Of (facts' attributes), given the contract of its Made.
-/
namespace Go.Proofs.Ytlmihlepaoifiaa
open Go.RowKit Go.Shelf

/-- no name stands twice -/
def oneName (l : List Att) : Prop := (l.map (·.nm)).Nodup
instance (l : List Att) : Decidable (oneName l) := inferInstanceAs (Decidable (l.map (·.nm)).Nodup)
theorem flatA {l : List Att} {j i : Nat} (hi : i < 7) : (l.flatMap cellsA)[j * 7 + i]? = l[j]?.bind fun x => (cellsA x)[i]? := flatG (enc := cellsA) (k := 7) (fun _ => rfl) hi
theorem OwnA.form {W : World} {B : Nat} {v : Value} {l : List Att} (h : OwnA W B v l) : ∃ A c, v = .slice A l.length c ∧ SlA W W.heap.size A l ∧ l.length ≤ c ∧ c ≤ maxLen := by
  rcases h.2 with ⟨rfl, h0⟩ | ⟨g, cap, cur, rfl, _, hgb, h1, h2, _⟩
  · exact ⟨none, 0, by rw [h0], fun hl => absurd (List.length_eq_zero_iff.1 h0) hl, by omega, Nat.zero_le _⟩
  · refine ⟨_, _, rfl, fun _ => ⟨g, 0, rfl, (Array.getElem?_eq_some_iff.1 hgb).1, fun j p hp => ?_⟩, h1, h2⟩
    have hr : W.ownsRow B 39 7 (.slice (some ⟨g, 0, none⟩) l.length cap) l.length (l.flatMap cellsA) := h
    have hj : j < l.length := (List.getElem?_eq_some_iff.1 hp).1
    have hc : ∀ i, i < 7 → W.cell? ⟨g, j * 7 + i, none⟩ = (cellsA p)[i]? := fun i hi => by
      rw [hr.cellAt (j * 7 + i) (by omega), flatA hi, hp]; rfl
    rw [Nat.zero_add]
    exact hc
/-- the attributes of facts -/
def attsL (fs : List FactP) : List Att := builtL ++ docFrom fs none fs
def attsE (fs : List FactP) : Int := if mayFs fs then (if oneName (attsL fs) then 0 else 70) else 60
theorem docFrom_len (all : List FactP) : ∀ (l : List FactP) (p : Option Int), (docFrom all p l).length ≤ l.length
  | [], _ => Nat.le_refl _
  | f :: l, p => by
    show ((if p = some f.e then [] else (docL f.e all).toList) ++ docFrom all (some f.e) l).length ≤ l.length + 1
    rw [List.length_append]
    have := docFrom_len all l (some f.e)
    have h2 : (if p = some f.e then [] else (docL f.e all).toList).length ≤ 1 := by
      split
      · exact Nat.zero_le _
      · cases docL f.e all <;> simp
    omega
end Go.Proofs.Ytlmihlepaoifiaa

/-
  CONTRACTS: the program's ByName and ByID: a closure, slices.IndexFunc, first.
-/
namespace Go.Proofs.Ytlmihlepaoifiaa
open Go.RowKit

set_option maxHeartbeats 1000000 in
theorem closByName_any (y : Att) (s : ByteArray) (Bt : Nat) (w : World) (v : Bool) (hv : nmP s y = v) (hb : w.cell? ⟨Bt, 0, none⟩ = some (.string s)) (hlt : Bt < w.heap.size) :
    Calls Try.prog 17 #[.agg #[.int .i64 y.id, .string y.nm, .int .i64 y.ty, .bool y.many, .int .i64 y.un, .bool y.part, .bool y.ix], .pointer (some ⟨Bt, 0, none⟩)] w fun e w' => e = .returned (.bool v) ∧ Below w.heap.size w w' := by
  have b0 : (w.alloc (.cells #[.int .i64 y.id, .string y.nm, .int .i64 y.ty, .bool y.many, .int .i64 y.un, .bool y.part, .bool y.ix] 39)).cell? ⟨Bt, 0, none⟩ = some (.string s) := (World.cell?_alloc_lt _ _ ⟨Bt, 0, none⟩ hlt).trans hb
  subst hv
  clear hb
  by_cases e0 : y.nm = s
  · have q0 : (y.nm.toList == s.toList) = true := by rw [e0, beq_self_eq_true]
    have HE : Hid (nmP s y = true) := decide_eq_true e0
    clear e0
    go_enter Try.func17, Try.ntmps17
    go_wp2
    go_ret
    exact ⟨by rw [HE.out]; rfl, (Below.refl _ _).alloc (Nat.le_refl _) _⟩
  · have q0 : (y.nm.toList == s.toList) = false := by
          rw [beq_eq_false_iff_ne, ByteArray.toList_eq, ByteArray.toList_eq]
          exact fun h => e0 (ByteArray.ext (Array.toList_inj.1 h))
    have HE : Hid (nmP s y = false) := decide_eq_false e0
    clear e0
    go_enter Try.func17, Try.ntmps17
    go_wp2
    go_ret
    exact ⟨by rw [HE.out]; rfl, (Below.refl _ _).alloc (Nat.le_refl _) _⟩

set_option maxRecDepth 100000 in
set_option maxHeartbeats 1000000 in
theorem indexByName_any (A : Option Addr) (c : Nat) (l : List Att) (s : ByteArray) (Bt : Nat) (w : World) (hs : SlA w w.heap.size A l) (hl : l.length ≤ 2000000000000) (hb : w.cell? ⟨Bt, 0, none⟩ = some (.string s)) (hlt : Bt < w.heap.size) :
    Calls Try.prog 47 #[.slice A l.length c, .func (.func 17) #[] #[.pointer (some ⟨Bt, 0, none⟩)]] w fun e w' => ((l.find? (nmP s) = none ∧ e = .returned (.int .i64 (-1))) ∨ ∃ (j : Nat) (y : Att), e = .returned (.int .i64 j) ∧ l[j]? = some y ∧ l.find? (nmP s) = some y) ∧ Below w.heap.size w w' := by
  have HS := Lib.hid hs
  have HT := Lib.hid hb
  clear hs hb
  go_enter Try.func47, Try.ntmps47
  go_wp2
  go_loopg [5, 8] l.length (fun g _ y wr => ∃ j : Nat, y = .int .i64 j ∧ j + g = l.length ∧ Hid ((l.drop j).find? (nmP s) = l.find? (nmP s)) ∧ Hid (Below w.heap.size w wr))
  case atStart => exact ⟨0, rfl, by omega, rfl, Below.refl _ _⟩
  case round =>
    obtain ⟨j, rfl, hj, HN, HB⟩ := hrel
    cases gk with
    | zero =>
      have hjz : ¬ ((j : Int) < (l.length : Int)) := by omega
      have HE : Hid (l.find? (nmP s) = none) := by
        show _ = _
        rw [← HN.out, List.drop_eq_nil_of_le (by omega)]
        rfl
      go_wp2
      go_ret
      exact ⟨.inl ⟨by first | exact HE.out | simpa using HE.out, rfl⟩, HB.out⟩
    | succ g =>
      have hjz : (j : Int) < (l.length : Int) := by omega
      have hjn : j < l.length := by omega
      obtain ⟨b, o, rfl, _, hp⟩ := (HS.out.next HB.out (Nat.le_refl _)).at_ hjn
      have hd := find_step (p := nmP s) hjn
      have hg := List.getElem?_eq_getElem hjn
      obtain ⟨y, hy⟩ : ∃ y, l[j] = y := ⟨_, rfl⟩
      rw [hy] at hp hd hg
      rw [HN.out] at hd
      have HD := Lib.hid hd
      have HG := Lib.hid hg
      have y0 := hp.c0
      have y1 := hp.c1
      have y2 := hp.c2
      have y3 := hp.c3
      have y4 := hp.c4
      have y5 := hp.c5
      have y6 := hp.c6
      have hbz := HB.out.size
      have HBT := Lib.hid ((HB.out.cell (p := ⟨Bt, 0, none⟩) hlt).trans HT.out)
      clear hp hy hd hg
      cases hv : nmP s y
      · have HW := Lib.hid (fun X h1 h2 => closByName_any y s Bt X false hv h1 h2)
        have HN2 : Hid ((l.drop (j + 1)).find? (nmP s) = l.find? (nmP s)) := by
          show _ = _
          rw [HD.out, hv]
          rfl
        clear hv
        go_wp2_with fail
        refine (HW.out _ HBT.out (by omega)).mono ?_
        rintro e w9 ⟨rfl, hb9⟩
        have HB9 := Lib.hid (HB.out.trans (hb9.mono hbz))
        clear hb9 y0 y1 y2 y3 y4 y5 y6
        go_wp2
        go_roundg g
        case measure => omega
        case rel => exact ⟨j + 1, by go_num, by omega, HN2.out, HB9.out⟩
      · have HW := Lib.hid (fun X h1 h2 => closByName_any y s Bt X true hv h1 h2)
        have HE : Hid (l.find? (nmP s) = some y) := by show _ = _; rw [HD.out, hv]; rfl
        clear hv
        go_wp2_with fail
        refine (HW.out _ HBT.out (by omega)).mono ?_
        rintro e w9 ⟨rfl, hb9⟩
        have HB9 := Lib.hid (HB.out.trans (hb9.mono hbz))
        clear hb9 y0 y1 y2 y3 y4 y5 y6
        go_wp2
        go_ret
        exact ⟨.inr ⟨j, y, rfl, HG.out, HE.out⟩, HB9.out⟩

set_option maxRecDepth 100000 in
set_option maxHeartbeats 1000000 in
theorem firstByName_any (A : Option Addr) (c : Nat) (l : List Att) (s : ByteArray) (Bt : Nat) (w : World) (hs : SlA w w.heap.size A l) (hl : l.length ≤ 2000000000000) (hb : w.cell? ⟨Bt, 0, none⟩ = some (.string s)) (hlt : Bt < w.heap.size) :
    Calls Try.prog 16 #[.slice A l.length c, .func (.func 17) #[] #[.pointer (some ⟨Bt, 0, none⟩)]] w fun e w' => e = .returned (fndV (l.find? (nmP s))) ∧ Below w.heap.size w w' := by
  obtain ⟨w0, hw0⟩ : ∃ w0, w.alloc (.cells #[.int .i64 0, .string ⟨#[]⟩, .int .i64 0, .bool false, .int .i64 0, .bool false, .bool false] 39) = w0 := ⟨_, rfl⟩
  have hb0 : Below w.heap.size w w0 := by rw [← hw0]; exact (Below.refl _ _).alloc (Nat.le_refl _) _
  have hx0 : w0.heap[w.heap.size]? = some (.cells #[.int .i64 0, .string ⟨#[]⟩, .int .i64 0, .bool false, .int .i64 0, .bool false, .bool false] 39) := by rw [← hw0]; exact heap_alloc_new w _
  have hz0 : w0.heap.size = w.heap.size + 1 := by rw [← hw0]; simp
  have HI := Lib.hid (indexByName_any A c l s Bt w0 ((hs.next hb0 (Nat.le_refl _)).more (by omega)) hl ((hb0.cell (p := ⟨Bt, 0, none⟩) hlt).trans hb) (by omega))
  have HS := Lib.hid (hs.next hb0 (Nat.le_refl _))
  have HB0 := Lib.hid hb0
  have HX0 := Lib.hid hx0
  clear hs hb hb0 hx0
  go_enter Try.func16, Try.ntmps16
  go_upto_region 1 with (fail)
  try rw [hw0]
  clear hw0
  go_wp2_with fail
  refine HI.out.mono ?_
  rintro e w1 ⟨hf, hb1⟩
  have HB1 := Lib.hid (HB0.out.trans (hb1.mono HB0.out.size))
  have HX1 := Lib.hid ((hb1.block w.heap.size (by omega)).trans HX0.out)
  have HS1 := Lib.hid (HS.out.next hb1 HB0.out.size)
  clear hb1 HI
  rcases hf with ⟨hf, rfl⟩ | ⟨j, y, rfl, hj, hf⟩
  · have HE := Lib.hid hf
    clear hf
    have HXB : Hid (BxA w1 w.heap.size zA) := HX1.out
    have x0 := HXB.out.cell 0
    have x1 := HXB.out.cell 1
    have x2 := HXB.out.cell 2
    have x3 := HXB.out.cell 3
    have x4 := HXB.out.cell 4
    have x5 := HXB.out.cell 5
    have x6 := HXB.out.cell 6
    have f0 := HXB.out.fz 0
    have f1 := HXB.out.fz 1
    have f2 := HXB.out.fz 2
    have f3 := HXB.out.fz 3
    have f4 := HXB.out.fz 4
    have f5 := HXB.out.fz 5
    have f6 := HXB.out.fz 6
    have HQ := Lib.hid (HXB.out.set7 zA)
    have HBQ := Lib.hid (HB1.out.trans (below_set7 (W := w1) (B := w.heap.size) (b := w.heap.size) (Nat.le_refl _) (.int .i64 zA.id) (.string zA.nm) (.int .i64 zA.ty) (.bool zA.many) (.int .i64 zA.un) (.bool zA.part) (.bool zA.ix)))
    go_wp2
    have c0 := HQ.out.cell 0
    have c1 := HQ.out.cell 1
    have c2 := HQ.out.cell 2
    have c3 := HQ.out.cell 3
    have c4 := HQ.out.cell 4
    have c5 := HQ.out.cell 5
    have c6 := HQ.out.cell 6
    simp only [zA] at c0 c1 c2 c3 c4 c5 c6
    clear x0 x1 x2 x3 x4 x5 x6 f0 f1 f2 f3 f4 f5 f6
    refine bodyPost_ret (v := .tuple #[.agg #[.int .i64 0, .string ⟨#[]⟩, .int .i64 0, .bool false, .int .i64 0, .bool false, .bool false], .bool false]) ?_ rfl ⟨by rw [HE.out]; rfl, HBQ.out⟩
    rw [results_cell_tmp rfl]
    go_simp
  · have HE := Lib.hid hf
    have hjn : j < l.length := (List.getElem?_eq_some_iff.1 hj).1
    have hy : l[j] = y := (List.getElem?_eq_some_iff.1 hj).2
    have hji : (j : Int) < (l.length : Int) := by omega
    have hj0 : decide ((0 : Int) ≤ j) = true := decide_eq_true (by omega)
    obtain ⟨b, o, rfl, hlt2, hp⟩ := HS1.out.at_ hjn
    rw [hy] at hp
    have y0 := hp.c0
    have y1 := hp.c1
    have y2 := hp.c2
    have y3 := hp.c3
    have y4 := hp.c4
    have y5 := hp.c5
    have y6 := hp.c6
    clear hp hy hf hj
    have HXB : Hid (BxA w1 w.heap.size zA) := HX1.out
    have x0 := HXB.out.cell 0
    have x1 := HXB.out.cell 1
    have x2 := HXB.out.cell 2
    have x3 := HXB.out.cell 3
    have x4 := HXB.out.cell 4
    have x5 := HXB.out.cell 5
    have x6 := HXB.out.cell 6
    have f0 := HXB.out.fz 0
    have f1 := HXB.out.fz 1
    have f2 := HXB.out.fz 2
    have f3 := HXB.out.fz 3
    have f4 := HXB.out.fz 4
    have f5 := HXB.out.fz 5
    have f6 := HXB.out.fz 6
    have HQ := Lib.hid (HXB.out.set7 y)
    have HBQ := Lib.hid (HB1.out.trans (below_set7 (W := w1) (B := w.heap.size) (b := w.heap.size) (Nat.le_refl _) (.int .i64 y.id) (.string y.nm) (.int .i64 y.ty) (.bool y.many) (.int .i64 y.un) (.bool y.part) (.bool y.ix)))
    go_wp2
    have c0 := HQ.out.cell 0
    have c1 := HQ.out.cell 1
    have c2 := HQ.out.cell 2
    have c3 := HQ.out.cell 3
    have c4 := HQ.out.cell 4
    have c5 := HQ.out.cell 5
    have c6 := HQ.out.cell 6
    clear x0 x1 x2 x3 x4 x5 x6 f0 f1 f2 f3 f4 f5 f6
    refine bodyPost_ret (v := .tuple #[.agg #[.int .i64 y.id, .string y.nm, .int .i64 y.ty, .bool y.many, .int .i64 y.un, .bool y.part, .bool y.ix], .bool true]) ?_ rfl ⟨by rw [HE.out]; rfl, HBQ.out⟩
    rw [results_cell_tmp rfl]
    go_simp

set_option maxRecDepth 100000 in
set_option maxHeartbeats 1000000 in
theorem byName_any (A : Option Addr) (c : Nat) (l : List Att) (s : ByteArray) (w : World) (hs : SlA w w.heap.size A l) (hl : l.length ≤ 2000000000000) :
    Calls Try.prog 9 #[.slice A l.length c, .string s] w fun e w' => e = .returned (fndV (l.find? (nmP s))) ∧ Below w.heap.size w w' := by
  obtain ⟨w0, hw0⟩ : ∃ w0, (w.alloc (.cells #[.string s] 9)).alloc (.cells #[.int .i64 0, .string ⟨#[]⟩, .int .i64 0, .bool false, .int .i64 0, .bool false, .bool false] 39) = w0 := ⟨_, rfl⟩
  have hb0 : Below w.heap.size w w0 := by rw [← hw0]; exact ((Below.refl _ _).alloc (Nat.le_refl _) _).alloc (by simp) _
  have hx0 : w0.heap[w.heap.size + 1]? = some (.cells #[.int .i64 0, .string ⟨#[]⟩, .int .i64 0, .bool false, .int .i64 0, .bool false, .bool false] 39) := by rw [← hw0]; exact heap_alloc2_new w _ _
  have hs0 : w0.cell? ⟨w.heap.size, 0, none⟩ = some (.string s) := by
    rw [← hw0]
    exact (World.cell?_alloc_lt _ _ ⟨w.heap.size, 0, none⟩ (by simp)).trans (by have h := heap_alloc_new w (.cells #[.string s] 9); unfold World.cell?; rw [h]; rfl)
  have hz0 : w0.heap.size = w.heap.size + 2 := by rw [← hw0]; simp
  have HI := Lib.hid (firstByName_any A c l s w.heap.size w0 ((hs.next hb0 (Nat.le_refl _)).more (by omega)) hl hs0 (by omega))
  have HB0 := Lib.hid hb0
  have HX0 := Lib.hid hx0
  clear hs hs0 hb0 hx0
  go_enter Try.func9, Try.ntmps9
  go_upto_region 1 with (fail)
  try rw [hw0]
  clear hw0
  go_wp2_with fail
  refine HI.out.mono ?_
  rintro e w1 ⟨rfl, hb1⟩
  have HB1 := Lib.hid (HB0.out.trans (hb1.mono HB0.out.size))
  have HXB : Hid (BxA w1 (w.heap.size + 1) zA) := (hb1.block (w.heap.size + 1) (by omega)).trans HX0.out
  clear hb1 HI
  obtain ⟨o, ho⟩ : ∃ o, l.find? (nmP s) = o := ⟨_, rfl⟩
  obtain ⟨q, hq⟩ : ∃ q, o.getD zA = q := ⟨_, rfl⟩
  have HV : Hid (fndV (l.find? (nmP s)) = .tuple #[.agg #[.int .i64 q.id, .string q.nm, .int .i64 q.ty, .bool q.many, .int .i64 q.un, .bool q.part, .bool q.ix], .bool o.isSome]) := by
    show _ = _
    rw [ho, ← hq]
    rfl
  clear hq ho
  rw [HV.out]
  have x0 := HXB.out.cell 0
  have x1 := HXB.out.cell 1
  have x2 := HXB.out.cell 2
  have x3 := HXB.out.cell 3
  have x4 := HXB.out.cell 4
  have x5 := HXB.out.cell 5
  have x6 := HXB.out.cell 6
  have f0 := HXB.out.fz 0
  have f1 := HXB.out.fz 1
  have f2 := HXB.out.fz 2
  have f3 := HXB.out.fz 3
  have f4 := HXB.out.fz 4
  have f5 := HXB.out.fz 5
  have f6 := HXB.out.fz 6
  have HQ := Lib.hid (HXB.out.set7 q)
  have HBQ := Lib.hid (HB1.out.trans (below_set7 (W := w1) (B := w.heap.size) (b := w.heap.size + 1) (Nat.le_succ _) (.int .i64 q.id) (.string q.nm) (.int .i64 q.ty) (.bool q.many) (.int .i64 q.un) (.bool q.part) (.bool q.ix)))
  go_wp2
  have c0 := HQ.out.cell 0
  have c1 := HQ.out.cell 1
  have c2 := HQ.out.cell 2
  have c3 := HQ.out.cell 3
  have c4 := HQ.out.cell 4
  have c5 := HQ.out.cell 5
  have c6 := HQ.out.cell 6
  clear x0 x1 x2 x3 x4 x5 x6 f0 f1 f2 f3 f4 f5 f6
  refine bodyPost_ret (v := .tuple #[.agg #[.int .i64 q.id, .string q.nm, .int .i64 q.ty, .bool q.many, .int .i64 q.un, .bool q.part, .bool q.ix], .bool o.isSome]) ?_ rfl ⟨by rw [HV.out], HBQ.out⟩
  rw [results_cell_tmp rfl]
  go_simp

end Go.Proofs.Ytlmihlepaoifiaa

/-
  THE LAW SchemaMakes, given the contracts of the program's Of and of the document's Made.
-/
namespace Go.Proofs.Ytlmihlepaoifiaa
open Go.RowKit Go.Shelf

theorem eqAtt (a : Att) (w : World) : (binOp .eql 39 (attV a) (attV a)).run Try.prog w = .ok (.bool true) w := by
  have u3 := Try.underlying3
  have u2 := Try.underlying2
  have u9 := Try.underlying9
  have u4 := Try.underlying4
  have a3 := Try.isAgg3
  have a2 := Try.isAgg2
  have a9 := Try.isAgg9
  have a4 := Try.isAgg4
  have hS : Try.prog.underlying 39 = some (.struct (Try.prog.fieldsOf 39)) := by kernel_rfl
  have hp : Try.prog.stoodInHeld 39 = false := by kernel_rfl
  unfold attV
  rw [run_eql_struct, show (10000 : Nat) = 9999 + 1 from rfl, run_equalIn_agg w 9999 39 _ _ hS hp]
  simp only [Program.fieldsOf, Try.underlying39]
  go_simp
/-- the attributes that Of gives -/
def resL (fs : List FactP) : List Att := if attsE fs = 0 then attsL fs else []
/-- what either Of gives -/
def OfR (w : World) (fs : List FactP) : Ending → World → Prop := fun r w' => (∃ A c, r = .returned (.tuple #[.slice A (resL fs).length c, .int .i64 (attsE fs)]) ∧ SlA w' w'.heap.size A (resL fs)) ∧ Below w.heap.size w w'
/-- what the law asks of its facts -/
structure MkA (w : World) (A : Option Addr) (c : Nat) (fs : List FactP) : Prop where
  f : FVa w (.slice A fs.length c) fs
  u : fs.length ≤ 1954687338268
  z : ∀ f ∈ fs, f.s.size ≤ maxLen
end Go.Proofs.Ytlmihlepaoifiaa
