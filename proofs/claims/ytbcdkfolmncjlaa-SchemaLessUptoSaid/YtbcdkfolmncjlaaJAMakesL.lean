import Derived.Deep.Draws
import Derived.BigQuiet
import Derived.Laws.StructEq
import Derived.Test.YtbcdkfolmncjlaaJAValR
import Derived.Maps.AppendAt
import Derived.Deep.Cut
import Derived.Test.YtbcdkfolmncjlaaJSSet
import Derived.Laws.AppendOwnNone
import Derived.Test.YtbcdkfolmncjlaaJAMayE
import Derived.Test.YtbcdkfolmncjlaaJFMay
import Derived.Test.YtbcdkfolmncjlaaJOrd
import Derived.Test.YtbcdkfolmncjlaaJDCmp
import Derived.Test.YtbcdkfolmncjlaaJORdRead
import Derived.Test.YtbcdkfolmncjlaaJORdNum
import Derived.Test.YtbcdkfolmncjlaaJOParts
import Derived.Test.YtbcdkfolmncjlaaJLeaf
import Derived.Test.YtbcdkfolmncjlaaJFRunG
import Derived.RangeFuncBox
/-
  CONTRACTS: the program's Builtin; the document's Same of two lists of attributes.
-/
namespace Go.Proofs.Ytbcdkfolmncjlaa
open Go.RowKit

/-- the seven that are built in -/
def builtL : List Att := [⟨1, ⟨#[100, 98, 47, 110, 97, 109, 101]⟩, 7, false, 2, false, false⟩, ⟨2, ⟨#[100, 98, 47, 116, 121, 112, 101]⟩, 1, false, 0, false, false⟩, ⟨3, ⟨#[100, 98, 47, 109, 97, 110, 121]⟩, 2, false, 0, false, false⟩, ⟨4, ⟨#[100, 98, 47, 117, 110, 105, 113, 117, 101]⟩, 1, false, 0, false, false⟩, ⟨5, ⟨#[100, 98, 47, 112, 97, 114, 116]⟩, 2, false, 0, false, false⟩, ⟨6, ⟨#[100, 98, 47, 105, 110, 100, 101, 120]⟩, 2, false, 0, false, false⟩, ⟨7, ⟨#[100, 98, 47, 100, 111, 99]⟩, 3, false, 0, false, false⟩]
theorem built_ok : ∀ a ∈ builtL, AttOk a := by
  intro a ha
  simp [builtL] at ha
  rcases ha with rfl | rfl | rfl | rfl | rfl | rfl | rfl <;> exact ⟨by decide, by decide, by decide⟩
set_option maxRecDepth 100000 in
set_option maxHeartbeats 1000000 in
theorem built_any (w : World) : Calls Try.prog 13 #[] w fun e w' => ∃ A c, e = .returned (.slice A builtL.length c) ∧ SlA w' w'.heap.size A builtL ∧ Below w.heap.size w w' := by
  go_enter Try.func13, Try.ntmps13
  go_wp2
  go_ret
  refine ⟨_, _, rfl, fun _ => ⟨w.heap.size, 0, rfl, by simp, fun j v hv => ?_⟩, (Below.refl _ _).alloc (Nat.le_refl _) _⟩
  intro i hi
  have hh := heap_alloc_new w (.cells #[.int .i64 1, .string ⟨#[100, 98, 47, 110, 97, 109, 101]⟩, .int .i64 7, .bool false, .int .i64 2, .bool false, .bool false, .int .i64 2, .string ⟨#[100, 98, 47, 116, 121, 112, 101]⟩, .int .i64 1, .bool false, .int .i64 0, .bool false, .bool false, .int .i64 3, .string ⟨#[100, 98, 47, 109, 97, 110, 121]⟩, .int .i64 2, .bool false, .int .i64 0, .bool false, .bool false, .int .i64 4, .string ⟨#[100, 98, 47, 117, 110, 105, 113, 117, 101]⟩, .int .i64 1, .bool false, .int .i64 0, .bool false, .bool false, .int .i64 5, .string ⟨#[100, 98, 47, 112, 97, 114, 116]⟩, .int .i64 2, .bool false, .int .i64 0, .bool false, .bool false, .int .i64 6, .string ⟨#[100, 98, 47, 105, 110, 100, 101, 120]⟩, .int .i64 2, .bool false, .int .i64 0, .bool false, .bool false, .int .i64 7, .string ⟨#[100, 98, 47, 100, 111, 99]⟩, .int .i64 3, .bool false, .int .i64 0, .bool false, .bool false] 39)
  have hc : ∀ q, (w.alloc (.cells #[.int .i64 1, .string ⟨#[100, 98, 47, 110, 97, 109, 101]⟩, .int .i64 7, .bool false, .int .i64 2, .bool false, .bool false, .int .i64 2, .string ⟨#[100, 98, 47, 116, 121, 112, 101]⟩, .int .i64 1, .bool false, .int .i64 0, .bool false, .bool false, .int .i64 3, .string ⟨#[100, 98, 47, 109, 97, 110, 121]⟩, .int .i64 2, .bool false, .int .i64 0, .bool false, .bool false, .int .i64 4, .string ⟨#[100, 98, 47, 117, 110, 105, 113, 117, 101]⟩, .int .i64 1, .bool false, .int .i64 0, .bool false, .bool false, .int .i64 5, .string ⟨#[100, 98, 47, 112, 97, 114, 116]⟩, .int .i64 2, .bool false, .int .i64 0, .bool false, .bool false, .int .i64 6, .string ⟨#[100, 98, 47, 105, 110, 100, 101, 120]⟩, .int .i64 2, .bool false, .int .i64 0, .bool false, .bool false, .int .i64 7, .string ⟨#[100, 98, 47, 100, 111, 99]⟩, .int .i64 3, .bool false, .int .i64 0, .bool false, .bool false] 39)).cell? ⟨w.heap.size, q, none⟩ = (#[.int .i64 1, .string ⟨#[100, 98, 47, 110, 97, 109, 101]⟩, .int .i64 7, .bool false, .int .i64 2, .bool false, .bool false, .int .i64 2, .string ⟨#[100, 98, 47, 116, 121, 112, 101]⟩, .int .i64 1, .bool false, .int .i64 0, .bool false, .bool false, .int .i64 3, .string ⟨#[100, 98, 47, 109, 97, 110, 121]⟩, .int .i64 2, .bool false, .int .i64 0, .bool false, .bool false, .int .i64 4, .string ⟨#[100, 98, 47, 117, 110, 105, 113, 117, 101]⟩, .int .i64 1, .bool false, .int .i64 0, .bool false, .bool false, .int .i64 5, .string ⟨#[100, 98, 47, 112, 97, 114, 116]⟩, .int .i64 2, .bool false, .int .i64 0, .bool false, .bool false, .int .i64 6, .string ⟨#[100, 98, 47, 105, 110, 100, 101, 120]⟩, .int .i64 2, .bool false, .int .i64 0, .bool false, .bool false, .int .i64 7, .string ⟨#[100, 98, 47, 100, 111, 99]⟩, .int .i64 3, .bool false, .int .i64 0, .bool false, .bool false] : Array Value)[q]? := fun q => by unfold World.cell?; rw [hh]; rfl
  have hj : j < 7 := (List.getElem?_eq_some_iff.1 hv).1
  refine (hc _).trans ?_
  have hd : ∀ j : Fin 7, ∀ i : Fin 7, (#[.int .i64 1, .string ⟨#[100, 98, 47, 110, 97, 109, 101]⟩, .int .i64 7, .bool false, .int .i64 2, .bool false, .bool false, .int .i64 2, .string ⟨#[100, 98, 47, 116, 121, 112, 101]⟩, .int .i64 1, .bool false, .int .i64 0, .bool false, .bool false, .int .i64 3, .string ⟨#[100, 98, 47, 109, 97, 110, 121]⟩, .int .i64 2, .bool false, .int .i64 0, .bool false, .bool false, .int .i64 4, .string ⟨#[100, 98, 47, 117, 110, 105, 113, 117, 101]⟩, .int .i64 1, .bool false, .int .i64 0, .bool false, .bool false, .int .i64 5, .string ⟨#[100, 98, 47, 112, 97, 114, 116]⟩, .int .i64 2, .bool false, .int .i64 0, .bool false, .bool false, .int .i64 6, .string ⟨#[100, 98, 47, 105, 110, 100, 101, 120]⟩, .int .i64 2, .bool false, .int .i64 0, .bool false, .bool false, .int .i64 7, .string ⟨#[100, 98, 47, 100, 111, 99]⟩, .int .i64 3, .bool false, .int .i64 0, .bool false, .bool false] : Array Value)[0 + j.val * 7 + i.val]? = (cellsA (builtL.getD j.val zA))[i.val]? := by
    intro j i
    match j, i with
    | 0, 0 | 0, 1 | 0, 2 | 0, 3 | 0, 4 | 0, 5 | 0, 6 => rfl
    | 1, 0 | 1, 1 | 1, 2 | 1, 3 | 1, 4 | 1, 5 | 1, 6 => rfl
    | 2, 0 | 2, 1 | 2, 2 | 2, 3 | 2, 4 | 2, 5 | 2, 6 => rfl
    | 3, 0 | 3, 1 | 3, 2 | 3, 3 | 3, 4 | 3, 5 | 3, 6 => rfl
    | 4, 0 | 4, 1 | 4, 2 | 4, 3 | 4, 4 | 4, 5 | 4, 6 => rfl
    | 5, 0 | 5, 1 | 5, 2 | 5, 3 | 5, 4 | 5, 5 | 5, 6 => rfl
    | 6, 0 | 6, 1 | 6, 2 | 6, 3 | 6, 4 | 6, 5 | 6, 6 => rfl
  have := hd ⟨j, hj⟩ ⟨i, hi⟩
  have he : builtL.getD j zA = v := by rw [List.getD, hv]; rfl
  rw [he] at this
  exact this
end Go.Proofs.Ytbcdkfolmncjlaa

/-
  CONTRACT: the document's Builtin.
-/
namespace Go.Proofs.Ytbcdkfolmncjlaa
open Go.RowKit

theorem infoA : (Try.prog.info? 39).map (fun i => (i.zero, i.size, i.bytes)) = some (some (.agg #[.int .i64 0, .string ⟨#[]⟩, .int .i64 0, .bool false, .int .i64 0, .bool false, .bool false]), 7, 56) := by kernel_rfl
/-- the names and types, in their blocks -/
def NtAt (W : World) (b1 b2 : Nat) : Prop := (∀ (j : Nat) (v : Value), (#[.string ⟨#[110, 97, 109, 101]⟩, .string ⟨#[116, 121, 112, 101]⟩, .string ⟨#[109, 97, 110, 121]⟩, .string ⟨#[117, 110, 105, 113, 117, 101]⟩, .string ⟨#[112, 97, 114, 116]⟩, .string ⟨#[105, 110, 100, 101, 120]⟩, .string ⟨#[100, 111, 99]⟩] : Array Value)[j]? = some v → W.cell? ⟨b1, j, none⟩ = some v) ∧ (∀ (j : Nat) (v : Value), (#[.int .i64 7, .int .i64 1, .int .i64 2, .int .i64 1, .int .i64 2, .int .i64 2, .int .i64 3] : Array Value)[j]? = some v → W.cell? ⟨b2, j, none⟩ = some v)
theorem NtAt.next {W W' : World} {b1 b2 B : Nat} (h : NtAt W b1 b2) (hb : Below B W W') (h1 : b1 < B) (h2 : b2 < B) : NtAt W' b1 b2 :=
  ⟨fun j v hv => (hb.cell (p := ⟨b1, j, none⟩) h1).trans (h.1 j v hv), fun j v hv => (hb.cell (p := ⟨b2, j, none⟩) h2).trans (h.2 j v hv)⟩
def OwnA (W : World) (B : Nat) (v : Value) (l : List Att) : Prop := W.ownsRow B 39 7 v l.length (l.flatMap cellsA)

theorem cellsA_one (a : Att) : ∀ u ∈ cellsA a, u.oneCell' = true := by
  intro u hu
  simp [cellsA] at hu
  rcases hu with rfl | rfl | rfl | rfl | rfl | rfl | rfl <;> rfl
theorem OwnA.next {W W' : World} {B : Nat} {v : Value} {l : List Att} (h : OwnA W B v l) (hb : Below W.heap.size W W') : OwnA W' B v l := by
  refine ⟨h.1, ?_⟩
  rcases h.2 with h | ⟨g, cap, cur, h1, h2, h3, h4⟩
  · exact .inl h
  · exact .inr ⟨g, cap, cur, h1, h2, (hb.block g (Array.getElem?_eq_some_iff.1 h3).1).trans h3, h4⟩
theorem litA (w3 : World) (x : Att) (j : Nat) (u : Value) (hu : (cellsA x)[j]? = some u) :
    (w3.alloc (.cells #[.int .i64 x.id, .string x.nm, .int .i64 x.ty, .bool x.many, .int .i64 x.un, .bool x.part, .bool x.ix] 39)).cell? ((⟨w3.heap.size, 0, none⟩ : Addr).add j) = some u := by
  have e : (⟨w3.heap.size, 0, none⟩ : Addr).add j = ⟨w3.heap.size, j, none⟩ := by unfold Addr.add; split <;> simp_all
  rw [e, World.cell?_alloc_new]
  simpa [cellsA] using hu

end Go.Proofs.Ytbcdkfolmncjlaa

/-
  CONTRACT of the document's own answer: Set.
-/
namespace Go.Proofs.Ytbcdkfolmncjlaa
open Go.RowKit

set_option maxRecDepth 100000 in
set_option maxHeartbeats 400000 in
theorem refSet_big (A : Option Addr) (c : Nat) (l : List Sp) (w : World) (B : Nat) (hs : SlS w B A l) (hl : l.length ≤ 9223372036854775807) :
    Calls Try.prog 15 #[.slice A l.length c] w fun e w' => e = .returned (.bool (setB l)) ∧ ∃ n, w' = w.drewN n := by
  go_enter Try.func15, Try.ntmps15
  go_wp2
  go_loopw [3] (fun i wr => ∃ j n : Nat, j ≤ l.length ∧ i = .int .i64 j ∧ wr = w.drewN n ∧ Hid (∀ k, k < j → OkAt l k)) (fun i _ => l.length - (intOf i).toNat)
  case atStart => exact ⟨0, 0, by omega, rfl, rfl, fun k hk => by omega⟩
  case round =>
    obtain ⟨j, n, hj, rfl, rfl, HO⟩ := hrel
    by_cases h1 : j < l.length
    · have hji : (j : Int) < (l.length : Int) := by omega
      obtain ⟨b, o, rfl, _, hp⟩ := hs.at_ h1
      obtain ⟨⟨x, y⟩, hpe⟩ : ∃ p, l[j] = p := ⟨_, rfl⟩
      have HG : Hid (l[j]? = some (x, y)) := by show _ = _; rw [List.getElem?_eq_getElem h1, hpe]
      rw [hpe] at hp
      have c0 := hp.c0
      have c1 := hp.c1
      have HS := Lib.hid hs
      clear hp hpe
      by_cases hxy : x < y
      · have hng : ¬ y ≤ x := by omega
        have hdg : decide (y ≤ x) = false := decide_eq_false hng
        cases j with
        | zero =>
          have HY : Hid (∀ i, i < 0 + 1 → OkAt l i) := fun i hi => by
            obtain rfl : i = 0 := by omega
            exact (okAt_first HG.out).2 hxy
          clear hs
          simp only [Nat.zero_mul, Nat.add_zero] at c0 c1
          go_wp2
          go_big_quiet (fail)
          go_wp2
          go_roundw
          case rel => exact ⟨0 + 1, _, by omega, rfl, rfl, HY⟩
          case measure => simp [intOf]; omega
        | succ k =>
          have hkl : k < l.length := by omega
          obtain ⟨b', o', he, _, hq⟩ := hs.at_ hkl
          cases he
          obtain ⟨p, hpe⟩ : ∃ p, l[k] = p := ⟨_, rfl⟩
          have HPG : Hid (l[k]? = some p) := by show _ = _; rw [List.getElem?_eq_getElem hkl, hpe]
          rw [hpe] at hq
          have d1 := hq.c1
          clear hq hs hpe
          have hk0 : (0 : Int) < (k : Int) + 1 := by omega
          have hdk : decide ((0 : Int) < (k : Int) + 1) = true := decide_eq_true hk0
          have hki : (k : Int) < (l.length : Int) := by omega
          have hwr : IntKind.i64.wrap (k : Int) = (k : Int) := by
            rw [IntWalk.i64_in _ (by omega)]
          by_cases hle : x ≤ p.2
          · have hdp : decide (x ≤ p.2) = true := decide_eq_true hle
            have HN := Lib.hid (setB_no (l := l) (i := k + 1) (fun h => by have := ((okAt_next (by omega) HG.out HPG.out).1 h).2; simp only at this; omega))
            go_wp2
            go_big_quiet (fail)
            go_wp2
            go_ret
            exact ⟨by rw [HN.out]; rfl, _, World.drewN_drewN _ _ _⟩
          · have hdp : decide (x ≤ p.2) = false := decide_eq_false hle
            have HY : Hid (∀ i, i < k + 1 + 1 → OkAt l i) := fun i hi => by
              rcases Nat.lt_succ_iff_lt_or_eq.1 hi with h | rfl
              · exact HO.out i h
              · exact (okAt_next (by omega) HG.out HPG.out).2 ⟨hxy, by simp only; omega⟩
            go_wp2
            go_big_quiet (fail)
            go_wp2
            go_roundw
            case rel => exact ⟨k + 1 + 1, _, by omega, by go_num, rfl, HY⟩
            case measure => simp [intOf]; omega
      · have hng : y ≤ x := by omega
        have hdg : decide (y ≤ x) = true := decide_eq_true hng
        have HN := Lib.hid (setB_no (l := l) (i := j) (fun h => hxy ((h _ HG.out).1)))
        clear hs
        go_wp2
        go_big_quiet (fail)
        go_wp2
        go_ret
        exact ⟨by rw [HN.out]; rfl, _, World.drewN_drewN _ _ _⟩
    · have hji : ¬ (j : Int) < (l.length : Int) := by omega
      have HV := Lib.hid (setB_all (l := l) (fun i hi => HO.out i (by omega)))
      go_wp2
      go_ret
      exact ⟨by rw [HV.out]; rfl, n, rfl⟩
theorem refSet_any (A : Option Addr) (c : Nat) (l : List Sp) (w : World) (B : Nat) (hs : SlS w B A l) (hl : l.length ≤ 1048576) :
    Calls Try.prog 15 #[.slice A l.length c] w fun e w' => e = .returned (.bool (setB l)) ∧ ∃ n, w' = w.drewN n := refSet_big A c l w B hs (by omega)
end Go.Proofs.Ytbcdkfolmncjlaa

/-
  CONTRACT of the document's own answer: Of (facts' attributes), given the contract of its Made.
-/
namespace Go.Proofs.Ytbcdkfolmncjlaa
open Go.RowKit Go.Shelf

theorem docFrom_snoc (all : List FactP) (f : FactP) : ∀ (l : List FactP) (p : Option Int), docFrom all p (l ++ [f]) = docFrom all p l ++ (if (match l.getLast? with | some g => some g.e | none => p) = some f.e then [] else (docL f.e all).toList)
  | [], p => by
    show (if p = some f.e then [] else (docL f.e all).toList) ++ [] = [] ++ (if p = some f.e then [] else (docL f.e all).toList)
    rw [List.append_nil, List.nil_append]
  | g :: l, p => by
    show (if p = some g.e then [] else (docL g.e all).toList) ++ docFrom all (some g.e) (l ++ [f]) = ((if p = some g.e then [] else (docL g.e all).toList) ++ docFrom all (some g.e) l) ++ _
    rw [docFrom_snoc all f l (some g.e), ← List.append_assoc]
    congr 1
    cases l with
    | nil => rfl
    | cons x l =>
      rw [List.getLast?_cons_cons]
      obtain ⟨z, hz⟩ : ∃ z, (x :: l).getLast? = some z := Option.isSome_iff_exists.1 (by simp)
      rw [hz]
theorem docFrom_zero {all fs : List FactP} {f : FactP} (h : fs[0]? = some f) : docFrom all none (fs.take (0 + 1)) = docFrom all none (fs.take 0) ++ (docL f.e all).toList := by
  rw [List.take_add_one, h, Option.toList_some, docFrom_snoc, List.take_zero]
  rfl
theorem docFrom_succ {all fs : List FactP} {f g : FactP} {j : Nat} (hg : fs[j]? = some g) (h : fs[j + 1]? = some f) : docFrom all none (fs.take (j + 1 + 1)) = docFrom all none (fs.take (j + 1)) ++ (if g.e = f.e then [] else (docL f.e all).toList) := by
  have hl : (fs.take (j + 1)).getLast? = some g := by
    rw [List.take_add_one, hg, Option.toList_some, List.getLast?_append]
    rfl
  rw [List.take_add_one (i := j + 1), h, Option.toList_some, docFrom_snoc, hl]
  congr 1
  by_cases he : g.e = f.e
  · rw [if_pos he, if_pos (show (some g.e : Option Int) = some f.e by rw [he])]
  · rw [if_neg he, if_neg (show ¬ (some g.e : Option Int) = some f.e from fun h => by injection h with h; exact he h)]
/-- no name stands twice -/
def oneName (l : List Att) : Prop := (l.map (·.nm)).Nodup
instance (l : List Att) : Decidable (oneName l) := inferInstanceAs (Decidable (l.map (·.nm)).Nodup)
theorem two_no {l : List Att} {i k : Nat} {x y : Att} (hi : l[i]? = some x) (hk : l[k]? = some y) (hki : k < i) (h : x.nm = y.nm) : ¬ oneName l := fun hn => by
  obtain ⟨hi1, rfl⟩ := List.getElem?_eq_some_iff.1 hi
  obtain ⟨hk1, rfl⟩ := List.getElem?_eq_some_iff.1 hk
  have := List.pairwise_iff_getElem.1 hn k i (by simpa using hk1) (by simpa using hi1) hki
  simp at this
  exact this h.symm
theorem one_yes {l : List Att} (h : ∀ (i : Nat) (x : Att), l[i]? = some x → ∀ (k : Nat) (y : Att), k < i → l[k]? = some y → x.nm ≠ y.nm) : oneName l := by
  show (l.map (·.nm)).Pairwise _
  rw [List.pairwise_iff_getElem]
  intro k i hk hi hki
  rw [List.length_map] at hk hi
  have := h i _ (List.getElem?_eq_getElem hi) k _ hki (List.getElem?_eq_getElem hk)
  simp
  exact fun he => this he.symm
theorem flatA {l : List Att} {j i : Nat} (hi : i < 7) : (l.flatMap cellsA)[j * 7 + i]? = l[j]?.bind fun x => (cellsA x)[i]? := flatG (enc := cellsA) (k := 7) (fun _ => rfl) hi
theorem OwnA.form {W : World} {B : Nat} {v : Value} {l : List Att} (h : OwnA W B v l) : ∃ A c, v = .slice A l.length c ∧ SlA W W.heap.size A l ∧ l.length ≤ c ∧ c ≤ maxLen := by
  rcases h.2 with ⟨rfl, h0⟩ | ⟨g, cap, cur, rfl, _, hgb, h1, h2, _⟩
  · exact ⟨none, 0, by rw [h0], fun hl => absurd (List.length_eq_zero_iff.1 h0) hl, by omega, Nat.zero_le _⟩
  · refine ⟨_, _, rfl, fun _ => ⟨g, 0, rfl, (Array.getElem?_eq_some_iff.1 hgb).1, fun j p hp => ?_⟩, h1, h2⟩
    have hr : W.ownsRow B 39 7 (.slice (some ⟨g, 0, none⟩) l.length cap) l.length (l.flatMap cellsA) := h
    have hj : j < l.length := (List.getElem?_eq_some_iff.1 hp).1
    have hc : ∀ i, i < 7 → W.cell? ⟨g, j * 7 + i, none⟩ = (cellsA p)[i]? := fun i hi => by
      rw [hr.cellAt (j * 7 + i) (by omega), flatA hi, hp]; rfl
    rw [Nat.zero_add]
    exact hc
/-- the attributes of facts -/
def attsL (fs : List FactP) : List Att := builtL ++ docFrom fs none fs
def attsE (fs : List FactP) : Int := if mayFs fs then (if oneName (attsL fs) then 0 else 70) else 60
theorem docFrom_len (all : List FactP) : ∀ (l : List FactP) (p : Option Int), (docFrom all p l).length ≤ l.length
  | [], _ => Nat.le_refl _
  | f :: l, p => by
    show ((if p = some f.e then [] else (docL f.e all).toList) ++ docFrom all (some f.e) l).length ≤ l.length + 1
    rw [List.length_append]
    have := docFrom_len all l (some f.e)
    have h2 : (if p = some f.e then [] else (docL f.e all).toList).length ≤ 1 := by
      split
      · exact Nat.zero_le _
      · cases docL f.e all <;> simp
    omega
/-- what Of answers -/
def OfEnd (W : World) (B : Nat) (fs : List FactP) (v : Value) (ec : Int) : Prop := ec = attsE fs ∧ if attsE fs = 0 then OwnA W B v (attsL fs) else v = .slice none 0 0
theorem ofEnd_no {W : World} {B : Nat} {fs : List FactP} {ec : Int} (h : attsE fs = ec) (h0 : ec ≠ 0) : OfEnd W B fs (.slice none 0 0) ec := ⟨h.symm, by rw [if_neg (by rw [h]; exact h0)]⟩
theorem ofEnd_yes {W : World} {B : Nat} {fs : List FactP} {v : Value} (h : attsE fs = 0) (ho : OwnA W B v (attsL fs)) : OfEnd W B fs v 0 := ⟨h.symm, by rw [if_pos h]; exact ho⟩
end Go.Proofs.Ytbcdkfolmncjlaa

/-
  THE LAW SchemaMakes, given the contracts of the program's Of and of the document's Made.
-/
namespace Go.Proofs.Ytbcdkfolmncjlaa
open Go.RowKit Go.Shelf

theorem eqAtt (a : Att) (w : World) : (binOp .eql 39 (attV a) (attV a)).run Try.prog w = .ok (.bool true) w := by
  have u3 := Try.underlying3
  have u2 := Try.underlying2
  have u9 := Try.underlying9
  have u4 := Try.underlying4
  have a3 := Try.isAgg3
  have a2 := Try.isAgg2
  have a9 := Try.isAgg9
  have a4 := Try.isAgg4
  have hS : Try.prog.underlying 39 = some (.struct (Try.prog.fieldsOf 39)) := by kernel_rfl
  have hp : Try.prog.stoodInHeld 39 = false := by kernel_rfl
  unfold attV
  rw [run_eql_struct, show (10000 : Nat) = 9999 + 1 from rfl, run_equalIn_agg w 9999 39 _ _ hS hp]
  simp only [Program.fieldsOf, Try.underlying39]
  go_simp
/-- the attributes that Of gives -/
def resL (fs : List FactP) : List Att := if attsE fs = 0 then attsL fs else []
/-- what either Of gives -/
def OfR (w : World) (fs : List FactP) : Ending → World → Prop := fun r w' => (∃ A c, r = .returned (.tuple #[.slice A (resL fs).length c, .int .i64 (attsE fs)]) ∧ SlA w' w'.heap.size A (resL fs)) ∧ Below w.heap.size w w'
theorem resL_len (fs : List FactP) : (resL fs).length ≤ 7 + fs.length := by
  unfold resL
  split
  · unfold attsL
    rw [List.length_append]
    have := docFrom_len fs fs none
    simp only [builtL, List.length_cons, List.length_nil]
    omega
  · exact Nat.zero_le _
theorem ofEnd_r {W : World} {B : Nat} {fs : List FactP} {v : Value} {ec : Int} (h : OfEnd W B fs v ec) : ec = attsE fs ∧ ∃ A c, v = .slice A (resL fs).length c ∧ SlA W W.heap.size A (resL fs) := by
  refine ⟨h.1, ?_⟩
  have h2 := h.2
  unfold resL
  split
  · rename_i h0
    rw [if_pos h0] at h2
    obtain ⟨A, c, e, hs, _⟩ := h2.form
    exact ⟨A, c, e, hs⟩
  · rename_i h0
    rw [if_neg h0] at h2
    exact ⟨none, 0, h2, fun hl => absurd rfl hl⟩
theorem fva_spans {W : World} {A : Option Addr} {c : Nat} {fs : List FactP} (h : FVa W (.slice A fs.length c) fs) {f : FactP} (hf : f ∈ fs) : f.l.length ≤ 9223372036854775807 := by
  obtain ⟨j, hj, rfl⟩ := List.mem_iff_getElem.1 hf
  obtain ⟨_, _, _, _, _, _, A2, c2, _, _, h1, h2⟩ := fva_at h hj
  have : maxLen = 9223372036854775807 := rfl
  omega
/-- what the law asks of its facts -/
structure MkA (w : World) (A : Option Addr) (c : Nat) (fs : List FactP) : Prop where
  f : FVa w (.slice A fs.length c) fs
  u : fs.length ≤ 1954687338268
  z : ∀ f ∈ fs, f.s.size ≤ maxLen
end Go.Proofs.Ytbcdkfolmncjlaa
