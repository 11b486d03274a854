import Derived.Test.YtbcdkfolmncjlaaJLeaf
import Derived.Test.YtbcdkfolmncjlaaJOParts
import Derived.Test.YtbcdkfolmncjlaaJORdRead
import Derived.Shelf.SlSortCmp.WholeK
import Derived.Deep.QuietTactic
import Derived.BigQuiet
import Derived.Deep.Draws
import Derived.Test.YtbcdkfolmncjlaaJOEnd
/-
  PLAIN FACTS: Read of a key; Key of what is read.
-/
namespace Go.Proofs.Ytbcdkfolmncjlaa
open Go.RowKit Go.Shelf

def lastT (ks : List Bool) (b : List UInt8) : List UInt8 := ((tellL ks b).getLast?.map (·.2)).getD b
theorem lastT_nil (b : List UInt8) : lastT [] b = b := rfl
theorem lastT_cons {v : Bool} {ks : List Bool} {b t : List UInt8} {p : PartP} (h : partR v b = some (p, t)) : lastT (v :: ks) b = lastT ks t := by
  unfold lastT
  rw [tellL, h]
  simp only [List.getLast?_cons]
  cases (tellL ks t).getLast? <;> rfl
theorem readL_is (ks : List Bool) (b : List UInt8) : readL ks b = if (tellL ks b).length = ks.length ∧ lastT ks b = [] then some ((tellL ks b).map (·.1)) else none := rfl
theorem tell_key : ∀ (l : List PartP), l.all partMay = true → (∀ p ∈ l, partOk p) → ∀ t, (tellL (l.map (·.v)) (keyB l ++ t)).map (·.1) = l.map cleanP ∧ lastT (l.map (·.v)) (keyB l ++ t) = t
  | [], _, _, t => ⟨rfl, rfl⟩
  | p :: l, hm, hk, t => by
    rw [List.all_cons, Bool.and_eq_true] at hm
    obtain ⟨h1, h2⟩ := tell_key l hm.2 (fun q hq => hk q (by simp [hq])) t
    have hp := partR_partB hm.1 (hk p (by simp)) (keyB l ++ t)
    have e : keyB (p :: l) ++ t = partB p ++ (keyB l ++ t) := by unfold keyB; rw [List.flatMap_cons, List.append_assoc]
    rw [e, List.map_cons, lastT_cons hp]
    refine ⟨?_, h2⟩
    rw [tellL, hp]
    simp only [List.map_cons, h1]
theorem read_key {l : List PartP} (hm : l.all partMay = true) (hk : ∀ p ∈ l, partOk p) : readL (l.map (·.v)) (keyB l) = some (l.map cleanP) := by
  obtain ⟨h1, h2⟩ := tell_key l hm hk []
  rw [List.append_nil] at h1 h2
  have h3 := congrArg List.length h1
  rw [List.length_map, List.length_map] at h3
  rw [readL_is, if_pos ⟨by rw [h3, List.length_map], h2⟩, h1]
theorem key_tell : ∀ (ks : List Bool) (b : List UInt8), b = keyB ((tellL ks b).map (·.1)) ++ lastT ks b ∧ ((tellL ks b).map (·.1)).all partMay = true ∧ (∀ p ∈ (tellL ks b).map (·.1), partOk p) ∧ costP ((tellL ks b).map (·.1)) + (lastT ks b).length ≤ 10 * ks.length + b.length
  | [], b => ⟨rfl, rfl, fun _ h => (by cases h), by show costP [] + b.length ≤ _; simp [costP]⟩
  | v :: ks, b => by
    cases hp : partR v b with
    | none =>
      have e : tellL (v :: ks) b = [] := by rw [tellL, hp]
      have e2 : lastT (v :: ks) b = b := by unfold lastT; rw [e]; rfl
      rw [e, e2]
      exact ⟨rfl, rfl, fun _ h => (by cases h), by show costP [] + b.length ≤ _; simp [costP]⟩
    | some x =>
      obtain ⟨p, t⟩ := x
      obtain ⟨h1, h2, h3, h4⟩ := key_tell ks t
      obtain ⟨g1, g2, g3⟩ := partB_partR hp
      have g4 := partR_size hp
      have e : tellL (v :: ks) b = (p, t) :: tellL ks t := by rw [tellL, hp]
      rw [e, lastT_cons hp, List.map_cons]
      have e3 : costP (p :: (tellL ks t).map (·.1)) = 10 + p.s.size + costP ((tellL ks t).map (·.1)) := by unfold costP; rw [List.map_cons, List.sum_cons]
      have e4 : b.length = (partB p).length + t.length := by rw [g1, List.length_append]
      refine ⟨?_, ?_, ?_, ?_⟩
      · have e5 : keyB (p :: (tellL ks t).map (·.1)) = partB p ++ keyB ((tellL ks t).map (·.1)) := by unfold keyB; rw [List.flatMap_cons]
        show b = keyB (p :: (tellL ks t).map (·.1)) ++ _
        rw [e5, List.append_assoc, ← h1]
        exact g1
      · rw [List.all_cons, Bool.and_eq_true]; exact ⟨g2, h2⟩
      · intro q hq
        rcases List.mem_cons.1 hq with rfl | hq
        · exact g3
        · exact h3 q hq
      · show costP (p :: (tellL ks t).map (·.1)) + _ ≤ _
        rw [e3, List.length_cons, e4]
        omega
theorem key_read {ks : List Bool} {b : List UInt8} {ps : List PartP} (h : readL ks b = some ps) : keyB ps = b ∧ ps.all partMay = true ∧ (∀ p ∈ ps, partOk p) ∧ costP ps ≤ 10 * ks.length + b.length := by
  rw [readL_is] at h
  split at h
  · rename_i hc
    cases h
    obtain ⟨h1, h2, h3, h4⟩ := key_tell ks b
    rw [hc.2, List.append_nil] at h1
    exact ⟨h1.symm, h2, h3, by omega⟩
  · cases h
end Go.Proofs.Ytbcdkfolmncjlaa

/-
  PLAIN FACTS on datoms: their parts in an order, their keys, how two stand.
-/
namespace Go.Proofs.Ytbcdkfolmncjlaa

structure Dat where
  e : Int
  a : Int
  k : Int
  m : Int
  s : ByteArray
  t : Int
  add : Bool
  fr : Int
  til : Int
def plE (o : Int) : Nat := if o = 1 then 0 else if o = 2 then 1 else 2
def plA (o : Int) : Nat := if o = 1 ∨ o = 4 then 1 else 0
def plV (o : Int) : Nat := if o = 1 ∨ o = 2 then 2 else if o = 3 then 1 else 0
def isO (o : Int) : Bool := decide (1 ≤ o ∧ o ≤ 4)
def numP (n : Int) : PartP := ⟨false, n, 0, 0, ⟨#[]⟩⟩
def valP (d : Dat) : PartP := ⟨true, 0, d.k, d.m, d.s⟩
def cutN (b : Bool) : Int := if b then 0 else 1
/-- what a datom has at a place -/
def partD (o : Int) (d : Dat) (i : Nat) : PartP :=
  if i = plE o then numP d.e else if i = plA o then numP d.a else if i = plV o then valP d else if i = 3 then numP d.t else if i = 4 then numP (cutN d.add) else if i = 5 then numP d.fr else numP d.til
def partsD (o : Int) (d : Dat) : List PartP := (List.range 7).map (partD o d)
def kindsD (o : Int) : List Bool := (List.range 7).map fun i => decide (i = plV o)
def entB (n : Int) : Bool := decide (0 ≤ n ∧ n < 9007199254740992)
def mayD (d : Dat) : Bool := entB d.e && entB d.a && mayB d.k d.m d.s && decide (1 ≤ d.t ∧ d.t ≤ 1099511627776) && decide (d.fr < d.til)
def hasD (o : Int) (d : Dat) : Bool := decide (1 ≤ o ∧ o ≤ 3 ∨ o = 4 ∧ d.k = 5)
def ordD (o : Int) (d d' : Dat) : Int := if isO o = true then ordK (partsD o d) (partsD o d') else 0
def keyD (o : Int) (d : Dat) : List UInt8 := keyB (partsD o d)
/-- has an order a datom that may be? -/
def fitD (o : Int) (d : Dat) : Bool := mayD d && hasD o d
def i64B (n : Int) : Prop := -9223372036854775808 ≤ n ∧ n ≤ 9223372036854775807
structure DatOk (d : Dat) : Prop where
  e : i64B d.e
  a : i64B d.a
  k : i64B d.k
  m : i64B d.m
  t : i64B d.t
  fr : i64B d.fr
  til : i64B d.til

theorem isO_cases {o : Int} (h : isO o = true) : o = 1 ∨ o = 2 ∨ o = 3 ∨ o = 4 := by
  unfold isO at h
  rw [decide_eq_true_eq] at h
  omega
theorem isO_no {o : Int} (h : isO o = false) (d : Dat) : hasD o d = false := by
  unfold isO at h
  unfold hasD
  rw [decide_eq_false_iff_not] at h ⊢
  omega
theorem partsD_1 (d : Dat) : partsD 1 d = [numP d.e, numP d.a, valP d, numP d.t, numP (cutN d.add), numP d.fr, numP d.til] := rfl
theorem partsD_2 (d : Dat) : partsD 2 d = [numP d.a, numP d.e, valP d, numP d.t, numP (cutN d.add), numP d.fr, numP d.til] := rfl
theorem partsD_3 (d : Dat) : partsD 3 d = [numP d.a, valP d, numP d.e, numP d.t, numP (cutN d.add), numP d.fr, numP d.til] := rfl
theorem partsD_4 (d : Dat) : partsD 4 d = [valP d, numP d.a, numP d.e, numP d.t, numP (cutN d.add), numP d.fr, numP d.til] := rfl
theorem partsD_len (o : Int) (d : Dat) : (partsD o d).length = 7 := by unfold partsD; simp
theorem kindsD_len (o : Int) : (kindsD o).length = 7 := by unfold kindsD; simp
theorem partsD_kinds {o : Int} (h : isO o = true) (d : Dat) : (partsD o d).map (·.v) = kindsD o := by
  rcases isO_cases h with rfl | rfl | rfl | rfl <;> rfl
theorem partsD_at (o : Int) (d : Dat) (i : Nat) (h : i < 7) : (partsD o d)[i]? = some (partD o d i) := by
  unfold partsD
  rw [List.getElem?_map, List.getElem?_range h]; rfl
theorem partD_cases (o : Int) (d : Dat) (i : Nat) : (∃ n, partD o d i = numP n ∧ (DatOk d → i64B n)) ∨ partD o d i = valP d := by
  unfold partD
  repeat' split
  · exact .inl ⟨_, rfl, fun h => h.e⟩
  · exact .inl ⟨_, rfl, fun h => h.a⟩
  · exact .inr rfl
  · exact .inl ⟨_, rfl, fun h => h.t⟩
  · refine .inl ⟨_, rfl, fun _ => ?_⟩
    unfold i64B cutN
    split <;> omega
  · exact .inl ⟨_, rfl, fun h => h.fr⟩
  · exact .inl ⟨_, rfl, fun h => h.til⟩
theorem partsD_mem {o : Int} {d : Dat} {p : PartP} (h : p ∈ partsD o d) : ∃ i, p = partD o d i := by
  unfold partsD at h
  obtain ⟨i, _, rfl⟩ := List.mem_map.1 h
  exact ⟨i, rfl⟩
theorem partsD_ok {o : Int} {d : Dat} (hk : DatOk d) : ∀ p ∈ partsD o d, partOk p := fun p hp => by
  obtain ⟨i, rfl⟩ := partsD_mem hp
  rcases partD_cases o d i with ⟨n, e, h⟩ | e
  · rw [e]; exact ⟨h hk, by show (-9223372036854775808 : Int) ≤ 0 ∧ (0 : Int) ≤ 9223372036854775807; decide⟩
  · rw [e]; exact ⟨by show (-9223372036854775808 : Int) ≤ 0 ∧ (0 : Int) ≤ 9223372036854775807; decide, hk.m⟩
theorem partsD_may {o : Int} {d : Dat} (h : mayB d.k d.m d.s = true) : ∀ p ∈ partsD o d, partMay p = true := fun p hp => by
  obtain ⟨i, rfl⟩ := partsD_mem hp
  rcases partD_cases o d i with ⟨n, e, _⟩ | e
  · rw [e]; rfl
  · rw [e]; exact h
theorem partsD_allMay {o : Int} {d : Dat} (h : mayB d.k d.m d.s = true) : (partsD o d).all partMay = true := List.all_eq_true.2 (partsD_may h)
theorem mayD_val {d : Dat} (h : mayD d = true) : mayB d.k d.m d.s = true := by
  unfold mayD at h
  simp only [Bool.and_eq_true] at h
  exact h.1.1.2
theorem fitD_may {o : Int} {d : Dat} (h : fitD o d = true) : mayD d = true := (Bool.and_eq_true_iff.1 h).1
theorem fitD_isO {o : Int} {d : Dat} (h : fitD o d = true) : isO o = true := by
  cases ho : isO o with
  | true => rfl
  | false =>
    have := (Bool.and_eq_true_iff.1 h).2
    rw [isO_no ho] at this
    cases this
theorem partsD_size {o : Int} {d : Dat} : ∀ p ∈ partsD o d, p.s.size ≤ d.s.size := fun p hp => by
  obtain ⟨i, rfl⟩ := partsD_mem hp
  rcases partD_cases o d i with ⟨n, e, _⟩ | e
  · rw [e]; exact Nat.zero_le _
  · rw [e]; exact Nat.le_refl _
theorem clean_num (n : Int) : cleanP (numP n) = numP n := rfl
theorem clean_val (d : Dat) : cleanP (valP d) = valP d := rfl
theorem partsD_clean (o : Int) (d : Dat) : (partsD o d).map cleanP = partsD o d := by
  refine (List.map_congr_left fun p hp => ?_).trans (List.map_id _)
  obtain ⟨i, rfl⟩ := partsD_mem hp
  rcases partD_cases o d i with ⟨n, e, _⟩ | e
  · rw [e]; rfl
  · rw [e]; rfl
theorem partsD_cost {o : Int} (h : isO o = true) (d : Dat) : costP (partsD o d) = 70 + d.s.size := by
  have e : ∀ n, (numP n).s.size = 0 := fun _ => rfl
  rcases isO_cases h with rfl | rfl | rfl | rfl
  · rw [partsD_1]; unfold costP; simp only [List.map_cons, List.map_nil, List.sum_cons, List.sum_nil, e]; show 10 + 0 + (10 + 0 + (10 + d.s.size + _)) = _; omega
  · rw [partsD_2]; unfold costP; simp only [List.map_cons, List.map_nil, List.sum_cons, List.sum_nil, e]; show 10 + 0 + (10 + 0 + (10 + d.s.size + _)) = _; omega
  · rw [partsD_3]; unfold costP; simp only [List.map_cons, List.map_nil, List.sum_cons, List.sum_nil, e]; show 10 + 0 + (10 + d.s.size + (10 + 0 + _)) = _; omega
  · rw [partsD_4]; unfold costP; simp only [List.map_cons, List.map_nil, List.sum_cons, List.sum_nil, e]; show 10 + d.s.size + (10 + 0 + (10 + 0 + _)) = _; omega

/-- keys stand as datoms do -/
theorem keyD_ord {o : Int} {d d' : Dat} (h : fitD o d = true) (h' : fitD o d' = true) (hk : DatOk d) (hk' : DatOk d') : ordL (keyD o d) (keyD o d') = ordD o d d' := by
  have ho := fitD_isO h
  unfold ordD
  rw [if_pos ho]
  exact key_ord _ _ (by rw [partsD_kinds ho, partsD_kinds ho]) (fun p hp => ⟨partsD_may (mayD_val (fitD_may h)) p hp, partsD_ok hk p hp⟩) (fun p hp => ⟨partsD_may (mayD_val (fitD_may h')) p hp, partsD_ok hk' p hp⟩)

/-- the datom that has parts -/
def datL (o : Int) (l : List PartP) : Dat :=
  ⟨((l[plE o]?).getD (numP 0)).n, ((l[plA o]?).getD (numP 0)).n, ((l[plV o]?).getD (numP 0)).k, ((l[plV o]?).getD (numP 0)).m, ((l[plV o]?).getD (numP 0)).s, ((l[3]?).getD (numP 0)).n, decide (((l[4]?).getD (numP 0)).n = 0), ((l[5]?).getD (numP 0)).n, ((l[6]?).getD (numP 0)).n⟩
def addOk (l : List PartP) : Bool := decide (((l[4]?).getD (numP 0)).n = 0 ∨ ((l[4]?).getD (numP 0)).n = 1)
def readD (o : Int) (b : List UInt8) : Option Dat := match readL (kindsD o) b with
  | none => none
  | some l => if addOk l && fitD o (datL o l) then some (datL o l) else none
theorem datL_parts {o : Int} (h : isO o = true) (d : Dat) : datL o (partsD o d) = d ∧ addOk (partsD o d) = true := by
  obtain ⟨e, a, k, m, s, t, add, fr, til⟩ := d
  rcases isO_cases h with rfl | rfl | rfl | rfl <;> cases add <;> exact ⟨rfl, rfl⟩
/-- Read of Key is the datom. -/
theorem readD_key {o : Int} {d : Dat} (h : fitD o d = true) (hk : DatOk d) : readD o (keyD o d) = some d := by
  have ho := fitD_isO h
  have h1 := read_key (partsD_allMay (o := o) (mayD_val (fitD_may h))) (partsD_ok hk)
  rw [partsD_kinds ho, partsD_clean] at h1
  obtain ⟨h2, h3⟩ := datL_parts ho d
  unfold readD keyD
  rw [h1]
  show (if addOk (partsD o d) && fitD o (datL o (partsD o d)) then some (datL o (partsD o d)) else none) = _
  rw [h2, h3, h]
  rfl

/-- parts that are read are as they are written -/
def CleanL (l : List PartP) : Prop := l.map cleanP = l
theorem num_of_clean {p : PartP} (hc : cleanP p = p) (hv : p.v = false) : p = numP p.n := by
  obtain ⟨v, n, k, m, s⟩ := p
  subst hv
  exact hc.symm
theorem val_of_clean {p : PartP} (hc : cleanP p = p) (hv : p.v = true) : p = ⟨true, 0, p.k, p.m, p.s⟩ := by
  obtain ⟨v, n, k, m, s⟩ := p
  subst hv
  exact hc.symm
theorem list7 {l : List PartP} (h : l.length = 7) : ∃ p0 p1 p2 p3 p4 p5 p6, l = [p0, p1, p2, p3, p4, p5, p6] := by
  match l, h with
  | [p0, p1, p2, p3, p4, p5, p6], _ => exact ⟨_, _, _, _, _, _, _, rfl⟩
theorem cutN_of {n : Int} (h : n = 0 ∨ n = 1) : cutN (decide (n = 0)) = n := by
  rcases h with rfl | rfl <;> rfl
theorem partsD_datL {o : Int} (h : isO o = true) {l : List PartP} (hv : l.map (·.v) = kindsD o) (hc : CleanL l) (ha : addOk l = true) : partsD o (datL o l) = l := by
  have hl : l.length = 7 := by rw [← List.length_map (f := (·.v)), hv, kindsD_len]
  obtain ⟨p0, p1, p2, p3, p4, p5, p6, rfl⟩ := list7 hl
  unfold CleanL at hc
  simp only [List.map_cons, List.map_nil, List.cons.injEq, and_true] at hc
  obtain ⟨c0, c1, c2, c3, c4, c5, c6⟩ := hc
  have ha' : cutN (decide (p4.n = 0)) = p4.n := cutN_of (by unfold addOk at ha; rw [decide_eq_true_eq] at ha; exact ha)
  rcases isO_cases h with rfl | rfl | rfl | rfl
  · have hv' : [p0.v, p1.v, p2.v, p3.v, p4.v, p5.v, p6.v] = [false, false, true, false, false, false, false] := hv
    simp only [List.cons.injEq, and_true] at hv'
    obtain ⟨v0, v1, v2, v3, v4, v5, v6⟩ := hv'
    show [numP p0.n, numP p1.n, ⟨true, 0, p2.k, p2.m, p2.s⟩, numP p3.n, numP (cutN (decide (p4.n = 0))), numP p5.n, numP p6.n] = _
    rw [ha', ← num_of_clean c0 v0, ← num_of_clean c1 v1, ← val_of_clean c2 v2, ← num_of_clean c3 v3, ← num_of_clean c4 v4, ← num_of_clean c5 v5, ← num_of_clean c6 v6]
  · have hv' : [p0.v, p1.v, p2.v, p3.v, p4.v, p5.v, p6.v] = [false, false, true, false, false, false, false] := hv
    simp only [List.cons.injEq, and_true] at hv'
    obtain ⟨v0, v1, v2, v3, v4, v5, v6⟩ := hv'
    show [numP p0.n, numP p1.n, ⟨true, 0, p2.k, p2.m, p2.s⟩, numP p3.n, numP (cutN (decide (p4.n = 0))), numP p5.n, numP p6.n] = _
    rw [ha', ← num_of_clean c0 v0, ← num_of_clean c1 v1, ← val_of_clean c2 v2, ← num_of_clean c3 v3, ← num_of_clean c4 v4, ← num_of_clean c5 v5, ← num_of_clean c6 v6]
  · have hv' : [p0.v, p1.v, p2.v, p3.v, p4.v, p5.v, p6.v] = [false, true, false, false, false, false, false] := hv
    simp only [List.cons.injEq, and_true] at hv'
    obtain ⟨v0, v1, v2, v3, v4, v5, v6⟩ := hv'
    show [numP p0.n, ⟨true, 0, p1.k, p1.m, p1.s⟩, numP p2.n, numP p3.n, numP (cutN (decide (p4.n = 0))), numP p5.n, numP p6.n] = _
    rw [ha', ← num_of_clean c0 v0, ← val_of_clean c1 v1, ← num_of_clean c2 v2, ← num_of_clean c3 v3, ← num_of_clean c4 v4, ← num_of_clean c5 v5, ← num_of_clean c6 v6]
  · have hv' : [p0.v, p1.v, p2.v, p3.v, p4.v, p5.v, p6.v] = [true, false, false, false, false, false, false] := hv
    simp only [List.cons.injEq, and_true] at hv'
    obtain ⟨v0, v1, v2, v3, v4, v5, v6⟩ := hv'
    show [⟨true, 0, p0.k, p0.m, p0.s⟩, numP p1.n, numP p2.n, numP p3.n, numP (cutN (decide (p4.n = 0))), numP p5.n, numP p6.n] = _
    rw [ha', ← val_of_clean c0 v0, ← num_of_clean c1 v1, ← num_of_clean c2 v2, ← num_of_clean c3 v3, ← num_of_clean c4 v4, ← num_of_clean c5 v5, ← num_of_clean c6 v6]
theorem partR_form {v : Bool} {b t : List UInt8} {p : PartP} (h : partR v b = some (p, t)) : p.v = v ∧ cleanP p = p := by
  unfold partR at h
  cases v
  · rw [if_neg (by decide)] at h
    split at h
    · cases h; exact ⟨rfl, rfl⟩
    · cases h
  · rw [if_pos rfl] at h
    cases ho : oneR b with
    | none => rw [ho] at h; cases h
    | some x => rw [ho] at h; cases h; exact ⟨rfl, rfl⟩
theorem tell_form : ∀ (ks : List Bool) (b : List UInt8), (tellL ks b).length = ks.length → ((tellL ks b).map (·.1)).map (·.v) = ks ∧ CleanL ((tellL ks b).map (·.1))
  | [], _, _ => ⟨rfl, rfl⟩
  | v :: ks, b, h => by
    cases hp : partR v b with
    | none =>
      have e : tellL (v :: ks) b = [] := by rw [tellL, hp]
      rw [e] at h
      simp at h
    | some x =>
      obtain ⟨p, t⟩ := x
      have e : tellL (v :: ks) b = (p, t) :: tellL ks t := by rw [tellL, hp]
      rw [e] at h ⊢
      obtain ⟨h1, h2⟩ := tell_form ks t (by simpa using h)
      obtain ⟨g1, g2⟩ := partR_form hp
      unfold CleanL at h2 ⊢
      simp only [List.map_cons, g1, g2]
      exact ⟨by rw [h1], by rw [h2]⟩
theorem readL_form {ks : List Bool} {b : List UInt8} {ps : List PartP} (h : readL ks b = some ps) : ps.map (·.v) = ks ∧ CleanL ps := by
  rw [readL_is] at h
  split at h
  · rename_i hc
    cases h
    exact tell_form ks b hc.1
  · cases h
/-- What the document's Read asks at its end is what this asks. -/
theorem readD_is {o : Int} (h : isO o = true) {b : List UInt8} {l : List PartP} (hr : readL (kindsD o) b = some l) : (fitD o (datL o l) = true ∧ keyD o (datL o l) = b) ↔ (addOk l && fitD o (datL o l)) = true := by
  obtain ⟨h1, h2, h3, h4⟩ := key_read hr
  obtain ⟨h5, h6⟩ := readL_form hr
  rw [Bool.and_eq_true]
  refine ⟨fun ⟨g1, g2⟩ => ⟨?_, g1⟩, fun ⟨g1, g2⟩ => ⟨g2, ?_⟩⟩
  · have hd : DatOk (datL o l) ∨ True := .inr trivial
    clear hd
    have hm := partsD_allMay (o := o) (mayD_val (fitD_may g1))
    have hok : ∀ p ∈ partsD o (datL o l), partOk p := by
      refine partsD_ok ?_
      have hl : l.length = 7 := by rw [← List.length_map (f := (·.v)), h5, kindsD_len]
      have hg : ∀ j, j < 7 → partOk ((l[j]?).getD (numP 0)) := fun j hj => by
        rw [List.getElem?_eq_getElem (by omega)]
        exact h3 _ (List.getElem_mem _)
      have hE : plE o < 7 := by unfold plE; split; · omega
                                split <;> omega
      have hA : plA o < 7 := by unfold plA; split <;> omega
      have hV : plV o < 7 := by unfold plV; split; · omega
                                split <;> omega
      have hk : i64B (datL o l).k := by
        have := mayB_kind (mayD_val (fitD_may g1))
        unfold i64B
        omega
      exact ⟨(hg _ hE).1, (hg _ hA).1, hk, (hg _ hV).2, (hg 3 (by omega)).1, (hg 5 (by omega)).1, (hg 6 (by omega)).1⟩
    have hr2 := read_key hm hok
    rw [partsD_kinds h, partsD_clean] at hr2
    have g3 : keyB (partsD o (datL o l)) = b := g2
    rw [g3, hr] at hr2
    have e := Option.some.inj hr2
    rw [e]
    exact (datL_parts h _).2
  · show keyB (partsD o (datL o l)) = b
    rw [partsD_datL h h5 h6 g1]
    exact h1
theorem readD_no {o : Int} {b : List UInt8} (h : readL (kindsD o) b = none) : readD o b = none := by unfold readD; rw [h]
theorem readD_some {o : Int} {b : List UInt8} {l : List PartP} (h : readL (kindsD o) b = some l) : readD o b = if (addOk l && fitD o (datL o l)) = true then some (datL o l) else none := by unfold readD; rw [h]
/-- What is read may be, and is written as the bytes. -/
theorem readD_back {o : Int} (h : isO o = true) {b : List UInt8} {d : Dat} (hr : readD o b = some d) : fitD o d = true ∧ keyD o d = b ∧ DatOk d ∧ d.s.size ≤ 1000 := by
  cases hl : readL (kindsD o) b with
  | none => rw [readD_no hl] at hr; cases hr
  | some l =>
    rw [readD_some hl] at hr
    split at hr
    · rename_i hc
      cases hr
      obtain ⟨g1, g2⟩ := (readD_is h hl).2 hc
      refine ⟨g1, g2, ?_, mayB_size (mayD_val (fitD_may g1))⟩
      obtain ⟨h1, h2, h3, h4⟩ := key_read hl
      obtain ⟨h5, h6⟩ := readL_form hl
      have hll : l.length = 7 := by rw [← List.length_map (f := (·.v)), h5, kindsD_len]
      have hg : ∀ j, j < 7 → partOk ((l[j]?).getD (numP 0)) := fun j hj => by
        rw [List.getElem?_eq_getElem (by omega)]
        exact h3 _ (List.getElem_mem _)
      have hE : plE o < 7 := by unfold plE; split; · omega
                                split <;> omega
      have hA : plA o < 7 := by unfold plA; split <;> omega
      have hV : plV o < 7 := by unfold plV; split; · omega
                                split <;> omega
      have hk : i64B (datL o l).k := by
        have := mayB_kind (mayD_val (fitD_may g1))
        unfold i64B
        omega
      exact ⟨(hg _ hE).1, (hg _ hA).1, hk, (hg _ hV).2, (hg 3 (by omega)).1, (hg 5 (by omega)).1, (hg 6 (by omega)).1⟩
    · cases hr
end Go.Proofs.Ytbcdkfolmncjlaa

/-
  PLAIN AND WORLD FACTS: slices of structs of any kind, and what a sort leaves.
-/
namespace Go.Proofs.Ytbcdkfolmncjlaa
open Go.RowKit Go.Shelf
open Go.Sort (SWO SortedIn PermIn grow grow_grow alloc_eq_grow putRow mapBlock flatK get_flatK size_flatK HoldsK putRowK holdsK_putRowK)

section
variable {α : Type} [Inhabited α] {enc : α → List Value} {k : Nat}
omit [Inhabited α] in
theorem flatG (hk : ∀ x, (enc x).length = k) {l : List α} {j i : Nat} (hi : i < k) : (l.flatMap enc)[j * k + i]? = l[j]?.bind fun x => (enc x)[i]? := by
  induction l generalizing j with
  | nil => simp
  | cons x l ih =>
    cases j with
    | zero =>
      rw [List.flatMap_cons, Nat.zero_mul, Nat.zero_add, List.getElem?_append_left (by rw [hk]; exact hi)]
      simp
    | succ j =>
      have e : (j + 1) * k + i = k + (j * k + i) := by rw [Nat.succ_mul]; omega
      rw [List.flatMap_cons, e, List.getElem?_append_right (by rw [hk]; omega), hk, Nat.add_sub_cancel_left, ih]
      simp
omit [Inhabited α] in
theorem flatG_len (hk : ∀ x, (enc x).length = k) (l : List α) : (l.flatMap enc).length = l.length * k := by
  induction l with
  | nil => simp
  | cons x l ih => rw [List.flatMap_cons, List.length_append, ih, hk, List.length_cons, Nat.succ_mul]; omega
theorem flatK_atG (hk : ∀ x, (enc x).length = k) (hk0 : 0 < k) (l : List α) (t : Nat) (ht : t < l.length * k) : (flatK enc k l.toArray)[t]! = ((l.flatMap enc)[t]?).getD default := by
  rw [get_flatK _ _ _ _ (by simpa using ht)]
  have e : t = t / k * k + t % k := by rw [Nat.mul_comm]; exact (Nat.div_add_mod t k).symm
  have hm : t % k < k := Nat.mod_lt _ hk0
  have hj : t / k < l.length := Nat.div_lt_of_lt_mul (by rw [Nat.mul_comm]; exact ht)
  have h2 := flatG hk (l := l) (j := t / k) (i := t % k) hm
  rw [← e] at h2
  rw [h2, List.getElem?_eq_getElem hj]
  have h3 : (l.toArray)[t / k]! = l[t / k] := by
    rw [getElem!_pos _ _ (by simpa using hj)]; simp
  rw [h3]
  have h4 : t % k < (enc l[t / k]).length := by rw [hk]; exact hm
  simp only [Option.bind_some]
  rw [List.getElem?_eq_getElem h4, getElem!_pos (enc l[t / k]) (t % k) h4]
  rfl
theorem holds_ownG (hk : ∀ x, (enc x).length = k) (hk0 : 0 < k) {ty : TypeId} {W : World} {B g cap : Nat} {l : List α} (hr : W.ownsRow B ty k (.slice (some ⟨g, 0, none⟩) l.length cap) l.length (l.flatMap enc)) : HoldsK enc k W g 0 l.toArray := fun j hj => by
  have hj2 : j < l.length * k := by rw [size_flatK] at hj; simpa using hj
  have hjl : j < (l.flatMap enc).length := by rw [flatG_len hk]; exact hj2
  rw [Nat.zero_add, hr.cellAt j hj2, flatK_atG hk hk0 l j hj2, List.getElem?_eq_getElem hjl]
  exact ⟨rfl, hr.frozenAt j⟩
theorem cells_holdsG (hk : ∀ x, (enc x).length = k) (hk0 : 0 < k) {W : World} {g : Nat} {d : Array α} (h : HoldsK enc k W g 0 d) {j : Nat} {x : α} (hx : d.toList[j]? = some x) {i : Nat} (hi : i < k) : W.cell? ⟨g, j * k + i, none⟩ = (enc x)[i]? ∧ W.frozen? ⟨g, j * k + i, none⟩ = false := by
  obtain ⟨hj, e⟩ := List.getElem?_eq_some_iff.1 hx
  have hjd : j < d.size := by simpa using hj
  have hb : j * k + i < d.size * k := by
    have h9 : (j + 1) * k ≤ d.size * k := Nat.mul_le_mul_right k hjd
    rw [Nat.succ_mul] at h9
    omega
  have h1 := h (j * k + i) (by rw [size_flatK]; exact hb)
  have h2 := flatK_atG hk hk0 d.toList (j * k + i) (by simpa using hb)
  rw [Array.toArray_toList] at h2
  rw [h2, flatG hk hi, hx, Nat.zero_add] at h1
  have h4 : i < (enc x).length := by rw [hk]; exact hi
  refine ⟨?_, h1.2⟩
  rw [h1.1, Option.bind_some, List.getElem?_eq_getElem h4]
  rfl
theorem sort_belowG {w : World} {n0 blk n : Nat} {d : Array α} {os : Array Obj} (h1 : n0 ≤ blk) (h2 : blk < w.heap.size) : Below n0 w (sortWorldK enc k w blk 0 n d os) := by
  have hsz : (putRowK enc k (Sort.ahead w n) blk 0 d).heap.size = w.heap.size := by simp [putRowK, putRow, mapBlock, Sort.ahead]
  refine ⟨rfl, rfl, rfl, ?_, fun j hj => ?_⟩
  · show w.heap.size ≤ ((putRowK enc k (Sort.ahead w n) blk 0 d).heap ++ os).size
    rw [Array.size_append, hsz]; omega
  · show ((putRowK enc k (Sort.ahead w n) blk 0 d).heap ++ os)[j]? = _
    rw [Array.getElem?_append_left (by rw [hsz]; omega)]
    show (w.heap.modify blk _)[j]? = _
    rw [Array.getElem?_modify, if_neg (by omega)]
theorem sort_holdsG {w : World} {blk n : Nat} {d d' : Array α} {os : Array Obj} (h2 : blk < w.heap.size) (h : HoldsK enc k w blk 0 d) (hs : d'.size = d.size) : HoldsK enc k (sortWorldK enc k w blk 0 n d' os) blk 0 d' := by
  have h3 : HoldsK enc k (putRowK enc k (Sort.ahead w n) blk 0 d') blk 0 d' := holdsK_putRowK enc k (Sort.ahead w n) blk 0 d d' h hs
  have hsz : (putRowK enc k (Sort.ahead w n) blk 0 d').heap.size = w.heap.size := by simp [putRowK, putRow, mapBlock, Sort.ahead]
  have hb : (sortWorldK enc k w blk 0 n d' os).heap[blk]? = (putRowK enc k (Sort.ahead w n) blk 0 d').heap[blk]? := Array.getElem?_append_left (by rw [hsz]; exact h2)
  intro j hj
  have h4 := h3 j hj
  rw [World.cell?_of_block (w := putRowK enc k (Sort.ahead w n) blk 0 d') (a := ⟨blk, 0 + j, none⟩) hb, World.frozen?_of_block (w := putRowK enc k (Sort.ahead w n) blk 0 d') (a := ⟨blk, 0 + j, none⟩) hb]
  exact h4
end
end Go.Proofs.Ytbcdkfolmncjlaa
