import Derived.Test.YthdjlaombbeagaaGreatJLeaf
import Derived.Test.YthdjlaombbeagaaGreatJORdNum
import Derived.Test.YthdjlaombbeagaaGreatJORdRead
/-
  PLAIN FACTS: Read of a key; Key of what is read.
-/
namespace Go.Proofs.YthdjlaombbeagaaGreat
open Go.RowKit Go.Shelf

end Go.Proofs.YthdjlaombbeagaaGreat

/-
  PLAIN FACTS on datoms: their parts in an order, their keys, how two stand.
-/
namespace Go.Proofs.YthdjlaombbeagaaGreat

structure Dat where
  e : Int
  a : Int
  k : Int
  m : Int
  s : ByteArray
  t : Int
  add : Bool
  fr : Int
  til : Int
def plE (o : Int) : Nat := if o = 1 then 0 else if o = 2 then 1 else 2
def plA (o : Int) : Nat := if o = 1 ∨ o = 4 then 1 else 0
def plV (o : Int) : Nat := if o = 1 ∨ o = 2 then 2 else if o = 3 then 1 else 0
def isO (o : Int) : Bool := decide (1 ≤ o ∧ o ≤ 4)
def numP (n : Int) : PartP := ⟨false, n, 0, 0, ⟨#[]⟩⟩
def valP (d : Dat) : PartP := ⟨true, 0, d.k, d.m, d.s⟩
def cutN (b : Bool) : Int := if b then 0 else 1
/-- what a datom has at a place -/
def partD (o : Int) (d : Dat) (i : Nat) : PartP :=
  if i = plE o then numP d.e else if i = plA o then numP d.a else if i = plV o then valP d else if i = 3 then numP d.t else if i = 4 then numP (cutN d.add) else if i = 5 then numP d.fr else numP d.til
def partsD (o : Int) (d : Dat) : List PartP := (List.range 7).map (partD o d)
def entB (n : Int) : Bool := decide (0 ≤ n ∧ n < 9007199254740992)
def mayD (d : Dat) : Bool := entB d.e && entB d.a && mayB d.k d.m d.s && decide (1 ≤ d.t ∧ d.t ≤ 1099511627776) && decide (d.fr < d.til)
def hasD (o : Int) (d : Dat) : Bool := decide (1 ≤ o ∧ o ≤ 3 ∨ o = 4 ∧ d.k = 5)
def ordD (o : Int) (d d' : Dat) : Int := if isO o = true then ordK (partsD o d) (partsD o d') else 0
def i64B (n : Int) : Prop := -9223372036854775808 ≤ n ∧ n ≤ 9223372036854775807
structure DatOk (d : Dat) : Prop where
  e : i64B d.e
  a : i64B d.a
  k : i64B d.k
  m : i64B d.m
  t : i64B d.t
  fr : i64B d.fr
  til : i64B d.til

theorem isO_cases {o : Int} (h : isO o = true) : o = 1 ∨ o = 2 ∨ o = 3 ∨ o = 4 := by
  unfold isO at h
  rw [decide_eq_true_eq] at h
  omega
theorem isO_no {o : Int} (h : isO o = false) (d : Dat) : hasD o d = false := by
  unfold isO at h
  unfold hasD
  rw [decide_eq_false_iff_not] at h ⊢
  omega
theorem partsD_1 (d : Dat) : partsD 1 d = [numP d.e, numP d.a, valP d, numP d.t, numP (cutN d.add), numP d.fr, numP d.til] := rfl
theorem partsD_2 (d : Dat) : partsD 2 d = [numP d.a, numP d.e, valP d, numP d.t, numP (cutN d.add), numP d.fr, numP d.til] := rfl
theorem partsD_3 (d : Dat) : partsD 3 d = [numP d.a, valP d, numP d.e, numP d.t, numP (cutN d.add), numP d.fr, numP d.til] := rfl
theorem partsD_4 (d : Dat) : partsD 4 d = [valP d, numP d.a, numP d.e, numP d.t, numP (cutN d.add), numP d.fr, numP d.til] := rfl
theorem partsD_len (o : Int) (d : Dat) : (partsD o d).length = 7 := by unfold partsD; simp
theorem partD_cases (o : Int) (d : Dat) (i : Nat) : (∃ n, partD o d i = numP n ∧ (DatOk d → i64B n)) ∨ partD o d i = valP d := by
  unfold partD
  repeat' split
  · exact .inl ⟨_, rfl, fun h => h.e⟩
  · exact .inl ⟨_, rfl, fun h => h.a⟩
  · exact .inr rfl
  · exact .inl ⟨_, rfl, fun h => h.t⟩
  · refine .inl ⟨_, rfl, fun _ => ?_⟩
    unfold i64B cutN
    split <;> omega
  · exact .inl ⟨_, rfl, fun h => h.fr⟩
  · exact .inl ⟨_, rfl, fun h => h.til⟩
theorem partsD_mem {o : Int} {d : Dat} {p : PartP} (h : p ∈ partsD o d) : ∃ i, p = partD o d i := by
  unfold partsD at h
  obtain ⟨i, _, rfl⟩ := List.mem_map.1 h
  exact ⟨i, rfl⟩
theorem mayD_val {d : Dat} (h : mayD d = true) : mayB d.k d.m d.s = true := by
  unfold mayD at h
  simp only [Bool.and_eq_true] at h
  exact h.1.1.2
theorem partsD_size {o : Int} {d : Dat} : ∀ p ∈ partsD o d, p.s.size ≤ d.s.size := fun p hp => by
  obtain ⟨i, rfl⟩ := partsD_mem hp
  rcases partD_cases o d i with ⟨n, e, _⟩ | e
  · rw [e]; exact Nat.zero_le _
  · rw [e]; exact Nat.le_refl _
end Go.Proofs.YthdjlaombbeagaaGreat
