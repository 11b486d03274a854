/-
  PLAIN FACTS: Read of a key; Key of what is read.
-/
import Derived.Test.YtdlkblnnnmgijaaOBkPure
import Derived.Test.YtdlkblnnnmgijaaOKeyW
import Derived.Test.YtdlkblnnnmgijaaORdRead
namespace Go.Proofs.Ytdlkblnnnmgijaa
open Go.RowKit Go.Shelf

def lastT (ks : List Bool) (b : List UInt8) : List UInt8 := ((tellL ks b).getLast?.map (·.2)).getD b
theorem lastT_nil (b : List UInt8) : lastT [] b = b := rfl
theorem lastT_cons {v : Bool} {ks : List Bool} {b t : List UInt8} {p : PartP} (h : partR v b = some (p, t)) : lastT (v :: ks) b = lastT ks t := by
  unfold lastT
  rw [tellL, h]
  simp only [List.getLast?_cons]
  cases (tellL ks t).getLast? <;> rfl
theorem readL_is (ks : List Bool) (b : List UInt8) : readL ks b = if (tellL ks b).length = ks.length ∧ lastT ks b = [] then some ((tellL ks b).map (·.1)) else none := rfl
theorem tell_key : ∀ (l : List PartP), l.all partMay = true → (∀ p ∈ l, partOk p) → ∀ t, (tellL (l.map (·.v)) (keyB l ++ t)).map (·.1) = l.map cleanP ∧ lastT (l.map (·.v)) (keyB l ++ t) = t
  | [], _, _, t => ⟨rfl, rfl⟩
  | p :: l, hm, hk, t => by
    rw [List.all_cons, Bool.and_eq_true] at hm
    obtain ⟨h1, h2⟩ := tell_key l hm.2 (fun q hq => hk q (by simp [hq])) t
    have hp := partR_partB hm.1 (hk p (by simp)) (keyB l ++ t)
    have e : keyB (p :: l) ++ t = partB p ++ (keyB l ++ t) := by unfold keyB; rw [List.flatMap_cons, List.append_assoc]
    rw [e, List.map_cons, lastT_cons hp]
    refine ⟨?_, h2⟩
    rw [tellL, hp]
    simp only [List.map_cons, h1]
theorem read_key {l : List PartP} (hm : l.all partMay = true) (hk : ∀ p ∈ l, partOk p) : readL (l.map (·.v)) (keyB l) = some (l.map cleanP) := by
  obtain ⟨h1, h2⟩ := tell_key l hm hk []
  rw [List.append_nil] at h1 h2
  have h3 := congrArg List.length h1
  rw [List.length_map, List.length_map] at h3
  rw [readL_is, if_pos ⟨by rw [h3, List.length_map], h2⟩, h1]
theorem key_tell : ∀ (ks : List Bool) (b : List UInt8), b = keyB ((tellL ks b).map (·.1)) ++ lastT ks b ∧ ((tellL ks b).map (·.1)).all partMay = true ∧ (∀ p ∈ (tellL ks b).map (·.1), partOk p) ∧ costP ((tellL ks b).map (·.1)) + (lastT ks b).length ≤ 10 * ks.length + b.length
  | [], b => ⟨rfl, rfl, fun _ h => (by cases h), by show costP [] + b.length ≤ _; simp [costP]⟩
  | v :: ks, b => by
    cases hp : partR v b with
    | none =>
      have e : tellL (v :: ks) b = [] := by rw [tellL, hp]
      have e2 : lastT (v :: ks) b = b := by unfold lastT; rw [e]; rfl
      rw [e, e2]
      exact ⟨rfl, rfl, fun _ h => (by cases h), by show costP [] + b.length ≤ _; simp [costP]⟩
    | some x =>
      obtain ⟨p, t⟩ := x
      obtain ⟨h1, h2, h3, h4⟩ := key_tell ks t
      obtain ⟨g1, g2, g3⟩ := partB_partR hp
      have g4 := partR_size hp
      have e : tellL (v :: ks) b = (p, t) :: tellL ks t := by rw [tellL, hp]
      rw [e, lastT_cons hp, List.map_cons]
      have e3 : costP (p :: (tellL ks t).map (·.1)) = 10 + p.s.size + costP ((tellL ks t).map (·.1)) := by unfold costP; rw [List.map_cons, List.sum_cons]
      have e4 : b.length = (partB p).length + t.length := by rw [g1, List.length_append]
      refine ⟨?_, ?_, ?_, ?_⟩
      · have e5 : keyB (p :: (tellL ks t).map (·.1)) = partB p ++ keyB ((tellL ks t).map (·.1)) := by unfold keyB; rw [List.flatMap_cons]
        show b = keyB (p :: (tellL ks t).map (·.1)) ++ _
        rw [e5, List.append_assoc, ← h1]
        exact g1
      · rw [List.all_cons, Bool.and_eq_true]; exact ⟨g2, h2⟩
      · intro q hq
        rcases List.mem_cons.1 hq with rfl | hq
        · exact g3
        · exact h3 q hq
      · show costP (p :: (tellL ks t).map (·.1)) + _ ≤ _
        rw [e3, List.length_cons, e4]
        omega
theorem key_read {ks : List Bool} {b : List UInt8} {ps : List PartP} (h : readL ks b = some ps) : keyB ps = b ∧ ps.all partMay = true ∧ (∀ p ∈ ps, partOk p) ∧ costP ps ≤ 10 * ks.length + b.length := by
  rw [readL_is] at h
  split at h
  · rename_i hc
    cases h
    obtain ⟨h1, h2, h3, h4⟩ := key_tell ks b
    rw [hc.2, List.append_nil] at h1
    exact ⟨h1.symm, h2, h3, by omega⟩
  · cases h
end Go.Proofs.Ytdlkblnnnmgijaa
