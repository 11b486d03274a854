/-
  THE CHAPTER's FIRST EXAMPLE: its nodes as they stand in memory; that they may be; their print.
-/
import Derived.Test.YthbighnkohjfnaaGreatDoorWTAliveP
import Derived.Test.YthbighnkohjfnaaGreatDoorWTGood
import Derived.Test.YthbighnkohjfnaaGreatDoorWTPrint
namespace Go.Proofs.YthbighnkohjfnaaGreatDoor
open Go.RowKit

def nA : Nd := .mk 2 0 0 ⟨#[]⟩ ⟨#[97, 100, 100]⟩ [] 1 2
def nB : Nd := .mk 1 5 1 ⟨#[]⟩ ⟨#[]⟩ [] 1 6
def nC : Nd := .mk 1 7 0 ⟨#[117, 115, 101, 114, 47, 110, 97, 109, 101]⟩ ⟨#[]⟩ [] 1 9
def nD : Nd := .mk 1 3 0 ⟨#[97, 34]⟩ ⟨#[]⟩ [] 1 20
def nL : Nd := .mk 3 0 0 ⟨#[]⟩ ⟨#[]⟩ [nA, nB, nC, nD] 1 1
theorem alive_nd : aliveL.map (ndOf aliveS) = [nL] := by
  unfold aliveL
  rw [List.map_cons, List.map_nil, ndOf_mk, List.map_cons, List.map_cons, List.map_cons, List.map_cons, List.map_nil, ndOf_mk, ndOf_mk, ndOf_mk, ndOf_mk]
  kernel_rfl
theorem alive_may : mayL [nL] = true ∧ txL [nL] := by
  obtain ⟨h1, h2, h3, h4, h5, _⟩ := nodes_good aliveS 27 none aliveS 0 0 0 aliveL [] 26 5 alive_nodes (by decide) (by decide) (by decide)
  rw [alive_nd] at h1 h4 h5
  refine ⟨?_, h5⟩
  unfold mayL
  rw [h4, decide_eq_true (by omega)]
  rfl
theorem alive_pr : prL [nL] = aliveS := by
  have e1 : prN nA = [97, 100, 100] := by unfold nA; rw [prN]; rfl
  have e2 : prN nB = [64, 49] := by
    unfold nB
    rw [prN]
    show (64 :: Lib.itoa 1 : List UInt8) = _
    rw [itoa_1]
  have e3 : prN nC = [58, 117, 115, 101, 114, 47, 110, 97, 109, 101] := by unfold nC; rw [prN]; rfl
  have e4 : prN nD = [34, 97, 92, 50, 50, 34] := by unfold nD; rw [prN]; kernel_rfl
  have e5 : prN nL = aliveS := by
    unfold nL
    rw [prN, prL, prR, prR, prR, prR, e1, e2, e3, e4]
    rfl
  rw [prL, prR, e5, List.append_nil]
theorem alive_pv : pvNs [nL] := by
  have l0 : pvNs [] := by rw [pvNs]; trivial
  have p1 : pvN nA := by unfold nA; rw [pvN]; exact ⟨fun h => absurd h (by decide), l0⟩
  have p2 : pvN nB := by unfold nB; rw [pvN]; exact ⟨fun _ => ⟨by decide +kernel, by unfold inI64; omega, by decide⟩, l0⟩
  have p3 : pvN nC := by unfold nC; rw [pvN]; exact ⟨fun _ => ⟨by decide +kernel, by unfold inI64; omega, by decide⟩, l0⟩
  have p4 : pvN nD := by unfold nD; rw [pvN]; exact ⟨fun _ => ⟨by decide +kernel, by unfold inI64; omega, by decide⟩, l0⟩
  have p5 : pvN nL := by
    unfold nL
    rw [pvN]
    refine ⟨fun h => absurd h (by decide), ?_⟩
    rw [pvNs, pvNs, pvNs, pvNs]
    exact ⟨p1, p2, p3, p4, l0⟩
  rw [pvNs]
  exact ⟨p5, l0⟩
end Go.Proofs.YthbighnkohjfnaaGreatDoor
