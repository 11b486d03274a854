/-
  THE CHAPTER's FIRST EXAMPLE, IN LISTS: its nodes.
-/
import Derived.Test.YthbighnkohjfnaaGreatDoorWTPv
import Derived.Test.YthbighnkohjfnaaGreatDoorJTLink
namespace Go.Proofs.YthbighnkohjfnaaGreatDoor
open Go.RowKit

def aliveS : Bs := [40, 97, 100, 100, 32, 64, 49, 32, 58, 117, 115, 101, 114, 47, 110, 97, 109, 101, 32, 34, 97, 92, 50, 50, 34, 41]
def aliveL : List PN := [.mk 3 0 0 [] [] [.mk 2 0 0 [] [97, 100, 100] [] 1, .mk 1 5 1 [] [] [] 5, .mk 1 7 0 [117, 115, 101, 114, 47, 110, 97, 109, 101] [] [] 8, .mk 1 3 0 [97, 34] [] [] 19] 0]
theorem pv_add : pvL [97, 100, 100] = none := pvL_head (by decide)
theorem itoa_1 : Lib.itoa 1 = [49] := by decide +kernel
theorem pv_one : pvL [64, 49] = some (5, 1, []) := by
  have h := pvL_ref (n := 1) (by decide) (by decide)
  rw [itoa_1] at h
  exact h
theorem pv_user : pvL [58, 117, 115, 101, 114, 47, 110, 97, 109, 101] = some (7, 0, [117, 115, 101, 114, 47, 110, 97, 109, 101]) := pvL_word (by decide +kernel)
theorem pv_text : pvL [34, 97, 92, 50, 50, 34] = some (3, 0, [97, 34]) := pvL_text (u := [97, 34]) (by decide)
theorem wo_add : wordOf pvL [97, 100, 100] 1 = some (.mk 2 0 0 [] [97, 100, 100] [] 1) := by
  unfold wordOf
  rw [pv_add]
  dsimp only
  rw [if_pos (by decide +kernel)]
theorem wo_one : wordOf pvL [64, 49] 5 = some (.mk 1 5 1 [] [] [] 5) := by unfold wordOf; rw [pv_one]
theorem wo_user : wordOf pvL [58, 117, 115, 101, 114, 47, 110, 97, 109, 101] 8 = some (.mk 1 7 0 [117, 115, 101, 114, 47, 110, 97, 109, 101] [] [] 8) := by unfold wordOf; rw [pv_user]
theorem wo_text : wordOf pvL [34, 97, 92, 50, 50, 34] 19 = some (.mk 1 3 0 [97, 34] [] [] 19) := by unfold wordOf; rw [pv_text]
theorem alive_nodes : nodesD pvL 27 none aliveS 0 0 0 = .ok aliveL [] 26 5 := by
  rw [nodesD_opn (show tokC aliveS 0 = .opn 3 41 [97, 100, 100, 32, 64, 49, 32, 58, 117, 115, 101, 114, 47, 110, 97, 109, 101, 32, 34, 97, 92, 50, 50, 34, 41] 0 by kernel_rfl), if_neg (by decide)]
  rw [nodesD_wrd (show tokC [97, 100, 100, 32, 64, 49, 32, 58, 117, 115, 101, 114, 47, 110, 97, 109, 101, 32, 34, 97, 92, 50, 50, 34, 41] (0 + 1) = .wrd [97, 100, 100] [32, 64, 49, 32, 58, 117, 115, 101, 114, 47, 110, 97, 109, 101, 32, 34, 97, 92, 50, 50, 34, 41] 1 by kernel_rfl), if_neg (by decide), wo_add]
  dsimp only
  rw [if_pos (by kernel_rfl)]
  rw [nodesD_wrd (show tokC [32, 64, 49, 32, 58, 117, 115, 101, 114, 47, 110, 97, 109, 101, 32, 34, 97, 92, 50, 50, 34, 41] (1 + ([97, 100, 100] : Bs).length) = .wrd [64, 49] [32, 58, 117, 115, 101, 114, 47, 110, 97, 109, 101, 32, 34, 97, 92, 50, 50, 34, 41] 5 by kernel_rfl), if_neg (by decide), wo_one]
  dsimp only
  rw [if_pos (by kernel_rfl)]
  rw [nodesD_wrd (show tokC [32, 58, 117, 115, 101, 114, 47, 110, 97, 109, 101, 32, 34, 97, 92, 50, 50, 34, 41] (5 + ([64, 49] : Bs).length) = .wrd [58, 117, 115, 101, 114, 47, 110, 97, 109, 101] [32, 34, 97, 92, 50, 50, 34, 41] 8 by kernel_rfl), if_neg (by decide), wo_user]
  dsimp only
  rw [if_pos (by kernel_rfl)]
  rw [nodesD_wrd (show tokC [32, 34, 97, 92, 50, 50, 34, 41] (8 + ([58, 117, 115, 101, 114, 47, 110, 97, 109, 101] : Bs).length) = .wrd [34, 97, 92, 50, 50, 34] [41] 19 by kernel_rfl), if_neg (by decide), wo_text]
  dsimp only
  rw [if_pos (by kernel_rfl)]
  rw [nodesD_cls (show tokC [41] (19 + ([34, 97, 92, 50, 50, 34] : Bs).length) = .cls 41 [] 25 by kernel_rfl), if_pos rfl]
  dsimp only
  rw [nodesD_fin (show tokC [] (25 + 1) = .fin 26 by kernel_rfl), if_pos rfl]
  rfl
end Go.Proofs.YthbighnkohjfnaaGreatDoor
