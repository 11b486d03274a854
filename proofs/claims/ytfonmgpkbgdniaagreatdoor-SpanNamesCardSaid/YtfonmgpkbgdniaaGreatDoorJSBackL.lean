/-
  CONTRACT: Parse (any text); THE LAW SpanBack: its walk.
-/
import Derived.Laws.StructEq
import Derived.Deep.Draws
import Derived.Test.YtfonmgpkbgdniaaGreatDoorJSParse
import Derived.Test.YtfonmgpkbgdniaaGreatDoorJSAlive
import Derived.Test.YtfonmgpkbgdniaaGreatDoorJSLeaf
namespace Go.Proofs.YtfonmgpkbgdniaaGreatDoor
open Go.RowKit Go.Shelf

set_option maxRecDepth 100000 in
theorem parse_none (s : ByteArray) (w : World) (h : dl s = [110, 111, 110, 101]) : Calls Tryz.prog 19 #[.string s] w (ParseRd w (dl s)) := by
  have hq : (s.toList == [110, 111, 110, 101]) = true := by
    rw [beq_iff_eq, ByteArray.toList_eq]; exact h
  have HH := Lib.hid h
  clear h
  go_enter Tryz.func19, Tryz.ntmps19
  go_wp2
  refine bodyPost_ret (v := .tuple #[.slice none 0 0, .int .i64 0]) ?_ rfl ⟨.inl ⟨[], _, rfl, ownS_nil _ _, (fun _ h => by cases h), setL_nil, by rw [HH.out]; rfl⟩, ?_⟩
  · rw [sp_results2 rfl]; go_simp
  · exact ((Below.refl _ w).alloc (Nat.le_refl _) _).alloc (by simp) _
theorem parse_any (s : ByteArray) (w : World) (hs : s.size ≤ 5000) (herr : Errs w) (htab : TabB w.heap.size w) : Calls Tryz.prog 19 #[.string s] w (ParseRd w (dl s)) := by
  by_cases h : dl s = [110, 111, 110, 101]
  · exact parse_none s w h
  · exact (callsIn_wide (n := 9)).1 (parse_in 9 (Lib.hid (by decide)) s w hs herr htab h)
theorem tabB_on {w W : World} (h : TabB w.heap.size w) (hb : Below w.heap.size w W) : TabB W.heap.size W := fun w' h' => h w' (hb.trans (h'.mono hb.size))

end Go.Proofs.YtfonmgpkbgdniaaGreatDoor
