/-
  OrderReads: for all bytes and kinds: the parts that Read finds in them, or that there are none, are the document's (the law returns true), and the arguments read as before. No condition.
-/
import Derived.Test.YtdlkblnnnmgijaaOArgs
import Derived.Test.YtdlkblnnnmgijaaOBools
import Derived.Test.YtdlkblnnnmgijaaOReads
namespace Go.Proofs.Ytdlkblnnnmgijaa
open Go.ChangeShapes Go.WideShapes Go.ChangeAt Go.RowKit Go.Joins

namespace orderReads
theorem own : ownKnob Try.prog.godebug = none := by kernel_rfl

set_option maxRecDepth 100000 in
theorem lifted (os : Os) (started : os.Started) (H : Type) (enc : TypeId × Value → H) :
    ReturnsInHanded {} Try.checked os 5 .any (Rows.orderReadsSpec.pre6 enc Try.prog Try.f5 Rows.orderReadsRow.domain false) (Rows.orderReadsSpec.post enc Try.prog Try.f5 false true false false) := by
  refine returnsInHanded_of_change (C := Try.checked) own started (by kernel_rfl) Try.func5
    (ChangeSpec.witness6 (enc := enc) (C := Try.checked) false ⟨#[], #[.slice none 0 0, .slice none 0 0], []⟩ 8 (by kernel_rfl) (by kernel_rfl) (by kernel_rfl) (by kernel_rfl)) ?_
  intro W base args ds gs before hval0 hW hcnd _
  have hval : ∀ (j : Nat) t v, Try.f5.params[j]? = some t → args[j]? = some v → Value.okWide Try.prog W .any base t v := hval0
  have hW' := hW
  obtain ⟨p, q, hA0, hV, rfl, hfz, hnd⟩ := hW
  have hA : DataW.TrodAll enc Try.prog W 0 (fun _ => true) true Try.f5.params.toList args.toList ds p := hA0
  rw [Try.params5] at hA hval
  obtain ⟨v0, v1, d0, d1, p0, p1, rfl, rfl, rfl, h0, h1⟩ := trodAll_two hA
  obtain ⟨rfl, rfl⟩ := trodVars_none hV
  obtain ⟨A, c, b, rfl, hs, hbc, hc⟩ := open_sl (hval 0 29 v0 rfl rfl) h0
  obtain ⟨A', c', ks, rfl, hs', _, _⟩ := open_bl (hval 1 44 v1 rfl rfl) h1
  clear hA0 hval0
  simp only [List.append_nil] at hW'
  have l0 : ∀ y ∈ p0, y.block < W.heap.size := fun y hy => by have := hW'.lt y; simp [hy] at this; exact this
  have l1 : ∀ y ∈ p1, y.block < W.heap.size := fun y hy => by have := hW'.lt y; simp [hy] at this; exact this
  refine (reads_any A A' c c' b ks W hs hs' hbc hc).mono fun e W' ⟨he, bel⟩ => ?_
  subst he
  exact ⟨_, rfl, _, _, _, [], _, [], hW', trodAll_mk1 (shut_bool Try.underlying4 _), trodAll_mk2 (sl_after h0 bel l0) (bl_after h1 bel l1), rfl, bel.frame _, fun h => by cases h⟩

theorem proved : Rows.OrderReadsSaid :=
  OpenClaim.holds_of_wide 5 Try.f5 rfl rfl rfl rfl rfl rfl rfl ⟨rfl, rfl, rfl, rfl, rfl⟩ rfl rfl rfl rfl rfl (by kernel_rfl) Try.func5 (by kernel_rfl)
    (of_decide_eq_true (by kernel_rfl)) (by unfold Func.isWrapper; first | (rw [if_pos (by decide +kernel)]; kernel_rfl) | (rw [if_neg (by decide +kernel)]; exact ⟨rfl, rfl⟩))
    (fun os started H enc _ => lifted os started H enc)
end orderReads
end Go.Proofs.Ytdlkblnnnmgijaa
