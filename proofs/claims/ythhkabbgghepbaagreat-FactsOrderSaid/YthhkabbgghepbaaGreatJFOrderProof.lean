/-
  FactsOrder: for every list of datoms and every turn of it: the turned list, with one of its datoms said twice, is folded to the same facts, or refused with the same error (the law returns true; a list that its guard calls great is let pass by the law itself). What is handed in reads as before. No condition.
-/
import Derived.SizedLaws
import Derived.Test.YthhkabbgghepbaaGreatJDSlArgs
import Derived.Test.YthhkabbgghepbaaGreatJFOrderL
import Derived.Test.YthhkabbgghepbaaGreatJSSame
namespace Go.Proofs.YthhkabbgghepbaaGreat
open Go.ChangeShapes Go.WideShapes Go.ChangeAt Go.RowKit Go.Joins Go.Deep

namespace factsOrder
theorem own : ownKnob Tryz.prog.godebug = none := by kernel_rfl

set_option maxRecDepth 100000 in
theorem lifted (os : Os) (started : os.Started) (H : Type) (enc : TypeId × Value → H) :
    ReturnsInHanded {} Tryz.checked os 6 .any (Rows.factsOrderSpec.pre6 enc Tryz.prog Tryz.f6 Rows.factsOrderRow.domain false) (Rows.factsOrderSpec.post enc Tryz.prog Tryz.f6 false true false false) := by
  refine returnsInHanded_of_change_sized (C := Tryz.checked) own started (by kernel_rfl) Tryz.func6
    (ChangeSpec.witness6 (enc := enc) (C := Tryz.checked) false ⟨#[], #[.slice none 0 0, .int .i64 0], []⟩ 8 (by kernel_rfl) (by kernel_rfl) (by kernel_rfl) (by kernel_rfl)) ?_
  intro W base args ds gs before hval0 hW hcnd0 hsz0 hholds
  have hval : ∀ (j : Nat) t v, Tryz.f6.params[j]? = some t → args[j]? = some v → Value.okWide Tryz.prog W .any base t v := hval0
  have hsz : (DataW.weightsEach Tryz.prog (Tryz.f6.params.toList ++ Rows.factsOrderSpec.plain.varTypes Tryz.prog) (ds ++ gs)).all (· ≤ reachBytes) = true := hsz0
  have hW' := hW
  obtain ⟨p, q, hA0, hV, rfl, hfz, hnd⟩ := hW
  have hA : DataW.TrodAll enc Tryz.prog W 0 (fun _ => true) true Tryz.f6.params.toList args.toList ds p := hA0
  rw [Tryz.params6] at hA hval hsz
  obtain ⟨v0, v1, d0, d1, p0, p1, rfl, rfl, rfl, h0, h1⟩ := trodAll_two hA
  obtain ⟨rfl, rfl⟩ := trodVars_none hV
  obtain ⟨A, c, l, rfl, hs, hok, hz, hA0', hN⟩ := open_dlS (hval 0 22 v0 rfl rfl) h0
  obtain ⟨n, rfl, rfl, rfl, wn⟩ := open_int Tryz.underlying3 (hval 1 3 v1 rfl rfl) h1
  have hl := hN fun elems spare he => by
    have := sized_slice hsz (j := 0) (t := 22) (e := 46) rfl (by rw [he]; rfl) Tryz.underlying22
    rw [bytesD] at this
    exact this
  clear hA0 hval0 hsz0
  simp only [List.append_nil] at hW'
  have l1 : ∀ y ∈ p0, y.block < W.heap.size := fun y hy => by have := hW'.lt y; simp [hy] at this; exact this
  refine (fOrder_any n A c l W hs hl hz (fun d hd => datOk_sp (hok d hd))).mono fun e W' ⟨he, bel⟩ => ?_
  subst he
  exact ⟨_, rfl, _, _, _, [], _, [], hW', trodAll_mk1 (shut_bool Tryz.underlying4 _), trodAll_mk2 (dl_after h0 bel l1) (shut_int Tryz.underlying3 wn), rfl, bel.frame _, fun h => by cases h⟩

theorem proved : Rows.FactsOrderSaid :=
  OpenClaim.holds_of_wide 6 Tryz.f6 rfl rfl rfl rfl rfl rfl rfl ⟨rfl, rfl, rfl, rfl, rfl⟩ rfl rfl rfl rfl rfl (by kernel_rfl) Tryz.func6 (by kernel_rfl)
    (of_decide_eq_true (by kernel_rfl)) (by unfold Func.isWrapper; first | (rw [if_pos (by decide +kernel)]; kernel_rfl) | (rw [if_neg (by decide +kernel)]; exact ⟨rfl, rfl⟩))
    (fun os started H enc _ => lifted os started H enc)
end factsOrder
end Go.Proofs.YthhkabbgghepbaaGreat
