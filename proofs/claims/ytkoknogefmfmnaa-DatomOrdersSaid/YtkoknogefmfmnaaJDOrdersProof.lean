/-
  DatomOrders: for every two orders and every list of datoms: what is sorted in the one and then in the other is as in that one at once, and all orders but VAET have the same datoms (the law returns true; a list that its guard calls great is let pass by the law itself). What is handed in reads as before. No condition.
-/
import Derived.SizedLaws
import Derived.Test.YtkoknogefmfmnaaJDSlArgs
import Derived.Test.YtkoknogefmfmnaaJDOrdersL
namespace Go.Proofs.Ytkoknogefmfmnaa
open Go.ChangeShapes Go.WideShapes Go.ChangeAt Go.RowKit Go.Joins Go.Deep

namespace datomOrders
theorem own : ownKnob Try.prog.godebug = none := by kernel_rfl

set_option maxRecDepth 100000 in
theorem lifted (os : Os) (started : os.Started) (H : Type) (enc : TypeId × Value → H) :
    ReturnsInHanded {} Try.checked os 5 .any (Rows.datomOrdersSpec.pre6 enc Try.prog Try.f5 Rows.datomOrdersRow.domain false) (Rows.datomOrdersSpec.post enc Try.prog Try.f5 false true false false) := by
  refine returnsInHanded_of_change_sized (C := Try.checked) own started (by kernel_rfl) Try.func5
    (ChangeSpec.witness6 (enc := enc) (C := Try.checked) false ⟨#[], #[.int .i64 0, .int .i64 0, .slice none 0 0], []⟩ 8 (by kernel_rfl) (by kernel_rfl) (by kernel_rfl) (by kernel_rfl)) ?_
  intro W base args ds gs before hval0 hW hcnd0 hsz0 hholds
  have hval : ∀ (j : Nat) t v, Try.f5.params[j]? = some t → args[j]? = some v → Value.okWide Try.prog W .any base t v := hval0
  have hsz : (DataW.weightsEach Try.prog (Try.f5.params.toList ++ Rows.datomOrdersSpec.plain.varTypes Try.prog) (ds ++ gs)).all (· ≤ reachBytes) = true := hsz0
  have hW' := hW
  obtain ⟨p, q, hA0, hV, rfl, hfz, hnd⟩ := hW
  have hA : DataW.TrodAll enc Try.prog W 0 (fun _ => true) true Try.f5.params.toList args.toList ds p := hA0
  rw [Try.params5] at hA hval hsz
  obtain ⟨v0, v1, v2, d0, d1, d2, p0, p1, p2, rfl, rfl, rfl, h0, h1, h2⟩ := trodAll_three hA
  obtain ⟨rfl, rfl⟩ := trodVars_none hV
  obtain ⟨n, rfl, rfl, rfl, wn⟩ := open_int Try.underlying3 (hval 0 3 v0 rfl rfl) h0
  obtain ⟨n', rfl, rfl, rfl, wn'⟩ := open_int Try.underlying3 (hval 1 3 v1 rfl rfl) h1
  obtain ⟨A, c, l, rfl, hs, _, hz, hA0', hN⟩ := open_dl (hval 2 28 v2 rfl rfl) h2
  have hl := hN fun elems spare he => by
    have := sized_slice hsz (j := 2) (t := 28) (e := 36) rfl (by rw [he]; rfl) Try.underlying28
    rw [bytesD] at this
    exact this
  clear hA0 hval0 hsz0
  simp only [List.append_nil, List.nil_append] at hW'
  have l1 : ∀ y ∈ p2, y.block < W.heap.size := fun y hy => by have := hW'.lt y; simp [hy] at this; exact this
  refine (dOrders_any n n' A c l W hs hA0' hl hz).mono fun e W' ⟨he, bel⟩ => ?_
  subst he
  exact ⟨_, rfl, _, _, _, [], _, [], hW', trodAll_mk1 (shut_bool Try.underlying4 _), trodAll_mk3 (shut_int Try.underlying3 wn) (shut_int Try.underlying3 wn') (dl_after h2 bel l1), rfl, bel.frame _, fun h => by cases h⟩

theorem proved : Rows.DatomOrdersSaid :=
  OpenClaim.holds_of_wide 5 Try.f5 rfl rfl rfl rfl rfl rfl rfl ⟨rfl, rfl, rfl, rfl, rfl⟩ rfl rfl rfl rfl rfl (by kernel_rfl) Try.func5 (by kernel_rfl)
    (of_decide_eq_true (by kernel_rfl)) (by unfold Func.isWrapper; first | (rw [if_pos (by decide +kernel)]; kernel_rfl) | (rw [if_neg (by decide +kernel)]; exact ⟨rfl, rfl⟩))
    (fun os started H enc _ => lifted os started H enc)
end datomOrders
end Go.Proofs.Ytkoknogefmfmnaa
