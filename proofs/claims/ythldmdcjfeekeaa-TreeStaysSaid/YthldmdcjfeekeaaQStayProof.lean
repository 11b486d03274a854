/-
  TreeStays: what is made of a tree leaves it as it was; behind a Put, Get tells it, and all other keys as before; put and cut, a key that was not there leaves no trace: for all lists of calls ahead, keys and values of any length (the law returns true; lists, keys and values that its guards let pass are let pass by the law itself). What is handed in reads as before. No condition.
-/
import Derived.Test.YthldmdcjfeekeaaQArgs
import Derived.Test.YthldmdcjfeekeaaQStayL
import Derived.ChangeMaps5
import Derived.Carry
namespace Go.Proofs.Ythldmdcjfeekeaa
open Go.ChangeShapes Go.WideShapes Go.ChangeAt Go.RowKit Go.Joins Go.Deep

namespace treeStays
theorem own : ownKnob Try.prog.godebug = none := by kernel_rfl
section
variable {H : Type} {enc : TypeId × Value → H} {P : Program} {w : World} {base : Nat} {spare : Nat → Bool} {held : Bool}
theorem trodAll_trio {t t' t'' : TypeId} {args : Array Value} {ds : List (DataW H)} {ps : List MemPlace} (h : DataW.TrodAll enc P w base spare held [t, t', t''] args.toList ds ps) :
    ∃ v v' v'' d d' d'' p p' p'', args = #[v, v', v''] ∧ ds = [d, d', d''] ∧ ps = p ++ p' ++ p'' ∧ DataW.Trod enc P w base spare held t v d p ∧ DataW.Trod enc P w base spare held t' v' d' p' ∧ DataW.Trod enc P w base spare held t'' v'' d'' p'' := by
  obtain ⟨v, vs, d, ds', p, q, hargs, rfl, rfl, hd, hrest⟩ := trodAll_cons h
  obtain ⟨v', vs', d', ds'', p', q', rfl, rfl, rfl, hd', hrest'⟩ := trodAll_cons hrest
  obtain ⟨v'', vs'', d'', ds''', p'', q'', rfl, rfl, rfl, hd'', hrest''⟩ := trodAll_cons hrest'
  obtain ⟨rfl, rfl, rfl⟩ := trodAll_nil hrest''
  exact ⟨v, v', v'', d, d', d'', p, p', p'', by cases args; simp_all, rfl, by simp, hd, hd', hd''⟩
end
set_option maxRecDepth 100000 in
theorem lifted (os : Os) (started : os.Started) (H : Type) (enc : TypeId × Value → H) :
    ReturnsInHanded {} Try.checked os 6 .any (Rows.treeStaysSpec.pre6 enc Try.prog Try.f6 Rows.treeStaysRow.domain false) (Rows.treeStaysSpec.post enc Try.prog Try.f6 false true false false) := by
  refine returnsInHanded_of_change (C := Try.checked) own started (by kernel_rfl) Try.func6
    (ChangeSpec.witness6 (enc := enc) (C := Try.checked) false ⟨#[], #[.slice none 0 0, .slice none 0 0, .slice none 0 0], []⟩ 8 (by kernel_rfl) (by kernel_rfl) (by kernel_rfl) (by kernel_rfl)) ?_
  intro W base args ds gs before hval0 hW hcnd _
  have hval : ∀ (j : Nat) t v, Try.f6.params[j]? = some t → args[j]? = some v → Value.okWide Try.prog W .any base t v := hval0
  have hW' := hW
  obtain ⟨p, q, hA0, hV, rfl, hfz, hnd⟩ := hW
  have hA : DataW.TrodAll enc Try.prog W 0 (fun _ => true) true Try.f6.params.toList args.toList ds p := hA0
  rw [Try.params6] at hA hval
  obtain ⟨v0, v1, v2, d0, d1, d2, p0, p1, p2, rfl, rfl, rfl, h0, h1, h2⟩ := trodAll_trio hA
  obtain ⟨rfl, rfl⟩ := trodVars_none hV
  obtain ⟨A, c, l, rfl, hs, hlc, hc⟩ := open_ol (hval 0 22 v0 rfl rfl) h0
  obtain ⟨B, d, key, rfl, hkey, hlkey, hckey⟩ := open_sl (hval 1 34 v1 rfl rfl) h1
  obtain ⟨B', d', vl, rfl, hvl, hlvl, hcvl⟩ := open_sl (hval 2 34 v2 rfl rfl) h2
  clear hA0 hval0
  simp only [List.append_nil] at hW'
  have l0 : ∀ y ∈ p0, y.block < W.heap.size := fun y hy => by have := hW'.lt y; simp [hy] at this; exact this
  have l1 : ∀ y ∈ p1, y.block < W.heap.size := fun y hy => by have := hW'.lt y; simp [hy] at this; exact this
  have l2 : ∀ y ∈ p2, y.block < W.heap.size := fun y hy => by have := hW'.lt y; simp [hy] at this; exact this
  have hmx : maxLen = 9223372036854775807 := by decide
  refine (stays_law A c l B d key B' d' vl W hs (by omega) hkey hvl).mono fun e W' ⟨he, bel⟩ => ?_
  subst he
  exact ⟨_, rfl, _, _, _, [], _, [], hW', trodAll_mk1 (shut_bool Try.underlying4 _), trodAll_mk3 (ol_after h0 bel l0) (sl_after h1 bel l1) (sl_after h2 bel l2), rfl, bel.frame _, fun h => by cases h⟩

theorem proved : Rows.TreeStaysSaid :=
  OpenClaim.holds_of_wide 6 Try.f6 rfl rfl rfl rfl rfl rfl rfl ⟨rfl, rfl, rfl, rfl, rfl⟩ rfl rfl rfl rfl rfl (by kernel_rfl) Try.func6 (by kernel_rfl)
    (of_decide_eq_true (by kernel_rfl)) (by unfold Func.isWrapper; first | (rw [if_pos (by decide +kernel)]; kernel_rfl) | (rw [if_neg (by decide +kernel)]; exact ⟨rfl, rfl⟩))
    (fun os started H enc _ => lifted os started H enc)
end treeStays
end Go.Proofs.Ythldmdcjfeekeaa
