/-
  DatomKeeps: for every order, every two datoms, of at most 2000 bytes each, and all bytes, at most 3000: the keys stand as the datoms do, a key is read as its datom, and what is read has its bytes for a key; the chapter's first example holds; what is handed in reads as before (the law returns true). No condition.
-/
import Derived.Carry
import Derived.Test.YtefekkcmoambhaaJDPart
import Derived.Test.YtefekkcmoambhaaJDKeeps
namespace Go.Proofs.Ytefekkcmoambhaa
open Go.ChangeShapes Go.WideShapes Go.ChangeAt Go.RowKit Go.Joins

namespace datomKeeps
theorem own : ownKnob Try.prog.godebug = none := by kernel_rfl

set_option maxRecDepth 100000 in
theorem lifted (os : Os) (started : os.Started) (H : Type) (enc : TypeId × Value → H) :
    ReturnsInHanded {} Try.checked os 9 .any (Rows.datomKeepsSpec.pre6 enc Try.prog Try.f9 Rows.datomKeepsRow.domain false) (Rows.datomKeepsSpec.post enc Try.prog Try.f9 false true false false) := by
  refine returnsInHanded_of_change (C := Try.checked) own started (by kernel_rfl) Try.func9
    (ChangeSpec.witness6 (enc := enc) (C := Try.checked) false ⟨#[], #[.int .i64 0, .agg #[.int .i64 0, .int .i64 0, .int .i64 0, .int .i64 0, .string ⟨#[]⟩, .int .i64 0, .bool false, .int .i64 0, .int .i64 0], .agg #[.int .i64 0, .int .i64 0, .int .i64 0, .int .i64 0, .string ⟨#[]⟩, .int .i64 0, .bool false, .int .i64 0, .int .i64 0], .slice none 0 0], []⟩ 8 (by kernel_rfl) (by kernel_rfl) (by kernel_rfl) (by kernel_rfl)) ?_
  intro W base args ds gs before hval0 hW hcnd _
  have hval : ∀ (j : Nat) t v, Try.f9.params[j]? = some t → args[j]? = some v → Value.okWide Try.prog W .any base t v := hval0
  have hW' := hW
  obtain ⟨p, q, hA0, hV, rfl, hfz, hnd⟩ := hW
  have hA : DataW.TrodAll enc Try.prog W 0 (fun _ => true) true Try.f9.params.toList args.toList ds p := hA0
  rw [Try.params9] at hA hval
  obtain ⟨v0, v1, v2, v3, d0, d1, d2, d3, p0, p1, p2, p3, rfl, rfl, rfl, h0, h1, h2, h3⟩ := trodAll_four hA
  obtain ⟨rfl, rfl⟩ := trodVars_none hV
  obtain ⟨n, rfl, rfl, rfl, wn⟩ := open_int Try.underlying3 (hval 0 3 v0 rfl rfl) h0
  obtain ⟨a, rfl, oka, hza, _⟩ := open_dat (hval 1 42 v1 rfl rfl) h1
  obtain ⟨b, rfl, okb, hzb, _⟩ := open_dat (hval 2 42 v2 rfl rfl) h2
  obtain ⟨A, c, k, rfl, hs, hkc, hc⟩ := open_sl (hval 3 43 v3 rfl rfl) h3
  clear hA0 hval0
  simp only [List.append_nil, List.nil_append] at hW'
  have l1 : ∀ y ∈ p1, y.block < W.heap.size := fun y hy => by have := hW'.lt y; simp [hy] at this; exact this
  have l2 : ∀ y ∈ p2, y.block < W.heap.size := fun y hy => by have := hW'.lt y; simp [hy] at this; exact this
  have l3 : ∀ y ∈ p3, y.block < W.heap.size := fun y hy => by have := hW'.lt y; simp [hy] at this; exact this
  refine (dKeeps_any n a b A c k W oka okb hza hzb hs hkc hc).mono fun e W' ⟨he, bel⟩ => ?_
  subst he
  exact ⟨_, rfl, _, _, _, [], _, [], hW', trodAll_mk1 (shut_bool Try.underlying4 _), trodAll_mk4 (shut_int Try.underlying3 wn) (dat_after h1 bel l1) (dat_after h2 bel l2) (sl_after h3 bel l3), rfl, bel.frame _, fun h => by cases h⟩

theorem proved : Rows.DatomKeepsSaid :=
  OpenClaim.holds_of_wide 9 Try.f9 rfl rfl rfl rfl rfl rfl rfl ⟨rfl, rfl, rfl, rfl, rfl⟩ rfl rfl rfl rfl rfl (by kernel_rfl) Try.func9 (by kernel_rfl)
    (of_decide_eq_true (by kernel_rfl)) (by unfold Func.isWrapper; first | (rw [if_pos (by decide +kernel)]; kernel_rfl) | (rw [if_neg (by decide +kernel)]; exact ⟨rfl, rfl⟩))
    (fun os started H enc _ => lifted os started H enc)
end datomKeeps
end Go.Proofs.Ytefekkcmoambhaa
