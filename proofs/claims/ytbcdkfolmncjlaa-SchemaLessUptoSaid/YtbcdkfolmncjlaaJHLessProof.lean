/-
  SchemaLess, where what comes in is of bulk at most 1048576: facts that hold, without some facts of attributes that are not built in, and cut down to some instants, hold; any facts, which ones go, and spans (the law returns true; facts that its guard calls great, and facts that do not hold, are let pass by the law itself). What is handed in reads as before.
-/
import Derived.ChangeMaps5
import Derived.Carry
import Derived.Test.YtbcdkfolmncjlaaJAOne
import Derived.Test.YtbcdkfolmncjlaaJHLessL
import Derived.Test.YtbcdkfolmncjlaaJOBools
import Derived.Test.YtbcdkfolmncjlaaJSArgs
namespace Go.Proofs.Ytbcdkfolmncjlaa
open Go.ChangeShapes Go.WideShapes Go.ChangeAt Go.RowKit Go.Joins Go.Deep

namespace schemaLess
section
variable {H : Type} {enc : TypeId × Value → H}
theorem ss_none {W : World} {n c : Nat} {d : DataW H} {p : List MemPlace} (h : DataW.Trod enc Try.prog W 0 (fun _ => true) true 28 (.slice none n c) d p) : n = 0 ∧ c = 0 := by
  obtain ⟨fuel, hf⟩ := h
  rcases open_slice Try.underlying28 hf with ⟨hcs, _⟩ | ⟨a, len', cap', m, n1, D, Pl, hcs, _⟩
  · simpa [Value.cells] using hcs
  · simp [Value.cells] at hcs
end
theorem own : ownKnob Try.prog.godebug = none := by kernel_rfl

set_option maxRecDepth 100000 in
theorem contract (H : Type) (enc : TypeId × Value → H) (W : World) (base : Nat) (args : Array Value) (ds gs : List (DataW H)) (before : List MemPlace)
    (hval : ∀ (j : Nat) t v, Try.f4.params[j]? = some t → args[j]? = some v → Value.okWide Try.prog W .any base t v)
    (hW : DataW.Whole enc Try.prog Try.f4.params.toList Rows.schemaLessSpec.vars false W args.toList ds gs before) (hk : Rows.uptoSmall H (ds ++ gs) = true) :
    Calls Try.prog 4 args W fun e W' => ∃ v, e = .returned v ∧ Rows.schemaLessSpec.post enc Try.prog Try.f4 false true false false W args v W' := by
  have hW' := hW
  obtain ⟨p, q, hA0, hV, rfl, hfz, hnd⟩ := hW
  have hA : DataW.TrodAll enc Try.prog W 0 (fun _ => true) true Try.f4.params.toList args.toList ds p := hA0
  rw [Try.params4] at hA hval
  obtain ⟨v0, v1, v2, d0, d1, d2, p0, p1, p2, rfl, rfl, rfl, h0, h1, h2⟩ := trodAll_three hA
  obtain ⟨rfl, rfl⟩ := trodVars_none hV
  obtain ⟨A, c, fs, rfl, hf, hok, hsz, hz, hl⟩ := open_fl (hval 0 24 v0 rfl rfl) h0
  have n0 := fl_none (hval 0 24 _ rfl rfl) h0
  obtain ⟨A2, c2, ks, rfl, hg, hg1, hg2⟩ := open_bl (hval 1 45 v1 rfl rfl) h1
  obtain ⟨A3, c3, is, rfl, hi, _, hi1, hi2⟩ := open_ss (hval 2 28 v2 rfl rfl) h2
  have n2 : A3 = none → is.length = 0 ∧ c3 = 0 := fun e => by subst e; exact ss_none h2
  clear hA0
  simp only [List.append_nil] at hW' hk
  have hb : Rows.uptoBulkAll [d0, d1, d2] ≤ 1048576 := of_decide_eq_true hk
  simp only [Rows.uptoBulkAll] at hb
  have l0 : ∀ y ∈ p0, y.block < W.heap.size := fun y hy => by have := hW'.lt y; simp [hy] at this; exact this
  have l1 : ∀ y ∈ p1, y.block < W.heap.size := fun y hy => by have := hW'.lt y; simp [hy] at this; exact this
  have l2 : ∀ y ∈ p2, y.block < W.heap.size := fun y hy => by have := hW'.lt y; simp [hy] at this; exact this
  have hmx : maxLen = 9223372036854775807 := by decide
  have H1 : LsA W A c fs A2 c2 ks A3 c3 is := ⟨hf, n0, ⟨by omega, fun q hq => by have := hz q hq; omega⟩, hsz, hok, hg, by omega, hi, n2, by omega⟩
  refine (less_law A c fs A2 c2 ks A3 c3 is W H1).mono fun e W' ⟨he, bel⟩ => ?_
  subst he
  exact ⟨_, rfl, _, _, _, [], _, [], hW', trodAll_mk1 (shut_bool Try.underlying4 _), trodAll_mk3 (fl_after h0 bel l0) (bl_after h1 bel l1) (ss_after h2 bel l2), rfl, bel.frame _, fun h => by cases h⟩

set_option maxRecDepth 100000 in
theorem lifted (os : Os) (started : os.Started) (H : Type) (enc : TypeId × Value → H) (F : Stop.Interp) :
    ReturnsInHanded {} Try.checked os 4 .any ((Rows.OpenSpec.upto Rows.schemaLessSpec).pre6 enc Try.prog Try.f4 Rows.schemaLessUptoRow.domain false) (((Rows.OpenSpec.upto Rows.schemaLessSpec).at F).post enc Try.prog Try.f4 false true false false) := by
  refine returnsInHanded_of_cond (C := Try.checked) (s := Rows.OpenSpec.upto Rows.schemaLessSpec) (k := Rows.uptoSmall) rfl own started (by kernel_rfl) Try.func4
    (OpenSpec.witness (enc := enc) (C := Try.checked) (s := Rows.OpenSpec.upto Rows.schemaLessSpec) (k := Rows.uptoSmall) rfl false ⟨#[], #[.slice none 0 0, .slice none 0 0, .slice none 0 0], []⟩ 8 (by kernel_rfl) (by kernel_rfl) (by kernel_rfl)
      (x := ([.nil, .nil, .nil], [], [])) (by kernel_rfl) rfl (by kernel_rfl)) ?_
  intro W base args ds gs before hval hW _ hk _
  exact contract H enc W base args ds gs before hval hW hk

theorem proved : Rows.SchemaLessUptoSaid :=
  OpenClaim.holds_of_cond 4 Try.f4 rfl rfl rfl rfl rfl rfl rfl ⟨rfl, rfl, rfl, rfl, rfl⟩ rfl rfl rfl rfl rfl (by kernel_rfl) Try.func4 (by kernel_rfl)
    (of_decide_eq_true (by kernel_rfl)) (by unfold Func.isWrapper; first | (rw [if_pos (by decide +kernel)]; kernel_rfl) | (rw [if_neg (by decide +kernel)]; exact ⟨rfl, rfl⟩))
    (fun os started H enc _ F => lifted os started H enc F)
end schemaLess
end Go.Proofs.Ytbcdkfolmncjlaa
