/-
  SchemaMakes: facts' attributes, and who has a name, or a number, are the document's: for every list of facts, every name and every number (the law returns true; facts, and names, that its guards call great are let pass by the law itself). What is handed in reads as before. No condition.
-/
import Derived.ChangeMaps5
import Derived.SizedLaws
import Derived.Test.YtoidkhojkekjeaaJFFArgs
import Derived.Test.YtoidkhojkekjeaaJAMakesL
import Derived.Test.YtoidkhojkekjeaaJAOf
import Derived.Test.YtoidkhojkekjeaaJARefM
namespace Go.Proofs.Ytoidkhojkekjeaa
open Go.ChangeShapes Go.WideShapes Go.ChangeAt Go.RowKit Go.Joins Go.Deep
open Go.ChangeMaps (open_string shut_string)

namespace schemaMakes
theorem own : ownKnob Try.prog.godebug = none := by kernel_rfl
theorem bytesF : Try.prog.bytesOf 44 = 72 := by kernel_rfl
theorem of_any (A : Option Addr) (c : Nat) (fs : List FactP) (w : World) (hs : FVa w (.slice A fs.length c) fs) (hl : fs.length ≤ 1954687338268) (hz : ∀ f ∈ fs, f.s.size ≤ maxLen ∧ f.l.length ≤ 9223372036854775807) : Calls Try.prog 8 #[.slice A fs.length c] w (OfR w fs) := by
  refine (callsIn_wide (n := 9)).1 ?_
  cases h : mayFs fs with
  | false => exact of_bad 9 A c fs w hs hl hz h
  | true => exact of_good 9 (Nat.le_of_ble_eq_true rfl) A c fs w hs hl hz h

section
variable {H : Type} {enc : TypeId × Value → H} {P : Program} {w : World} {base : Nat} {spare : Nat → Bool} {held : Bool}
theorem trodAll_trio {t t' t'' : TypeId} {args : Array Value} {ds : List (DataW H)} {ps : List MemPlace} (h : DataW.TrodAll enc P w base spare held [t, t', t''] args.toList ds ps) :
    ∃ v v' v'' d d' d'' p p' p'', args = #[v, v', v''] ∧ ds = [d, d', d''] ∧ ps = p ++ p' ++ p'' ∧ DataW.Trod enc P w base spare held t v d p ∧ DataW.Trod enc P w base spare held t' v' d' p' ∧ DataW.Trod enc P w base spare held t'' v'' d'' p'' := by
  obtain ⟨v, vs, d, ds', p, q, hargs, rfl, rfl, hd, hrest⟩ := trodAll_cons h
  obtain ⟨v', vs', d', ds'', p', q', rfl, rfl, rfl, hd', hrest'⟩ := trodAll_cons hrest
  obtain ⟨v'', vs'', d'', ds''', p'', q'', rfl, rfl, rfl, hd'', hrest''⟩ := trodAll_cons hrest'
  obtain ⟨rfl, rfl, rfl⟩ := trodAll_nil hrest''
  exact ⟨v, v', v'', d, d', d'', p, p', p'', by cases args; simp_all, rfl, by simp, hd, hd', hd''⟩

theorem fl_len {W : World} {A : Option Addr} {c k : Nat} {d : DataW H} {p : List MemPlace} (h : DataW.Trod enc Try.prog W 0 (fun _ => true) true 22 (.slice A k c) d p) (hb : ∀ elems spare, d = .slice elems spare → (elems.length + spare.length) * 72 ≤ 140737488351232) : k * 72 ≤ 140737488351232 := by
  obtain ⟨fuel, hf⟩ := h
  rcases open_slice Try.underlying22 hf with ⟨hcs, _⟩ | ⟨a, len', cap', m, n, D, Pl, hcs, _, hl, hcm, hm, hx, hi⟩
  · simp [Value.cells] at hcs
    obtain ⟨rfl, rfl, rfl⟩ := hcs
    omega
  · simp [Value.cells] at hcs
    obtain ⟨rfl, rfl, rfl⟩ := hcs
    have hd : d = .slice ((List.range k).map D) ((List.range (m - k)).map fun j => D (k + j)) := by have := congrArg Prod.fst hx; simpa using this
    have := hb _ _ hd
    simp at this
    omega
end

set_option maxRecDepth 100000 in
theorem lifted (os : Os) (started : os.Started) (H : Type) (enc : TypeId × Value → H) :
    ReturnsInHanded {} Try.checked os 3 .any (Rows.schemaMakesSpec.pre6 enc Try.prog Try.f3 Rows.schemaMakesRow.domain false) (Rows.schemaMakesSpec.post enc Try.prog Try.f3 false true false false) := by
  refine returnsInHanded_of_change_sized (C := Try.checked) own started (by kernel_rfl) Try.func3
    (ChangeSpec.witness6 (enc := enc) (C := Try.checked) false ⟨#[], #[.slice none 0 0, .string ⟨#[]⟩, .int .i64 0], []⟩ 8 (by kernel_rfl) (by kernel_rfl) (by kernel_rfl) (by kernel_rfl)) ?_
  intro W base args ds gs before hval0 hW hcnd0 hsz0 hholds
  have hval : ∀ (j : Nat) t v, Try.f3.params[j]? = some t → args[j]? = some v → Value.okWide Try.prog W .any base t v := hval0
  have hsz : (DataW.weightsEach Try.prog (Try.f3.params.toList ++ Rows.schemaMakesSpec.plain.varTypes Try.prog) (ds ++ gs)).all (· ≤ reachBytes) = true := hsz0
  have hW' := hW
  obtain ⟨p, q, hA0, hV, rfl, hfz, hnd⟩ := hW
  have hA : DataW.TrodAll enc Try.prog W 0 (fun _ => true) true Try.f3.params.toList args.toList ds p := hA0
  rw [Try.params3] at hA hval hsz
  obtain ⟨v0, v1, v2, d0, d1, d2, p0, p1, p2, rfl, rfl, rfl, h0, h1, h2⟩ := trodAll_trio hA
  obtain ⟨rfl, rfl⟩ := trodVars_none hV
  obtain ⟨A, c, fs, rfl, hf, _, hsm, _, _⟩ := open_fl (hval 0 22 v0 rfl rfl) h0
  obtain ⟨s, rfl, rfl, rfl, w1⟩ := open_string Try.underlying9 (hval 1 9 v1 rfl rfl) h1
  obtain ⟨n, rfl, rfl, rfl, w2⟩ := open_int Try.underlying2 (hval 2 2 v2 rfl rfl) h2
  have hl := fl_len h0 fun elems spare he => by
    have := sized_slice hsz (j := 0) (t := 22) (e := 44) rfl (by rw [he]; rfl) Try.underlying22
    rw [bytesF] at this
    exact this
  clear hA0 hval0 hsz0
  simp only [List.append_nil] at hW'
  have l0 : ∀ y ∈ p0, y.block < W.heap.size := fun y hy => by have := hW'.lt y; simp [hy] at this; exact this
  have H1 : MkA W A c fs := ⟨hf, by omega, hsm⟩
  refine (makes_if refMade_any of_any A c fs s n W H1).mono fun e W' ⟨he, bel⟩ => ?_
  subst he
  exact ⟨_, rfl, _, _, _, [], _, [], hW', trodAll_mk1 (shut_bool Try.underlying4 _), trodAll_cons_mk (fl_after h0 bel l0) (trodAll_mk2 (shut_string Try.underlying9 w1) (shut_int Try.underlying2 w2)), rfl, bel.frame _, fun h => by cases h⟩

theorem proved : Rows.SchemaMakesSaid :=
  OpenClaim.holds_of_wide 3 Try.f3 rfl rfl rfl rfl rfl rfl rfl ⟨rfl, rfl, rfl, rfl, rfl⟩ rfl rfl rfl rfl rfl (by kernel_rfl) Try.func3 (by kernel_rfl)
    (of_decide_eq_true (by kernel_rfl)) (by unfold Func.isWrapper; first | (rw [if_pos (by decide +kernel)]; kernel_rfl) | (rw [if_neg (by decide +kernel)]; exact ⟨rfl, rfl⟩))
    (fun os started H enc _ => lifted os started H enc)
end schemaMakes
end Go.Proofs.Ytoidkhojkekjeaa
