import Derived.Test.YthdjlaombbeagaaGreatJFLeast
import Derived.Test.YthdjlaombbeagaaGreatJVSl
import Derived.Test.YthdjlaombbeagaaGreatJFOrderL
import Derived.Test.YthdjlaombbeagaaGreatJFFoldR
import Derived.Test.YthdjlaombbeagaaGreatJFTogR
import Derived.Test.YthdjlaombbeagaaGreatJFMay
import Derived.Test.YthdjlaombbeagaaGreatJOrdRef
import Derived.Test.YthdjlaombbeagaaGreatJFAlike
/-
  PLAIN FACTS: datoms, and behind them the changes from their fold to some facts, are folded to these.
-/
namespace Go.Proofs.YthdjlaombbeagaaGreat
open VOrd (IsOrd lexO lex_is ordI_is ordT_is ordT)

theorem rise_cons {f : FactP} {a : List FactP} (h : RiseF (f :: a)) : (∀ g ∈ a, ordTr (triF f) (triF g) < 0) ∧ RiseF a := List.pairwise_cons.1 h
theorem spans_there {a : List FactP} {x : Tri} {t : Int} (h : Inn (spansOf a x) t) : ∃ f ∈ a, triF f = x := by
  obtain ⟨s, hs, _⟩ := h
  unfold spansOf at hs
  cases hq : a.find? (fun g => decide (triF g = x)) with
  | none => rw [hq] at hs; cases hs
  | some g =>
    have h2 := List.find?_some hq
    exact ⟨g, List.mem_of_find?_eq_some hq, of_decide_eq_true h2⟩
theorem spans_last' {l : List Dat} {fs : List FactP} (hg : Goes (sortsD 1 l)) (h : FoldsTo (runsL triD (sortsD 1 l)) fs) (hm : notMay l = false) (x : Tri) (t : Int) :
    Inn (spansOf fs x) t ↔ ∃ z ∈ l, triD z = x ∧ z.add = true ∧ Names z t ∧ ∀ y ∈ l, triD y = x → Names y t → y.add = false → y.t < z.t := by
  by_cases hx : ∃ d ∈ l, triD d = x
  · obtain ⟨d, hd, rfl⟩ := hx
    exact spans_last hg h hm hd t
  · constructor
    · intro hi
      obtain ⟨f, hf, e⟩ := spans_there hi
      obtain ⟨ls, h1, h2, rfl⟩ := h
      obtain ⟨i, d, r, q, g1, _, _, rfl⟩ := mem_factsOf _ _ f hf
      exact absurd ⟨d, ((sorts_ups l).2 d).1 (run_in_mem triD (List.mem_of_getElem? g1) (by simp)), e⟩ hx
    · rintro ⟨z, hz, e, _⟩
      exact absurd ⟨z, hz, e⟩ hx
theorem facts_ext {a b : List FactP} (ha : mayFs a = true) (hb : mayFs b = true) (h : ∀ x t, Inn (spansOf a x) t ↔ Inn (spansOf b x) t) : a = b := by
  obtain ⟨ma, ra⟩ := of_decide_eq_true ha
  obtain ⟨mb, rb⟩ := of_decide_eq_true hb
  have good : ∀ f : FactP, mayF f = true → SetL f.l ∧ f.l ≠ [] := fun f hf => by
    unfold mayF at hf
    simp only [Bool.and_eq_true] at hf
    exact ⟨of_decide_eq_true hf.2, List.length_pos_iff.1 (of_decide_eq_true hf.1.2)⟩
  have has : ∀ (l : List FactP), (∀ f ∈ l, mayF f = true) → RiseF l → ∀ x, x ∈ l.map triF ↔ ∃ t, Inn (spansOf l x) t := fun l hl hr x => by
    constructor
    · intro hx
      obtain ⟨f, hf, rfl⟩ := List.mem_map.1 hx
      obtain ⟨g1, g2⟩ := good f (hl f hf)
      rw [spansOf_mem hr hf]
      cases hfl : f.l with
      | nil => exact absurd hfl g2
      | cons s r => exact ⟨s.1, (set_start (s := s) (by rw [← hfl]; exact g1) (by simp)).1⟩
    · rintro ⟨t, hi⟩
      obtain ⟨f, hf, e⟩ := spans_there hi
      exact List.mem_map.2 ⟨f, hf, e⟩
  have hmap : a.map triF = b.map triF := by
    refine ups_uniq ordTr_is _ _ ?_ ?_ fun x => ?_
    · unfold Ups; exact List.pairwise_map.2 ra
    · unfold Ups; exact List.pairwise_map.2 rb
    · rw [has a ma ra, has b mb rb]
      exact exists_congr fun t => h x t
  have hlen : a.length = b.length := by have := congrArg List.length hmap; simpa using this
  refine List.ext_getElem hlen fun i h1 h2 => ?_
  have e : triF a[i] = triF b[i] := by
    have := List.getElem_of_eq hmap (i := i) (by simpa using h1)
    simpa using this
  have k1 := spansOf_mem ra (List.getElem_mem h1)
  have k2 := spansOf_mem rb (List.getElem_mem h2)
  have el : a[i].l = b[i].l := by
    refine set_ext (good _ (ma _ (List.getElem_mem h1))).1 (good _ (mb _ (List.getElem_mem h2))).1 fun t => ?_
    rw [← k1, ← k2, e]
    exact h _ t
  unfold triF at e
  simp only [Prod.mk.injEq] at e
  generalize a[i] = f at e el
  generalize b[i] = g at e el
  obtain ⟨f1, f2, f3, f4, f5, f6⟩ := f
  obtain ⟨g1, g2, g3, g4, g5, g6⟩ := g
  simp only at e el
  obtain ⟨rfl, rfl, rfl, rfl, rfl⟩ := e
  subst el
  rfl
end Go.Proofs.YthdjlaombbeagaaGreat

/-
  PLAIN: the document's fold (layer 6) is what the datoms are folded to.
-/
namespace Go.Proofs.YthdjlaombbeagaaGreat

theorem alike_tri {a b : Dat} : alikeB a b = true ↔ triD a = triD b := by
  unfold alikeB triD
  simp only [Bool.and_eq_true, beq_iff_eq, decide_eq_true_eq, Prod.mk.injEq]
  constructor
  · rintro ⟨⟨h1, h2⟩, h3, h4, h5⟩; exact ⟨h1, h2, h3, h4, h5⟩
  · rintro ⟨h1, h2, h3, h4, h5⟩; exact ⟨⟨h1, h2⟩, h3, h4, h5⟩
/-- a fact in its place; one that is there stays -/
def putR : List FactP → FactP → List FactP
  | [], f => [f]
  | g :: r, f => if ordTr (triF g) (triF f) < 0 then g :: putR r f else if ordTr (triF g) (triF f) = 0 then g :: r else f :: g :: r
theorem putR_mem : ∀ {l : List FactP} {f x : FactP}, x ∈ putR l f → x ∈ l ∨ x = f
  | [], f, x, h => .inr (List.mem_singleton.1 h)
  | g :: r, f, x, h => by
    unfold putR at h
    split at h
    · rcases List.mem_cons.1 h with rfl | h
      · exact .inl (by simp)
      · rcases putR_mem h with h | h
        · exact .inl (by simp [h])
        · exact .inr h
    · split at h
      · exact .inl h
      · rcases List.mem_cons.1 h with rfl | h
        · exact .inr rfl
        · exact .inl h
theorem putR_old : ∀ {l : List FactP} {f x : FactP}, x ∈ l → x ∈ putR l f
  | [], _, _, h => by cases h
  | g :: r, f, x, h => by
    unfold putR
    split
    · rcases List.mem_cons.1 h with rfl | h
      · simp
      · simp [putR_old h]
    · split
      · exact h
      · exact List.mem_cons_of_mem _ h
theorem putR_tri : ∀ (l : List FactP) (f : FactP), ∃ x ∈ putR l f, triF x = triF f
  | [], f => ⟨f, List.mem_singleton.2 rfl, rfl⟩
  | g :: r, f => by
    unfold putR
    split
    · obtain ⟨x, hx, e⟩ := putR_tri r f
      exact ⟨x, by simp [hx], e⟩
    · split
      · rename_i h
        exact ⟨g, by simp, (ordTr_is.zero _ _).1 h⟩
      · exact ⟨f, by simp, rfl⟩
theorem putR_rise : ∀ {l : List FactP} {f : FactP}, RiseF l → RiseF (putR l f)
  | [], _, _ => List.pairwise_singleton _ _
  | g :: r, f, h => by
    have h0 := rise_cons h
    unfold putR
    split
    · rename_i hlt
      refine List.pairwise_cons.2 ⟨fun x hx => ?_, putR_rise h0.2⟩
      rcases putR_mem hx with hx | rfl
      · exact h0.1 x hx
      · exact hlt
    · split
      · exact h
      · rename_i h1 h2
        have h3 : ordTr (triF f) (triF g) < 0 := by
          have := ordTr_is.swap (triF g) (triF f)
          rcases ordTr_is.range (triF g) (triF f) with h | h | h <;> omega
        refine List.pairwise_cons.2 ⟨fun x hx => ?_, h⟩
        rcases List.mem_cons.1 hx with rfl | hx
        · exact h3
        · exact tri_trans _ _ _ h3 (h0.1 x hx)
/-- the document's fold -/
def foldRs (l : List Dat) (p : List Dat) : List FactP := p.foldl (fun out d => if spR l d = [] then out else putR out (factD d (spR l d))) []
theorem spR_tri {l : List Dat} {a b : Dat} (h1 : ∀ y ∈ l, 1 ≤ y.t) (e : triD a = triD b) : spR l a = spR l b := by
  have ha := spR_last a h1
  have hb := spR_last b h1
  refine set_ext ha.1 hb.1 (fun x => (ha.2 x).trans (Iff.trans ?_ (hb.2 x).symm))
  have hab : ∀ y : Dat, alikeB y a = true ↔ alikeB y b = true := fun y => by rw [alike_tri, alike_tri, e]
  constructor
  · rintro ⟨z, hz, k1, k2, k3, k4⟩
    exact ⟨z, hz, (hab z).1 k1, k2, k3, fun y hy g => k4 y hy ((hab y).2 g)⟩
  · rintro ⟨z, hz, k1, k2, k3, k4⟩
    exact ⟨z, hz, (hab z).2 k1, k2, k3, fun y hy g => k4 y hy ((hab y).1 g)⟩
theorem foldRs_is {l : List Dat} : ∀ (p q : List Dat) (out : List FactP), (∀ d ∈ p, d ∈ q) →
    RiseF out → (∀ f ∈ out, ∃ d ∈ q, f = factD d (spR l d) ∧ spR l d ≠ []) →
    let r := p.foldl (fun out d => if spR l d = [] then out else putR out (factD d (spR l d))) out
    RiseF r ∧ (∀ f ∈ r, ∃ d ∈ q, f = factD d (spR l d) ∧ spR l d ≠ []) ∧ (∀ f ∈ out, f ∈ r) ∧ ∀ d ∈ p, spR l d ≠ [] → ∃ f ∈ r, triF f = triD d
  | [], q, out, _, h1, h2 => ⟨h1, h2, fun _ h => h, fun _ h => by cases h⟩
  | x :: p, q, out, hq, h1, h2 => by
    simp only [List.foldl_cons]
    have hxq : x ∈ q := hq x (by simp)
    have hpq : ∀ d ∈ p, d ∈ q := fun d hd => hq d (by simp [hd])
    by_cases g : spR l x = []
    · rw [if_pos g]
      obtain ⟨k1, k2, k3, k4⟩ := foldRs_is p q out hpq h1 h2
      refine ⟨k1, k2, k3, fun d hd hne => ?_⟩
      rcases List.mem_cons.1 hd with rfl | hd
      · exact absurd g hne
      · exact k4 d hd hne
    · rw [if_neg g]
      obtain ⟨k1, k2, k3, k4⟩ := foldRs_is p q (putR out (factD x (spR l x))) hpq (putR_rise h1) (fun f hf => by
        rcases putR_mem hf with hf | rfl
        · exact h2 f hf
        · exact ⟨x, hxq, rfl, g⟩)
      refine ⟨k1, k2, fun f hf => k3 f (putR_old hf), fun d hd hne => ?_⟩
      rcases List.mem_cons.1 hd with rfl | hd
      · obtain ⟨f, hf, e⟩ := putR_tri out (factD d (spR l d))
        exact ⟨f, k3 f hf, e⟩
      · exact k4 d hd hne
theorem notMay_all {l : List Dat} (hm : notMay l = false) {d : Dat} (hd : d ∈ l) : mayD d = true := by
  unfold notMay at hm
  rw [List.any_eq_false] at hm
  simpa using hm d hd
theorem may_t {d : Dat} (h : mayD d = true) : 1 ≤ d.t := by
  unfold mayD at h
  simp only [Bool.and_eq_true, decide_eq_true_eq] at h
  exact h.1.2.1
/-- the document's fold is what the datoms are folded to -/
theorem fold_same {l : List Dat} {fs : List FactP} (hm : notMay l = false) (hg : Goes (sortsD 1 l)) (hf : FoldsTo (runsL triD (sortsD 1 l)) fs) : foldRs l l = fs := by
  have h1 : ∀ y ∈ l, 1 ≤ y.t := fun y hy => may_t (notMay_all hm hy)
  obtain ⟨k1, k2, _, k4⟩ := foldRs_is (l := l) l l [] (fun _ h => h) List.Pairwise.nil (fun _ h => by cases h)
  have k1 : RiseF (foldRs l l) := k1
  have k2 : ∀ f ∈ foldRs l l, ∃ d ∈ l, f = factD d (spR l d) ∧ spR l d ≠ [] := k2
  have k4 : ∀ d ∈ l, spR l d ≠ [] → ∃ f ∈ foldRs l l, triF f = triD d := k4
  have hmay : mayFs (foldRs l l) = true := by
    refine decide_eq_true ⟨fun f hf => ?_, k1⟩
    obtain ⟨d, hd, rfl, hne⟩ := k2 f hf
    have hmd := notMay_all hm hd
    have hset := (spR_last d h1).1
    unfold mayF
    rw [Bool.and_eq_true_iff, Bool.and_eq_true_iff]
    refine ⟨⟨?_, decide_eq_true (List.length_pos_iff.2 hne)⟩, decide_eq_true hset⟩
    unfold mayD at hmd ⊢
    simp only [Bool.and_eq_true] at hmd ⊢
    exact ⟨⟨hmd.1.1, decide_eq_true (show (1 : Int) ≤ 1 ∧ (1 : Int) ≤ 1099511627776 by omega)⟩, decide_eq_true (show (0 : Int) < 1 by omega)⟩
  have hsp : ∀ d ∈ l, spansOf (foldRs l l) (triD d) = spR l d := fun d hd => by
    by_cases g : spR l d = []
    · rw [g]
      refine spansOf_none (fun f hf e => ?_)
      obtain ⟨d2, hd2, rfl, hne⟩ := k2 f hf
      exact hne ((spR_tri h1 (show triD d2 = triD d from e)).trans g)
    · obtain ⟨f, hf, e⟩ := k4 d hd g
      rw [← e, spansOf_mem k1 hf]
      obtain ⟨d2, hd2, rfl, _⟩ := k2 f hf
      exact spR_tri h1 (show triD d2 = triD d from e)
  refine facts_ext hmay (foldsTo_may hm hf) (fun x t => Iff.trans ?_ (spans_last' hg hf hm x t).symm)
  by_cases hx : ∃ d ∈ l, triD d = x
  · obtain ⟨d, hd, rfl⟩ := hx
    rw [hsp d hd, (spR_last d h1).2 t]
    constructor
    · rintro ⟨z, hz, g1, g2, g3, g4⟩
      exact ⟨z, hz, alike_tri.1 g1, g2, g3, fun y hy g => g4 y hy (alike_tri.2 g)⟩
    · rintro ⟨z, hz, g1, g2, g3, g4⟩
      exact ⟨z, hz, alike_tri.2 g1, g2, g3, fun y hy g => g4 y hy (alike_tri.1 g)⟩
  · rw [spansOf_none (fun f hf e => by
      obtain ⟨d, hd, rfl, _⟩ := k2 f hf
      exact hx ⟨d, hd, e⟩)]
    constructor
    · rintro ⟨_, h, _⟩; cases h
    · rintro ⟨z, hz, e, _⟩
      exact absurd ⟨z, hz, e⟩ hx
theorem clash_comm {a b : Dat} (h : clashB a b = true) : clashB b a = true := by
  unfold clashB at h ⊢
  simp only [Bool.and_eq_true, beq_iff_eq, bne_iff_ne, decide_eq_true_eq] at h ⊢
  obtain ⟨⟨⟨⟨h1, h2⟩, h3⟩, h4⟩, h5⟩ := h
  exact ⟨⟨⟨⟨alike_tri.2 (alike_tri.1 h1).symm, h2.symm⟩, fun e => h3 e.symm⟩, h5⟩, h4⟩
/-- what goes together by the document goes together -/
theorem togL_is {l : List Dat} : TogL l ↔ notMay l = false ∧ Goes (sortsD 1 l) := by
  constructor
  · rintro ⟨h1, h2⟩
    have hm : notMay l = false := by
      unfold notMay
      rw [List.any_eq_false]
      intro d hd
      obtain ⟨i, hi, rfl⟩ := List.mem_iff_getElem.1 hd
      simp [h1 i _ (List.getElem?_eq_getElem hi)]
    refine ⟨hm, fun run hr once ho => ?_⟩
    rintro ⟨t, ⟨s1, hs1, g1, g2⟩, ⟨s2, hs2, g3, g4⟩⟩
    obtain ⟨a, ha, rfl⟩ := List.mem_map.1 hs1
    obtain ⟨b, hb, rfl⟩ := List.mem_map.1 hs2
    obtain ⟨ha1, ha2⟩ := List.mem_filter.1 ha
    obtain ⟨hb1, hb2⟩ := List.mem_filter.1 hb
    have ham := run_mem (fun d : Dat => d.t) ho ha1
    have hbm := run_mem (fun d : Dat => d.t) ho hb1
    have hal : a ∈ l := ((sorts_ups l).2 a).1 (run_mem triD hr ham)
    have hbl : b ∈ l := ((sorts_ups l).2 b).1 (run_mem triD hr hbm)
    have et : a.t = b.t := run_all (fun d : Dat => d.t) ho ha1 hb1
    have etr : triD a = triD b := run_all triD hr ham hbm
    have hc : clashB a b = true := by
      unfold clashB
      simp only [Bool.and_eq_true, beq_iff_eq, bne_iff_ne, decide_eq_true_eq]
      refine ⟨⟨⟨⟨alike_tri.2 etr, et⟩, ?_⟩, ?_⟩, ?_⟩
      · intro e
        rw [e] at ha2
        simp [ha2] at hb2
      · have : a.fr ≤ t := g1
        have : t < b.til := g4
        omega
      · have : b.fr ≤ t := g3
        have : t < a.til := g2
        omega
    obtain ⟨i, hi, ei⟩ := List.mem_iff_getElem.1 hal
    obtain ⟨k, hk, ek⟩ := List.mem_iff_getElem.1 hbl
    have gi : l[i]? = some a := by rw [List.getElem?_eq_getElem hi, ei]
    have gk : l[k]? = some b := by rw [List.getElem?_eq_getElem hk, ek]
    rcases Nat.lt_trichotomy i k with hik | hik | hik
    · have := h2 k i b a hik gk gi
      rw [clash_comm hc] at this
      cases this
    · subst hik
      rw [gi] at gk
      cases gk
      simp [ha2] at hb2
    · have := h2 i k a b hik gi gk
      rw [hc] at this
      cases this
  · rintro ⟨hm, hg⟩
    refine ⟨fun i x hx => notMay_all hm (List.mem_of_getElem? hx), fun i k a b _ ha hb => ?_⟩
    cases hc : clashB a b with
    | false => rfl
    | true =>
      unfold clashB at hc
      simp only [Bool.and_eq_true, beq_iff_eq, bne_iff_ne, decide_eq_true_eq] at hc
      obtain ⟨⟨⟨⟨h1, h2⟩, h3⟩, h4⟩, h5⟩ := hc
      have hal := List.mem_of_getElem? ha
      have hbl := List.mem_of_getElem? hb
      have hma := notMay_all hm hal
      have hmb := notMay_all hm hbl
      unfold mayD at hma hmb
      simp only [Bool.and_eq_true, decide_eq_true_eq] at hma hmb
      have l1 := hma.2
      have l2 := hmb.2
      by_cases g : a.fr ≤ b.fr
      · exact absurd (goes_apart hg hal hbl (alike_tri.1 h1) h2 (t := b.fr) ⟨g, by omega⟩ ⟨Int.le_refl _, by omega⟩) h3
      · exact absurd (goes_apart hg hal hbl (alike_tri.1 h1) h2 (t := a.fr) ⟨Int.le_refl _, by omega⟩ ⟨by omega, by omega⟩) h3
end Go.Proofs.YthdjlaombbeagaaGreat

/-
  CONTRACT of the document's own answer: Compare of two facts.
-/
namespace Go.Proofs.YthdjlaombbeagaaGreat
open Go.RowKit Go.Shelf

set_option maxRecDepth 100000 in
set_option maxHeartbeats 2000000 in
/-- CONTRACT of the document's own answer: Compare of two facts. -/
theorem refCmpF_any (f g : FactP) (sv sv' : Value) (w : World) (hsv : ∃ A n c, sv = .slice A n c) (hsv' : ∃ A n c, sv' = .slice A n c) (hs : f.s.size ≤ maxLen) (hs' : g.s.size ≤ maxLen) :
    Calls Tryz.prog 50 #[.agg #[.int .i64 f.e, .int .i64 f.a, .int .i64 f.k, .int .i64 f.m, .string f.s, sv], .agg #[.int .i64 g.e, .int .i64 g.a, .int .i64 g.k, .int .i64 g.m, .string g.s, sv']] w fun e w' => e = .returned (.int .i64 (ordTr (triF f) (triF g))) ∧ Below w.heap.size w w' := by
  obtain ⟨A1, n1, c1, rfl⟩ := hsv
  obtain ⟨A2, n2, c2, rfl⟩ := hsv'
  have HT : Hid (ordTr (triF f) (triF g) = if ordI f.e g.e = 0 then (if ordI f.a g.a = 0 then ordV f.k f.m f.s g.k g.m g.s else ordI f.a g.a) else ordI f.e g.e) := rfl
  have HV := Lib.hid (fun W => refCompare_any f.k f.m f.s g.k g.m g.s W hs hs')
  obtain ⟨w0, hw0⟩ : ∃ w0, (w.alloc (.cells #[.int .i64 f.e, .int .i64 f.a, .int .i64 f.k, .int .i64 f.m, .string f.s, .slice A1 n1 c1] 67)).alloc (.cells #[.int .i64 g.e, .int .i64 g.a, .int .i64 g.k, .int .i64 g.m, .string g.s, .slice A2 n2 c2] 67) = w0 := ⟨_, rfl⟩
  have HB0 : Hid (Below w.heap.size w w0) := by rw [← hw0]; exact ((Below.refl _ _).alloc (Nat.le_refl _) _).alloc (by simp) _
  have HX0 : Hid (FcBx w0 w.heap.size f (.slice A1 n1 c1)) := by rw [← hw0]; exact FcBx.next (fcBx_new w f _) ((Below.refl _ _).alloc (Nat.le_refl _) _)
  have HY0 : Hid (FcBx w0 (w.heap.size + 1) g (.slice A2 n2 c2)) := by
    rw [← hw0]
    have := fcBx_new (w.alloc (.cells #[.int .i64 f.e, .int .i64 f.a, .int .i64 f.k, .int .i64 f.m, .string f.s, .slice A1 n1 c1] 67)) g (.slice A2 n2 c2)
    rwa [World.size_alloc] at this
  have x0 := HX0.out.k0
  have x1 := HX0.out.k1
  have x2 := HX0.out.k2
  have x3 := HX0.out.k3
  have x4 := HX0.out.k4
  have y0 := HY0.out.k0
  have y1 := HY0.out.k1
  have y2 := HY0.out.k2
  have y3 := HY0.out.k3
  have y4 := HY0.out.k4
  clear hs hs' HX0 HY0
  go_enter Tryz.func50, Tryz.ntmps50
  go_upto_region 1 with (fail)
  try rw [hw0]
  clear hw0
  by_cases h1 : f.e < g.e
  · have HE : Hid (ordTr (triF f) (triF g) = -1) := by
      show _ = _
      have : ordI f.e g.e = -1 := by unfold ordI; rw [if_pos h1]
      rw [HT.out, this]; rfl
    go_wp2
    go_ret
    exact ⟨by rw [HE.out]; rfl, HB0.out⟩
  by_cases h2 : g.e < f.e
  · have HE : Hid (ordTr (triF f) (triF g) = 1) := by
      show _ = _
      have : ordI f.e g.e = 1 := by unfold ordI; rw [if_neg h1, if_pos h2]
      rw [HT.out, this]; rfl
    have h3 : (f.e == g.e) = false := by have : ¬ f.e = g.e := (by omega); simpa using this
    go_wp2
    go_ret
    exact ⟨by rw [HE.out]; rfl, HB0.out⟩
  have he : f.e = g.e := by omega
  have h3 : (f.e == g.e) = true := by simpa using he
  have HI : Hid (ordI f.e g.e = 0) := (VOrd.ordI_is.zero _ _).2 he
  clear he
  by_cases h4 : f.a < g.a
  · have HE : Hid (ordTr (triF f) (triF g) = -1) := by
      show _ = _
      have : ordI f.a g.a = -1 := by unfold ordI; rw [if_pos h4]
      rw [HT.out, HI.out, this]; rfl
    go_wp2
    go_ret
    exact ⟨by rw [HE.out]; rfl, HB0.out⟩
  by_cases h5 : g.a < f.a
  · have HE : Hid (ordTr (triF f) (triF g) = 1) := by
      show _ = _
      have : ordI f.a g.a = 1 := by unfold ordI; rw [if_neg h4, if_pos h5]
      rw [HT.out, HI.out, this]; rfl
    go_wp2
    go_ret
    exact ⟨by rw [HE.out]; rfl, HB0.out⟩
  have HE : Hid (ordTr (triF f) (triF g) = ordV f.k f.m f.s g.k g.m g.s) := by
    show _ = _
    have : ordI f.a g.a = 0 := (VOrd.ordI_is.zero _ _).2 (by omega)
    rw [HT.out, HI.out, this]; rfl
  go_wp2_with fail
  refine (HV.out _).mono ?_
  rintro e9 w1 ⟨rfl, hb1⟩
  have HB1 := Lib.hid (HB0.out.trans (hb1.mono HB0.out.size))
  clear hb1
  go_wp2
  go_ret
  exact ⟨by rw [HE.out]; rfl, HB1.out⟩

end Go.Proofs.YthdjlaombbeagaaGreat

/-
  CONTRACT: the document's Put (layer 6): a fact in its place.
-/
namespace Go.Proofs.YthdjlaombbeagaaGreat
open Go.RowKit

/-- how many facts stand ahead of one -/
def atP (f : FactP) : List FactP → Nat
  | [] => 0
  | g :: r => if ordTr (triF g) (triF f) < 0 then atP f r + 1 else 0
theorem atP_is (f : FactP) : ∀ (l : List FactP) (n : Nat), n ≤ l.length → (∀ i g, i < n → l[i]? = some g → ordTr (triF g) (triF f) < 0) → (∀ g, l[n]? = some g → ¬ ordTr (triF g) (triF f) < 0) → atP f l = n
  | [], n, hn, _, _ => by simp only [List.length_nil, Nat.le_zero] at hn; subst hn; rfl
  | g :: r, 0, _, _, h => by unfold atP; rw [if_neg (h g rfl)]
  | g :: r, n + 1, hn, h1, h2 => by
    unfold atP
    rw [if_pos (h1 0 g (Nat.succ_pos _) rfl), atP_is f r n (by simp at hn; omega) (fun i x hi hx => h1 (i + 1) x (by omega) (by simpa using hx)) (fun x hx => h2 x (by simpa using hx))]
theorem putR_at (f : FactP) : ∀ (l : List FactP), putR l f = if (∃ g, l[atP f l]? = some g ∧ ordTr (triF g) (triF f) = 0) then l else l.take (atP f l) ++ [f] ++ l.drop (atP f l)
  | [] => by unfold putR atP; rw [if_neg (by rintro ⟨_, h, _⟩; simp at h)]; rfl
  | g :: r => by
    unfold putR atP
    by_cases h : ordTr (triF g) (triF f) < 0
    · rw [if_pos h, if_pos h, putR_at f r]
      by_cases h2 : ∃ g, r[atP f r]? = some g ∧ ordTr (triF g) (triF f) = 0
      · rw [if_pos h2, if_pos (by obtain ⟨x, hx, hy⟩ := h2; exact ⟨x, by simpa using hx, hy⟩)]
      · rw [if_neg h2, if_neg (by rintro ⟨x, hx, hy⟩; exact h2 ⟨x, by simpa using hx, hy⟩)]
        rfl
    · rw [if_neg h, if_neg h]
      by_cases h2 : ordTr (triF g) (triF f) = 0
      · rw [if_pos h2, if_pos ⟨g, rfl, h2⟩]
      · rw [if_neg h2, if_neg (by rintro ⟨x, hx, hy⟩; cases hx; exact h2 hy)]
        rfl
/-- a row of facts, its cells written out -/
def SlF (W : World) (A : Option Addr) (ps : List (FactP × Value)) : Prop := ps ≠ [] → ∃ g o, A = some ⟨g, o, none⟩ ∧ g < W.heap.size ∧ ∀ (i : Nat) (u : Value), (ps.flatMap cellsF)[i]? = some u → W.cell? ⟨g, o + i, none⟩ = some u
theorem SlF.next {W W' : World} {A : Option Addr} {ps : List (FactP × Value)} (h : SlF W A ps) (hb : Below W.heap.size W W') : SlF W' A ps := fun hl => by
  obtain ⟨g, o, e, hlt, hc⟩ := h hl
  exact ⟨g, o, e, Nat.lt_of_lt_of_le hlt hb.size, fun i u hu => (hb.cell (p := ⟨g, o + i, none⟩) hlt).trans (hc i u hu)⟩
theorem cellsF_flat (ps : List (FactP × Value)) : (ps.flatMap cellsF).length = ps.length * 6 := flatG_len (enc := cellsF) (k := 6) (fun _ => rfl) ps
theorem cellsF_ones (ps : List (FactP × Value)) (h : ∀ p ∈ ps, ∃ A n c, p.2 = .slice A n c) : ∀ u ∈ ps.flatMap cellsF, u.oneCell' = true := by
  intro u hu
  obtain ⟨p, hp, hq⟩ := List.mem_flatMap.1 hu
  obtain ⟨A, n, c, e⟩ := h p hp
  simp only [cellsF, List.mem_cons, List.not_mem_nil, or_false] at hq
  rcases hq with rfl | rfl | rfl | rfl | rfl | rfl
  all_goals first | rfl | (rw [e]; rfl)
theorem flatF_take (ps : List (FactP × Value)) (r : Nat) : (ps.take r).flatMap cellsF = (ps.flatMap cellsF).take (r * 6) := by
  induction ps generalizing r with
  | nil => simp
  | cons p ps ih =>
    cases r with
    | zero => simp
    | succ r =>
      rw [List.take_succ_cons, List.flatMap_cons, List.flatMap_cons, ih, List.take_append, show (cellsF p).length = 6 from rfl, show (cellsF p).take ((r + 1) * 6) = cellsF p from List.take_of_length_le (by show 6 ≤ _; omega), show (r + 1) * 6 - 6 = r * 6 by omega]
theorem flatF_drop (ps : List (FactP × Value)) (r : Nat) : (ps.drop r).flatMap cellsF = (ps.flatMap cellsF).drop (r * 6) := by
  induction ps generalizing r with
  | nil => simp
  | cons p ps ih =>
    cases r with
    | zero => simp
    | succ r =>
      rw [List.drop_succ_cons, List.flatMap_cons, ih, List.drop_append, show (cellsF p).length = 6 from rfl, show (cellsF p).drop ((r + 1) * 6) = [] from List.drop_eq_nil_of_le (by show 6 ≤ _; omega), List.nil_append, show (r + 1) * 6 - 6 = r * 6 by omega]
theorem SlF.take {W : World} {A : Option Addr} {ps : List (FactP × Value)} (h : SlF W A ps) (r : Nat) : SlF W A (ps.take r) := fun hl => by
  obtain ⟨g, o, e, hlt, hc⟩ := h (fun e => hl (by rw [e]; simp))
  refine ⟨g, o, e, hlt, fun i u hu => hc i u ?_⟩
  rw [flatF_take, List.getElem?_take] at hu
  split at hu
  · exact hu
  · cases hu
theorem SlF.drop {W : World} {ad : Addr} {ps : List (FactP × Value)} (h : SlF W (some ad) ps) (r : Nat) : SlF W (some (ad.add (r * 6))) (ps.drop r) := fun hl => by
  obtain ⟨g, o, e, hlt, hc⟩ := h (fun e => hl (by rw [e]; simp))
  injection e with e
  subst e
  refine ⟨g, o + r * 6, by rw [addI], hlt, fun i u hu => ?_⟩
  rw [flatF_drop, List.getElem?_drop] at hu
  rw [show o + r * 6 + i = o + (r * 6 + i) by omega]
  exact hc _ u hu
theorem SlF.cells {W : World} {ad : Addr} {ps : List (FactP × Value)} (h : SlF W (some ad) ps) : ∀ (j : Nat) (u : Value), (ps.flatMap cellsF)[j]? = some u → W.cell? (ad.add j) = some u := fun j u hu => by
  obtain ⟨g, o, e, _, hc⟩ := h (fun e => by rw [e] at hu; simp at hu)
  injection e with e
  subst e
  rw [addI]
  exact hc j u hu
theorem SlF.at_ {W : World} {A : Option Addr} {ps : List (FactP × Value)} (h : SlF W A ps) {j : Nat} (hj : j < ps.length) : ∃ g o, A = some ⟨g, o, none⟩ ∧ g < W.heap.size ∧ ∀ (i : Nat) (u : Value), (cellsF ps[j])[i]? = some u → W.cell? ⟨g, o + j * 6 + i, none⟩ = some u := by
  obtain ⟨g, o, e, hlt, hc⟩ := h (fun e => by rw [e] at hj; simp at hj)
  refine ⟨g, o, e, hlt, fun i u hu => ?_⟩
  have hi : i < 6 := (List.getElem?_eq_some_iff.1 hu).1
  rw [show o + j * 6 + i = o + (j * 6 + i) by omega]
  refine hc _ u ?_
  rw [flatG (enc := cellsF) (k := 6) (fun _ => rfl) hi, List.getElem?_eq_getElem hj]
  exact hu
theorem OwnF.slF {W : World} {B : Nat} {v : Value} {ps : List (FactP × Value)} (h : OwnF W B v ps) : ∃ A c, v = .slice A ps.length c ∧ SlF W A ps ∧ ps.length ≤ c ∧ c ≤ maxLen := by
  rcases h.1.2 with ⟨rfl, h0⟩ | ⟨g, cap, cur, rfl, hgB, hgb, hlc, hcm, _⟩
  · have : ps = [] := List.length_eq_zero_iff.1 h0
    subst this
    exact ⟨none, 0, rfl, fun hl => absurd rfl hl, Nat.le_refl _, Nat.zero_le _⟩
  · refine ⟨_, _, rfl, fun _ => ⟨g, 0, rfl, (Array.getElem?_eq_some_iff.1 hgb).1, fun i u hu => ?_⟩, hlc, hcm⟩
    have := World.ownsRow.cells h.1 (g := g) rfl i u hu
    rw [addI] at this
    exact this
theorem OwnF.agg {W : World} {B : Nat} {v : Value} {ps : List (FactP × Value)} (h : OwnF W B v ps) : ∀ p ∈ ps, ∃ A n c, p.2 = .slice A n c := fun p hp => by
  obtain ⟨A, c, e, _⟩ := h.2 p hp
  exact ⟨A, _, c, e⟩
theorem rowF_form {W : World} {B n : Nat} {v : Value} {xs : List Value} (h : W.ownsRow B 67 6 v n xs) : ∃ A c, v = .slice A n c := by
  rcases h.2 with ⟨rfl, h0⟩ | ⟨g, cap, cur, rfl, _⟩
  · exact ⟨none, 0, by rw [h0]⟩
  · exact ⟨_, _, rfl⟩
theorem rowF_succ {W : World} {B n : Nat} {v : Value} {xs : List Value} (h : W.ownsRow B 67 6 v (n + 1) xs) : ∃ g c, v = .slice (some ⟨g, 0, none⟩) (n + 1) c := by
  rcases h.2 with ⟨_, h0⟩ | ⟨g, cap, cur, rfl, _⟩
  · cases h0
  · exact ⟨_, _, rfl⟩
/-- what the document's Put leaves -/
def PutF (w : World) (B : Nat) (ps : List (FactP × Value)) (f : FactP) (e : Ending) (w' : World) : Prop := ∃ v' ps', e = .returned v' ∧ OwnF w' B v' ps' ∧ ps'.map (·.1) = putR (ps.map (·.1)) f ∧ Below w.heap.size w w'
theorem putF_old {w w' : World} {B : Nat} {v : Value} {ps : List (FactP × Value)} {f : FactP} {j : Nat} {p : FactP × Value} (h : OwnF w' B v ps) (hb : Below w.heap.size w w') (hp : ps[j]? = some p) (hlt : ∀ i g, i < j → ps[i]? = some g → ordTr (triF g.1) (triF f) < 0) (hz : ordTr (triF p.1) (triF f) = 0) : PutF w B ps f (.returned v) w' := by
  refine ⟨v, ps, rfl, h, ?_, hb⟩
  have hj := (List.getElem?_eq_some_iff.1 hp).1
  have e : atP f (ps.map (·.1)) = j := atP_is f _ j (by rw [List.length_map]; omega) (fun i g hi hg => by
    rw [List.getElem?_map] at hg
    obtain ⟨q, hq, rfl⟩ := Option.map_eq_some_iff.1 hg
    exact hlt i q hi hq) (fun g hg => by
    rw [List.getElem?_map, hp] at hg
    cases hg
    show ¬ ordTr (triF p.1) (triF f) < 0
    omega)
  rw [putR_at, e, if_pos ⟨p.1, by rw [List.getElem?_map, hp]; rfl, hz⟩]
theorem putF_new {w w' : World} {B : Nat} {v' : Value} {ps : List (FactP × Value)} {f : FactP} {sv : Value} {j : Nat} (hj : j ≤ ps.length) (h : OwnF w' B v' (ps.take j ++ [(f, sv)] ++ ps.drop j)) (hb : Below w.heap.size w w') (hlt : ∀ i g, i < j → ps[i]? = some g → ordTr (triF g.1) (triF f) < 0) (hz : ∀ p, ps[j]? = some p → 0 ≤ ordTr (triF p.1) (triF f) ∧ ordTr (triF p.1) (triF f) ≠ 0) : PutF w B ps f (.returned v') w' := by
  refine ⟨v', _, rfl, h, ?_, hb⟩
  have e : atP f (ps.map (·.1)) = j := atP_is f _ j (by rw [List.length_map]; omega) (fun i g hi hg => by
    rw [List.getElem?_map] at hg
    obtain ⟨q, hq, rfl⟩ := Option.map_eq_some_iff.1 hg
    exact hlt i q hi hq) (fun g hg => by
    rw [List.getElem?_map] at hg
    obtain ⟨q, hq, rfl⟩ := Option.map_eq_some_iff.1 hg
    exact Int.not_lt.2 (hz q hq).1)
  rw [putR_at, e, if_neg (by
    rintro ⟨g, hg, h0⟩
    rw [List.getElem?_map] at hg
    obtain ⟨q, hq, rfl⟩ := Option.map_eq_some_iff.1 hg
    exact (hz q hq).2 h0)]
  rw [List.map_append, List.map_append, List.map_take, List.map_drop]
  rfl
/-- the rows that were made, with the spans of each -/
theorem putF_own {w w' : World} {B B' : Nat} {v v' : Value} {ps : List (FactP × Value)} {f : FactP} {sv : Value} {j : Nat} (h : OwnF w B v ps) (hf : SV w sv f.l) (hb : Below w.heap.size w w') (hB : B ≤ B')
    (ho : w'.ownsRow B' 67 6 v' (ps.take j ++ [(f, sv)] ++ ps.drop j).length ((ps.take j ++ [(f, sv)] ++ ps.drop j).flatMap cellsF)) : OwnF w' B v' (ps.take j ++ [(f, sv)] ++ ps.drop j) := by
  refine OwnF.low (B := B') ⟨ho, fun p hp => ?_⟩ hB
  rcases List.mem_append.1 hp with hp | hp
  · rcases List.mem_append.1 hp with hp | hp
    · exact (h.2 p (List.mem_of_mem_take hp)).next hb
    · rw [List.mem_singleton.1 hp]; exact hf.next hb
  · exact (h.2 p (List.mem_of_mem_drop hp)).next hb
set_option maxRecDepth 100000 in
set_option maxHeartbeats 8000000 in
theorem putR_any (B : Nat) (v : Value) (ps : List (FactP × Value)) (f : FactP) (sv : Value) (w : World) (h : OwnF w B v ps) (hB : B ≤ w.heap.size) (hf : SV w sv f.l) (hl : ps.length ≤ 1000) (hz : ∀ p ∈ ps, p.1.s.size ≤ maxLen) (hfs : f.s.size ≤ maxLen) :
    Calls Tryz.prog 27 #[v, .agg #[.int .i64 f.e, .int .i64 f.a, .int .i64 f.k, .int .i64 f.m, .string f.s, sv]] w (PutF w B ps f) := by
  obtain ⟨A1, c1, rfl, hsv1⟩ := id hf
  obtain ⟨A, c, rfl, hs, hlc, hcm⟩ := h.slF
  have HF := Lib.hid hf
  have HO := Lib.hid h
  have HS := Lib.hid hs
  have HZ := Lib.hid hz
  have HAG := Lib.hid h.agg
  have HBW := Lib.hid hB
  obtain ⟨w1, hw1⟩ : ∃ X, w.alloc (.cells #[.int .i64 f.e, .int .i64 f.a, .int .i64 f.k, .int .i64 f.m, .string f.s, .slice A1 f.l.length c1] 67) = X := ⟨_, rfl⟩
  have HX1 : Hid (FcBx w1 w.heap.size f (.slice A1 f.l.length c1)) := by rw [← hw1]; exact fcBx_new w f _
  have HB1 : Hid (Below w.heap.size w w1) := by rw [← hw1]; exact (Below.refl _ _).alloc (Nat.le_refl _) _
  have HSA := Lib.hid hs
  have HCM := Lib.hid hcm
  clear h hf hs hz hsv1 hB hcm
  go_enter Tryz.func27, Tryz.ntmps27
  go_wp2_with fail
  try rw [hw1]
  clear hw1
  go_loopg [5] ps.length (fun g y wr => ∃ j : Nat, y = .int .i64 j ∧ j + g = ps.length ∧ Hid (∀ i q, i < j → ps[i]? = some q → ordTr (triF q.1) (triF f) < 0) ∧ Hid (Below w1.heap.size w1 wr))
  case atStart => exact ⟨0, rfl, by omega, (fun i _ hi => absurd hi (Nat.not_lt_zero i)), Below.refl _ _⟩
  case round =>
    obtain ⟨j, rfl, hj, HLT, HB⟩ := hrel
    have HBR : Hid (Below w.heap.size w wr) := HB1.out.trans (HB.out.mono HB1.out.size)
    have HXR : Hid (FcBx wr w.heap.size f (.slice A1 f.l.length c1)) := HX1.out.next HB.out
    have hj0 : (0 : Int) ≤ (j : Int) := by omega
    cases gk with
    | zero =>
      have hjz : ¬ ((j : Int) < (ps.length : Int)) := by omega
      have hjz2 : ps.length ≤ j := by omega
      have hjz' : decide ((j : Int) < (ps.length : Int)) = false := decide_eq_false hjz
      have HZZ : Hid (∀ p, ps[j]? = some p → 0 ≤ ordTr (triF p.1) (triF f) ∧ ordTr (triF p.1) (triF f) ≠ 0) := fun p hp => by have := (List.getElem?_eq_some_iff.1 hp).1; omega
      go_wp2_with fail
      have HS0 := Lib.hid (qd_dn (Below.refl wr.heap.size wr) 1)
      obtain ⟨wy, hwz⟩ : ∃ X, wr.drew = X := ⟨_, rfl⟩
      refine wp_region_held_drew (S := fun X => Below wr.heap.size wr X) (by kernel_rfl) HS0.out (fun hHeld => ?_)
      rw [hwz] at hHeld ⊢
      clear hwz HS0
      refine takeQ 0 7 ((.int .i64 (j : Nat))) ?_
      simp only [Act.put, List.setIfInBounds_toArray, List.set_cons_zero, List.set_cons_succ]
      refine takeQ 1 8 ((.slice A ps.length c)) ?_
      simp only [Act.put, List.setIfInBounds_toArray, List.set_cons_zero, List.set_cons_succ]
      refine takeQ 2 9 ((.int .i64 (ps.length : Nat))) ?_
      simp only [Act.put, List.setIfInBounds_toArray, List.set_cons_zero, List.set_cons_succ]
      refine takeQ 3 10 ((.bool false)) ?_
      simp only [Act.put, List.setIfInBounds_toArray, List.set_cons_zero, List.set_cons_succ]
      refine takeQ 4 11 ((.bool false)) ?_
      simp only [Act.put, List.setIfInBounds_toArray, List.set_cons_zero, List.set_cons_succ]
      refine skipQ 5 12 ?_
      simp only [Act.put, List.setIfInBounds_toArray, List.set_cons_zero, List.set_cons_succ]
      refine skipQ 6 13 ?_
      simp only [Act.put, List.setIfInBounds_toArray, List.set_cons_zero, List.set_cons_succ]
      refine skipQ 7 14 ?_
      simp only [Act.put, List.setIfInBounds_toArray, List.set_cons_zero, List.set_cons_succ]
      refine skipQ 8 15 ?_
      simp only [Act.put, List.setIfInBounds_toArray, List.set_cons_zero, List.set_cons_succ]
      refine skipQ 9 16 ?_
      simp only [Act.put, List.setIfInBounds_toArray, List.set_cons_zero, List.set_cons_succ]
      refine skipQ 10 17 ?_
      simp only [Act.put, List.setIfInBounds_toArray, List.set_cons_zero, List.set_cons_succ]
      refine skipQ 11 18 ?_
      simp only [Act.put, List.setIfInBounds_toArray, List.set_cons_zero, List.set_cons_succ]
      refine takeQ 12 19 ((.bool false)) ?_
      simp only [Act.put, List.setIfInBounds_toArray, List.set_cons_zero, List.set_cons_succ]
      refine wpAnyH_done (by kernel_rfl) ?_ _
      have HBwy := Lib.hid hHeld
      clear hHeld
      go_wp2_with fail
      have HS0 := Lib.hid (qd_dn (Below.refl wy.heap.size wy) 1)
      obtain ⟨wx, hwz⟩ : ∃ X, wy.drew = X := ⟨_, rfl⟩
      refine wp_region_held_drew (S := fun X => Below wy.heap.size wy X) (by kernel_rfl) HS0.out (fun hHeld => ?_)
      rw [hwz] at hHeld ⊢
      clear hwz HS0
      refine takeQ 0 22 ((.int .i64 (j : Nat))) ?_
      simp only [Act.put, List.setIfInBounds_toArray, List.set_cons_zero, List.set_cons_succ]
      refine takeQ 1 23 ((.slice A ps.length c)) ?_
      simp only [Act.put, List.setIfInBounds_toArray, List.set_cons_zero, List.set_cons_succ]
      refine takeQ 2 24 ((.int .i64 (ps.length : Nat))) ?_
      simp only [Act.put, List.setIfInBounds_toArray, List.set_cons_zero, List.set_cons_succ]
      refine takeQ 3 25 ((.bool false)) ?_
      simp only [Act.put, List.setIfInBounds_toArray, List.set_cons_zero, List.set_cons_succ]
      refine takeQ 4 26 ((.bool false)) ?_
      simp only [Act.put, List.setIfInBounds_toArray, List.set_cons_zero, List.set_cons_succ]
      refine skipQ 5 27 ?_
      simp only [Act.put, List.setIfInBounds_toArray, List.set_cons_zero, List.set_cons_succ]
      refine skipQ 6 28 ?_
      simp only [Act.put, List.setIfInBounds_toArray, List.set_cons_zero, List.set_cons_succ]
      refine skipQ 7 29 ?_
      simp only [Act.put, List.setIfInBounds_toArray, List.set_cons_zero, List.set_cons_succ]
      refine skipQ 8 30 ?_
      simp only [Act.put, List.setIfInBounds_toArray, List.set_cons_zero, List.set_cons_succ]
      refine skipQ 9 31 ?_
      simp only [Act.put, List.setIfInBounds_toArray, List.set_cons_zero, List.set_cons_succ]
      refine skipQ 10 32 ?_
      simp only [Act.put, List.setIfInBounds_toArray, List.set_cons_zero, List.set_cons_succ]
      refine skipQ 11 33 ?_
      simp only [Act.put, List.setIfInBounds_toArray, List.set_cons_zero, List.set_cons_succ]
      refine takeQ 12 34 ((.bool false)) ?_
      simp only [Act.put, List.setIfInBounds_toArray, List.set_cons_zero, List.set_cons_succ]
      refine wpAnyH_done (by kernel_rfl) ?_ _
      have HBwx := Lib.hid (HBwy.out.trans (hHeld.mono HBwy.out.size))
      clear hHeld
      have HBT := Lib.hid (HBR.out.trans (HBwx.out.mono HBR.out.size))
      have HXT := Lib.hid (HXR.out.next HBwx.out)
      cases A with
      | none =>
        have hp0 : ps = [] := by
          by_cases hM : ps = []
          · exact hM
          · obtain ⟨_, _, e, _⟩ := HS.out hM
            cases e
        subst hp0
        have hj00 : j = 0 := by simpa using hj
        subst hj00
        obtain ⟨w5, hw5⟩ : ∃ X, X = wx := ⟨_, rfl⟩
        subst hw5
        obtain ⟨i0, hi, hz0, hz1, hz2⟩ := info_parts infoF
        have HXc : Hid (∀ X, Below w5.heap.size w5 X → FcBx X w.heap.size f (.slice A1 f.l.length c1)) := fun X hX => HXT.out.next hX
        have HON : Hid (w5.ownsRow w5.heap.size 67 6 (.slice none 0 0) 0 []) := World.ownsRow_nil _ _ _ _
        have HOA7 : Hid ((w5.alloc (.cells #[.int .i64 f.e, .int .i64 f.a, .int .i64 f.k, .int .i64 f.m, .string f.s, .slice A1 f.l.length c1] 67)).ownsRow w5.heap.size 67 6 (.slice none 0 0) 0 []) := World.ownsRow.alloc HON.out _
        have HBS7 : Hid (w5.heap.size ≤ (w5.alloc (.cells #[.int .i64 f.e, .int .i64 f.a, .int .i64 f.k, .int .i64 f.m, .string f.s, .slice A1 f.l.length c1] 67)).heap.size) := by show _ ≤ _; simp
        have qx := HXc.out _ (Below.refl _ w5); have q0 := qx.k0; have q1 := qx.k1; have q2 := qx.k2; have q3 := qx.k3; have q4 := qx.k4; have q5 := qx.k5; clear qx
        go_wp2_with (at_builtin; refine wpList_append_own _ rfl _ _ 26 rfl w5.heap.size 67 i0 (.agg #[.int .i64 0, .int .i64 0, .int .i64 0, .int .i64 0, .string ⟨#[]⟩, .slice none 0 0]) 6 72 Tryz.underlying26 hi hz0 hz1 hz2 rfl (by decide) (.slice none 0 0) 0 [] rfl HOA7.out ⟨w5.heap.size, 0, none⟩ 1 1 (cellsF (f, .slice A1 f.l.length c1)) rfl rfl (fun j u h => cell_lit w5 #[.int .i64 f.e, .int .i64 f.a, .int .i64 f.k, .int .i64 f.m, .string f.s, .slice A1 f.l.length c1] 67 j u h) (fun u hu => cellsF_ones [(f, .slice A1 f.l.length c1)] (fun p hp => by rw [List.mem_singleton.1 hp]; exact ⟨_, _, _, rfl⟩) u (by simpa using hu)) (by decide) (by decide) HBS7.out ?_; intro v7 w7 hown hgrow _; have HO7 := Lib.hid hown; have HB7 := Lib.hid (((Below.refl w5.heap.size w5).alloc (Nat.le_refl _) (.cells #[.int .i64 f.e, .int .i64 f.a, .int .i64 f.k, .int .i64 f.m, .string f.s, .slice A1 f.l.length c1] 67)).grown hgrow (by simp) (fun k hk => (World.ownsRow.lt HOA7.out k hk).1)); obtain ⟨g7, c7, hv7⟩ := rowF_succ hown; subst hv7; have hcap : (1 : Int) ≤ (c7 : Int) := (by rcases HO7.out.2 with ⟨_, h0⟩ | ⟨g, cap, cur, e9, _, _, h9, _⟩; (· cases h0); (· injection e9 with _ _ e10; omega)); have hcapn : 1 ≤ c7 := (by omega); clear hown hgrow q0 q1 q2 q3 q4 q5)
        try go_wp2
        go_ret
        refine putF_new (j := 0) (sv := .slice A1 f.l.length c1) (Nat.zero_le _) (putF_own HO.out HF.out (HBT.out.trans (HB7.out.mono HBT.out.size)) (Nat.le_trans HBW.out HBT.out.size) ?_) (HBT.out.trans (HB7.out.mono HBT.out.size)) HLT.out HZZ.out
        exact HO7.out
      | some ad =>
        by_cases hrd : ¬ j < c
        · obtain rfl : j = c := by omega
          have HDN : Hid (ps.drop j = []) := List.drop_eq_nil_of_le (by omega)
          obtain ⟨w5, hw5⟩ : ∃ X, X = wx := ⟨_, rfl⟩
          subst hw5
          obtain ⟨i0, hi, hz0, hz1, hz2⟩ := info_parts infoF
          have HXc : Hid (∀ X, Below w5.heap.size w5 X → FcBx X w.heap.size f (.slice A1 f.l.length c1)) := fun X hX => HXT.out.next hX
          have HON : Hid (w5.ownsRow w5.heap.size 67 6 (.slice none 0 0) 0 []) := World.ownsRow_nil _ _ _ _
          have HS5 : Hid (SlF w5 (some ad) ps) := HS.out.next HBT.out
          have HSr := Lib.hid (HS5.out.take j)
          have HTL : Hid ((ps.take j).length = j) := by show _ = _; rw [List.length_take]; omega
          have HNR : Hid (((ps.take j).flatMap cellsF).length = j * 6) := by show _ = _; rw [cellsF_flat, HTL.out]
          have HA1 := Lib.hid (cellsF_ones (ps.take j) (fun p hp => HAG.out p (List.mem_of_mem_take hp)))
          have HA2 := Lib.hid (cellsF_ones (ps.drop j) (fun p hp => HAG.out p (List.mem_of_mem_drop hp)))
          have HJM : Hid (j ≤ 1000) := by show _ ≤ _; omega
          have HBN1 : Hid (0 + j ≤ maxLen) := by show _ ≤ _; have := HJM.out; have : 2000000 ≤ maxLen := (by decide); omega
          have HBN2 : Hid ((0 + j) * 72 ≤ 140737488355328) := by show _ ≤ _; have := HJM.out; omega
          have HBS : Hid (w5.heap.size ≤ w5.heap.size) := Nat.le_refl _
          have HBN3 : Hid (j + 1 ≤ maxLen) := by show _ ≤ _; have := HJM.out; have : 2000000 ≤ maxLen := (by decide); omega
          have HBN4 : Hid ((j + 1) * 72 ≤ 140737488355328) := by show _ ≤ _; have := HJM.out; omega
          have HTM : Hid ((ps.take j ++ [(f, Value.slice A1 f.l.length c1)]).length = j + 1) := by show _ = _; rw [List.length_append, HTL.out]; rfl
          have HLL : Hid ((ps.take j ++ [(f, Value.slice A1 f.l.length c1)] ++ ps.drop j).length = j + 1 + (ps.length - j)) := by show _ = _; rw [List.length_append, HTM.out, List.length_drop]
          have HND : Hid (((ps.drop j).flatMap cellsF).length = (ps.length - j) * 6) := by show _ = _; rw [cellsF_flat, List.length_drop]
          have HBN5 : Hid (j + 1 + (ps.length - j) ≤ maxLen) := by show _ ≤ _; have : 2000000 ≤ maxLen := (by decide); omega
          have HBN6 : Hid ((j + 1 + (ps.length - j)) * 72 ≤ 140737488355328) := by show _ ≤ _; omega
          have HF6 : Hid ((ps.take j ++ [(f, Value.slice A1 f.l.length c1)]).flatMap cellsF = (ps.take j).flatMap cellsF ++ cellsF (f, .slice A1 f.l.length c1)) := by show _ = _; rw [List.flatMap_append]; simp
          have hr1 : (j : Int) ≤ (j : Int) := by omega
          have hr2 : (j : Int) ≤ (ps.length : Int) := by omega
          go_wp2_with (at_builtin; first
            | (refine wpList_append_own _ rfl _ _ 26 rfl w5.heap.size 67 i0 (.agg #[.int .i64 0, .int .i64 0, .int .i64 0, .int .i64 0, .string ⟨#[]⟩, .slice none 0 0]) 6 72 Tryz.underlying26 hi hz0 hz1 hz2 rfl (by decide) (.slice none 0 0) 0 [] rfl HON.out ad j j ((ps.take j).flatMap cellsF) rfl HNR.out HSr.out.cells HA1.out HBN1.out HBN2.out HBS.out ?_; intro v6 w6 hown hgrow _; have ho6 : w6.ownsRow w5.heap.size 67 6 v6 j ((ps.take j).flatMap cellsF) := (by rw [Nat.zero_add, List.nil_append] at hown; exact hown); obtain ⟨A6, c6, hv6⟩ := rowF_form ho6; subst hv6; have HB6 := Lib.hid ((Below.refl w5.heap.size w5).grown hgrow (Nat.le_refl _) (fun k hk => (World.ownsRow.lt HON.out k hk).1)); have HOA7 := Lib.hid (World.ownsRow.alloc ho6 (.cells #[.int .i64 f.e, .int .i64 f.a, .int .i64 f.k, .int .i64 f.m, .string f.s, .slice A1 f.l.length c1] 67)); have HBS7 : Hid (w5.heap.size ≤ (w6.alloc (.cells #[.int .i64 f.e, .int .i64 f.a, .int .i64 f.k, .int .i64 f.m, .string f.s, .slice A1 f.l.length c1] 67)).heap.size) := (by show _ ≤ _; have := HB6.out.size; simp; omega); have qx := HXc.out _ HB6.out; have q0 := qx.k0; have q1 := qx.k1; have q2 := qx.k2; have q3 := qx.k3; have q4 := qx.k4; have q5 := qx.k5; clear qx; clear hown hgrow ho6)
            | (refine wpList_append_own _ rfl _ _ 26 rfl w5.heap.size 67 i0 (.agg #[.int .i64 0, .int .i64 0, .int .i64 0, .int .i64 0, .string ⟨#[]⟩, .slice none 0 0]) 6 72 Tryz.underlying26 hi hz0 hz1 hz2 rfl (by decide) (.slice A6 j c6) j ((ps.take j).flatMap cellsF) rfl HOA7.out ⟨w6.heap.size, 0, none⟩ 1 1 (cellsF (f, .slice A1 f.l.length c1)) rfl rfl (fun j u h => cell_lit w6 #[.int .i64 f.e, .int .i64 f.a, .int .i64 f.k, .int .i64 f.m, .string f.s, .slice A1 f.l.length c1] 67 j u h) (fun u hu => cellsF_ones [(f, .slice A1 f.l.length c1)] (fun p hp => by rw [List.mem_singleton.1 hp]; exact ⟨_, _, _, rfl⟩) u (by simpa using hu)) HBN3.out HBN4.out HBS7.out ?_; intro v7 w7 hown hgrow _; have HO7 : Hid (w7.ownsRow w5.heap.size 67 6 v7 (j + 1) ((ps.take j ++ [(f, Value.slice A1 f.l.length c1)]).flatMap cellsF)) := (by show w7.ownsRow _ _ _ _ _ _; rw [HF6.out]; exact hown); have HB7 := Lib.hid ((HB6.out.trans (((Below.refl w6.heap.size w6).alloc (Nat.le_refl _) (.cells #[.int .i64 f.e, .int .i64 f.a, .int .i64 f.k, .int .i64 f.m, .string f.s, .slice A1 f.l.length c1] 67)).mono HB6.out.size)).grown hgrow HBS7.out (fun k hk => (World.ownsRow.lt HOA7.out k hk).1)); obtain ⟨A7, c7, hv7⟩ := rowF_form hown; subst hv7; have HSD := Lib.hid (SlF.drop (HS5.out.next HB7.out) j); clear hown hgrow q0 q1 q2 q3 q4 q5)
            | (refine wpList_append_own _ rfl _ _ 26 rfl w5.heap.size 67 i0 (.agg #[.int .i64 0, .int .i64 0, .int .i64 0, .int .i64 0, .string ⟨#[]⟩, .slice none 0 0]) 6 72 Tryz.underlying26 hi hz0 hz1 hz2 rfl (by decide) (.slice A7 (j + 1) c7) (j + 1) ((ps.take j ++ [(f, Value.slice A1 f.l.length c1)]).flatMap cellsF) rfl HO7.out _ 0 _ [] rfl rfl (fun j u h => by simp at h) (fun u h => by simp at h) HBN3.out HBN4.out HB7.out.size ?_; intro v8 w8 hown hgrow _; have HO8 : Hid (w8.ownsRow w5.heap.size 67 6 v8 (ps.take j ++ [(f, Value.slice A1 f.l.length c1)] ++ ps.drop j).length ((ps.take j ++ [(f, Value.slice A1 f.l.length c1)] ++ ps.drop j).flatMap cellsF)) := (by show w8.ownsRow _ _ _ _ _ _; rw [HDN.out, List.append_nil, HTM.out]; simpa using hown); have HB8 := Lib.hid (HB7.out.grown hgrow HB7.out.size (fun k hk => (World.ownsRow.lt HO7.out k hk).1)); obtain ⟨A8, c8, hv8⟩ := rowF_form HO8.out; rw [HDN.out, List.append_nil, HTM.out] at hv8; subst hv8; clear hown hgrow)
            | fail)
          
          go_ret
          exact putF_new (j := j) (by omega) (putF_own HO.out HF.out (HBT.out.trans (HB8.out.mono HBT.out.size)) (Nat.le_trans HBW.out HBT.out.size) HO8.out) (HBT.out.trans (HB8.out.mono HBT.out.size)) HLT.out HZZ.out
        · have hrc : j < c := Classical.not_not.1 hrd
          clear hrd
          have HDN : Hid (ps.drop j = []) := List.drop_eq_nil_of_le (by omega)
          obtain ⟨w5, hw5⟩ : ∃ X, X = wx := ⟨_, rfl⟩
          subst hw5
          obtain ⟨i0, hi, hz0, hz1, hz2⟩ := info_parts infoF
          have HXc : Hid (∀ X, Below w5.heap.size w5 X → FcBx X w.heap.size f (.slice A1 f.l.length c1)) := fun X hX => HXT.out.next hX
          have HON : Hid (w5.ownsRow w5.heap.size 67 6 (.slice none 0 0) 0 []) := World.ownsRow_nil _ _ _ _
          have HS5 : Hid (SlF w5 (some ad) ps) := HS.out.next HBT.out
          have HSr := Lib.hid (HS5.out.take j)
          have HTL : Hid ((ps.take j).length = j) := by show _ = _; rw [List.length_take]; omega
          have HNR : Hid (((ps.take j).flatMap cellsF).length = j * 6) := by show _ = _; rw [cellsF_flat, HTL.out]
          have HA1 := Lib.hid (cellsF_ones (ps.take j) (fun p hp => HAG.out p (List.mem_of_mem_take hp)))
          have HA2 := Lib.hid (cellsF_ones (ps.drop j) (fun p hp => HAG.out p (List.mem_of_mem_drop hp)))
          have HJM : Hid (j ≤ 1000) := by show _ ≤ _; omega
          have HBN1 : Hid (0 + j ≤ maxLen) := by show _ ≤ _; have := HJM.out; have : 2000000 ≤ maxLen := (by decide); omega
          have HBN2 : Hid ((0 + j) * 72 ≤ 140737488355328) := by show _ ≤ _; have := HJM.out; omega
          have HBS : Hid (w5.heap.size ≤ w5.heap.size) := Nat.le_refl _
          have HBN3 : Hid (j + 1 ≤ maxLen) := by show _ ≤ _; have := HJM.out; have : 2000000 ≤ maxLen := (by decide); omega
          have HBN4 : Hid ((j + 1) * 72 ≤ 140737488355328) := by show _ ≤ _; have := HJM.out; omega
          have HTM : Hid ((ps.take j ++ [(f, Value.slice A1 f.l.length c1)]).length = j + 1) := by show _ = _; rw [List.length_append, HTL.out]; rfl
          have HLL : Hid ((ps.take j ++ [(f, Value.slice A1 f.l.length c1)] ++ ps.drop j).length = j + 1 + (ps.length - j)) := by show _ = _; rw [List.length_append, HTM.out, List.length_drop]
          have HND : Hid (((ps.drop j).flatMap cellsF).length = (ps.length - j) * 6) := by show _ = _; rw [cellsF_flat, List.length_drop]
          have HBN5 : Hid (j + 1 + (ps.length - j) ≤ maxLen) := by show _ ≤ _; have : 2000000 ≤ maxLen := (by decide); omega
          have HBN6 : Hid ((j + 1 + (ps.length - j)) * 72 ≤ 140737488355328) := by show _ ≤ _; omega
          have HF6 : Hid ((ps.take j ++ [(f, Value.slice A1 f.l.length c1)]).flatMap cellsF = (ps.take j).flatMap cellsF ++ cellsF (f, .slice A1 f.l.length c1)) := by show _ = _; rw [List.flatMap_append]; simp
          have hr1 : (j : Int) ≤ (c : Int) := by omega
          have hr2 : (j : Int) ≤ (ps.length : Int) := by omega
          go_wp2_with (at_builtin; first
            | (refine wpList_append_own _ rfl _ _ 26 rfl w5.heap.size 67 i0 (.agg #[.int .i64 0, .int .i64 0, .int .i64 0, .int .i64 0, .string ⟨#[]⟩, .slice none 0 0]) 6 72 Tryz.underlying26 hi hz0 hz1 hz2 rfl (by decide) (.slice none 0 0) 0 [] rfl HON.out ad j c ((ps.take j).flatMap cellsF) rfl HNR.out HSr.out.cells HA1.out HBN1.out HBN2.out HBS.out ?_; intro v6 w6 hown hgrow _; have ho6 : w6.ownsRow w5.heap.size 67 6 v6 j ((ps.take j).flatMap cellsF) := (by rw [Nat.zero_add, List.nil_append] at hown; exact hown); obtain ⟨A6, c6, hv6⟩ := rowF_form ho6; subst hv6; have HB6 := Lib.hid ((Below.refl w5.heap.size w5).grown hgrow (Nat.le_refl _) (fun k hk => (World.ownsRow.lt HON.out k hk).1)); have HOA7 := Lib.hid (World.ownsRow.alloc ho6 (.cells #[.int .i64 f.e, .int .i64 f.a, .int .i64 f.k, .int .i64 f.m, .string f.s, .slice A1 f.l.length c1] 67)); have HBS7 : Hid (w5.heap.size ≤ (w6.alloc (.cells #[.int .i64 f.e, .int .i64 f.a, .int .i64 f.k, .int .i64 f.m, .string f.s, .slice A1 f.l.length c1] 67)).heap.size) := (by show _ ≤ _; have := HB6.out.size; simp; omega); have qx := HXc.out _ HB6.out; have q0 := qx.k0; have q1 := qx.k1; have q2 := qx.k2; have q3 := qx.k3; have q4 := qx.k4; have q5 := qx.k5; clear qx; clear hown hgrow ho6)
            | (refine wpList_append_own _ rfl _ _ 26 rfl w5.heap.size 67 i0 (.agg #[.int .i64 0, .int .i64 0, .int .i64 0, .int .i64 0, .string ⟨#[]⟩, .slice none 0 0]) 6 72 Tryz.underlying26 hi hz0 hz1 hz2 rfl (by decide) (.slice A6 j c6) j ((ps.take j).flatMap cellsF) rfl HOA7.out ⟨w6.heap.size, 0, none⟩ 1 1 (cellsF (f, .slice A1 f.l.length c1)) rfl rfl (fun j u h => cell_lit w6 #[.int .i64 f.e, .int .i64 f.a, .int .i64 f.k, .int .i64 f.m, .string f.s, .slice A1 f.l.length c1] 67 j u h) (fun u hu => cellsF_ones [(f, .slice A1 f.l.length c1)] (fun p hp => by rw [List.mem_singleton.1 hp]; exact ⟨_, _, _, rfl⟩) u (by simpa using hu)) HBN3.out HBN4.out HBS7.out ?_; intro v7 w7 hown hgrow _; have HO7 : Hid (w7.ownsRow w5.heap.size 67 6 v7 (j + 1) ((ps.take j ++ [(f, Value.slice A1 f.l.length c1)]).flatMap cellsF)) := (by show w7.ownsRow _ _ _ _ _ _; rw [HF6.out]; exact hown); have HB7 := Lib.hid ((HB6.out.trans (((Below.refl w6.heap.size w6).alloc (Nat.le_refl _) (.cells #[.int .i64 f.e, .int .i64 f.a, .int .i64 f.k, .int .i64 f.m, .string f.s, .slice A1 f.l.length c1] 67)).mono HB6.out.size)).grown hgrow HBS7.out (fun k hk => (World.ownsRow.lt HOA7.out k hk).1)); obtain ⟨A7, c7, hv7⟩ := rowF_form hown; subst hv7; have HSD := Lib.hid (SlF.drop (HS5.out.next HB7.out) j); clear hown hgrow q0 q1 q2 q3 q4 q5)
            | (refine wpList_append_own _ rfl _ _ 26 rfl w5.heap.size 67 i0 (.agg #[.int .i64 0, .int .i64 0, .int .i64 0, .int .i64 0, .string ⟨#[]⟩, .slice none 0 0]) 6 72 Tryz.underlying26 hi hz0 hz1 hz2 rfl (by decide) (.slice A7 (j + 1) c7) (j + 1) ((ps.take j ++ [(f, Value.slice A1 f.l.length c1)]).flatMap cellsF) rfl HO7.out _ 0 _ [] rfl rfl (fun j u h => by simp at h) (fun u h => by simp at h) HBN3.out HBN4.out HB7.out.size ?_; intro v8 w8 hown hgrow _; have HO8 : Hid (w8.ownsRow w5.heap.size 67 6 v8 (ps.take j ++ [(f, Value.slice A1 f.l.length c1)] ++ ps.drop j).length ((ps.take j ++ [(f, Value.slice A1 f.l.length c1)] ++ ps.drop j).flatMap cellsF)) := (by show w8.ownsRow _ _ _ _ _ _; rw [HDN.out, List.append_nil, HTM.out]; simpa using hown); have HB8 := Lib.hid (HB7.out.grown hgrow HB7.out.size (fun k hk => (World.ownsRow.lt HO7.out k hk).1)); obtain ⟨A8, c8, hv8⟩ := rowF_form HO8.out; rw [HDN.out, List.append_nil, HTM.out] at hv8; subst hv8; clear hown hgrow)
            | fail)
          
          go_ret
          exact putF_new (j := j) (by omega) (putF_own HO.out HF.out (HBT.out.trans (HB8.out.mono HBT.out.size)) (Nat.le_trans HBW.out HBT.out.size) HO8.out) (HBT.out.trans (HB8.out.mono HBT.out.size)) HLT.out HZZ.out
    | succ gk =>
      have hjz : ((j : Int) < (ps.length : Int)) := by omega
      have hjz' : decide ((j : Int) < (ps.length : Int)) = true := decide_eq_true hjz
      have hjn : j < ps.length := by omega
      obtain ⟨b, o, rfl, hlt, hat⟩ := HS.out.at_ hjn
      obtain ⟨p, hp⟩ : ∃ p, ps[j] = p := ⟨_, rfl⟩
      have HPJ : Hid (ps[j]? = some p) := by show _ = _; rw [List.getElem?_eq_getElem hjn, hp]
      rw [hp] at hat
      obtain ⟨Ap, cp, hpv, _⟩ := HO.out.2 p (List.mem_of_getElem? HPJ.out)
      have hzp := HZ.out p (List.mem_of_getElem? HPJ.out)
      have HCV : Hid (∀ X, Below wr.heap.size wr X → ∀ (i : Nat) (u : Value), (cellsF (p.1, Value.slice Ap p.1.l.length cp))[i]? = some u → X.cell? ⟨b, o + j * 6 + i, none⟩ = some u) := fun X hX i u hu => ((HBR.out.trans (hX.mono HBR.out.size)).cell (p := ⟨b, o + j * 6 + i, none⟩) hlt).trans (hat i u (by unfold cellsF at hu ⊢; rw [hpv]; exact hu))
      have HXX : Hid (∀ X, Below wr.heap.size wr X → FcBx X w.heap.size f (.slice A1 f.l.length c1)) := fun X hX => HXR.out.next hX
      have HCP := Lib.hid (fun X => refCmpF_any p.1 f (.slice Ap p.1.l.length cp) (.slice A1 f.l.length c1) X ⟨_, _, _, rfl⟩ ⟨_, _, _, rfl⟩ hzp hfs)
      obtain ⟨N, hN⟩ : ∃ N, ordTr (triF p.1) (triF f) = N := ⟨_, rfl⟩
      rw [hN] at HCP
      have HNE := Lib.hid hN
      have HBwr : Hid (Below wr.heap.size wr wr) := Below.refl _ _
      clear hat hp hN hzp hlt hpv
      by_cases g1 : N < 0
      · have g1' : decide (N < 0) = true := decide_eq_true g1
        have HLT2 : Hid (∀ i q, i < j + 1 → ps[i]? = some q → ordTr (triF q.1) (triF f) < 0) := fun i q hi hq => by
          rcases Nat.lt_or_ge i j with h | h
          · exact HLT.out i q h hq
          · obtain rfl : i = j := by omega
            rw [HPJ.out] at hq
            cases hq
            rw [HNE.out]; exact g1
        clear g1
        go_wp2_with fail
        have HS0 := Lib.hid (qd_dn (Below.refl wr.heap.size wr) 1)
        obtain ⟨wy, hwz⟩ : ∃ X, wr.drew = X := ⟨_, rfl⟩
        refine wp_region_held_drew (S := fun X => Below wr.heap.size wr X) (by kernel_rfl) HS0.out (fun hHeld => ?_)
        rw [hwz] at hHeld ⊢
        clear hwz HS0
        refine takeQ 0 7 ((.int .i64 (j : Nat))) ?_
        simp only [Act.put, List.setIfInBounds_toArray, List.set_cons_zero, List.set_cons_succ]
        refine takeQ 1 8 ((.slice (some ⟨b, o, none⟩) ps.length c)) ?_
        simp only [Act.put, List.setIfInBounds_toArray, List.set_cons_zero, List.set_cons_succ]
        refine takeQ 2 9 ((.int .i64 (ps.length : Nat))) ?_
        simp only [Act.put, List.setIfInBounds_toArray, List.set_cons_zero, List.set_cons_succ]
        refine takeQ 3 10 ((.bool true)) ?_
        simp only [Act.put, List.setIfInBounds_toArray, List.set_cons_zero, List.set_cons_succ]
        refine takeQ 4 11 ((.bool true)) ?_
        simp only [Act.put, List.setIfInBounds_toArray, List.set_cons_zero, List.set_cons_succ]
        refine takeQ 5 12 ((.slice (some ⟨b, o, none⟩) ps.length c)) ?_
        simp only [Act.put, List.setIfInBounds_toArray, List.set_cons_zero, List.set_cons_succ]
        refine takeQ 6 13 ((.int .i64 (j : Nat))) ?_
        simp only [Act.put, List.setIfInBounds_toArray, List.set_cons_zero, List.set_cons_succ]
        refine takeQ 7 14 ((.pointer (some ⟨b, o + j * 6, none⟩))) ?_
        simp only [Act.put, List.setIfInBounds_toArray, List.set_cons_zero, List.set_cons_succ]
        refine takeQ 8 15 ((.agg #[.int .i64 p.1.e, .int .i64 p.1.a, .int .i64 p.1.k, .int .i64 p.1.m, .string p.1.s, .slice Ap p.1.l.length cp])) ?_ (hy := by (intro _w hSw; have q0 : _w.cell? ⟨b, o + j * 6, none⟩ = some (.int .i64 p.1.e) := HCV.out _ (HBwr.out.trans (hSw.mono HBwr.out.size)) 0 _ rfl; have q1 : _w.cell? ⟨b, o + j * 6 + 1, none⟩ = some (.int .i64 p.1.a) := HCV.out _ (HBwr.out.trans (hSw.mono HBwr.out.size)) 1 _ rfl; have q2 : _w.cell? ⟨b, o + j * 6 + 2, none⟩ = some (.int .i64 p.1.k) := HCV.out _ (HBwr.out.trans (hSw.mono HBwr.out.size)) 2 _ rfl; have q3 : _w.cell? ⟨b, o + j * 6 + 3, none⟩ = some (.int .i64 p.1.m) := HCV.out _ (HBwr.out.trans (hSw.mono HBwr.out.size)) 3 _ rfl; have q4 : _w.cell? ⟨b, o + j * 6 + 4, none⟩ = some (.string p.1.s) := HCV.out _ (HBwr.out.trans (hSw.mono HBwr.out.size)) 4 _ rfl; have q5 : _w.cell? ⟨b, o + j * 6 + 5, none⟩ = some (.slice Ap p.1.l.length cp) := HCV.out _ (HBwr.out.trans (hSw.mono HBwr.out.size)) 5 _ rfl; clear hSw; go_simp))
        simp only [Act.put, List.setIfInBounds_toArray, List.set_cons_zero, List.set_cons_succ]
        refine takeQ 9 16 ((.agg #[.int .i64 f.e, .int .i64 f.a, .int .i64 f.k, .int .i64 f.m, .string f.s, .slice A1 f.l.length c1])) ?_ (hy := by (intro _w hSw; have qx := HXX.out _ (HBwr.out.trans (hSw.mono HBwr.out.size)); have q0 := qx.k0; have q1 := qx.k1; have q2 := qx.k2; have q3 := qx.k3; have q4 := qx.k4; have q5 := qx.k5; clear qx; clear hSw; go_simp))
        simp only [Act.put, List.setIfInBounds_toArray, List.set_cons_zero, List.set_cons_succ]
        refine callV 10 rfl (by kernel_rfl) (by rfl) (fun K hK => ?_)
        go_simp
        refine (HCP.out _).mono ?_
        rintro e9 w3 ⟨rfl, hb3⟩
        have g3 := hHeld.trans (hb3.mono hHeld.size)
        refine hK.out _ _ g3 (fun hHeld => ?_)
        clear hK g3 K hb3
        try simp only [Act.put, List.setIfInBounds_toArray, List.set_cons_zero, List.set_cons_succ]
        refine takeQ 11 18 ((.bool true)) ?_
        simp only [Act.put, List.setIfInBounds_toArray, List.set_cons_zero, List.set_cons_succ]
        refine takeQ 12 19 ((.bool true)) ?_
        simp only [Act.put, List.setIfInBounds_toArray, List.set_cons_zero, List.set_cons_succ]
        refine wpAnyH_done (by kernel_rfl) ?_ _
        have HBX := Lib.hid (HB.out.trans (hHeld.mono HB.out.size))
        clear hHeld
        go_wp2
        go_roundg gk
        case measure => omega
        case rel => exact ⟨j + 1, by go_num, by omega, HLT2.out, HBX.out⟩
      · have g1' : decide (N < 0) = false := decide_eq_false g1
        have HG1 := Lib.hid (Int.not_lt.1 g1)
        clear g1
        go_wp2_with fail
        have HS0 := Lib.hid (qd_dn (Below.refl wr.heap.size wr) 1)
        obtain ⟨wy, hwz⟩ : ∃ X, wr.drew = X := ⟨_, rfl⟩
        refine wp_region_held_drew (S := fun X => Below wr.heap.size wr X) (by kernel_rfl) HS0.out (fun hHeld => ?_)
        rw [hwz] at hHeld ⊢
        clear hwz HS0
        refine takeQ 0 7 ((.int .i64 (j : Nat))) ?_
        simp only [Act.put, List.setIfInBounds_toArray, List.set_cons_zero, List.set_cons_succ]
        refine takeQ 1 8 ((.slice (some ⟨b, o, none⟩) ps.length c)) ?_
        simp only [Act.put, List.setIfInBounds_toArray, List.set_cons_zero, List.set_cons_succ]
        refine takeQ 2 9 ((.int .i64 (ps.length : Nat))) ?_
        simp only [Act.put, List.setIfInBounds_toArray, List.set_cons_zero, List.set_cons_succ]
        refine takeQ 3 10 ((.bool true)) ?_
        simp only [Act.put, List.setIfInBounds_toArray, List.set_cons_zero, List.set_cons_succ]
        refine takeQ 4 11 ((.bool true)) ?_
        simp only [Act.put, List.setIfInBounds_toArray, List.set_cons_zero, List.set_cons_succ]
        refine takeQ 5 12 ((.slice (some ⟨b, o, none⟩) ps.length c)) ?_
        simp only [Act.put, List.setIfInBounds_toArray, List.set_cons_zero, List.set_cons_succ]
        refine takeQ 6 13 ((.int .i64 (j : Nat))) ?_
        simp only [Act.put, List.setIfInBounds_toArray, List.set_cons_zero, List.set_cons_succ]
        refine takeQ 7 14 ((.pointer (some ⟨b, o + j * 6, none⟩))) ?_
        simp only [Act.put, List.setIfInBounds_toArray, List.set_cons_zero, List.set_cons_succ]
        refine takeQ 8 15 ((.agg #[.int .i64 p.1.e, .int .i64 p.1.a, .int .i64 p.1.k, .int .i64 p.1.m, .string p.1.s, .slice Ap p.1.l.length cp])) ?_ (hy := by (intro _w hSw; have q0 : _w.cell? ⟨b, o + j * 6, none⟩ = some (.int .i64 p.1.e) := HCV.out _ (HBwr.out.trans (hSw.mono HBwr.out.size)) 0 _ rfl; have q1 : _w.cell? ⟨b, o + j * 6 + 1, none⟩ = some (.int .i64 p.1.a) := HCV.out _ (HBwr.out.trans (hSw.mono HBwr.out.size)) 1 _ rfl; have q2 : _w.cell? ⟨b, o + j * 6 + 2, none⟩ = some (.int .i64 p.1.k) := HCV.out _ (HBwr.out.trans (hSw.mono HBwr.out.size)) 2 _ rfl; have q3 : _w.cell? ⟨b, o + j * 6 + 3, none⟩ = some (.int .i64 p.1.m) := HCV.out _ (HBwr.out.trans (hSw.mono HBwr.out.size)) 3 _ rfl; have q4 : _w.cell? ⟨b, o + j * 6 + 4, none⟩ = some (.string p.1.s) := HCV.out _ (HBwr.out.trans (hSw.mono HBwr.out.size)) 4 _ rfl; have q5 : _w.cell? ⟨b, o + j * 6 + 5, none⟩ = some (.slice Ap p.1.l.length cp) := HCV.out _ (HBwr.out.trans (hSw.mono HBwr.out.size)) 5 _ rfl; clear hSw; go_simp))
        simp only [Act.put, List.setIfInBounds_toArray, List.set_cons_zero, List.set_cons_succ]
        refine takeQ 9 16 ((.agg #[.int .i64 f.e, .int .i64 f.a, .int .i64 f.k, .int .i64 f.m, .string f.s, .slice A1 f.l.length c1])) ?_ (hy := by (intro _w hSw; have qx := HXX.out _ (HBwr.out.trans (hSw.mono HBwr.out.size)); have q0 := qx.k0; have q1 := qx.k1; have q2 := qx.k2; have q3 := qx.k3; have q4 := qx.k4; have q5 := qx.k5; clear qx; clear hSw; go_simp))
        simp only [Act.put, List.setIfInBounds_toArray, List.set_cons_zero, List.set_cons_succ]
        refine callV 10 rfl (by kernel_rfl) (by rfl) (fun K hK => ?_)
        go_simp
        refine (HCP.out _).mono ?_
        rintro e9 w3 ⟨rfl, hb3⟩
        have g3 := hHeld.trans (hb3.mono hHeld.size)
        refine hK.out _ _ g3 (fun hHeld => ?_)
        clear hK g3 K hb3
        try simp only [Act.put, List.setIfInBounds_toArray, List.set_cons_zero, List.set_cons_succ]
        refine takeQ 11 18 ((.bool false)) ?_
        simp only [Act.put, List.setIfInBounds_toArray, List.set_cons_zero, List.set_cons_succ]
        refine takeQ 12 19 ((.bool false)) ?_
        simp only [Act.put, List.setIfInBounds_toArray, List.set_cons_zero, List.set_cons_succ]
        refine wpAnyH_done (by kernel_rfl) ?_ _
        have HBw3 := Lib.hid hHeld
        clear hHeld
        by_cases g2 : N = 0
        · have g2' : (N == 0) = true := beq_iff_eq.2 g2
          have HG2 := Lib.hid g2
          clear g2
          go_wp2_with fail
          have HS0 := Lib.hid (qd_dn (Below.refl w3.heap.size w3) 1)
          obtain ⟨wx, hwz⟩ : ∃ X, w3.drew = X := ⟨_, rfl⟩
          refine wp_region_held_drew (S := fun X => Below w3.heap.size w3 X) (by kernel_rfl) HS0.out (fun hHeld => ?_)
          rw [hwz] at hHeld ⊢
          clear hwz HS0
          refine takeQ 0 22 ((.int .i64 (j : Nat))) ?_
          simp only [Act.put, List.setIfInBounds_toArray, List.set_cons_zero, List.set_cons_succ]
          refine takeQ 1 23 ((.slice (some ⟨b, o, none⟩) ps.length c)) ?_
          simp only [Act.put, List.setIfInBounds_toArray, List.set_cons_zero, List.set_cons_succ]
          refine takeQ 2 24 ((.int .i64 (ps.length : Nat))) ?_
          simp only [Act.put, List.setIfInBounds_toArray, List.set_cons_zero, List.set_cons_succ]
          refine takeQ 3 25 ((.bool true)) ?_
          simp only [Act.put, List.setIfInBounds_toArray, List.set_cons_zero, List.set_cons_succ]
          refine takeQ 4 26 ((.bool true)) ?_
          simp only [Act.put, List.setIfInBounds_toArray, List.set_cons_zero, List.set_cons_succ]
          refine takeQ 5 27 ((.slice (some ⟨b, o, none⟩) ps.length c)) ?_
          simp only [Act.put, List.setIfInBounds_toArray, List.set_cons_zero, List.set_cons_succ]
          refine takeQ 6 28 ((.int .i64 (j : Nat))) ?_
          simp only [Act.put, List.setIfInBounds_toArray, List.set_cons_zero, List.set_cons_succ]
          refine takeQ 7 29 ((.pointer (some ⟨b, o + j * 6, none⟩))) ?_
          simp only [Act.put, List.setIfInBounds_toArray, List.set_cons_zero, List.set_cons_succ]
          refine takeQ 8 30 ((.agg #[.int .i64 p.1.e, .int .i64 p.1.a, .int .i64 p.1.k, .int .i64 p.1.m, .string p.1.s, .slice Ap p.1.l.length cp])) ?_ (hy := by (intro _w hSw; have q0 : _w.cell? ⟨b, o + j * 6, none⟩ = some (.int .i64 p.1.e) := HCV.out _ (HBw3.out.trans (hSw.mono HBw3.out.size)) 0 _ rfl; have q1 : _w.cell? ⟨b, o + j * 6 + 1, none⟩ = some (.int .i64 p.1.a) := HCV.out _ (HBw3.out.trans (hSw.mono HBw3.out.size)) 1 _ rfl; have q2 : _w.cell? ⟨b, o + j * 6 + 2, none⟩ = some (.int .i64 p.1.k) := HCV.out _ (HBw3.out.trans (hSw.mono HBw3.out.size)) 2 _ rfl; have q3 : _w.cell? ⟨b, o + j * 6 + 3, none⟩ = some (.int .i64 p.1.m) := HCV.out _ (HBw3.out.trans (hSw.mono HBw3.out.size)) 3 _ rfl; have q4 : _w.cell? ⟨b, o + j * 6 + 4, none⟩ = some (.string p.1.s) := HCV.out _ (HBw3.out.trans (hSw.mono HBw3.out.size)) 4 _ rfl; have q5 : _w.cell? ⟨b, o + j * 6 + 5, none⟩ = some (.slice Ap p.1.l.length cp) := HCV.out _ (HBw3.out.trans (hSw.mono HBw3.out.size)) 5 _ rfl; clear hSw; go_simp))
          simp only [Act.put, List.setIfInBounds_toArray, List.set_cons_zero, List.set_cons_succ]
          refine takeQ 9 31 ((.agg #[.int .i64 f.e, .int .i64 f.a, .int .i64 f.k, .int .i64 f.m, .string f.s, .slice A1 f.l.length c1])) ?_ (hy := by (intro _w hSw; have qx := HXX.out _ (HBw3.out.trans (hSw.mono HBw3.out.size)); have q0 := qx.k0; have q1 := qx.k1; have q2 := qx.k2; have q3 := qx.k3; have q4 := qx.k4; have q5 := qx.k5; clear qx; clear hSw; go_simp))
          simp only [Act.put, List.setIfInBounds_toArray, List.set_cons_zero, List.set_cons_succ]
          refine callV 10 rfl (by kernel_rfl) (by rfl) (fun K hK => ?_)
          go_simp
          refine (HCP.out _).mono ?_
          rintro e9 w4 ⟨rfl, hb3⟩
          have g3 := hHeld.trans (hb3.mono hHeld.size)
          refine hK.out _ _ g3 (fun hHeld => ?_)
          clear hK g3 K hb3
          try simp only [Act.put, List.setIfInBounds_toArray, List.set_cons_zero, List.set_cons_succ]
          refine takeQ 11 33 ((.bool true)) ?_
          simp only [Act.put, List.setIfInBounds_toArray, List.set_cons_zero, List.set_cons_succ]
          refine takeQ 12 34 ((.bool true)) ?_
          simp only [Act.put, List.setIfInBounds_toArray, List.set_cons_zero, List.set_cons_succ]
          refine wpAnyH_done (by kernel_rfl) ?_ _
          have HBw4 := Lib.hid (HBR.out.trans ((HBw3.out.trans (hHeld.mono HBw3.out.size)).mono HBR.out.size))
          clear hHeld
          go_wp2
          go_ret
          exact putF_old (HO.out.next HBw4.out) HBw4.out HPJ.out HLT.out (HNE.out.trans HG2.out)
        · have g2' : (N == 0) = false := beq_eq_false_iff_ne.2 g2
          have HG2 := Lib.hid g2
          clear g2
          go_wp2_with fail
          have HS0 := Lib.hid (qd_dn (Below.refl w3.heap.size w3) 1)
          obtain ⟨wx, hwz⟩ : ∃ X, w3.drew = X := ⟨_, rfl⟩
          refine wp_region_held_drew (S := fun X => Below w3.heap.size w3 X) (by kernel_rfl) HS0.out (fun hHeld => ?_)
          rw [hwz] at hHeld ⊢
          clear hwz HS0
          refine takeQ 0 22 ((.int .i64 (j : Nat))) ?_
          simp only [Act.put, List.setIfInBounds_toArray, List.set_cons_zero, List.set_cons_succ]
          refine takeQ 1 23 ((.slice (some ⟨b, o, none⟩) ps.length c)) ?_
          simp only [Act.put, List.setIfInBounds_toArray, List.set_cons_zero, List.set_cons_succ]
          refine takeQ 2 24 ((.int .i64 (ps.length : Nat))) ?_
          simp only [Act.put, List.setIfInBounds_toArray, List.set_cons_zero, List.set_cons_succ]
          refine takeQ 3 25 ((.bool true)) ?_
          simp only [Act.put, List.setIfInBounds_toArray, List.set_cons_zero, List.set_cons_succ]
          refine takeQ 4 26 ((.bool true)) ?_
          simp only [Act.put, List.setIfInBounds_toArray, List.set_cons_zero, List.set_cons_succ]
          refine takeQ 5 27 ((.slice (some ⟨b, o, none⟩) ps.length c)) ?_
          simp only [Act.put, List.setIfInBounds_toArray, List.set_cons_zero, List.set_cons_succ]
          refine takeQ 6 28 ((.int .i64 (j : Nat))) ?_
          simp only [Act.put, List.setIfInBounds_toArray, List.set_cons_zero, List.set_cons_succ]
          refine takeQ 7 29 ((.pointer (some ⟨b, o + j * 6, none⟩))) ?_
          simp only [Act.put, List.setIfInBounds_toArray, List.set_cons_zero, List.set_cons_succ]
          refine takeQ 8 30 ((.agg #[.int .i64 p.1.e, .int .i64 p.1.a, .int .i64 p.1.k, .int .i64 p.1.m, .string p.1.s, .slice Ap p.1.l.length cp])) ?_ (hy := by (intro _w hSw; have q0 : _w.cell? ⟨b, o + j * 6, none⟩ = some (.int .i64 p.1.e) := HCV.out _ (HBw3.out.trans (hSw.mono HBw3.out.size)) 0 _ rfl; have q1 : _w.cell? ⟨b, o + j * 6 + 1, none⟩ = some (.int .i64 p.1.a) := HCV.out _ (HBw3.out.trans (hSw.mono HBw3.out.size)) 1 _ rfl; have q2 : _w.cell? ⟨b, o + j * 6 + 2, none⟩ = some (.int .i64 p.1.k) := HCV.out _ (HBw3.out.trans (hSw.mono HBw3.out.size)) 2 _ rfl; have q3 : _w.cell? ⟨b, o + j * 6 + 3, none⟩ = some (.int .i64 p.1.m) := HCV.out _ (HBw3.out.trans (hSw.mono HBw3.out.size)) 3 _ rfl; have q4 : _w.cell? ⟨b, o + j * 6 + 4, none⟩ = some (.string p.1.s) := HCV.out _ (HBw3.out.trans (hSw.mono HBw3.out.size)) 4 _ rfl; have q5 : _w.cell? ⟨b, o + j * 6 + 5, none⟩ = some (.slice Ap p.1.l.length cp) := HCV.out _ (HBw3.out.trans (hSw.mono HBw3.out.size)) 5 _ rfl; clear hSw; go_simp))
          simp only [Act.put, List.setIfInBounds_toArray, List.set_cons_zero, List.set_cons_succ]
          refine takeQ 9 31 ((.agg #[.int .i64 f.e, .int .i64 f.a, .int .i64 f.k, .int .i64 f.m, .string f.s, .slice A1 f.l.length c1])) ?_ (hy := by (intro _w hSw; have qx := HXX.out _ (HBw3.out.trans (hSw.mono HBw3.out.size)); have q0 := qx.k0; have q1 := qx.k1; have q2 := qx.k2; have q3 := qx.k3; have q4 := qx.k4; have q5 := qx.k5; clear qx; clear hSw; go_simp))
          simp only [Act.put, List.setIfInBounds_toArray, List.set_cons_zero, List.set_cons_succ]
          refine callV 10 rfl (by kernel_rfl) (by rfl) (fun K hK => ?_)
          go_simp
          refine (HCP.out _).mono ?_
          rintro e9 w4 ⟨rfl, hb3⟩
          have g3 := hHeld.trans (hb3.mono hHeld.size)
          refine hK.out _ _ g3 (fun hHeld => ?_)
          clear hK g3 K hb3
          try simp only [Act.put, List.setIfInBounds_toArray, List.set_cons_zero, List.set_cons_succ]
          refine takeQ 11 33 ((.bool false)) ?_
          simp only [Act.put, List.setIfInBounds_toArray, List.set_cons_zero, List.set_cons_succ]
          refine takeQ 12 34 ((.bool false)) ?_
          simp only [Act.put, List.setIfInBounds_toArray, List.set_cons_zero, List.set_cons_succ]
          refine wpAnyH_done (by kernel_rfl) ?_ _
          have HBw4 := Lib.hid (HBw3.out.trans (hHeld.mono HBw3.out.size))
          clear hHeld
          have HBT := Lib.hid (HBR.out.trans (HBw4.out.mono HBR.out.size))
          have HXT := Lib.hid (HXR.out.next HBw4.out)
          have HZZ : Hid (∀ p, ps[j]? = some p → 0 ≤ ordTr (triF p.1) (triF f) ∧ ordTr (triF p.1) (triF f) ≠ 0) := fun q hq => by
            rw [HPJ.out] at hq
            cases hq
            rw [HNE.out]
            exact ⟨HG1.out, HG2.out⟩
          have hrc : j < c := by omega
          clear HCV HCP HXX HSA
          obtain ⟨ad, had⟩ : ∃ ad, (⟨b, o, none⟩ : Addr) = ad := ⟨_, rfl⟩
          rw [had] at HS HO ⊢
          clear had
          obtain ⟨w5, hw5⟩ : ∃ X, X = w4 := ⟨_, rfl⟩
          subst hw5
          obtain ⟨i0, hi, hz0, hz1, hz2⟩ := info_parts infoF
          have HXc : Hid (∀ X, Below w5.heap.size w5 X → FcBx X w.heap.size f (.slice A1 f.l.length c1)) := fun X hX => HXT.out.next hX
          have HON : Hid (w5.ownsRow w5.heap.size 67 6 (.slice none 0 0) 0 []) := World.ownsRow_nil _ _ _ _
          have HS5 : Hid (SlF w5 (some ad) ps) := HS.out.next HBT.out
          have HSr := Lib.hid (HS5.out.take j)
          have HTL : Hid ((ps.take j).length = j) := by show _ = _; rw [List.length_take]; omega
          have HNR : Hid (((ps.take j).flatMap cellsF).length = j * 6) := by show _ = _; rw [cellsF_flat, HTL.out]
          have HA1 := Lib.hid (cellsF_ones (ps.take j) (fun p hp => HAG.out p (List.mem_of_mem_take hp)))
          have HA2 := Lib.hid (cellsF_ones (ps.drop j) (fun p hp => HAG.out p (List.mem_of_mem_drop hp)))
          have HJM : Hid (j ≤ 1000) := by show _ ≤ _; omega
          have HBN1 : Hid (0 + j ≤ maxLen) := by show _ ≤ _; have := HJM.out; have : 2000000 ≤ maxLen := (by decide); omega
          have HBN2 : Hid ((0 + j) * 72 ≤ 140737488355328) := by show _ ≤ _; have := HJM.out; omega
          have HBS : Hid (w5.heap.size ≤ w5.heap.size) := Nat.le_refl _
          have HBN3 : Hid (j + 1 ≤ maxLen) := by show _ ≤ _; have := HJM.out; have : 2000000 ≤ maxLen := (by decide); omega
          have HBN4 : Hid ((j + 1) * 72 ≤ 140737488355328) := by show _ ≤ _; have := HJM.out; omega
          have HTM : Hid ((ps.take j ++ [(f, Value.slice A1 f.l.length c1)]).length = j + 1) := by show _ = _; rw [List.length_append, HTL.out]; rfl
          have HLL : Hid ((ps.take j ++ [(f, Value.slice A1 f.l.length c1)] ++ ps.drop j).length = j + 1 + (ps.length - j)) := by show _ = _; rw [List.length_append, HTM.out, List.length_drop]
          have HND : Hid (((ps.drop j).flatMap cellsF).length = (ps.length - j) * 6) := by show _ = _; rw [cellsF_flat, List.length_drop]
          have HBN5 : Hid (j + 1 + (ps.length - j) ≤ maxLen) := by show _ ≤ _; have : 2000000 ≤ maxLen := (by decide); omega
          have HBN6 : Hid ((j + 1 + (ps.length - j)) * 72 ≤ 140737488355328) := by show _ ≤ _; omega
          have HF6 : Hid ((ps.take j ++ [(f, Value.slice A1 f.l.length c1)]).flatMap cellsF = (ps.take j).flatMap cellsF ++ cellsF (f, .slice A1 f.l.length c1)) := by show _ = _; rw [List.flatMap_append]; simp
          have hr1 : (j : Int) ≤ (c : Int) := by omega
          have hr2 : (j : Int) ≤ (ps.length : Int) := by omega
          go_wp2_with (at_builtin; first
            | (refine wpList_append_own _ rfl _ _ 26 rfl w5.heap.size 67 i0 (.agg #[.int .i64 0, .int .i64 0, .int .i64 0, .int .i64 0, .string ⟨#[]⟩, .slice none 0 0]) 6 72 Tryz.underlying26 hi hz0 hz1 hz2 rfl (by decide) (.slice none 0 0) 0 [] rfl HON.out ad j c ((ps.take j).flatMap cellsF) rfl HNR.out HSr.out.cells HA1.out HBN1.out HBN2.out HBS.out ?_; intro v6 w6 hown hgrow _; have ho6 : w6.ownsRow w5.heap.size 67 6 v6 j ((ps.take j).flatMap cellsF) := (by rw [Nat.zero_add, List.nil_append] at hown; exact hown); obtain ⟨A6, c6, hv6⟩ := rowF_form ho6; subst hv6; have HB6 := Lib.hid ((Below.refl w5.heap.size w5).grown hgrow (Nat.le_refl _) (fun k hk => (World.ownsRow.lt HON.out k hk).1)); have HOA7 := Lib.hid (World.ownsRow.alloc ho6 (.cells #[.int .i64 f.e, .int .i64 f.a, .int .i64 f.k, .int .i64 f.m, .string f.s, .slice A1 f.l.length c1] 67)); have HBS7 : Hid (w5.heap.size ≤ (w6.alloc (.cells #[.int .i64 f.e, .int .i64 f.a, .int .i64 f.k, .int .i64 f.m, .string f.s, .slice A1 f.l.length c1] 67)).heap.size) := (by show _ ≤ _; have := HB6.out.size; simp; omega); have qx := HXc.out _ HB6.out; have q0 := qx.k0; have q1 := qx.k1; have q2 := qx.k2; have q3 := qx.k3; have q4 := qx.k4; have q5 := qx.k5; clear qx; clear hown hgrow ho6)
            | (refine wpList_append_own _ rfl _ _ 26 rfl w5.heap.size 67 i0 (.agg #[.int .i64 0, .int .i64 0, .int .i64 0, .int .i64 0, .string ⟨#[]⟩, .slice none 0 0]) 6 72 Tryz.underlying26 hi hz0 hz1 hz2 rfl (by decide) (.slice A6 j c6) j ((ps.take j).flatMap cellsF) rfl HOA7.out ⟨w6.heap.size, 0, none⟩ 1 1 (cellsF (f, .slice A1 f.l.length c1)) rfl rfl (fun j u h => cell_lit w6 #[.int .i64 f.e, .int .i64 f.a, .int .i64 f.k, .int .i64 f.m, .string f.s, .slice A1 f.l.length c1] 67 j u h) (fun u hu => cellsF_ones [(f, .slice A1 f.l.length c1)] (fun p hp => by rw [List.mem_singleton.1 hp]; exact ⟨_, _, _, rfl⟩) u (by simpa using hu)) HBN3.out HBN4.out HBS7.out ?_; intro v7 w7 hown hgrow _; have HO7 : Hid (w7.ownsRow w5.heap.size 67 6 v7 (j + 1) ((ps.take j ++ [(f, Value.slice A1 f.l.length c1)]).flatMap cellsF)) := (by show w7.ownsRow _ _ _ _ _ _; rw [HF6.out]; exact hown); have HB7 := Lib.hid ((HB6.out.trans (((Below.refl w6.heap.size w6).alloc (Nat.le_refl _) (.cells #[.int .i64 f.e, .int .i64 f.a, .int .i64 f.k, .int .i64 f.m, .string f.s, .slice A1 f.l.length c1] 67)).mono HB6.out.size)).grown hgrow HBS7.out (fun k hk => (World.ownsRow.lt HOA7.out k hk).1)); obtain ⟨A7, c7, hv7⟩ := rowF_form hown; subst hv7; have HSD := Lib.hid (SlF.drop (HS5.out.next HB7.out) j); clear hown hgrow q0 q1 q2 q3 q4 q5)
            | (refine wpList_append_own _ rfl _ _ 26 rfl w5.heap.size 67 i0 (.agg #[.int .i64 0, .int .i64 0, .int .i64 0, .int .i64 0, .string ⟨#[]⟩, .slice none 0 0]) 6 72 Tryz.underlying26 hi hz0 hz1 hz2 rfl (by decide) (.slice A7 (j + 1) c7) (j + 1) ((ps.take j ++ [(f, Value.slice A1 f.l.length c1)]).flatMap cellsF) rfl HO7.out _ (ps.length - j) _ ((ps.drop j).flatMap cellsF) rfl HND.out HSD.out.cells HA2.out HBN5.out HBN6.out HB7.out.size ?_; intro v8 w8 hown hgrow _; have HO8 : Hid (w8.ownsRow w5.heap.size 67 6 v8 (ps.take j ++ [(f, Value.slice A1 f.l.length c1)] ++ ps.drop j).length ((ps.take j ++ [(f, Value.slice A1 f.l.length c1)] ++ ps.drop j).flatMap cellsF)) := (by show w8.ownsRow _ _ _ _ _ _; rw [HLL.out, List.flatMap_append]; exact hown); have HB8 := Lib.hid (HB7.out.grown hgrow HB7.out.size (fun k hk => (World.ownsRow.lt HO7.out k hk).1)); obtain ⟨A8, c8, hv8⟩ := rowF_form HO8.out; rw [HLL.out] at hv8; subst hv8; clear hown hgrow)
            | fail)
          
          go_ret
          exact putF_new (j := j) (by omega) (putF_own HO.out HF.out (HBT.out.trans (HB8.out.mono HBT.out.size)) (Nat.le_trans HBW.out HBT.out.size) HO8.out) (HBT.out.trans (HB8.out.mono HBT.out.size)) HLT.out HZZ.out
end Go.Proofs.YthdjlaombbeagaaGreat

/-
  CONTRACT: the document's said (layer 6).
-/
namespace Go.Proofs.YthdjlaombbeagaaGreat
open Go.RowKit

set_option maxRecDepth 100000 in
set_option maxHeartbeats 4000000 in
theorem said_any (A : Option Addr) (c B : Nat) (l : List Dat) (d : Dat) (t : Int) (add : Bool) (w : World) (hs : SlD w B A l) (hB : B ≤ w.heap.size) (hl : l.length ≤ 1000000) :
    Calls Tryz.prog 26 #[.slice A l.length c, .agg #[.int .i64 d.e, .int .i64 d.a, .int .i64 d.k, .int .i64 d.m, .string d.s, .int .i64 d.t, .bool d.add, .int .i64 d.fr, .int .i64 d.til], .int .i64 t, .bool add] w fun e w' => ∃ v, e = .returned v ∧ OwnS w' w.heap.size v (saidL d t add l) ∧ Below w.heap.size w w' := by
  obtain ⟨w1, hw1⟩ : ∃ X, w.alloc (.cells #[.int .i64 d.e, .int .i64 d.a, .int .i64 d.k, .int .i64 d.m, .string d.s, .int .i64 d.t, .bool d.add, .int .i64 d.fr, .int .i64 d.til] 44) = X := ⟨_, rfl⟩
  have HB1 : Hid (Below w.heap.size w w1) := by show Below _ _ _; rw [← hw1]; exact (Below.refl _ _).alloc (Nat.le_refl _) _
  have HD1 : Hid (DatAt w1 w.heap.size d) := by show DatAt _ _ _; rw [← hw1]; exact datAt_new w d
  have HS := Lib.hid hs
  have HBW := Lib.hid hB
  clear hs hB
  obtain ⟨i0, hi, hz0, hz1, hz2⟩ := info_parts info92
  go_enter Tryz.func26, Tryz.ntmps26
  go_wp2_with fail
  try rw [hw1]
  clear hw1
  go_loopg [9, 10] l.length (fun gk y z wr => ∃ (j m co : Nat) (Ao : Option Addr) (M : List Sp), z = .int .i64 (j : Nat) ∧ y = .slice Ao m co ∧ j + gk = l.length ∧ Hid (M = saidL d t add (l.take j)) ∧ Hid (M.length = m) ∧ Hid (OwnS wr w1.heap.size (.slice Ao m co) M) ∧ Hid (Below w1.heap.size w1 wr))
  case atStart => exact ⟨0, 0, 0, none, [], rfl, rfl, by omega, rfl, rfl, World.ownsRow_nil _ _ _ _, Below.refl _ _⟩
  case round =>
    obtain ⟨j, m, co, Ao, M, rfl, rfl, hj, HM, HML, HO, HB⟩ := hrel
    cases gk with
    | zero =>
      have hjz : ¬ ((j : Int) < (l.length : Int)) := by omega
      have hjz' : decide ((j : Int) < (l.length : Int)) = false := decide_eq_false hjz
      have HF : Hid (OwnS wr w.heap.size (.slice Ao m co) (saidL d t add l)) := by
        have h := HO.out
        rw [HM.out, List.take_of_length_le (by omega)] at h
        refine ⟨h.1, ?_⟩
        rcases h.2 with h0 | ⟨g, cap, cur, e, hb, r⟩
        · exact .inl h0
        · exact .inr ⟨g, cap, cur, e, Nat.le_trans HB1.out.size hb, r⟩
      have HBF := Lib.hid (HB1.out.trans (HB.out.mono HB1.out.size))
      go_wp2
      go_ret
      exact ⟨_, rfl, HF.out, HBF.out⟩
    | succ gk =>
      have hjz : ((j : Int) < (l.length : Int)) := by omega
      have hjz' : decide ((j : Int) < (l.length : Int)) = true := decide_eq_true hjz
      have hj0 : (0 : Int) ≤ (j : Int) := by omega
      have hjn : j < l.length := by omega
      obtain ⟨ob, oo, rfl, hob, hat⟩ := HS.out.at_ hjn
      obtain ⟨x, hx⟩ : ∃ x, l[j] = x := ⟨_, rfl⟩
      have hp : l[j]? = some x := by rw [List.getElem?_eq_getElem hjn, hx]
      rw [hx] at hat
      have HX : Hid (∀ X, Below w1.heap.size w1 X → DtAt X ob (oo + j * 9) x) := fun X hX => hat.next (HB1.out.trans (hX.mono HB1.out.size)) (Nat.lt_of_lt_of_le hob HBW.out)
      have HD : Hid (∀ X, Below w1.heap.size w1 X → DatAt X w.heap.size d) := fun X hX => HD1.out.next hX HD1.out.lt
      obtain ⟨al, hal⟩ : ∃ al, alikeB x d = al := ⟨_, rfl⟩
      have HAL := Lib.hid hal
      have HTK := Lib.hid (saidL_take d t add hp)
      rw [hal] at HTK
      clear hat hob hx hp hal
      rw [← HM.out] at HTK
      have HLN : Hid (m ≤ 1000000) := by show _ ≤ _; rw [← HML.out, HM.out]; have := saidL_len d t add (l.take j); rw [List.length_take] at this; omega
      cases al with
      | false =>
        have HE : Hid (M = saidL d t add (l.take (j + 1))) := by show _ = _; rw [HTK.out]; simp []
        go_wp2_with fail
        have HS0 : Hid (Below w1.heap.size w1 wr.drew ∧ OwnS wr.drew w1.heap.size (.slice Ao m co) M) := ⟨HB.out.trans ((qd_dn (Below.refl wr.heap.size wr) 1).mono HB.out.size), HO.out.next (qd_dn (Below.refl _ _) 1)⟩
        obtain ⟨wz, hwz⟩ : ∃ X, wr.drew = X := ⟨_, rfl⟩
        refine wp_region_held_drew (S := fun X => Below w1.heap.size w1 X ∧ OwnS X w1.heap.size (.slice Ao m co) M) (by kernel_rfl) HS0.out (fun hHeld => ?_)
        rw [hwz] at hHeld ⊢
        clear hwz HS0
        refine takeQ 0 17 ((.slice (some ⟨ob, oo, none⟩) l.length c)) ?_
        simp only [Act.put, List.setIfInBounds_toArray, List.set_cons_zero, List.set_cons_succ]
        refine takeQ 1 18 ((.int .i64 (j : Nat))) ?_
        simp only [Act.put, List.setIfInBounds_toArray, List.set_cons_zero, List.set_cons_succ]
        refine takeQ 2 19 ((.pointer (some ⟨ob, oo + j * 9, none⟩))) ?_
        simp only [Act.put, List.setIfInBounds_toArray, List.set_cons_zero, List.set_cons_succ]
        refine takeQ 3 20 ((.agg #[.int .i64 x.e, .int .i64 x.a, .int .i64 x.k, .int .i64 x.m, .string x.s, .int .i64 x.t, .bool x.add, .int .i64 x.fr, .int .i64 x.til])) ?_ (hy := by (intro _w hSw; have hq := HX.out _ hSw.1; have q0 := hq.c0; have q1 := hq.c1; have q2 := hq.c2; have q3 := hq.c3; have q4 := hq.c4; have q5 := hq.c5; have q6 := hq.c6; have q7 := hq.c7; have q8 := hq.c8; clear hSw; go_simp))
        simp only [Act.put, List.setIfInBounds_toArray, List.set_cons_zero, List.set_cons_succ]
        refine takeQ 4 21 ((.agg #[.int .i64 d.e, .int .i64 d.a, .int .i64 d.k, .int .i64 d.m, .string d.s, .int .i64 d.t, .bool d.add, .int .i64 d.fr, .int .i64 d.til])) ?_ (hy := by (intro _w hSw; have hq := HD.out _ hSw.1; have q0 := hq.c0; have q1 := hq.c1; have q2 := hq.c2; have q3 := hq.c3; have q4 := hq.c4; have q5 := hq.c5; have q6 := hq.c6; have q7 := hq.c7; have q8 := hq.c8; clear hSw; go_simp))
        simp only [Act.put, List.setIfInBounds_toArray, List.set_cons_zero, List.set_cons_succ]
        refine callV 5 rfl (by kernel_rfl) (by rfl) (fun K hK => ?_)
        go_simp
        refine (alike_any x d _).mono ?_
        rintro e wf ⟨rfl, hbf⟩
        rw [HAL.out]
        refine hK.out _ _ ⟨hHeld.1.trans (hbf.mono hHeld.1.size), hHeld.2.next hbf⟩ (fun hHeld2 => ?_)
        clear hbf
        clear hK K hHeld
        have hHeld := hHeld2
        clear hHeld2
        try simp only [Act.put, List.setIfInBounds_toArray, List.set_cons_zero, List.set_cons_succ]
        refine takeQ 6 23 ((.bool false)) ?_
        simp only [Act.put, List.setIfInBounds_toArray, List.set_cons_zero, List.set_cons_succ]
        refine skipQ 7 24 ?_
        simp only [Act.put, List.setIfInBounds_toArray, List.set_cons_zero, List.set_cons_succ]
        refine skipQ 8 25 ?_
        simp only [Act.put, List.setIfInBounds_toArray, List.set_cons_zero, List.set_cons_succ]
        refine skipQ 9 26 ?_
        simp only [Act.put, List.setIfInBounds_toArray, List.set_cons_zero, List.set_cons_succ]
        refine skipQ 10 27 ?_
        simp only [Act.put, List.setIfInBounds_toArray, List.set_cons_zero, List.set_cons_succ]
        refine skipQ 11 28 ?_
        simp only [Act.put, List.setIfInBounds_toArray, List.set_cons_zero, List.set_cons_succ]
        refine skipQ 12 29 ?_
        simp only [Act.put, List.setIfInBounds_toArray, List.set_cons_zero, List.set_cons_succ]
        refine skipQ 13 30 ?_
        simp only [Act.put, List.setIfInBounds_toArray, List.set_cons_zero, List.set_cons_succ]
        refine takeQ 14 31 ((.bool false)) ?_
        simp only [Act.put, List.setIfInBounds_toArray, List.set_cons_zero, List.set_cons_succ]
        refine takeQ 15 32 ((.bool false)) ?_
        simp only [Act.put, List.setIfInBounds_toArray, List.set_cons_zero, List.set_cons_succ]
        refine skipQ 16 33 ?_
        simp only [Act.put, List.setIfInBounds_toArray, List.set_cons_zero, List.set_cons_succ]
        refine skipQ 17 34 ?_
        simp only [Act.put, List.setIfInBounds_toArray, List.set_cons_zero, List.set_cons_succ]
        refine skipQ 18 35 ?_
        simp only [Act.put, List.setIfInBounds_toArray, List.set_cons_zero, List.set_cons_succ]
        refine skipQ 19 36 ?_
        simp only [Act.put, List.setIfInBounds_toArray, List.set_cons_zero, List.set_cons_succ]
        refine skipQ 20 37 ?_
        simp only [Act.put, List.setIfInBounds_toArray, List.set_cons_zero, List.set_cons_succ]
        refine skipQ 21 38 ?_
        simp only [Act.put, List.setIfInBounds_toArray, List.set_cons_zero, List.set_cons_succ]
        refine skipQ 22 39 ?_
        simp only [Act.put, List.setIfInBounds_toArray, List.set_cons_zero, List.set_cons_succ]
        refine takeQ 23 40 ((.bool false)) ?_
        simp only [Act.put, List.setIfInBounds_toArray, List.set_cons_zero, List.set_cons_succ]
        refine wpAnyH_done (by kernel_rfl) ?_ _
        have HBR := Lib.hid hHeld.1
        have HOR := Lib.hid hHeld.2
        clear hHeld
        go_wp2
        go_roundg gk
        case measure => omega
        case rel => exact ⟨j + 1, m, co, Ao, M, by go_num, rfl, by omega, HE.out, HML.out, HOR.out, HBR.out⟩
      | true =>
        by_cases g1 : x.t = t
        · have g1' : (x.t == t) = true := beq_iff_eq.2 g1
          by_cases g2 : x.add = add
          · have g2' : (x.add == add) = true := beq_iff_eq.2 g2
            have HE : Hid (M ++ [(x.fr, x.til)] = saidL d t add (l.take (j + 1))) := by show _ = _; rw [HTK.out]; simp [g1, g2]
            clear g1 g2
            go_wp2_with fail
            have HS0 : Hid (Below w1.heap.size w1 wr.drew ∧ OwnS wr.drew w1.heap.size (.slice Ao m co) M) := ⟨HB.out.trans ((qd_dn (Below.refl wr.heap.size wr) 1).mono HB.out.size), HO.out.next (qd_dn (Below.refl _ _) 1)⟩
            obtain ⟨wz, hwz⟩ : ∃ X, wr.drew = X := ⟨_, rfl⟩
            refine wp_region_held_drew (S := fun X => Below w1.heap.size w1 X ∧ OwnS X w1.heap.size (.slice Ao m co) M) (by kernel_rfl) HS0.out (fun hHeld => ?_)
            rw [hwz] at hHeld ⊢
            clear hwz HS0
            refine takeQ 0 17 ((.slice (some ⟨ob, oo, none⟩) l.length c)) ?_
            simp only [Act.put, List.setIfInBounds_toArray, List.set_cons_zero, List.set_cons_succ]
            refine takeQ 1 18 ((.int .i64 (j : Nat))) ?_
            simp only [Act.put, List.setIfInBounds_toArray, List.set_cons_zero, List.set_cons_succ]
            refine takeQ 2 19 ((.pointer (some ⟨ob, oo + j * 9, none⟩))) ?_
            simp only [Act.put, List.setIfInBounds_toArray, List.set_cons_zero, List.set_cons_succ]
            refine takeQ 3 20 ((.agg #[.int .i64 x.e, .int .i64 x.a, .int .i64 x.k, .int .i64 x.m, .string x.s, .int .i64 x.t, .bool x.add, .int .i64 x.fr, .int .i64 x.til])) ?_ (hy := by (intro _w hSw; have hq := HX.out _ hSw.1; have q0 := hq.c0; have q1 := hq.c1; have q2 := hq.c2; have q3 := hq.c3; have q4 := hq.c4; have q5 := hq.c5; have q6 := hq.c6; have q7 := hq.c7; have q8 := hq.c8; clear hSw; go_simp))
            simp only [Act.put, List.setIfInBounds_toArray, List.set_cons_zero, List.set_cons_succ]
            refine takeQ 4 21 ((.agg #[.int .i64 d.e, .int .i64 d.a, .int .i64 d.k, .int .i64 d.m, .string d.s, .int .i64 d.t, .bool d.add, .int .i64 d.fr, .int .i64 d.til])) ?_ (hy := by (intro _w hSw; have hq := HD.out _ hSw.1; have q0 := hq.c0; have q1 := hq.c1; have q2 := hq.c2; have q3 := hq.c3; have q4 := hq.c4; have q5 := hq.c5; have q6 := hq.c6; have q7 := hq.c7; have q8 := hq.c8; clear hSw; go_simp))
            simp only [Act.put, List.setIfInBounds_toArray, List.set_cons_zero, List.set_cons_succ]
            refine callV 5 rfl (by kernel_rfl) (by rfl) (fun K hK => ?_)
            go_simp
            refine (alike_any x d _).mono ?_
            rintro e wf ⟨rfl, hbf⟩
            rw [HAL.out]
            refine hK.out _ _ ⟨hHeld.1.trans (hbf.mono hHeld.1.size), hHeld.2.next hbf⟩ (fun hHeld2 => ?_)
            clear hbf
            clear hK K hHeld
            have hHeld := hHeld2
            clear hHeld2
            try simp only [Act.put, List.setIfInBounds_toArray, List.set_cons_zero, List.set_cons_succ]
            refine takeQ 6 23 ((.bool true)) ?_
            simp only [Act.put, List.setIfInBounds_toArray, List.set_cons_zero, List.set_cons_succ]
            refine takeQ 7 24 ((.slice (some ⟨ob, oo, none⟩) l.length c)) ?_
            simp only [Act.put, List.setIfInBounds_toArray, List.set_cons_zero, List.set_cons_succ]
            refine takeQ 8 25 ((.int .i64 (j : Nat))) ?_
            simp only [Act.put, List.setIfInBounds_toArray, List.set_cons_zero, List.set_cons_succ]
            refine takeQ 9 26 ((.pointer (some ⟨ob, oo + j * 9, none⟩))) ?_
            simp only [Act.put, List.setIfInBounds_toArray, List.set_cons_zero, List.set_cons_succ]
            refine takeQ 10 27 ((.pointer (some ⟨ob, oo + j * 9 + 5, none⟩))) ?_
            simp only [Act.put, List.setIfInBounds_toArray, List.set_cons_zero, List.set_cons_succ]
            refine takeQ 11 28 ((.int .i64 x.t)) ?_ (hy := by (intro _w hSw; have q0 := (HX.out _ hSw.1).c5; clear hSw; go_simp))
            simp only [Act.put, List.setIfInBounds_toArray, List.set_cons_zero, List.set_cons_succ]
            refine takeQ 12 29 ((.int .i64 t)) ?_
            simp only [Act.put, List.setIfInBounds_toArray, List.set_cons_zero, List.set_cons_succ]
            refine takeQ 13 30 ((.bool true)) ?_
            simp only [Act.put, List.setIfInBounds_toArray, List.set_cons_zero, List.set_cons_succ]
            refine takeQ 14 31 ((.bool true)) ?_
            simp only [Act.put, List.setIfInBounds_toArray, List.set_cons_zero, List.set_cons_succ]
            refine takeQ 15 32 ((.bool true)) ?_
            simp only [Act.put, List.setIfInBounds_toArray, List.set_cons_zero, List.set_cons_succ]
            refine takeQ 16 33 ((.slice (some ⟨ob, oo, none⟩) l.length c)) ?_
            simp only [Act.put, List.setIfInBounds_toArray, List.set_cons_zero, List.set_cons_succ]
            refine takeQ 17 34 ((.int .i64 (j : Nat))) ?_
            simp only [Act.put, List.setIfInBounds_toArray, List.set_cons_zero, List.set_cons_succ]
            refine takeQ 18 35 ((.pointer (some ⟨ob, oo + j * 9, none⟩))) ?_
            simp only [Act.put, List.setIfInBounds_toArray, List.set_cons_zero, List.set_cons_succ]
            refine takeQ 19 36 ((.pointer (some ⟨ob, oo + j * 9 + 6, none⟩))) ?_
            simp only [Act.put, List.setIfInBounds_toArray, List.set_cons_zero, List.set_cons_succ]
            refine takeQ 20 37 ((.bool x.add)) ?_ (hy := by (intro _w hSw; have q0 := (HX.out _ hSw.1).c6; clear hSw; go_simp))
            simp only [Act.put, List.setIfInBounds_toArray, List.set_cons_zero, List.set_cons_succ]
            refine takeQ 21 38 ((.bool add)) ?_
            simp only [Act.put, List.setIfInBounds_toArray, List.set_cons_zero, List.set_cons_succ]
            refine takeQ 22 39 ((.bool true)) ?_
            simp only [Act.put, List.setIfInBounds_toArray, List.set_cons_zero, List.set_cons_succ]
            refine takeQ 23 40 ((.bool true)) ?_
            simp only [Act.put, List.setIfInBounds_toArray, List.set_cons_zero, List.set_cons_succ]
            refine wpAnyH_done (by kernel_rfl) ?_ _
            have HBR := Lib.hid hHeld.1
            have HOR := Lib.hid hHeld.2
            clear hHeld
            go_wp2_with fail
            have HS1 : Hid (Below w1.heap.size w1 wf.drew) := HBR.out.trans ((qd_dn (Below.refl wf.heap.size wf) 1).mono HBR.out.size)
            have HOY : Hid (OwnS wf.drew w1.heap.size (.slice Ao m co) M) := HOR.out.next (qd_dn (Below.refl _ _) 1)
            obtain ⟨wy, hwy⟩ : ∃ X, wf.drew = X := ⟨_, rfl⟩
            refine wp_region_held_drew (S := fun X => Below w1.heap.size w1 X) (by kernel_rfl) HS1.out (fun hHeld => ?_)
            rw [hwy] at hHeld HOY ⊢
            clear hwy HS1
            refine takeQ 0 41 ((.slice Ao m co)) ?_
            simp only [Act.put, List.setIfInBounds_toArray, List.set_cons_zero, List.set_cons_succ]
            refine takeQ 1 42 ((.slice (some ⟨ob, oo, none⟩) l.length c)) ?_
            simp only [Act.put, List.setIfInBounds_toArray, List.set_cons_zero, List.set_cons_succ]
            refine takeQ 2 43 ((.int .i64 (j : Nat))) ?_
            simp only [Act.put, List.setIfInBounds_toArray, List.set_cons_zero, List.set_cons_succ]
            refine takeQ 3 44 ((.pointer (some ⟨ob, oo + j * 9, none⟩))) ?_
            simp only [Act.put, List.setIfInBounds_toArray, List.set_cons_zero, List.set_cons_succ]
            refine takeQ 4 45 ((.pointer (some ⟨ob, oo + j * 9 + 7, none⟩))) ?_
            simp only [Act.put, List.setIfInBounds_toArray, List.set_cons_zero, List.set_cons_succ]
            refine takeQ 5 46 ((.int .i64 x.fr)) ?_ (hy := by (intro _w hSw; have q0 := (HX.out _ hSw).c7; clear hSw; go_simp))
            simp only [Act.put, List.setIfInBounds_toArray, List.set_cons_zero, List.set_cons_succ]
            refine takeQ 6 47 ((.slice (some ⟨ob, oo, none⟩) l.length c)) ?_
            simp only [Act.put, List.setIfInBounds_toArray, List.set_cons_zero, List.set_cons_succ]
            refine takeQ 7 48 ((.int .i64 (j : Nat))) ?_
            simp only [Act.put, List.setIfInBounds_toArray, List.set_cons_zero, List.set_cons_succ]
            refine takeQ 8 49 ((.pointer (some ⟨ob, oo + j * 9, none⟩))) ?_
            simp only [Act.put, List.setIfInBounds_toArray, List.set_cons_zero, List.set_cons_succ]
            refine takeQ 9 50 ((.pointer (some ⟨ob, oo + j * 9 + 8, none⟩))) ?_
            simp only [Act.put, List.setIfInBounds_toArray, List.set_cons_zero, List.set_cons_succ]
            refine takeQ 10 51 ((.int .i64 x.til)) ?_ (hy := by (intro _w hSw; have q0 := (HX.out _ hSw).c8; clear hSw; go_simp))
            simp only [Act.put, List.setIfInBounds_toArray, List.set_cons_zero, List.set_cons_succ]
            refine takeQ 11 52 ((.agg #[.int .i64 x.fr, .int .i64 x.til])) ?_
            simp only [Act.put, List.setIfInBounds_toArray, List.set_cons_zero, List.set_cons_succ]
            refine callV 12 rfl (by kernel_rfl) (by rfl) (fun K hK => ?_)
            go_simp
            refine hK.out _ _ (hHeld.alloc hHeld.size _) (fun hHeld2 => ?_)
            clear hK K hHeld
            have hHeld := hHeld2
            clear hHeld2
            try simp only [Act.put, List.setIfInBounds_toArray, List.set_cons_zero, List.set_cons_succ]
            refine callV 13 rfl (by kernel_rfl) (by rfl) (fun K hK => ?_)
            refine wp_append_own _ _ _ 60 rfl w1.heap.size 88 i0 (.agg #[.int .i64 0, .int .i64 0]) 2 16 Tryz.underlying60 hi hz0 hz1 hz2 rfl (by decide) (.slice Ao m co) m (M.flatMap cellsS) rfl (OwnS.row (OwnS.alloc HOY.out (.cells #[.int .i64 x.fr, .int .i64 x.til] 88)) HML.out) ⟨wy.heap.size, 0, none⟩ 1 1 (cellsS (x.fr, x.til)) rfl rfl (fun j u h => cell_litS _ _ _ j u h) (cellsS_one _) (by have := HLN.out; have : 2000000 ≤ maxLen := (by decide); omega) (by have := HLN.out; omega) hHeld.size ?_
            intro v9 w9 hown hgrow _
            have HO9 := Lib.hid (ownS_snoc' HML.out hown)
            have HB9 := Lib.hid (hHeld.grown hgrow hHeld.size (fun k hk => (World.ownsRow.lt HOY.out k hk).1))
            obtain ⟨A9, c9, e9, _, _, _⟩ := HO9.out.sls
            rw [List.length_append, HML.out] at e9
            subst e9
            clear hown hgrow
            have HML9 : Hid ((M ++ [(x.fr, x.til)]).length = m + 1) := by show _ = _; rw [List.length_append, HML.out]; rfl
            refine hK.out _ _ HB9.out (fun hHeld2 => ?_)
            clear hK K hHeld hHeld2
            simp only [Act.put, List.setIfInBounds_toArray]
            refine takeQ 14 9 ((.slice A9 (m + 1) c9)) ?_
            simp only [Act.put]
            refine wpAnyH_done (by kernel_rfl) ?_ _
            go_wp2
            go_roundg gk
            case measure => omega
            case rel => exact ⟨j + 1, m + 1, c9, A9, M ++ [(x.fr, x.til)], by go_num, rfl, by omega, HE.out, HML9.out, HO9.out, HB9.out⟩
          · have g2' : (x.add == add) = false := beq_eq_false_iff_ne.2 g2
            have HE : Hid (M = saidL d t add (l.take (j + 1))) := by show _ = _; rw [HTK.out]; simp [g1, g2]
            clear g1 g2
            go_wp2_with fail
            have HS0 : Hid (Below w1.heap.size w1 wr.drew ∧ OwnS wr.drew w1.heap.size (.slice Ao m co) M) := ⟨HB.out.trans ((qd_dn (Below.refl wr.heap.size wr) 1).mono HB.out.size), HO.out.next (qd_dn (Below.refl _ _) 1)⟩
            obtain ⟨wz, hwz⟩ : ∃ X, wr.drew = X := ⟨_, rfl⟩
            refine wp_region_held_drew (S := fun X => Below w1.heap.size w1 X ∧ OwnS X w1.heap.size (.slice Ao m co) M) (by kernel_rfl) HS0.out (fun hHeld => ?_)
            rw [hwz] at hHeld ⊢
            clear hwz HS0
            refine takeQ 0 17 ((.slice (some ⟨ob, oo, none⟩) l.length c)) ?_
            simp only [Act.put, List.setIfInBounds_toArray, List.set_cons_zero, List.set_cons_succ]
            refine takeQ 1 18 ((.int .i64 (j : Nat))) ?_
            simp only [Act.put, List.setIfInBounds_toArray, List.set_cons_zero, List.set_cons_succ]
            refine takeQ 2 19 ((.pointer (some ⟨ob, oo + j * 9, none⟩))) ?_
            simp only [Act.put, List.setIfInBounds_toArray, List.set_cons_zero, List.set_cons_succ]
            refine takeQ 3 20 ((.agg #[.int .i64 x.e, .int .i64 x.a, .int .i64 x.k, .int .i64 x.m, .string x.s, .int .i64 x.t, .bool x.add, .int .i64 x.fr, .int .i64 x.til])) ?_ (hy := by (intro _w hSw; have hq := HX.out _ hSw.1; have q0 := hq.c0; have q1 := hq.c1; have q2 := hq.c2; have q3 := hq.c3; have q4 := hq.c4; have q5 := hq.c5; have q6 := hq.c6; have q7 := hq.c7; have q8 := hq.c8; clear hSw; go_simp))
            simp only [Act.put, List.setIfInBounds_toArray, List.set_cons_zero, List.set_cons_succ]
            refine takeQ 4 21 ((.agg #[.int .i64 d.e, .int .i64 d.a, .int .i64 d.k, .int .i64 d.m, .string d.s, .int .i64 d.t, .bool d.add, .int .i64 d.fr, .int .i64 d.til])) ?_ (hy := by (intro _w hSw; have hq := HD.out _ hSw.1; have q0 := hq.c0; have q1 := hq.c1; have q2 := hq.c2; have q3 := hq.c3; have q4 := hq.c4; have q5 := hq.c5; have q6 := hq.c6; have q7 := hq.c7; have q8 := hq.c8; clear hSw; go_simp))
            simp only [Act.put, List.setIfInBounds_toArray, List.set_cons_zero, List.set_cons_succ]
            refine callV 5 rfl (by kernel_rfl) (by rfl) (fun K hK => ?_)
            go_simp
            refine (alike_any x d _).mono ?_
            rintro e wf ⟨rfl, hbf⟩
            rw [HAL.out]
            refine hK.out _ _ ⟨hHeld.1.trans (hbf.mono hHeld.1.size), hHeld.2.next hbf⟩ (fun hHeld2 => ?_)
            clear hbf
            clear hK K hHeld
            have hHeld := hHeld2
            clear hHeld2
            try simp only [Act.put, List.setIfInBounds_toArray, List.set_cons_zero, List.set_cons_succ]
            refine takeQ 6 23 ((.bool true)) ?_
            simp only [Act.put, List.setIfInBounds_toArray, List.set_cons_zero, List.set_cons_succ]
            refine takeQ 7 24 ((.slice (some ⟨ob, oo, none⟩) l.length c)) ?_
            simp only [Act.put, List.setIfInBounds_toArray, List.set_cons_zero, List.set_cons_succ]
            refine takeQ 8 25 ((.int .i64 (j : Nat))) ?_
            simp only [Act.put, List.setIfInBounds_toArray, List.set_cons_zero, List.set_cons_succ]
            refine takeQ 9 26 ((.pointer (some ⟨ob, oo + j * 9, none⟩))) ?_
            simp only [Act.put, List.setIfInBounds_toArray, List.set_cons_zero, List.set_cons_succ]
            refine takeQ 10 27 ((.pointer (some ⟨ob, oo + j * 9 + 5, none⟩))) ?_
            simp only [Act.put, List.setIfInBounds_toArray, List.set_cons_zero, List.set_cons_succ]
            refine takeQ 11 28 ((.int .i64 x.t)) ?_ (hy := by (intro _w hSw; have q0 := (HX.out _ hSw.1).c5; clear hSw; go_simp))
            simp only [Act.put, List.setIfInBounds_toArray, List.set_cons_zero, List.set_cons_succ]
            refine takeQ 12 29 ((.int .i64 t)) ?_
            simp only [Act.put, List.setIfInBounds_toArray, List.set_cons_zero, List.set_cons_succ]
            refine takeQ 13 30 ((.bool true)) ?_
            simp only [Act.put, List.setIfInBounds_toArray, List.set_cons_zero, List.set_cons_succ]
            refine takeQ 14 31 ((.bool true)) ?_
            simp only [Act.put, List.setIfInBounds_toArray, List.set_cons_zero, List.set_cons_succ]
            refine takeQ 15 32 ((.bool true)) ?_
            simp only [Act.put, List.setIfInBounds_toArray, List.set_cons_zero, List.set_cons_succ]
            refine takeQ 16 33 ((.slice (some ⟨ob, oo, none⟩) l.length c)) ?_
            simp only [Act.put, List.setIfInBounds_toArray, List.set_cons_zero, List.set_cons_succ]
            refine takeQ 17 34 ((.int .i64 (j : Nat))) ?_
            simp only [Act.put, List.setIfInBounds_toArray, List.set_cons_zero, List.set_cons_succ]
            refine takeQ 18 35 ((.pointer (some ⟨ob, oo + j * 9, none⟩))) ?_
            simp only [Act.put, List.setIfInBounds_toArray, List.set_cons_zero, List.set_cons_succ]
            refine takeQ 19 36 ((.pointer (some ⟨ob, oo + j * 9 + 6, none⟩))) ?_
            simp only [Act.put, List.setIfInBounds_toArray, List.set_cons_zero, List.set_cons_succ]
            refine takeQ 20 37 ((.bool x.add)) ?_ (hy := by (intro _w hSw; have q0 := (HX.out _ hSw.1).c6; clear hSw; go_simp))
            simp only [Act.put, List.setIfInBounds_toArray, List.set_cons_zero, List.set_cons_succ]
            refine takeQ 21 38 ((.bool add)) ?_
            simp only [Act.put, List.setIfInBounds_toArray, List.set_cons_zero, List.set_cons_succ]
            refine takeQ 22 39 ((.bool false)) ?_
            simp only [Act.put, List.setIfInBounds_toArray, List.set_cons_zero, List.set_cons_succ]
            refine takeQ 23 40 ((.bool false)) ?_
            simp only [Act.put, List.setIfInBounds_toArray, List.set_cons_zero, List.set_cons_succ]
            refine wpAnyH_done (by kernel_rfl) ?_ _
            have HBR := Lib.hid hHeld.1
            have HOR := Lib.hid hHeld.2
            clear hHeld
            go_wp2
            go_roundg gk
            case measure => omega
            case rel => exact ⟨j + 1, m, co, Ao, M, by go_num, rfl, by omega, HE.out, HML.out, HOR.out, HBR.out⟩
        · have g1' : (x.t == t) = false := beq_eq_false_iff_ne.2 g1
          have HE : Hid (M = saidL d t add (l.take (j + 1))) := by show _ = _; rw [HTK.out]; simp [g1]
          clear g1
          go_wp2_with fail
          have HS0 : Hid (Below w1.heap.size w1 wr.drew ∧ OwnS wr.drew w1.heap.size (.slice Ao m co) M) := ⟨HB.out.trans ((qd_dn (Below.refl wr.heap.size wr) 1).mono HB.out.size), HO.out.next (qd_dn (Below.refl _ _) 1)⟩
          obtain ⟨wz, hwz⟩ : ∃ X, wr.drew = X := ⟨_, rfl⟩
          refine wp_region_held_drew (S := fun X => Below w1.heap.size w1 X ∧ OwnS X w1.heap.size (.slice Ao m co) M) (by kernel_rfl) HS0.out (fun hHeld => ?_)
          rw [hwz] at hHeld ⊢
          clear hwz HS0
          refine takeQ 0 17 ((.slice (some ⟨ob, oo, none⟩) l.length c)) ?_
          simp only [Act.put, List.setIfInBounds_toArray, List.set_cons_zero, List.set_cons_succ]
          refine takeQ 1 18 ((.int .i64 (j : Nat))) ?_
          simp only [Act.put, List.setIfInBounds_toArray, List.set_cons_zero, List.set_cons_succ]
          refine takeQ 2 19 ((.pointer (some ⟨ob, oo + j * 9, none⟩))) ?_
          simp only [Act.put, List.setIfInBounds_toArray, List.set_cons_zero, List.set_cons_succ]
          refine takeQ 3 20 ((.agg #[.int .i64 x.e, .int .i64 x.a, .int .i64 x.k, .int .i64 x.m, .string x.s, .int .i64 x.t, .bool x.add, .int .i64 x.fr, .int .i64 x.til])) ?_ (hy := by (intro _w hSw; have hq := HX.out _ hSw.1; have q0 := hq.c0; have q1 := hq.c1; have q2 := hq.c2; have q3 := hq.c3; have q4 := hq.c4; have q5 := hq.c5; have q6 := hq.c6; have q7 := hq.c7; have q8 := hq.c8; clear hSw; go_simp))
          simp only [Act.put, List.setIfInBounds_toArray, List.set_cons_zero, List.set_cons_succ]
          refine takeQ 4 21 ((.agg #[.int .i64 d.e, .int .i64 d.a, .int .i64 d.k, .int .i64 d.m, .string d.s, .int .i64 d.t, .bool d.add, .int .i64 d.fr, .int .i64 d.til])) ?_ (hy := by (intro _w hSw; have hq := HD.out _ hSw.1; have q0 := hq.c0; have q1 := hq.c1; have q2 := hq.c2; have q3 := hq.c3; have q4 := hq.c4; have q5 := hq.c5; have q6 := hq.c6; have q7 := hq.c7; have q8 := hq.c8; clear hSw; go_simp))
          simp only [Act.put, List.setIfInBounds_toArray, List.set_cons_zero, List.set_cons_succ]
          refine callV 5 rfl (by kernel_rfl) (by rfl) (fun K hK => ?_)
          go_simp
          refine (alike_any x d _).mono ?_
          rintro e wf ⟨rfl, hbf⟩
          rw [HAL.out]
          refine hK.out _ _ ⟨hHeld.1.trans (hbf.mono hHeld.1.size), hHeld.2.next hbf⟩ (fun hHeld2 => ?_)
          clear hbf
          clear hK K hHeld
          have hHeld := hHeld2
          clear hHeld2
          try simp only [Act.put, List.setIfInBounds_toArray, List.set_cons_zero, List.set_cons_succ]
          refine takeQ 6 23 ((.bool true)) ?_
          simp only [Act.put, List.setIfInBounds_toArray, List.set_cons_zero, List.set_cons_succ]
          refine takeQ 7 24 ((.slice (some ⟨ob, oo, none⟩) l.length c)) ?_
          simp only [Act.put, List.setIfInBounds_toArray, List.set_cons_zero, List.set_cons_succ]
          refine takeQ 8 25 ((.int .i64 (j : Nat))) ?_
          simp only [Act.put, List.setIfInBounds_toArray, List.set_cons_zero, List.set_cons_succ]
          refine takeQ 9 26 ((.pointer (some ⟨ob, oo + j * 9, none⟩))) ?_
          simp only [Act.put, List.setIfInBounds_toArray, List.set_cons_zero, List.set_cons_succ]
          refine takeQ 10 27 ((.pointer (some ⟨ob, oo + j * 9 + 5, none⟩))) ?_
          simp only [Act.put, List.setIfInBounds_toArray, List.set_cons_zero, List.set_cons_succ]
          refine takeQ 11 28 ((.int .i64 x.t)) ?_ (hy := by (intro _w hSw; have q0 := (HX.out _ hSw.1).c5; clear hSw; go_simp))
          simp only [Act.put, List.setIfInBounds_toArray, List.set_cons_zero, List.set_cons_succ]
          refine takeQ 12 29 ((.int .i64 t)) ?_
          simp only [Act.put, List.setIfInBounds_toArray, List.set_cons_zero, List.set_cons_succ]
          refine takeQ 13 30 ((.bool false)) ?_
          simp only [Act.put, List.setIfInBounds_toArray, List.set_cons_zero, List.set_cons_succ]
          refine takeQ 14 31 ((.bool false)) ?_
          simp only [Act.put, List.setIfInBounds_toArray, List.set_cons_zero, List.set_cons_succ]
          refine takeQ 15 32 ((.bool false)) ?_
          simp only [Act.put, List.setIfInBounds_toArray, List.set_cons_zero, List.set_cons_succ]
          refine skipQ 16 33 ?_
          simp only [Act.put, List.setIfInBounds_toArray, List.set_cons_zero, List.set_cons_succ]
          refine skipQ 17 34 ?_
          simp only [Act.put, List.setIfInBounds_toArray, List.set_cons_zero, List.set_cons_succ]
          refine skipQ 18 35 ?_
          simp only [Act.put, List.setIfInBounds_toArray, List.set_cons_zero, List.set_cons_succ]
          refine skipQ 19 36 ?_
          simp only [Act.put, List.setIfInBounds_toArray, List.set_cons_zero, List.set_cons_succ]
          refine skipQ 20 37 ?_
          simp only [Act.put, List.setIfInBounds_toArray, List.set_cons_zero, List.set_cons_succ]
          refine skipQ 21 38 ?_
          simp only [Act.put, List.setIfInBounds_toArray, List.set_cons_zero, List.set_cons_succ]
          refine skipQ 22 39 ?_
          simp only [Act.put, List.setIfInBounds_toArray, List.set_cons_zero, List.set_cons_succ]
          refine takeQ 23 40 ((.bool false)) ?_
          simp only [Act.put, List.setIfInBounds_toArray, List.set_cons_zero, List.set_cons_succ]
          refine wpAnyH_done (by kernel_rfl) ?_ _
          have HBR := Lib.hid hHeld.1
          have HOR := Lib.hid hHeld.2
          clear hHeld
          go_wp2
          go_roundg gk
          case measure => omega
          case rel => exact ⟨j + 1, m, co, Ao, M, by go_num, rfl, by omega, HE.out, HML.out, HOR.out, HBR.out⟩
end Go.Proofs.YthdjlaombbeagaaGreat
