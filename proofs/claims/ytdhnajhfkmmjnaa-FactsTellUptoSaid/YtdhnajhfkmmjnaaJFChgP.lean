import Derived.Test.YtdhnajhfkmmjnaaJFMayP
/-
  PLAIN FACTS: what stands in a run; at each instant a fact holds just if the last of its datoms that names it is Add.
-/
namespace Go.Proofs.Ytdhnajhfkmmjnaa
open VOrd (IsOrd lexO lex_is ordI_is ordT_is ordT)

/-- all of one key stand in one run, where runs rise -/
theorem run_has {α κ : Type} [DecidableEq κ] (key : α → κ) {R : κ → κ → Prop} (irr : ∀ a, ¬ R a a) {l : List α} (hp : (runsL key l).Pairwise fun r r' => ∀ x ∈ r, ∀ y ∈ r', R (key x) (key y)) {r : List α} (hr : r ∈ runsL key l) {x : α} (hx : x ∈ r) {y : α} (hy : y ∈ l) (e : key y = key x) : y ∈ r := by
  rw [← runsL_join key _ l (Nat.le_refl _)] at hy
  obtain ⟨q, hq, hyq⟩ := List.mem_flatten.1 hy
  obtain ⟨i, hi, rfl⟩ := List.mem_iff_getElem.1 hr
  obtain ⟨j, hj, rfl⟩ := List.mem_iff_getElem.1 hq
  rcases Nat.lt_trichotomy i j with h | h | h
  · have := List.pairwise_iff_getElem.1 hp i j hi hj h x hx y hyq
    rw [e] at this
    exact absurd this (irr _)
  · subst h; exact hyq
  · have := List.pairwise_iff_getElem.1 hp j i hj hi h y hyq x hx
    rw [e] at this
    exact absurd this (irr _)
theorem run_all {α κ : Type} [DecidableEq κ] (key : α → κ) {l : List α} {r : List α} (hr : r ∈ runsL key l) {x y : α} (hx : x ∈ r) (hy : y ∈ r) : key x = key y := by
  obtain ⟨z, r', rfl, h⟩ := runsL_each key _ l (Nat.le_refl _) r hr
  rw [h x hx, h y hy]
theorem run_in_mem {α κ : Type} [DecidableEq κ] (key : α → κ) {l r : List α} (h : r ∈ runsL key l) {d : α} (hd : d ∈ r) : d ∈ l := by
  rw [← runsL_join key _ l (Nat.le_refl _)]
  exact List.mem_flatten.2 ⟨r, h, hd⟩
/-- the run of a datom: all of its triple, rising in time -/
theorem run_of {l : List Dat} {d : Dat} (hd : d ∈ l) : ∃ r, r ∈ runsL triD (sortsD 1 l) ∧ (∀ x, x ∈ r ↔ x ∈ l ∧ triD x = triD d) ∧ r.Pairwise (fun x y => x.t = y.t ∨ x.t < y.t) := by
  have hds := ((sorts_ups l).2 d).2 hd
  rw [← runsL_join triD _ (sortsD 1 l) (Nat.le_refl _)] at hds
  obtain ⟨r, hr, hdr⟩ := List.mem_flatten.1 hds
  refine ⟨r, hr, fun x => ⟨fun hx => ⟨((sorts_ups l).2 x).1 (run_in_mem triD hr hx), run_all triD hr hx hdr⟩, fun ⟨h1, h2⟩ => ?_⟩, ?_⟩
  · exact run_has triD (R := fun a b => ordTr a b < 0) tri_irr (runs_rise l) hr hdr (((sorts_ups l).2 x).2 h1) h2
  · have hsub : r.Sublist (sortsD 1 l) := by
      have := List.sublist_flatten_of_mem hr
      rwa [runsL_join triD _ (sortsD 1 l) (Nat.le_refl _)] at this
    have hu := (sorts_ups l).1.sublist hsub
    refine (List.pairwise_iff_getElem.2 fun i j hi hj hij => ?_)
    have h := List.pairwise_iff_getElem.1 hu i j hi hj hij
    have e := run_all triD hr (List.getElem_mem hi) (List.getElem_mem hj)
    rcases ord1_tri h with ⟨_, h⟩ | h
    · have h' : (if ordI r[i].t r[j].t = 0 then _ else ordI r[i].t r[j].t) < 0 := h
      unfold ordI at h'
      by_cases h1 : r[i].t < r[j].t
      · exact .inr h1
      · by_cases h2 : r[j].t < r[i].t
        · rw [if_neg h1, if_pos h2] at h'
          simp at h'
        · exact .inl (by omega)
    · rw [e] at h
      exact absurd h (tri_irr _)
theorem times_rise {r : List Dat} (h : r.Pairwise fun x y => x.t = y.t ∨ x.t < y.t) : (timesL r).Pairwise fun r r' => ∀ x ∈ r, ∀ y ∈ r', x.t < y.t :=
  runsL_rise (fun d : Dat => d.t) (R := fun a b : Int => a < b) (fun _ _ _ h h' => Int.lt_trans h h') _ _ (Nat.le_refl _) h
/-- what holds of a datom's fact, by the datoms that are like it -/
theorem spans_last {l : List Dat} {fs : List FactP} (hg : Goes (sortsD 1 l)) (h : FoldsTo (runsL triD (sortsD 1 l)) fs) (hm : notMay l = false) {d : Dat} (hd : d ∈ l) (t : Int) :
    Inn (spansOf fs (triD d)) t ↔ ∃ x ∈ l, triD x = triD d ∧ x.add = true ∧ Names x t ∧ ∀ y ∈ l, triD y = triD d → Names y t → y.add = false → y.t < x.t := by
  have hrise : RiseF fs := (of_decide_eq_true (foldsTo_may hm h)).2
  obtain ⟨r, hr, hrm, hrt⟩ := run_of hd
  obtain ⟨ls, h1, h2, rfl⟩ := h
  obtain ⟨i, hi, hri⟩ := List.mem_iff_getElem.1 hr
  have hq : (runsL triD (sortsD 1 l))[i]? = some r := by rw [List.getElem?_eq_getElem hi, hri]
  obtain ⟨q, hql⟩ : ∃ q, ls[i]? = some q := ⟨_, List.getElem?_eq_getElem (by omega)⟩
  have hheld := h2 i r q hq hql
  have hrne := run_ne triD hr
  obtain ⟨d0, r0, rfl⟩ : ∃ d0 r0, r = d0 :: r0 := List.exists_cons_of_ne_nil hrne
  have hd0 : triD d0 = triD d := ((hrm d0).1 (by simp)).2
  have hsp : spansOf (factsOf (runsL triD (sortsD 1 l)) ls) (triD d) = q := by
    by_cases hqe : q = []
    · subst hqe
      refine spansOf_none fun f hf e => ?_
      obtain ⟨j, d', r', m, g1, g2, g3, rfl⟩ := mem_factsOf _ _ f hf
      have hmem : d' ∈ d0 :: r0 := run_has triD (R := fun a b => ordTr a b < 0) tri_irr (runs_rise l) hr (x := d0) (by simp) (run_in_mem triD (List.mem_of_getElem? g1) (by simp)) (show triD d' = triD d0 by rw [hd0]; exact e)
      have hj : j < (runsL triD (sortsD 1 l)).length := (List.getElem?_eq_some_iff.1 g1).1
      have hj2 := (List.getElem?_eq_some_iff.1 g1).2
      have hij : i = j := by
        rcases Nat.lt_trichotomy i j with h | h | h
        · have := List.pairwise_iff_getElem.1 (runs_rise l) i j hi hj h d' (by rw [hri]; exact hmem) d' (by rw [hj2]; simp)
          exact absurd this (tri_irr _)
        · exact h
        · have := List.pairwise_iff_getElem.1 (runs_rise l) j i hj hi h d' (by rw [hj2]; simp) d' (by rw [hri]; exact hmem)
          exact absurd this (tri_irr _)
      subst hij
      rw [hql] at g2
      cases g2
      exact g3 rfl
    · have hf := factsOf_mem _ _ i d0 r0 q hq hql hqe
      have := spansOf_mem hrise hf
      rw [show triF (factD d0 q) = triD d from hd0] at this
      exact this
  rw [hsp, hheld.2 t, inT_last (timesL (d0 :: r0)) t (times_rise hrt) (fun o ho => hg _ hr o ho) (fun o ho x hx y hy => run_all (fun d : Dat => d.t) ho hx hy)]
  rw [show (timesL (d0 :: r0)).flatten = d0 :: r0 from runsL_join _ _ _ (Nat.le_refl _)]
  constructor
  · rintro ⟨x, hx, ha, hn, hy⟩
    obtain ⟨g1, g2⟩ := (hrm x).1 hx
    exact ⟨x, g1, g2, ha, hn, fun y hy1 hy2 hy3 hy4 => hy y ((hrm y).2 ⟨hy1, hy2⟩) hy3 hy4⟩
  · rintro ⟨x, g1, g2, ha, hn, hy⟩
    exact ⟨x, (hrm x).2 ⟨g1, g2⟩, ha, hn, fun y hy1 hy3 hy4 => hy y ((hrm y).1 hy1).1 ((hrm y).1 hy1).2 hy3 hy4⟩
/-- of one transaction no datom adds an instant of a triple that another one cuts -/
theorem goes_apart {l : List Dat} (hg : Goes (sortsD 1 l)) {x y : Dat} (hx : x ∈ l) (hy : y ∈ l) (e : triD x = triD y) (et : x.t = y.t) {t : Int} (hnx : Names x t) (hny : Names y t) : x.add = y.add := by
  obtain ⟨r, hr, hrm, hrt⟩ := run_of hx
  have hxr := (hrm x).2 ⟨hx, rfl⟩
  have hyr := (hrm y).2 ⟨hy, e.symm⟩
  have hxf : x ∈ (timesL r).flatten := by rw [show (timesL r).flatten = r from runsL_join _ _ _ (Nat.le_refl _)]; exact hxr
  obtain ⟨o, ho, hxo⟩ := List.mem_flatten.1 hxf
  have hyo : y ∈ o := run_has (fun d : Dat => d.t) (R := fun a b : Int => a < b) (fun a h => Int.lt_irrefl a h) (times_rise hrt) ho hxo hyr et.symm
  have hc := hg r hr o ho
  cases h1 : x.add <;> cases h2 : y.add
  · rfl
  · exact absurd ⟨t, inn_adds.2 ⟨y, hyo, h2, hny⟩, inn_cuts.2 ⟨x, hxo, h1, hnx⟩⟩ hc
  · exact absurd ⟨t, inn_adds.2 ⟨x, hxo, h1, hnx⟩, inn_cuts.2 ⟨y, hyo, h2, hny⟩⟩ hc
  · rfl
/-- what the law's loop knows of some of the datoms: the greatest transaction that names the instant, and what it says -/
def LastIs (p : List Dat) (x : Int × Int × Int × Int × ByteArray) (t : Int) (last : Int) (is : Bool) : Prop :=
  (last = 0 ∧ is = false ∧ ∀ y ∈ p, ¬ (triD y = x ∧ Names y t)) ∨ (∃ y ∈ p, triD y = x ∧ Names y t ∧ last = y.t ∧ is = y.add) ∧ ∀ y ∈ p, triD y = x → Names y t → y.t ≤ last
theorem lastIs_nil (x : Int × Int × Int × Int × ByteArray) (t : Int) : LastIs [] x t 0 false := .inl ⟨rfl, rfl, fun _ h => by cases h⟩
theorem lastIs_yes {p : List Dat} {x : Int × Int × Int × Int × ByteArray} {t last : Int} {is : Bool} (h : LastIs p x t last is) {y : Dat} (hy : triD y = x) (hn : Names y t) (hl : last < y.t) : LastIs (p ++ [y]) x t y.t y.add := by
  refine .inr ⟨⟨y, by simp, hy, hn, rfl, rfl⟩, fun z hz hz1 hz2 => ?_⟩
  rcases List.mem_append.1 hz with hz | hz
  · rcases h with ⟨_, _, h⟩ | ⟨_, h⟩
    · exact absurd ⟨hz1, hz2⟩ (h z hz)
    · have := h z hz hz1 hz2
      omega
  · rw [List.mem_singleton.1 hz]; exact Int.le_refl _
theorem lastIs_no {p : List Dat} {x : Int × Int × Int × Int × ByteArray} {t last : Int} {is : Bool} (h : LastIs p x t last is) {y : Dat} (h1 : 1 ≤ y.t) (hy : ¬ (triD y = x ∧ last < y.t ∧ Names y t)) : LastIs (p ++ [y]) x t last is := by
  rcases h with ⟨rfl, rfl, h⟩ | ⟨⟨z, hz, h2, h3, rfl, rfl⟩, h⟩
  · refine .inl ⟨rfl, rfl, fun z hz hh => ?_⟩
    rcases List.mem_append.1 hz with hz | hz
    · exact h z hz hh
    · rw [List.mem_singleton.1 hz] at hh
      exact hy ⟨hh.1, by omega, hh.2⟩
  · refine .inr ⟨⟨z, by simp [hz], h2, h3, rfl, rfl⟩, fun u hu hu1 hu2 => ?_⟩
    rcases List.mem_append.1 hu with hu | hu
    · exact h u hu hu1 hu2
    · rw [List.mem_singleton.1 hu] at hu1 hu2 ⊢
      by_cases hlt : z.t < y.t
      · exact absurd ⟨hu1, hlt, hu2⟩ hy
      · omega
theorem lastIs_in {l : List Dat} {fs : List FactP} (hg : Goes (sortsD 1 l)) (h : FoldsTo (runsL triD (sortsD 1 l)) fs) (hm : notMay l = false) {d : Dat} (hd : d ∈ l) {t last : Int} {is : Bool} (hl : LastIs l (triD d) t last is) : innB (spansOf fs (triD d)) t = is := by
  have hs := spans_last hg h hm hd t
  rcases hl with ⟨rfl, rfl, hn⟩ | ⟨⟨x, hx, h2, h3, rfl, rfl⟩, hle⟩
  · exact decide_eq_false fun hi => by
      obtain ⟨x, hx, e, _, hnm, _⟩ := hs.1 hi
      exact hn x hx ⟨e, hnm⟩
  · cases ha : x.add with
    | true =>
      refine decide_eq_true (hs.2 ⟨x, hx, h2, ha, h3, fun y hy e hny hya => ?_⟩)
      have h4 := hle y hy e hny
      have h5 : y.t ≠ x.t := fun et => by
        have := goes_apart hg hy hx (e.trans h2.symm) et hny h3
        rw [ha, hya] at this
        cases this
      omega
    | false =>
      refine decide_eq_false fun hi => ?_
      obtain ⟨y, hy, e, hya, hny, hyy⟩ := hs.1 hi
      have h4 := hle y hy e hny
      have h5 := hyy x hx h2 h3 ha
      omega
end Go.Proofs.Ytdhnajhfkmmjnaa

/-
  PLAIN FACTS: what two lists of facts tell of each triple; the changes from one to the other.
-/
namespace Go.Proofs.Ytdhnajhfkmmjnaa
open VOrd (IsOrd lexO lex_is ordI_is ordT_is ordT)

abbrev Tri := Int × Int × Int × Int × ByteArray
def leastT : List FactP → List FactP → Tri
  | [], [] => (0, 0, 0, 0, ⟨#[]⟩)
  | [], g :: _ => triF g
  | f :: _, [] => triF f
  | f :: _, g :: _ => if ordTr (triF f) (triF g) < 0 then triF f else triF g
def takeS (l : List FactP) (p : Tri) : List Sp := match l with
  | [] => []
  | f :: _ => if triF f = p then f.l else []
def takeR (l : List FactP) (p : Tri) : List FactP := match l with
  | [] => []
  | f :: r => if triF f = p then r else f :: r
/-- each triple of two lists, with its instants in both -/
def togL : Nat → List FactP → List FactP → List (Tri × List Sp × List Sp)
  | 0, _, _ => []
  | n + 1, a, b => if a = [] ∧ b = [] then [] else (leastT a b, takeS a (leastT a b), takeS b (leastT a b)) :: togL n (takeR a (leastT a b)) (takeR b (leastT a b))
theorem takeR_len (l : List FactP) (p : Tri) : (takeR l p).length ≤ l.length := by
  cases l with
  | nil => exact Nat.le_refl _
  | cons f r => unfold takeR; simp only; split <;> simp
theorem tog_less {a b : List FactP} (h : ¬ (a = [] ∧ b = [])) : (takeR a (leastT a b)).length + (takeR b (leastT a b)).length < a.length + b.length := by
  have h1 := takeR_len a (leastT a b)
  have h2 := takeR_len b (leastT a b)
  cases a with
  | nil =>
    cases b with
    | nil => exact absurd ⟨rfl, rfl⟩ h
    | cons g b => simp [leastT, takeR]
  | cons f a =>
    cases b with
    | nil => simp [leastT, takeR]
    | cons g b =>
      by_cases hlt : ordTr (triF f) (triF g) < 0
      · have e : takeR (f :: a) (leastT (f :: a) (g :: b)) = a := by simp [leastT, takeR, hlt]
        rw [e]
        simp only [List.length_cons] at h2 ⊢
        omega
      · have e : takeR (g :: b) (leastT (f :: a) (g :: b)) = b := by simp [leastT, takeR, hlt]
        rw [e]
        simp only [List.length_cons] at h1 ⊢
        omega
theorem togL_nil : ∀ n : Nat, togL n [] [] = []
  | 0 => rfl
  | n + 1 => by unfold togL; simp
/-- with as much fuel as there are facts, more makes no difference -/
theorem togL_fuel : ∀ (n m : Nat) (a b : List FactP), a.length + b.length ≤ n → a.length + b.length ≤ m → togL n a b = togL m a b
  | 0, m, a, b, h, _ => by
    have h1 : a = [] := List.length_eq_zero_iff.1 (by omega)
    have h2 : b = [] := List.length_eq_zero_iff.1 (by omega)
    subst h1 h2
    rw [togL_nil, togL_nil]
  | n + 1, 0, a, b, _, h => by
    have h1 : a = [] := List.length_eq_zero_iff.1 (by omega)
    have h2 : b = [] := List.length_eq_zero_iff.1 (by omega)
    subst h1 h2
    rw [togL_nil, togL_nil]
  | n + 1, m + 1, a, b, h, h' => by
    unfold togL
    by_cases hn : a = [] ∧ b = []
    · rw [if_pos hn, if_pos hn]
    · have := tog_less hn
      rw [if_neg hn, if_neg hn, togL_fuel n m _ _ (by omega) (by omega)]
def togA (a b : List FactP) : List (Tri × List Sp × List Sp) := togL (a.length + b.length) a b
theorem togA_step {a b : List FactP} (h : ¬ (a = [] ∧ b = [])) : togA a b = (leastT a b, takeS a (leastT a b), takeS b (leastT a b)) :: togA (takeR a (leastT a b)) (takeR b (leastT a b)) := by
  have hl := tog_less h
  unfold togA
  obtain ⟨n, hn⟩ : ∃ n, a.length + b.length = n + 1 := ⟨a.length + b.length - 1, by omega⟩
  rw [hn]
  show (if a = [] ∧ b = [] then [] else _) = _
  rw [if_neg h, togL_fuel n _ _ _ (by omega) (Nat.le_refl _)]
theorem togA_nil : togA [] [] = [] := rfl

/-- the instants of one set that another one has not -/
noncomputable def minusL (a b : List Sp) : List Sp := open Classical in if h : ∃ r, SetL r ∧ ∀ t, Inn r t ↔ Inn a t ∧ ¬ Inn b t then h.choose else []
theorem minusL_is {a b r : List Sp} (h : SetL r) (hr : ∀ t, Inn r t ↔ Inn a t ∧ ¬ Inn b t) : minusL a b = r := by
  have hx : ∃ r, SetL r ∧ ∀ t, Inn r t ↔ Inn a t ∧ ¬ Inn b t := ⟨r, h, hr⟩
  unfold minusL
  rw [dif_pos hx]
  exact set_ext hx.choose_spec.1 h fun t => (hx.choose_spec.2 t).trans (hr t).symm
def mkD (x : Tri) (t : Int) (add : Bool) (s : Sp) : Dat := ⟨x.1, x.2.1, x.2.2.1, x.2.2.2.1, x.2.2.2.2, t, add, s.1, s.2⟩
/-- the changes of one triple -/
noncomputable def chgT (t : Int) (q : Tri × List Sp × List Sp) : List Dat := (minusL q.2.2 q.2.1).map (mkD q.1 t true) ++ (minusL q.2.1 q.2.2).map (mkD q.1 t false)
noncomputable def chgL (a b : List FactP) (t : Int) : List Dat := (togA a b).flatMap (chgT t)
theorem chgL_nil (t : Int) : chgL [] [] t = [] := rfl
theorem chgL_step {a b : List FactP} (h : ¬ (a = [] ∧ b = [])) (t : Int) : chgL a b t = chgT t (leastT a b, takeS a (leastT a b), takeS b (leastT a b)) ++ chgL (takeR a (leastT a b)) (takeR b (leastT a b)) t := by
  unfold chgL
  rw [togA_step h, List.flatMap_cons]
theorem minusL_few {a b : List Sp} (hs : SetL (minusL a b)) (hr : ∀ t, Inn (minusL a b) t ↔ Inn a t ∧ ¬ Inn b t) : 2 * (minusL a b).length ≤ 2 * a.length + 2 * b.length := by
  have h1 : TurnsAt (endsP a ++ endsP b) (Inn (minusL a b)) :=
    (((turnsAt_inn a).more (fun x hx => List.mem_append_left _ hx)).and (((turnsAt_inn b).more (fun x hx => List.mem_append_right (endsP a) hx)).not)).iff hr
  have h2 := set_few2 hs h1
  rw [List.length_append, endsP_len, endsP_len] at h2
  exact h2
/-- all spans of facts -/
def sumS (l : List FactP) : Nat := (l.map fun f => f.l.length).sum
theorem sumS_take (l : List FactP) (p : Tri) : (takeS l p).length + sumS (takeR l p) ≤ sumS l := by
  cases l with
  | nil => exact Nat.le_refl _
  | cons f r =>
    unfold takeS takeR sumS
    simp only
    split
    · simp
    · simp
theorem sumS_mem {l : List FactP} {f : FactP} (h : f ∈ l) : f.l.length ≤ sumS l := by
  obtain ⟨a, b, rfl⟩ := List.append_of_mem h
  unfold sumS
  simp
  omega
theorem takeS_cases (l : List FactP) (p : Tri) : takeS l p = [] ∨ ∃ f ∈ l, takeS l p = f.l ∧ triF f = p := by
  cases l with
  | nil => exact .inl rfl
  | cons f r =>
    by_cases h : triF f = p
    · exact .inr ⟨f, by simp, by unfold takeS; simp [h], h⟩
    · exact .inl (by unfold takeS; simp [h])
theorem takeR_sub (l : List FactP) (p : Tri) : (takeR l p).Sublist l := by
  cases l with
  | nil => exact List.Sublist.refl _
  | cons f r =>
    unfold takeR
    simp only
    split
    · exact List.sublist_cons_self _ _
    · exact List.Sublist.refl _
end Go.Proofs.Ytdhnajhfkmmjnaa
