import Derived.Test.YtlmihlepaoifiaaJAValR
import Derived.Test.YtlmihlepaoifiaaJAOne
/-
  MADE: what is gathered fact by fact is what the document looks up by attribute.
-/
namespace Go.Proofs.Ytlmihlepaoifiaa
open Go.RowKit

def nmL (l : List Vl) : ByteArray := l.foldl (fun s v => if v.1 = 7 then v.2.2 else s) ⟨#[]⟩
def tyL (l : List Vl) : Int := l.foldl (fun _ v => numA v.1 v.2.1 7) 0
def unL (l : List Vl) : Int := l.foldl (fun x v => max x (numA v.1 v.2.1 2)) 0
/-- what the document looks up -/
def attL (e : Int) (fs : List FactP) : Att := ⟨e, nmL (valsL e 1 fs), tyL (valsL e 2 fs), yesL (valsL e 3 fs), unL (valsL e 4 fs), yesL (valsL e 5 fs), yesL (valsL e 6 fs)⟩
theorem valsL_snoc (e a : Int) (l : List FactP) (f : FactP) : valsL e a (l ++ [f]) = valsL e a l ++ (if isEA e a f then [vlF f] else []) := by
  unfold valsL
  rw [List.filter_append, List.map_append]
  congr 1
  cases hb : isEA e a f <;> simp [hb]
theorem nmL_snoc (l : List Vl) (v : Vl) : nmL (l ++ [v]) = if v.1 = 7 then v.2.2 else nmL l := by unfold nmL; rw [List.foldl_append]; rfl
theorem tyL_snoc (l : List Vl) (v : Vl) : tyL (l ++ [v]) = numA v.1 v.2.1 7 := by unfold tyL; rw [List.foldl_append]; rfl
theorem unL_snoc (l : List Vl) (v : Vl) : unL (l ++ [v]) = max (unL l) (numA v.1 v.2.1 2) := by unfold unL; rw [List.foldl_append]; rfl
theorem yesL_snoc (l : List Vl) (v : Vl) : yesL (l ++ [v]) = (yesL l || trueA v.1 v.2.1) := by unfold yesL; rw [List.any_append]; simp
theorem vals_at {e a : Int} {l : List FactP} {f : FactP} (he : f.e = e) (ha : f.a = a) : valsL e a (l ++ [f]) = valsL e a l ++ [vlF f] := by rw [valsL_snoc]; simp [isEA, he, ha]
theorem vals_off {e a : Int} {l : List FactP} {f : FactP} (ha : ¬ f.a = a) : valsL e a (l ++ [f]) = valsL e a l := by rw [valsL_snoc]; simp [isEA, ha]
theorem foldM_snoc (e : Int) (l : List FactP) (f : FactP) : foldM e (l ++ [f]) = stepM (foldM e l) f := by unfold foldM; rw [List.foldl_append]; rfl
/-- what is gathered fact by fact -/
theorem foldM_is (e : Int) : ∀ (n : Nat) (l : List FactP), l.length = n → (∀ f ∈ l, f.e = e) → foldM e l = ⟨attL e l, (valsL e 1 l).length, (valsL e 2 l).length⟩ := by
  intro n
  induction n with
  | zero =>
    intro l hn _
    obtain rfl := List.length_eq_zero_iff.1 hn
    rfl
  | succ n ih =>
    intro l hn hl
    rcases List.eq_nil_or_concat l with rfl | ⟨l', f, rfl⟩
    · cases hn
    · rw [List.concat_eq_append] at hn hl ⊢
      have hl' := ih l' (by simpa using hn) (fun g hg => hl g (List.mem_append_left _ hg))
      have he : f.e = e := hl f (by simp)
      rw [foldM_snoc, hl']
      unfold stepM attL
      by_cases h1 : f.a = 1
      · have g : ∀ k : Int, k ≠ 1 → ¬ f.a = k := fun k hk h => hk (by rw [← h, h1])
        rw [if_pos h1, vals_at he h1, vals_off (g 2 (by decide)), vals_off (g 3 (by decide)), vals_off (g 4 (by decide)), vals_off (g 5 (by decide)), vals_off (g 6 (by decide)), nmL_snoc, List.length_append]
        by_cases h7 : f.k = 7
        · rw [if_pos h7, if_pos (show (vlF f).1 = 7 from h7)]; rfl
        · rw [if_neg h7, if_neg (show ¬ (vlF f).1 = 7 from h7)]; rfl
      · rw [if_neg h1, vals_off h1]
        by_cases h2 : f.a = 2
        · have g : ∀ k : Int, k ≠ 2 → ¬ f.a = k := fun k hk h => hk (by rw [← h, h2])
          rw [if_pos h2, vals_at he h2, vals_off (g 3 (by decide)), vals_off (g 4 (by decide)), vals_off (g 5 (by decide)), vals_off (g 6 (by decide)), tyL_snoc, List.length_append]
          rfl
        · rw [if_neg h2, vals_off h2]
          by_cases h3 : f.a = 3
          · have g : ∀ k : Int, k ≠ 3 → ¬ f.a = k := fun k hk h => hk (by rw [← h, h3])
            rw [if_pos h3, vals_at he h3, vals_off (g 4 (by decide)), vals_off (g 5 (by decide)), vals_off (g 6 (by decide)), yesL_snoc]
            rfl
          · rw [if_neg h3, vals_off h3]
            by_cases h4 : f.a = 4
            · have g : ∀ k : Int, k ≠ 4 → ¬ f.a = k := fun k hk h => hk (by rw [← h, h4])
              rw [if_pos h4, vals_at he h4, vals_off (g 5 (by decide)), vals_off (g 6 (by decide)), unL_snoc]
              rfl
            · rw [if_neg h4, vals_off h4]
              by_cases h5 : f.a = 5
              · have g : ∀ k : Int, k ≠ 5 → ¬ f.a = k := fun k hk h => hk (by rw [← h, h5])
                rw [if_pos h5, vals_at he h5, vals_off (g 6 (by decide)), yesL_snoc]
                rfl
              · rw [if_neg h5, vals_off h5]
                by_cases h6 : f.a = 6
                · rw [if_pos h6, vals_at he h6, yesL_snoc]
                  rfl
                · rw [if_neg h6, vals_off h6]
/-- the document's word for it: which facts make an attribute -/
def docL (e : Int) (fs : List FactP) : Option Att :=
  if e < 10 ∨ (valsL e 1 fs).length ≠ 1 ∨ (valsL e 2 fs).length ≠ 1 ∨ (valsL e 1 fs).head?.map (·.1) ≠ some 7 ∨ (valsL e 2 fs).head?.map (fun v => numA v.1 v.2.1 7) = some 0 then none else some (attL e fs)
theorem made_doc (e : Int) (l : List FactP) (hl : ∀ f ∈ l, f.e = e) (hw : ∀ f ∈ l, f.k = 7 → f.s ≠ ⟨#[]⟩) : madeL (foldM e l) = docL e l := by
  rw [foldM_is e l.length l rfl hl]
  unfold madeL docL okM
  by_cases h0 : e < 10
  · simp [attL, h0]
  by_cases h1 : (valsL e 1 l).length = 1
  · by_cases h2 : (valsL e 2 l).length = 1
    · obtain ⟨v, hv⟩ := List.length_eq_one_iff.1 h1
      obtain ⟨u, hu⟩ := List.length_eq_one_iff.1 h2
      have hvm : v ∈ valsL e 1 l := by rw [hv]; simp
      obtain ⟨f, hf, rfl⟩ := List.mem_map.1 hvm
      have hs := hw f (List.mem_filter.1 hf).1
      simp only [attL, h0, hv, hu]
      by_cases h7 : f.k = 7
      · have := hs h7
        by_cases hz : numA u.1 u.2.1 7 = 0
        · simp [nmL, tyL, vlF, h7, hz]
        · simp [nmL, tyL, vlF, h7, hz, this]
      · simp [nmL, tyL, vlF, h7]
    · simp [attL, h2]
  · simp [attL, h1]
end Go.Proofs.Ytlmihlepaoifiaa

/-
  MADE: the attributes of rising facts, run by run, are the document's, first by first.
-/
namespace Go.Proofs.Ytlmihlepaoifiaa
open Go.RowKit

/-- facts cut into those of one entity each -/
inductive RunsE : List FactP → List (List FactP) → Prop
  | nil : RunsE [] []
  | cons {fs : List FactP} {n : Nat} {rs : List (List FactP)} : OneAt fs n → RunsE (fs.drop n) rs → RunsE fs (fs.take n :: rs)
/-- the attribute that one entity's facts make -/
def madeR (r : List FactP) : Option Att := match r with
  | [] => none
  | f :: _ => madeL (foldM f.e r)
/-- the document's: at each fact whose entity is not that of the fact ahead of it -/
def docFrom (all : List FactP) : Option Int → List FactP → List Att
  | _, [] => []
  | p, f :: r => (if p = some f.e then [] else (docL f.e all).toList) ++ docFrom all (some f.e) r
theorem docFrom_same (all : List FactP) (e : Int) : ∀ (l m : List FactP), (∀ g ∈ l, g.e = e) → docFrom all (some e) (l ++ m) = docFrom all (some e) m
  | [], _, _ => rfl
  | g :: l, m, h => by
    have hg := h g (List.mem_cons_self ..)
    show (if some e = some g.e then [] else (docL g.e all).toList) ++ docFrom all (some g.e) (l ++ m) = _
    rw [if_pos (by rw [hg]), hg, List.nil_append]
    exact docFrom_same all e l m (fun x hx => h x (List.mem_cons_of_mem _ hx))
theorem valsL_append (e a : Int) (l m : List FactP) : valsL e a (l ++ m) = valsL e a l ++ valsL e a m := by unfold valsL; rw [List.filter_append, List.map_append]
theorem valsL_none {e a : Int} {l : List FactP} (h : ∀ f ∈ l, f.e ≠ e) : valsL e a l = [] := by
  unfold valsL
  rw [List.filter_eq_nil_iff.2 (fun f hf => by simp [isEA, h f hf])]
  rfl
theorem docL_run {e : Int} {pre run suf : List FactP} (h1 : ∀ f ∈ pre, f.e ≠ e) (h2 : ∀ f ∈ suf, f.e ≠ e) : docL e (pre ++ (run ++ suf)) = docL e run := by
  have hv : ∀ a, valsL e a (pre ++ (run ++ suf)) = valsL e a run := fun a => by
    rw [valsL_append, valsL_append, valsL_none h1, valsL_none h2, List.nil_append, List.append_nil]
  unfold docL attL
  simp only [hv]
theorem docFrom_runs : ∀ (rs : List (List FactP)) (pre rest : List FactP) (p : Option Int), RunsE rest rs → (∀ x ∈ pre, ∀ y ∈ rest, x.e < y.e) → rest.Pairwise (fun x y => x.e ≤ y.e) → (∀ y ∈ rest, p ≠ some y.e) → (∀ f ∈ rest, f.k = 7 → f.s ≠ ⟨#[]⟩) → docFrom (pre ++ rest) p rest = rs.filterMap madeR
  | [], pre, rest, p, hr, _, _, _, _ => by
    cases hr
    rfl
  | r :: rs, pre, rest, p, hr, hp, hs, hn, hw => by
    cases hr with
    | @cons _ n _ h1 hr' =>
    obtain ⟨f, l, rfl⟩ : ∃ f l, rest = f :: l := by
      cases rest with
      | nil => have := h1.pos; have := h1.le; simp at this; omega
      | cons f l => exact ⟨f, l, rfl⟩
    obtain ⟨k, rfl⟩ : ∃ k, n = k + 1 := ⟨n - 1, by have := h1.pos; omega⟩
    have hrun : ∀ g ∈ (f :: l).take (k + 1), g.e = f.e := fun g hg => by
      obtain ⟨i, hi, hgi⟩ := List.mem_iff_getElem.1 hg
      have hik : i < k + 1 := by rw [List.length_take] at hi; omega
      refine h1.same i g f hik ?_ rfl
      rw [← hgi, List.getElem_take]
      exact List.getElem?_eq_getElem _
    have hsplit : f :: l = (f :: l).take (k + 1) ++ (f :: l).drop (k + 1) := (List.take_append_drop _ _).symm
    have hs2 : (f :: l).Pairwise (fun x y => x.e ≤ y.e) := hs
    have hsuf : ∀ y ∈ (f :: l).drop (k + 1), f.e < y.e := fun y hy => by
      obtain ⟨i, hi, hyi⟩ := List.mem_iff_getElem.1 hy
      rw [List.length_drop] at hi
      rw [List.getElem_drop] at hyi
      have hlt : k + 1 < (f :: l).length := by omega
      have hne := h1.next _ f (List.getElem?_eq_getElem hlt) rfl
      have h01 := List.pairwise_iff_getElem.1 hs2 0 (k + 1) (by simp) hlt (by omega)
      have h0 : (f :: l)[0].e = f.e := rfl
      have h1y : (f :: l)[k + 1].e ≤ y.e := by
        by_cases hi0 : i = 0
        · subst hi0
          rw [← hyi]
          exact Int.le_refl _
        · have := List.pairwise_iff_getElem.1 hs2 (k + 1) (k + 1 + i) hlt (by omega) (by omega)
          rw [← hyi]
          exact this
      omega
    have htk : (f :: l).take (k + 1) = f :: l.take k := rfl
    have hdr : (f :: l).drop (k + 1) = l.drop k := rfl
    have ih := docFrom_runs rs (pre ++ (f :: l).take (k + 1)) ((f :: l).drop (k + 1)) (some f.e) hr' (fun x hx y hy => by
      rcases List.mem_append.1 hx with hx | hx
      · exact hp x hx y (List.mem_of_mem_drop hy)
      · rw [hrun x hx]; exact hsuf y hy) (hs2.drop) (fun y hy h => by have := hsuf y hy; injection h with h; omega) (fun g hg => hw g (List.mem_of_mem_drop hg))
    rw [List.append_assoc, ← hsplit] at ih
    have hd : docL f.e (pre ++ (f :: l)) = docL f.e ((f :: l).take (k + 1)) := by
      have := docL_run (e := f.e) (pre := pre) (run := (f :: l).take (k + 1)) (suf := (f :: l).drop (k + 1)) (fun x hx h => by have := hp x hx f (List.mem_cons_self ..); omega) (fun y hy h => by have := hsuf y hy; omega)
      rwa [← hsplit] at this
    have hm : madeR ((f :: l).take (k + 1)) = docL f.e (pre ++ (f :: l)) := by
      rw [hd]
      exact made_doc f.e _ hrun (fun g hg => hw g (List.mem_of_mem_take hg))
    have hdoc : docFrom (pre ++ (f :: l)) p (f :: l) = (docL f.e (pre ++ (f :: l))).toList ++ docFrom (pre ++ (f :: l)) (some f.e) l := by
      show (if p = some f.e then [] else (docL f.e (pre ++ (f :: l))).toList) ++ docFrom (pre ++ (f :: l)) (some f.e) l = _
      rw [if_neg (hn f (List.mem_cons_self ..))]
    have hl2 : docFrom (pre ++ (f :: l)) (some f.e) l = docFrom (pre ++ (f :: l)) (some f.e) (l.drop k) := by
      have := docFrom_same (pre ++ (f :: l)) f.e (l.take k) (l.drop k) (fun g hg => hrun g (by rw [htk]; exact List.mem_cons_of_mem _ hg))
      rwa [List.take_append_drop] at this
    rw [hdoc, hl2, ← hdr, ih, List.filterMap_cons, hm]
    cases docL f.e (pre ++ (f :: l)) <;> rfl
/-- rising facts' attributes -/
theorem docFrom_is {fs : List FactP} {rs : List (List FactP)} (hr : RunsE fs rs) (hs : fs.Pairwise (fun x y => x.e ≤ y.e)) (hw : ∀ f ∈ fs, f.k = 7 → f.s ≠ ⟨#[]⟩) : docFrom fs none fs = rs.filterMap madeR :=
  docFrom_runs rs [] fs none hr (fun x hx => by cases hx) hs (fun y _ h => by cases h) hw
end Go.Proofs.Ytlmihlepaoifiaa

/-
  FACTS THAT MAY BE: their entities do not fall; a word is not empty.
-/
namespace Go.Proofs.Ytlmihlepaoifiaa
open VOrd (lexO)

theorem may_e {fs : List FactP} (h : mayFs fs = true) : fs.Pairwise (fun x y => x.e ≤ y.e) := by
  obtain ⟨_, h2⟩ := of_decide_eq_true h
  refine List.Pairwise.imp ?_ h2
  intro x y hxy
  rcases Int.lt_or_le y.e x.e with hlt | hle
  · exfalso
    have h1 : ordI x.e y.e = 1 := by unfold ordI; rw [if_neg (by omega), if_pos hlt]
    have h3 : ordTr (triF x) (triF y) = 1 := by
      show (if ordI x.e y.e = 0 then _ else ordI x.e y.e) = 1
      rw [h1]
      rfl
    rw [h3] at hxy
    omega
  · exact hle
theorem may_w {fs : List FactP} (h : mayFs fs = true) : ∀ f ∈ fs, f.k = 7 → f.s ≠ ⟨#[]⟩ := by
  intro f hf h7 hs
  obtain ⟨h1, _⟩ := of_decide_eq_true h
  have hm := h1 f hf
  simp only [mayF, mayD, datF, Bool.and_eq_true] at hm
  have hb : mayB f.k f.m f.s = true := hm.1.1.1.1.2
  rw [h7, hs] at hb
  have hw : wordB (⟨#[]⟩ : ByteArray) = false := by unfold wordB; rfl
  unfold mayB at hb
  rw [hw] at hb
  simp at hb
/-- the attributes of facts that may be -/
theorem docFrom_may {fs : List FactP} {rs : List (List FactP)} (h : mayFs fs = true) (hr : RunsE fs rs) : docFrom fs none fs = rs.filterMap madeR := docFrom_is hr (may_e h) (may_w h)
end Go.Proofs.Ytlmihlepaoifiaa
