import Derived.Test.YtofmfainhflmmaaJZIdx
import Derived.Test.YtofmfainhflmmaaJZSortM
import Derived.Test.YtofmfainhflmmaaJZGath
/-
  PLAIN FACTS: where a column stands.
-/
namespace Go.Proofs.Ytofmfainhflmmaa
open Go.RowKit

theorem plI_has {x : ByteArray} {l : List ByteArray} (h : hasS x l = true) : plI x l = (plS x l : Int) ∧ plS x l < l.length := by
  unfold hasS at h
  rw [decide_eq_true_eq] at h
  exact ⟨by unfold plI; rw [if_pos h], h⟩
theorem plI_not {x : ByteArray} {l : List ByteArray} (h : hasS x l = false) : plI x l = -1 := by
  unfold hasS at h
  rw [decide_eq_false_iff_not] at h
  unfold plI; rw [if_neg h]
end Go.Proofs.Ytofmfainhflmmaa

/-
  PLAIN FACTS: the document's agree and the program's order of what both have.
-/
namespace Go.Proofs.Ytofmfainhflmmaa
open Go.RowKit
open VOrd (ordT)

/-- two rows say the same of the columns that both have -/
def agP (ca cb : List ByteArray) (x y : List Vl) : Prop := ∀ (i : Nat) (c : ByteArray) (u v : Vl), ca[i]? = some c → hasS c cb = true → x[i]? = some u → y[plS c cb]? = some v → ordT u v = 0
theorem plS_nodup {l : List ByteArray} (hn : l.Nodup) {k : Nat} {c : ByteArray} (h : l[k]? = some c) : plS c l = k := by
  obtain ⟨hk, he⟩ := List.getElem?_eq_some_iff.1 h
  subst he
  exact (plS_first hk).2 fun hm => not_nodup hk hm hn
theorem shA_zip (I l : List ByteArray) : shA I l = ((l.zipIdx).filter fun x => hasS x.1 I == true).map fun x => plS x.1 I := by
  unfold shA
  conv => lhs; rw [← List.zipIdx_map_fst 0 l]
  rw [List.filter_map, List.map_map]
  simp [Function.comp_def]
theorem ag_iff {ca cb : List ByteArray} {x y : List Vl} (hna : ca.Nodup) (hnb : cb.Nodup) (hx : x.length = ca.length) (hy : y.length = cb.length) :
    agO (shN true ca cb) (shA ca cb) y x = 0 ↔ agP ca cb x y := by
  unfold agO
  rw [ordR_is.zero]
  unfold pickV
  rw [shA_zip]
  unfold shN
  rw [List.map_map, List.map_map, List.map_inj_left]
  constructor
  · intro h i c u v h1 h2 h3 h4
    rw [VOrd.ordT_is.zero]
    have hk : plS c cb < cb.length := by unfold hasS at h2; rwa [decide_eq_true_eq] at h2
    have hi := plS_nodup hna h1
    have hm : (c, plS c cb) ∈ (cb.zipIdx).filter fun x => hasS x.1 ca == true := by
      rw [List.mem_filter]
      refine ⟨?_, ?_⟩
      · rw [List.mk_mem_zipIdx_iff_getElem?]
        rw [List.getElem?_eq_getElem hk, plS_get hk]
      · have : hasS c ca = true := hasS_iff.2 (List.mem_of_getElem? h1)
        simp [this]
    have h5 := h _ hm
    simp only [Function.comp_def, hi] at h5
    rw [List.getElem!_eq_getElem?_getD, List.getElem!_eq_getElem?_getD, h3, h4] at h5
    exact h5.symm
  · intro h ⟨c, k⟩ hm
    obtain ⟨h1, h2⟩ := List.mem_filter.1 hm
    rw [List.mk_mem_zipIdx_iff_getElem?] at h1
    have h2' : hasS c ca = true := by simpa using h2
    have hk := plS_nodup hnb h1
    have hkl := (List.getElem?_eq_some_iff.1 h1).1
    have hil : plS c ca < ca.length := by unfold hasS at h2'; rwa [decide_eq_true_eq] at h2'
    have hc : ca[plS c ca]? = some c := by rw [List.getElem?_eq_getElem hil, plS_get hil]
    have hxe : x[plS c ca]? = some x[plS c ca] := List.getElem?_eq_getElem (by omega)
    have hye : y[k]? = some y[k] := List.getElem?_eq_getElem (by omega)
    have h6 := h _ c _ y[k] hc (hasS_iff.2 (List.mem_of_getElem? h1)) hxe (by rw [hk]; exact hye)
    rw [VOrd.ordT_is.zero] at h6
    simp only [Function.comp_def]
    rw [List.getElem!_eq_getElem?_getD, List.getElem!_eq_getElem?_getD, hxe, hye, h6]
end Go.Proofs.Ytofmfainhflmmaa

/-
  PLAIN FACTS: the joined rows rise; they are what the document puts together.
-/
namespace Go.Proofs.Ytofmfainhflmmaa
open Go.RowKit
open VOrd (ordT IsOrd)

theorem ordR_app : ∀ (x x' a b : List Vl), x.length = x'.length → ordR (x ++ a) (x' ++ b) = if ordR x x' = 0 then ordR a b else ordR x x'
  | [], [], a, b, _ => by rw [(ordR_zero [] []).2 rfl, if_pos rfl]; rfl
  | [], _ :: _, _, _, h => by cases h
  | _ :: _, [], _, _, h => by cases h
  | u :: x, v :: x', a, b, h => by
    have h' : x.length = x'.length := by simpa using h
    rw [List.cons_append, List.cons_append]
    by_cases h0 : ordT u v = 0
    · rw [ordR_eq _ _ h0, ordR_eq _ _ h0, ordR_app x x' a b h']
    · rw [ordR_ne _ _ h0, ordR_ne _ _ h0, if_neg h0]
theorem ord_masked (p : Nat → Bool) : ∀ (y z : List Vl) (k : Nat), y.length = z.length → (∀ (i : Nat) (u v : Vl), y[i]? = some u → z[i]? = some v → p (k + i) = false → u = v) →
    ordR y z = ordR (((y.zipIdx k).filter fun x => p x.2).map (·.1)) (((z.zipIdx k).filter fun x => p x.2).map (·.1))
  | [], [], _, _, _ => rfl
  | [], _ :: _, _, h, _ => by cases h
  | _ :: _, [], _, h, _ => by cases h
  | u :: y, v :: z, k, h, hp => by
    have h' : y.length = z.length := by simpa using h
    have ih := ord_masked p y z (k + 1) h' fun i a b h1 h2 h3 => hp (i + 1) a b (by simpa using h1) (by simpa using h2) (by rw [show k + (i + 1) = k + 1 + i by omega]; exact h3)
    rw [List.zipIdx_cons, List.zipIdx_cons, List.filter_cons, List.filter_cons]
    cases hk : p k with
    | false =>
      have he : u = v := hp 0 u v rfl rfl (by simpa using hk)
      rw [if_neg (by simp), if_neg (by simp), ordR_eq _ _ ((VOrd.ordT_is.zero u v).2 he)]
      exact ih
    | true =>
      rw [if_pos rfl, if_pos rfl, List.map_cons, List.map_cons]
      by_cases h0 : ordT u v = 0
      · rw [ordR_eq _ _ h0, ordR_eq _ _ h0]; exact ih
      · rw [ordR_ne _ _ h0, ordR_ne _ _ h0]
theorem zip_range {α : Type} [Inhabited α] (l : List α) : l.zipIdx = (List.range l.length).map fun k => (l[k]!, k) := by
  apply List.ext_getElem?
  intro i
  rw [List.getElem?_zipIdx, List.getElem?_map]
  by_cases h : i < l.length
  · rw [List.getElem?_eq_getElem h, List.getElem?_range h]
    simp [h]
  · rw [List.getElem?_eq_none (by omega), List.getElem?_eq_none (by simp; omega)]
    rfl
theorem shN_range (yes : Bool) (I l : List ByteArray) : shN yes I l = (List.range l.length).filter fun k => hasS l[k]! I == yes := by
  unfold shN
  rw [zip_range, List.filter_map, List.map_map]
  simp [Function.comp_def]
theorem pick_range (p : Nat → Bool) (l : List Vl) : pickV ((List.range l.length).filter p) l = ((l.zipIdx).filter fun x => p x.2).map (·.1) := by
  unfold pickV
  rw [zip_range, List.filter_map, List.map_map]
  simp [Function.comp_def]
/-- rows that have the same where both have columns stand as their other values do -/
theorem rest_ord {ca cb : List ByteArray} {y z : List Vl} (hy : y.length = cb.length) (hz : z.length = cb.length) (h : pickV (shN true ca cb) y = pickV (shN true ca cb) z) :
    ordR y z = ordR (pickV (shN false ca cb) y) (pickV (shN false ca cb) z) := by
  rw [shN_range false, ← hy, pick_range]
  rw [show (List.range y.length).filter (fun k => hasS cb[k]! ca == false) = (List.range z.length).filter (fun k => hasS cb[k]! ca == false) by rw [hy, hz], pick_range]
  refine ord_masked (fun k => hasS cb[k]! ca == false) y z 0 (by omega) fun i u v h1 h2 h3 => ?_
  unfold pickV at h
  rw [List.map_inj_left] at h
  have hil := (List.getElem?_eq_some_iff.1 h1).1
  have hm : i ∈ shN true ca cb := by
    rw [shN_range, List.mem_filter, List.mem_range]
    refine ⟨by omega, ?_⟩
    rw [Nat.zero_add] at h3
    cases hh : hasS cb[i]! ca with
    | true => rfl
    | false => rw [hh] at h3; simp at h3
  have h4 := h i hm
  rw [List.getElem!_eq_getElem?_getD, List.getElem!_eq_getElem?_getD, h1, h2] at h4
  exact h4
theorem ag_same {ca cb : List ByteArray} {x y : List Vl} (h : agO (shN true ca cb) (shA ca cb) y x = 0) : pickV (shN true ca cb) y = pickV (shA ca cb) x := by
  unfold agO at h
  exact (ordR_is.zero _ _).1 h
theorem join_ups {ca cb : List ByteArray} {M R : List (List Vl)} (hR : Ups ordR R) (hx : ∀ x ∈ R, x.length = ca.length) (hM : M.Pairwise fun y z => ordM (shN true ca cb) y z ≤ 0) (hn : M.Nodup) (hy : ∀ y ∈ M, y.length = cb.length) :
    Ups ordR (joinT (shA ca cb) (shN true ca cb) (shN false ca cb) M R) := by
  unfold joinT Ups
  rw [List.pairwise_flatMap]
  constructor
  · intro x hxR
    rw [List.pairwise_map]
    have h1 : (agL (shN true ca cb) (shA ca cb) M x).Pairwise fun y z => ordM (shN true ca cb) y z ≤ 0 ∧ y ≠ z := (hM.and hn).filter _
    refine h1.imp_of_mem fun {y z} hyM hzM h => ?_
    obtain ⟨my, ay⟩ := List.mem_filter.1 hyM
    obtain ⟨mz, az⟩ := List.mem_filter.1 hzM
    have ey := ag_same (by simpa using ay)
    have ez := ag_same (by simpa using az)
    have e := ey.trans ez.symm
    rw [ordR_app _ _ _ _ rfl, if_pos ((ordR_is.zero x x).2 rfl), ← rest_ord (hy y my) (hy z mz) e]
    have h2 := h.1
    unfold ordM at h2
    rw [if_pos ((ordR_is.zero _ _).2 e)] at h2
    have h3 : ordR y z ≠ 0 := fun h0 => h.2 ((ordR_is.zero _ _).1 h0)
    omega
  · refine hR.imp_of_mem fun {x x'} hx1 hx2 h a ha b hb => ?_
    obtain ⟨y, _, rfl⟩ := List.mem_map.1 ha
    obtain ⟨z, _, rfl⟩ := List.mem_map.1 hb
    rw [ordR_app _ _ _ _ ((hx x hx1).trans (hx x' hx2).symm), if_neg (by omega)]
    exact h
theorem join_mem {ca cb : List ByteArray} {M R : List (List Vl)} (hx : ∀ x ∈ R, x.length = ca.length) (hy : ∀ y ∈ M, y.length = cb.length) (hna : ca.Nodup) (hnb : cb.Nodup) (z : List Vl) :
    z ∈ joinT (shA ca cb) (shN true ca cb) (shN false ca cb) M R ↔ ∃ x ∈ R, ∃ y ∈ M, agP ca cb x y ∧ z = x ++ pickV (shN false ca cb) y := by
  unfold joinT agL
  rw [List.mem_flatMap]
  constructor
  · rintro ⟨x, hxR, hz⟩
    obtain ⟨y, hyM, rfl⟩ := List.mem_map.1 hz
    obtain ⟨h1, h2⟩ := List.mem_filter.1 hyM
    exact ⟨x, hxR, y, h1, (ag_iff hna hnb (hx x hxR) (hy y h1)).1 (by simpa using h2), rfl⟩
  · rintro ⟨x, hxR, y, hyM, h, rfl⟩
    exact ⟨x, hxR, List.mem_map.2 ⟨y, List.mem_filter.2 ⟨hyM, by simpa using (ag_iff hna hnb (hx x hxR) (hy y hyM)).2 h⟩, rfl⟩⟩
/-- the program's join is the document's -/
theorem join_puts {ca cb : List ByteArray} {M B R P : List (List Vl)} (hR : Ups ordR R) (hx : ∀ x ∈ R, x.length = ca.length) (hM : M.Pairwise fun y z => ordM (shN true ca cb) y z ≤ 0) (hp : M.Perm B) (hB : Ups ordR B) (hy : ∀ y ∈ B, y.length = cb.length) (hna : ca.Nodup) (hnb : cb.Nodup)
    (hP : ∀ z, z ∈ P ↔ ∃ x ∈ R, ∃ y ∈ B, agP ca cb x y ∧ z = x ++ pickV (shN false ca cb) y) :
    joinT (shA ca cb) (shN true ca cb) (shN false ca cb) M R = putsG ordR P := by
  have hn : M.Nodup := hp.nodup_iff.2 (hB.imp fun {a b} h e => by rw [e, (ordR_is.zero b b).2 rfl] at h; omega)
  have hy' : ∀ y ∈ M, y.length = cb.length := fun y h => hy y (hp.mem_iff.1 h)
  refine puts_of ordR_is (join_ups hR hx hM hn hy') fun z => ?_
  rw [join_mem hx hy' hna hnb, hP]
  exact ⟨fun ⟨x, h1, y, h2, h3⟩ => ⟨x, h1, y, hp.mem_iff.1 h2, h3⟩, fun ⟨x, h1, y, h2, h3⟩ => ⟨x, h1, y, hp.mem_iff.2 h2, h3⟩⟩
end Go.Proofs.Ytofmfainhflmmaa
