/-
  THE DOCUMENT's NODES, IN LISTS: what is read may be: how many, how deep, each as it may be.
-/
import Derived.Test.YthbighnkohjfnaaGreatDoorJTLink
import Derived.Test.YthbighnkohjfnaaGreatDoorWTMayL
import Derived.Test.YthbighnkohjfnaaGreatDoorWTDeep
namespace Go.Proofs.YthbighnkohjfnaaGreatDoor
open Go.RowKit

theorem szL_one (x : Nd) (l : List Nd) : szL (x :: l) = (1 + szL x.kids) + szL l := by rw [szL_cons, szN_eq]
theorem eZ : (⟨#[]⟩ : ByteArray).toList.isEmpty = true := by rw [ByteArray.toList_eq]; rfl
theorem zZ : zeroB 0 0 ⟨#[]⟩ = true := by unfold zeroB; rw [eZ]; rfl
theorem mayB_size {k n : Int} {s : ByteArray} (h : mayB k n s = true) : s.size ≤ 1000 := by
  unfold mayB at h
  by_cases h1 : k = 1 ∨ k = 6
  · rw [if_pos h1] at h; have := of_decide_eq_true h; omega
  rw [if_neg h1] at h
  by_cases h2 : k = 2
  · rw [if_pos h2, Bool.and_eq_true] at h; have := of_decide_eq_true h.1; omega
  rw [if_neg h2] at h
  by_cases h3 : k = 3 ∨ k = 4
  · rw [if_pos h3, Bool.and_eq_true] at h; exact of_decide_eq_true h.2
  rw [if_neg h3] at h
  by_cases h5 : k = 5
  · rw [if_pos h5, Bool.and_eq_true] at h; have := of_decide_eq_true h.1; omega
  rw [if_neg h5] at h
  by_cases h7 : k = 7
  · rw [if_pos h7, Bool.and_eq_true] at h
    have hw := h.2
    have hl : s.data.toList.length = s.size := Array.length_toList
    unfold wordB at hw
    cases hc : s.data.toList with
    | nil => rw [hc] at hl; rw [← hl]; exact Nat.zero_le _
    | cons c r =>
      rw [hc] at hl hw
      unfold wordL at hw
      rw [Bool.and_eq_true, Bool.and_eq_true] at hw
      have := of_decide_eq_true hw.1.1
      rw [List.length_cons] at hl
      omega
  rw [if_neg h7] at h
  cases h
theorem pvL_may {w : Bs} {v : Int × Int × Bs} (h : pvL w = some v) : mayB v.1 v.2.1 ⟨v.2.2.toArray⟩ = true ∧ v.2.2.length ≤ 60000 := by
  unfold pvL at h
  by_cases hx : ∃ v : Int × Int × ByteArray, mayB v.1 v.2.1 v.2.2 = true ∧ inI64 v.2.1 ∧ txtL v.1 v.2.1 v.2.2 = w
  · rw [dif_pos hx] at h
    injection h with h
    subst h
    have hm := hx.choose_spec.1
    refine ⟨hm, ?_⟩
    have hl : (hx.choose.2.2.data.toList).length = hx.choose.2.2.size := Array.length_toList
    show (hx.choose.2.2.data.toList).length ≤ 60000
    rw [hl]
    exact Nat.le_trans (mayB_size hm) (by decide)
  · rw [dif_neg hx] at h
    cases h
/-- a word's node may be -/
theorem word_good (S : Bs) (deep : Nat) {w : Bs} {q : Nat} {x : PN} (h : wordOf pvL w q = some x) (hw : w.length ≤ 60000) : szN (ndOf S x) = 1 ∧ dpN (ndOf S x) = 0 ∧ mayNd deep (ndOf S x) = true ∧ txN (ndOf S x) := by
  unfold wordOf at h
  cases hp : pvL w with
  | some v =>
    rw [hp] at h
    injection h with h
    subst h
    obtain ⟨h1, h2⟩ := pvL_may hp
    rw [ndOf_mk]
    refine ⟨by rw [szN_eq]; show 1 + szL [] = 1; rw [szL_nil], by rw [dpN_eq]; rfl, ?_, ?_⟩
    · rw [mayNd_eq]
      show (mayB v.1 v.2.1 ⟨v.2.2.toArray⟩ && ((⟨#[]⟩ : ByteArray).toList.isEmpty && ((([] : List Nd).length : Int) == 0))) = true
      rw [h1, eZ]
      rfl
    · rw [txN_eq]
      refine ⟨?_, Nat.zero_le _, ?_⟩
      · show v.2.2.toArray.size ≤ 60000
        simpa using h2
      · show txL []
        rw [txL]; trivial
  | none =>
    rw [hp] at h
    dsimp only at h
    by_cases hn : namR w = true
    · rw [if_pos hn] at h
      injection h with h
      subst h
      rw [ndOf_mk]
      refine ⟨by rw [szN_eq]; show 1 + szL [] = 1; rw [szL_nil], by rw [dpN_eq]; rfl, ?_, ?_⟩
      · rw [mayNd_eq]
        show (namP (ByteArray.mk w.toArray).data.toList && (zeroB 0 0 ⟨#[]⟩ && ((([] : List Nd).length : Int) == 0))) = true
        rw [show (ByteArray.mk w.toArray).data.toList = w by simp, nam_one, hn, zZ]
        rfl
      · rw [txN_eq]
        refine ⟨Nat.zero_le _, ?_, ?_⟩
        · show w.toArray.size ≤ 60000
          simpa using hw
        · show txL []
          rw [txL]; trivial
    · rw [if_neg hn] at h
      cases h
theorem open_kind {c : UInt8} {kc : Int × UInt8} (h : openC c = some kc) : kc.1 = 3 ∨ kc.1 = 4 ∨ kc.1 = 5 := by
  unfold openC at h
  by_cases h1 : c = 40
  · rw [if_pos h1] at h; injection h with h; subst h; exact .inl rfl
  rw [if_neg h1] at h
  by_cases h2 : c = 91
  · rw [if_pos h2] at h; injection h with h; subst h; exact .inr (.inl rfl)
  rw [if_neg h2] at h
  by_cases h3 : c = 123
  · rw [if_pos h3] at h; injection h with h; subst h; exact .inr (.inr rfl)
  rw [if_neg h3] at h
  cases h
theorem tok_kind {s : Bs} {p : Nat} {k : Int} {c : UInt8} {r : Bs} {q : Nat} (h : tokC s p = .opn k c r q) : k = 3 ∨ k = 4 ∨ k = 5 := by
  unfold tokC at h
  cases hs : s.drop (skipN false s) with
  | nil => rw [hs] at h; cases h
  | cons c0 r0 =>
    rw [hs] at h
    dsimp only at h
    cases ho : openC c0 with
    | some kc => rw [ho] at h; dsimp only at h; injection h with h1; subst h1; exact open_kind ho
    | none =>
      rw [ho] at h
      dsimp only at h
      by_cases hc : closeC c0 = true
      · rw [if_pos hc] at h; cases h
      · rw [if_neg hc] at h
        cases hw : wordN (c0 :: r0) with
        | none => rw [hw] at h; cases h
        | some n => rw [hw] at h; cases n <;> cases h
theorem tok_word {s : Bs} {p : Nat} {w t : Bs} {q : Nat} (h : tokC s p = .wrd w t q) : w.length ≤ s.length := by
  have hd : (s.drop (skipN false s)).length ≤ s.length := by rw [List.length_drop]; omega
  unfold tokC at h
  cases hs : s.drop (skipN false s) with
  | nil => rw [hs] at h; cases h
  | cons c0 r0 =>
    rw [hs] at h hd
    dsimp only at h
    cases ho : openC c0 with
    | some kc => rw [ho] at h; cases h
    | none =>
      rw [ho] at h
      dsimp only at h
      by_cases hc : closeC c0 = true
      · rw [if_pos hc] at h; cases h
      · rw [if_neg hc] at h
        cases hw : wordN (c0 :: r0) with
        | none => rw [hw] at h; cases h
        | some n =>
          rw [hw] at h
          cases n with
          | zero => cases h
          | succ n =>
            injection h with h1 h2 h3
            rw [← h1]
            exact Nat.le_trans (List.length_take_le' _ _) hd
/-- what is read may be -/
theorem nodes_good (S : Bs) : ∀ (f : Nat) (e : Option UInt8) (s : Bs) (p many deep : Nat) (l : List PN) (s2 : Bs) (p2 m2 : Nat), nodesD pvL f e s p many deep = .ok l s2 p2 m2 → many ≤ 5000 → deep ≤ 50 → s.length ≤ 60000 →
    szL (l.map (ndOf S)) + many = m2 ∧ m2 ≤ 5000 ∧ dpL (l.map (ndOf S)) + deep ≤ 50 ∧ mayNds deep (l.map (ndOf S)) = true ∧ txL (l.map (ndOf S)) ∧ s2.length ≤ s.length := by
  intro f
  induction f with
  | zero => intro e s p many deep l s2 p2 m2 h; rw [nodesD] at h; cases h
  | succ f ih =>
    intro e s p many deep l s2 p2 m2 h hm hd hs
    have hless := tokC_less s p
    cases ht : tokC s p with
    | fin q =>
      rw [nodesD_fin ht] at h
      by_cases he : e = none
      · rw [if_pos he] at h
        injection h with h1 h2 h3 h4
        subst h1; subst h2; subst h3; subst h4
        refine ⟨by rw [List.map_nil, szL_nil, Nat.zero_add], hm, by rw [List.map_nil, dpL_nil]; omega, by rw [List.map_nil, mayNds], by rw [List.map_nil, txL]; trivial, Nat.zero_le _⟩
      · rw [if_neg he] at h; cases h
    | cls c r q =>
      rw [ht] at hless
      rw [nodesD_cls ht] at h
      by_cases he : e = some c
      · rw [if_pos he] at h
        injection h with h1 h2 h3 h4
        subst h1; subst h2; subst h3; subst h4
        have hr : r.length < s.length := by
          rcases hless with ⟨_, h⟩ | ⟨_, h⟩ | h
          · cases h
          · cases h
          · exact h
        refine ⟨by rw [List.map_nil, szL_nil, Nat.zero_add], hm, by rw [List.map_nil, dpL_nil]; omega, by rw [List.map_nil, mayNds], by rw [List.map_nil, txL]; trivial, by omega⟩
      · rw [if_neg he] at h; cases h
    | flt b => rw [nodesD_flt ht] at h; cases h
    | opn k c r q =>
      rw [ht] at hless
      have hr : r.length < s.length := by
        rcases hless with ⟨_, h⟩ | ⟨_, h⟩ | h
        · cases h
        · cases h
        · exact h
      rw [nodesD_opn ht] at h
      by_cases hg : 50 ≤ deep ∨ 5000 ≤ many
      · rw [if_pos hg] at h; cases h
      · rw [if_neg hg] at h
        cases hk : nodesD pvL f (some c) r (q + 1) (many + 1) (deep + 1) with
        | bad b => rw [hk] at h; cases h
        | ok kids s3 p3 m3 =>
          rw [hk] at h
          dsimp only at h
          obtain ⟨a1, a2, a3, a4, a5, a6⟩ := ih _ _ _ _ _ _ _ _ _ hk (by omega) (by omega) (by omega)
          cases hk2 : nodesD pvL f e s3 p3 m3 deep with
          | bad b => rw [hk2] at h; cases h
          | ok l4 s4 p4 m4 =>
            rw [hk2] at h
            dsimp only at h
            obtain ⟨b1, b2, b3, b4, b5, b6⟩ := ih _ _ _ _ _ _ _ _ _ hk2 a2 hd (by omega)
            injection h with h1 h2 h3 h4
            subst h1; subst h2; subst h3; subst h4
            have hkk : k = 3 ∨ k = 4 ∨ k = 5 := tok_kind ht
            rw [List.map_cons, ndOf_mk]
            refine ⟨?_, b2, ?_, ?_, ?_, by omega⟩
            · rw [szL_one]
              show 1 + szL (kids.map (ndOf S)) + _ + _ = _
              omega
            · rw [dpL_cons, dpN_eq]
              show max (if k < 3 then 0 else 1 + dpL (kids.map (ndOf S))) _ + _ ≤ _
              rw [if_neg (by omega)]
              omega
            · rw [mayNds, b4, Bool.and_true, mayNd_eq]
              show (if k = 1 then _ else if k = 2 then _ else if k = 3 ∨ k = 4 ∨ k = 5 then (decide (deep < 50) && (zeroB 0 0 ⟨#[]⟩ && ((⟨#[]⟩ : ByteArray).toList.isEmpty && mayNds (deep + 1) (kids.map (ndOf S))))) else false) = true
              rw [if_neg (by omega), if_neg (by omega), if_pos hkk, a4, decide_eq_true (by omega), zZ, eZ]
              rfl
            · rw [txL, txN_eq]
              exact ⟨⟨Nat.zero_le _, Nat.zero_le _, a5⟩, b5⟩
    | wrd w t q =>
      rw [ht] at hless
      have hr : t.length < s.length := by
        rcases hless with ⟨_, h⟩ | ⟨_, h⟩ | h
        · cases h
        · cases h
        · exact h
      rw [nodesD_wrd ht] at h
      by_cases hg : 5000 ≤ many
      · rw [if_pos hg] at h; cases h
      · rw [if_neg hg] at h
        cases hwo : wordOf pvL w q with
        | none => rw [hwo] at h; cases h
        | some x =>
          rw [hwo] at h
          dsimp only at h
          by_cases hf : fitsB t = true
          · rw [if_pos hf] at h
            cases hk2 : nodesD pvL f e t (q + w.length) (many + 1) deep with
            | bad b => rw [hk2] at h; cases h
            | ok l4 s4 p4 m4 =>
              rw [hk2] at h
              dsimp only at h
              obtain ⟨b1, b2, b3, b4, b5, b6⟩ := ih _ _ _ _ _ _ _ _ _ hk2 (by omega) hd (by omega)
              injection h with h1 h2 h3 h4
              subst h1; subst h2; subst h3; subst h4
              obtain ⟨g1, g2, g3, g4⟩ := word_good S deep hwo (Nat.le_trans (tok_word ht) hs)
              rw [List.map_cons]
              refine ⟨by rw [szL_cons, g1]; omega, b2, by rw [dpL_cons, g2]; omega, by rw [mayNds, g3, b4]; rfl, by rw [txL]; exact ⟨g4, b5⟩, by omega⟩
          · rw [if_neg hf] at h; cases h
end Go.Proofs.YthbighnkohjfnaaGreatDoor
