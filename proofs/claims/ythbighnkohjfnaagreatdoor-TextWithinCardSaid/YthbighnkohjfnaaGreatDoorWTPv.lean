/-
  VALUES' WORDS, ONE BY ONE: of which value a word is the text (references, words), and words that are no value's.
-/
import Derived.Test.YthbighnkohjfnaaGreatDoorJTClose
import Derived.Test.YthbighnkohjfnaaGreatDoorJSpells
import Derived.Test.YthbighnkohjfnaaGreatDoorJLaidErr
import Derived.Test.YthbighnkohjfnaaGreatDoorJRefParse
namespace Go.Proofs.YthbighnkohjfnaaGreatDoor
open Go.RowKit

theorem pvL_uniq {w : Bs} {k n : Int} {t : ByteArray} (hm : mayB k n t = true) (hn : inI64 n) (ht : txtL k n t = w) (hu : ∀ (k' n' : Int) (t' : ByteArray), mayB k' n' t' = true → inI64 n' → txtL k' n' t' = w → k = k' ∧ n = n' ∧ t = t') : pvL w = some (k, n, t.data.toList) := by
  have hx : ∃ v : Int × Int × ByteArray, mayB v.1 v.2.1 v.2.2 = true ∧ inI64 v.2.1 ∧ txtL v.1 v.2.1 v.2.2 = w := ⟨(k, n, t), hm, hn, ht⟩
  obtain ⟨e1, e2, e3⟩ := hu _ _ _ hx.choose_spec.1 hx.choose_spec.2.1 hx.choose_spec.2.2
  unfold pvL
  rw [dif_pos hx, ← e1, ← e2, ← e3]
theorem pvL_no {w : Bs} (h : ∀ (k n : Int) (t : ByteArray), mayB k n t = true → inI64 n → txtL k n t ≠ w) : pvL w = none := by
  unfold pvL
  rw [dif_neg]
  rintro ⟨v, h1, h2, h3⟩
  exact h _ _ _ h1 h2 h3
/-- a word whose first byte begins no value -/
theorem pvL_head {c : UInt8} {rest : Bs} (h : c.toNat ≠ 116 ∧ c.toNat ≠ 102 ∧ c.toNat ≠ 64 ∧ c.toNat ≠ 33 ∧ c.toNat ≠ 58 ∧ c.toNat ≠ 35 ∧ c.toNat ≠ 34 ∧ c.toNat ≠ 45 ∧ ¬ (48 ≤ c.toNat ∧ c.toNat ≤ 57)) : pvL (c :: rest) = none :=
  pvL_no fun k n t hm _ ht => by
    obtain ⟨a1, a2, a3, a4, a5, a6, a7, a8, a9⟩ := h
    obtain ⟨_, _, hi⟩ := (heads_of hm ht).i1 a1 a2 a3 a4 a5 a6 a7
    rcases itoa_head hi.symm with h9 | h9
    · exact a8 h9
    · exact a9 h9
/-- a word behind a colon -/
theorem pvL_word {l : Bs} (h : wordL l = true) : pvL (58 :: l) = some (7, 0, l) := by
  have hd : (⟨l.toArray⟩ : ByteArray).data.toList = l := by simp
  have h1 := pvL_uniq (w := 58 :: l) (k := 7) (n := 0) (t := ⟨l.toArray⟩) (by
    have hw : wordB ⟨l.toArray⟩ = true := by unfold wordB; rw [hd]; exact h
    unfold mayB
    rw [hw]
    rfl) (by unfold inI64; omega) (by show 58 :: (⟨l.toArray⟩ : ByteArray).data.toList = _; rw [hd]) (fun k n t hm _ ht => by
      obtain ⟨b1, b2, b3⟩ := (heads_of hm ht).w58 rfl
      refine ⟨b1.symm, b2.symm, ?_⟩
      cases t with
      | mk d => rw [b3])
  rw [hd] at h1
  exact h1
theorem itoa_one {x y : Int} (hx : inI64 x) (hy : inI64 y) (h : Lib.itoa x = Lib.itoa y) : x = y := by
  have h1 := parse_itoa x hx.1 hx.2
  have h2 := parse_itoa y hy.1 hy.2
  rw [h, h2] at h1
  cases h1; rfl
/-- a reference's word -/
theorem pvL_ref {n : Int} (h0 : 0 ≤ n) (h1 : n < 9007199254740992) : pvL (64 :: Lib.itoa n) = some (5, n, []) :=
  pvL_uniq (t := ⟨#[]⟩) (by unfold mayB; rw [if_neg (by omega), if_neg (by omega), if_neg (by omega), if_pos rfl, Bool.and_eq_true]; exact ⟨rfl, decide_eq_true ⟨h0, h1⟩⟩) (by unfold inI64; omega) rfl (fun k m t hm hi ht => by
    obtain ⟨b1, b2, b3⟩ := (heads_of hm ht).r64 rfl
    exact ⟨b1.symm, itoa_one (by unfold inI64; omega) hi b3, b2.symm⟩)
def unhL : Bs → Nat
  | [x, y] => (nibI x.toNat * 16 + nibI y.toNat).toNat
  | _ => 0
theorem unh_hex : ∀ n, n < 256 → unhL (hexL (UInt8.ofNat n)) = n := by decide +kernel
theorem hexL_inj {c d : UInt8} (h : hexL c = hexL d) : c = d := by
  have h1 := unh_hex c.toNat (UInt8.toNat_lt c)
  have h2 := unh_hex d.toNat (UInt8.toNat_lt d)
  rw [UInt8.ofNat_toNat] at h1 h2
  rw [h, h2] at h1
  exact UInt8.toNat_inj.1 h1.symm
theorem hexL_two (c : UInt8) : (hexL c).length = 2 := by simp [hexL]
theorem esc_inj : ∀ (t u : Bs), flatL escL t = flatL escL u → t = u
  | [], [], _ => rfl
  | [], e :: u, h => by
    have h2 : [] = escL e ++ flatL escL u := h
    exact absurd (List.append_eq_nil_iff.1 h2.symm).1 (escL_ne e)
  | d :: t, [], h => by
    have h2 : escL d ++ flatL escL t = [] := h
    exact absurd (List.append_eq_nil_iff.1 h2).1 (escL_ne d)
  | d :: t, e :: u, h => by
    have h2 : escL d ++ flatL escL t = escL e ++ flatL escL u := h
    by_cases hd : plainB d.toNat = true
    · rw [escL_plain hd] at h2
      by_cases he : plainB e.toNat = true
      · rw [escL_plain he] at h2
        injection h2 with h3 h4
        rw [h3, esc_inj t u h4]
      · rw [escL_not (by simpa using he)] at h2
        injection h2 with h3 h4
        exact absurd h3 (plain_ne hd)
    · rw [escL_not (by simpa using hd)] at h2
      by_cases he : plainB e.toNat = true
      · rw [escL_plain he] at h2
        injection h2 with h3 h4
        exact absurd h3.symm (plain_ne he)
      · rw [escL_not (by simpa using he)] at h2
        injection h2 with h3 h4
        obtain ⟨h5, h6⟩ := List.append_inj h4 ((hexL_two d).trans (hexL_two e).symm)
        rw [hexL_inj h5, esc_inj t u h6]
/-- a text's word -/
theorem pvL_text {u : Bs} (h : u.length ≤ 1000) : pvL (34 :: (flatL escL u ++ [34])) = some (3, 0, u) := by
  have hd : (⟨u.toArray⟩ : ByteArray).data.toList = u := by simp
  have h1 := pvL_uniq (w := 34 :: (flatL escL u ++ [34])) (k := 3) (n := 0) (t := ⟨u.toArray⟩) (by
    unfold mayB
    rw [if_neg (by omega), if_neg (by omega), if_pos (.inl rfl), Bool.and_eq_true]
    exact ⟨rfl, decide_eq_true h⟩) (by unfold inI64; omega) (by
    show [34] ++ flatL escL (⟨u.toArray⟩ : ByteArray).data.toList ++ [34] = _
    rw [hd]
    rfl) (fun k n t hm _ ht => by
      obtain ⟨b1, b2, b3⟩ := (heads_of hm ht).q34 rfl
      refine ⟨b1.symm, b2.symm, ?_⟩
      have h9 := esc_inj _ _ (List.append_cancel_right b3)
      cases t with
      | mk d => rw [← h9])
  rw [hd] at h1
  exact h1
end Go.Proofs.YthbighnkohjfnaaGreatDoor
