/-
  THE DOCUMENT's NODES, IN LISTS: the same text within a bracket.
-/
import Derived.Test.YthbighnkohjfnaaGreatDoorWTGood
import Derived.Test.YthbighnkohjfnaaGreatDoorWTAlikL
namespace Go.Proofs.YthbighnkohjfnaaGreatDoor
open Go.RowKit

/-- what stands behind -/
def tlW : Bs := [10, 125]
mutual
/-- places are one greater -/
def shP : PN → PN
  | .mk k vk vn vs s kids a => .mk k vk vn vs s (shPs kids) (a + 1)
def shPs : List PN → List PN
  | [] => []
  | x :: l => shP x :: shPs l
end
theorem skip_app : ∀ (s : Bs) (b : Bool), (skipN b s < s.length → skipN b (s ++ tlW) = skipN b s) ∧ (s.length ≤ skipN b s → skipN b (s ++ tlW) = s.length + 1)
  | [], b => by
    refine ⟨fun h => absurd h (Nat.not_lt_zero _), fun _ => ?_⟩
    cases b <;> rfl
  | c :: r, b => by
    obtain ⟨f1, f2⟩ := skip_app r false
    obtain ⟨t1, t2⟩ := skip_app r true
    rw [List.cons_append, List.length_cons]
    cases b with
    | true =>
      rw [skipN, skipN]
      by_cases h : c = 10
      · rw [if_pos h, if_pos h]
        exact ⟨fun hh => by rw [f1 (by omega)], fun hh => by rw [f2 (by omega)]⟩
      · rw [if_neg h, if_neg h]
        exact ⟨fun hh => by rw [t1 (by omega)], fun hh => by rw [t2 (by omega)]⟩
    | false =>
      rw [skipN, skipN]
      by_cases h : c = 59
      · rw [if_pos h, if_pos h]
        exact ⟨fun hh => by rw [t1 (by omega)], fun hh => by rw [t2 (by omega)]⟩
      · rw [if_neg h, if_neg h]
        by_cases h2 : blankC c = true
        · rw [if_pos h2, if_pos h2]
          exact ⟨fun hh => by rw [f1 (by omega)], fun hh => by rw [f2 (by omega)]⟩
        · rw [if_neg h2, if_neg h2]
          exact ⟨fun _ => rfl, fun hh => by omega⟩
theorem contains_split : ∀ {r : Bs}, r.contains 34 = true → (r.takeWhile (fun b => b != 34)).length < r.length
  | [], h => by cases h
  | c :: r, h => by
    rw [List.takeWhile_cons]
    by_cases hc : c = 34
    · subst hc; rw [if_neg (by decide)]; exact Nat.succ_pos _
    · rw [if_pos (by simpa using hc), List.length_cons, List.length_cons]
      have : r.contains 34 = true := by
        rw [List.contains_cons] at h
        rcases Bool.or_eq_true _ _ ▸ h with h | h
        · exact absurd (eq_of_beq h).symm hc
        · exact h
      have := contains_split this
      omega
theorem word_app {c : UInt8} {r : Bs} {n : Nat} (h : wordN (c :: r) = some n) : wordN (c :: r ++ tlW) = some n ∧ n ≤ (c :: r).length := by
  rw [wordN] at h
  rw [List.cons_append, wordN]
  by_cases hc : c = 34
  · rw [if_pos hc] at h ⊢
    by_cases hr : r.contains 34 = true
    · rw [if_pos hr] at h
      injection h with h
      have hlt := contains_split hr
      rw [if_pos (by rw [List.contains_eq_any_beq, List.any_append, ← List.contains_eq_any_beq, hr]; rfl), List.takeWhile_append, if_neg (by omega), h, List.length_cons]
      exact ⟨rfl, by omega⟩
    · rw [if_neg hr] at h; cases h
  · rw [if_neg hc] at h ⊢
    injection h with h
    have hle : ((c :: r).takeWhile wordC).length ≤ (c :: r).length := (List.takeWhile_prefix _).length_le
    rw [← List.cons_append, List.takeWhile_append]
    by_cases he : ((c :: r).takeWhile wordC).length = (c :: r).length
    · rw [if_pos he, show tlW.takeWhile wordC = [] from rfl, List.append_nil, ← he, h]
      exact ⟨rfl, Nat.le_refl _⟩
    · rw [if_neg he, h]
      exact ⟨rfl, by omega⟩
/-- a token, with the tail behind -/
def tokW : TkC → TkC → Prop
  | .fin _, t => ∃ q, t = .cls 125 [] q
  | .cls c r q, t => t = .cls c (r ++ tlW) (q + 1)
  | .opn k c r q, t => t = .opn k c (r ++ tlW) (q + 1)
  | .wrd w r q, t => t = .wrd w (r ++ tlW) (q + 1)
  | .flt _, _ => True
theorem tok_within (s : Bs) (p : Nat) : tokW (tokC s p) (tokC (s ++ tlW) (p + 1)) := by
  obtain ⟨h1, h2⟩ := skip_app s false
  by_cases hl : skipN false s < s.length
  · have hd : (s ++ tlW).drop (skipN false (s ++ tlW)) = s.drop (skipN false s) ++ tlW := by rw [h1 hl, List.drop_append_of_le_length (by omega)]
    have hk := h1 hl
    unfold tokC
    rw [hd, hk]
    cases hs : s.drop (skipN false s) with
    | nil =>
      have := congrArg List.length hs
      rw [List.length_drop, List.length_nil] at this
      omega
    | cons c r =>
      rw [List.cons_append]
      dsimp only
      have ha : ∀ x, p + 1 + x = p + x + 1 := fun x => by omega
      cases openC c with
      | some kc => dsimp only; rw [ha]; rfl
      | none =>
        dsimp only
        by_cases hc : closeC c = true
        · rw [if_pos hc, if_pos hc, ha]; rfl
        · rw [if_neg hc, if_neg hc]
          cases hw : wordN (c :: r) with
          | none => trivial
          | some n =>
            obtain ⟨w1, w2⟩ := word_app hw
            rw [List.cons_append] at w1
            rw [w1]
            cases n with
            | zero => trivial
            | succ n =>
              dsimp only
              show _ = TkC.wrd _ _ _
              rw [ha, ← List.cons_append, List.take_append_of_le_length w2, List.drop_append_of_le_length w2]
  · have hk := h2 (by omega)
    have hf : tokC s p = .fin (p + skipN false s) := by unfold tokC; rw [List.drop_eq_nil_of_le (by omega)]
    rw [hf]
    refine ⟨p + 1 + (s.length + 1), ?_⟩
    · unfold tokC
      rw [hk, show (s ++ tlW).drop (s.length + 1) = [125] by rw [List.drop_append, List.drop_eq_nil_of_le (by omega), show s.length + 1 - s.length = 1 by omega]; rfl]
      rfl
theorem fits_app {t : Bs} (h : fitsB t = true) : fitsB (t ++ tlW) = true := by
  cases t with
  | nil => rfl
  | cons b r => exact h
theorem wordOf_sh {w : Bs} {q : Nat} {x : PN} (h : wordOf pvL w q = some x) : wordOf pvL w (q + 1) = some (shP x) := by
  unfold wordOf at h ⊢
  cases hp : pvL w with
  | some v =>
    rw [hp] at h
    injection h with h
    subst h
    dsimp only
    rw [shP, shPs]
  | none =>
    rw [hp] at h
    dsimp only at h ⊢
    by_cases hn : namR w = true
    · rw [if_pos hn] at h ⊢
      injection h with h
      subst h
      rw [shP, shPs]
    · rw [if_neg hn] at h; cases h
/-- what is read within a bracket -/
def WithR (S : Bs) (deep : Nat) (e : Option UInt8) (l : List PN) (s2 : Bs) (p2 m2 : Nat) : Rd (List PN) → Prop
  | .bad _ => 5000 ≤ m2 ∨ 50 ≤ dpL (l.map (ndOf S)) + deep
  | .ok l' s' p' m' => l' = shPs l ∧ m' = m2 + 1 ∧ (∀ c, e = some c → s' = s2 ++ tlW ∧ p' = p2 + 1) ∧ (e = none → s' = [])
theorem within_is (S : Bs) : ∀ (f g : Nat) (e : Option UInt8) (s : Bs) (p many deep : Nat) (l : List PN) (s2 : Bs) (p2 m2 : Nat), nodesD pvL f e s p many deep = .ok l s2 p2 m2 → many ≤ 5000 → deep ≤ 50 → s.length ≤ 60000 →
    WithR S deep e l s2 p2 m2 (nodesD pvL (f + g) (some (e.getD 125)) (s ++ tlW) (p + 1) (many + 1) (deep + 1)) := by
  intro f
  induction f with
  | zero => intro g e s p many deep l s2 p2 m2 h; rw [nodesD] at h; cases h
  | succ f ih =>
    intro g e s p many deep l s2 p2 m2 h hm hd hs
    have hG := nodes_good S (f + 1) e s p many deep l s2 p2 m2 h hm hd hs
    have hless := tokC_less s p
    have hw := tok_within s p
    rw [show f + 1 + g = (f + g) + 1 by omega]
    cases ht : tokC s p with
    | fin q =>
      rw [ht] at hw
      obtain ⟨q', hw⟩ := hw
      rw [nodesD_fin ht] at h
      by_cases he : e = none
      · rw [if_pos he] at h
        injection h with h1 h2 h3 h4
        subst h1; subst h2; subst h3; subst h4; subst he
        rw [nodesD_cls hw]
        rw [if_pos (show some ((none : Option UInt8).getD 125) = some 125 from rfl)]
        exact ⟨by rw [shPs], rfl, (fun c hc => by cases hc), fun _ => rfl⟩
      · rw [if_neg he] at h; cases h
    | cls c r q =>
      rw [ht] at hw
      rw [nodesD_cls ht] at h
      by_cases he : e = some c
      · rw [if_pos he] at h
        injection h with h1 h2 h3 h4
        subst h1; subst h2; subst h3; subst h4; subst he
        rw [nodesD_cls hw, if_pos (show some ((some c : Option UInt8).getD 125) = some c from rfl)]
        exact ⟨by rw [shPs], rfl, (fun c hc => ⟨rfl, rfl⟩), fun hc => by cases hc⟩
      · rw [if_neg he] at h; cases h
    | flt b => rw [nodesD_flt ht] at h; cases h
    | opn k c r q =>
      rw [ht] at hw hless
      have hr : r.length < s.length := by
        rcases hless with ⟨_, h⟩ | ⟨_, h⟩ | h
        · cases h
        · cases h
        · exact h
      rw [nodesD_opn ht] at h
      rw [nodesD_opn hw]
      by_cases hg : 50 ≤ deep ∨ 5000 ≤ many
      · rw [if_pos hg] at h; cases h
      rw [if_neg hg] at h
      cases hk : nodesD pvL f (some c) r (q + 1) (many + 1) (deep + 1) with
      | bad b => rw [hk] at h; cases h
      | ok kids s3 p3 m3 =>
        rw [hk] at h
        dsimp only at h
        have hG1 := nodes_good S _ _ _ _ _ _ _ _ _ _ hk (by omega) (by omega) (by omega)
        have hI1 := ih g _ _ _ _ _ _ _ _ _ hk (by omega) (by omega) (by omega)
        cases hk2 : nodesD pvL f e s3 p3 m3 deep with
        | bad b => rw [hk2] at h; cases h
        | ok l4 s4 p4 m4 =>
          rw [hk2] at h
          dsimp only at h
          have hG2 := nodes_good S _ _ _ _ _ _ _ _ _ _ hk2 hG1.2.1 hd (by have := hG1.2.2.2.2.2; omega)
          have hI2 := ih g _ _ _ _ _ _ _ _ _ hk2 hG1.2.1 hd (by have := hG1.2.2.2.2.2; omega)
          injection h with h1 h2 h3 h4
          subst h1; subst h2; subst h3; subst h4
          have hdp : dpL ((PN.mk k 0 0 [] [] kids q :: l4).map (ndOf S)) = max (1 + dpL (kids.map (ndOf S))) (dpL (l4.map (ndOf S))) := by
            rw [List.map_cons, ndOf_mk, dpL_cons, dpN_eq]
            show max (if k < 3 then 0 else 1 + dpL (kids.map (ndOf S))) _ = _
            rw [if_neg (by have := tok_kind ht; omega)]
          have a1 := hG1.1
          have b1 := hG2.1
          by_cases hg2 : 50 ≤ deep + 1 ∨ 5000 ≤ many + 1
          · rw [if_pos hg2]
            show _ ∨ _
            rw [hdp]
            omega
          · rw [if_neg hg2]
            rw [show (some c : Option UInt8).getD 125 = c from rfl] at hI1
            cases hx : nodesD pvL (f + g) (some c) (r ++ tlW) (q + 1 + 1) (many + 1 + 1) (deep + 1 + 1) with
            | bad b =>
              rw [hx] at hI1
              show _ ∨ _
              rw [hdp]
              rcases hI1 with h | h
              · exact .inl (by omega)
              · exact .inr (by omega)
            | ok l' s' p' m' =>
              rw [hx] at hI1
              obtain ⟨i1, i2, i3, _⟩ := hI1
              obtain ⟨i4, i5⟩ := i3 c rfl
              subst i1; subst i2; subst i4; subst i5
              dsimp only
              cases hy : nodesD pvL (f + g) (some (e.getD 125)) (s3 ++ tlW) (p3 + 1) (m3 + 1) (deep + 1) with
              | bad b =>
                rw [hy] at hI2
                show _ ∨ _
                rw [hdp]
                rcases hI2 with h | h
                · exact .inl (by omega)
                · exact .inr (by omega)
              | ok l'' s'' p'' m'' =>
                rw [hy] at hI2
                obtain ⟨j1, j2, j3, j4⟩ := hI2
                subst j1
                exact ⟨by rw [shPs, shP], j2, j3, j4⟩
    | wrd w t q =>
      rw [ht] at hw hless
      have hr : t.length < s.length := by
        rcases hless with ⟨_, h⟩ | ⟨_, h⟩ | h
        · cases h
        · cases h
        · exact h
      rw [nodesD_wrd ht] at h
      rw [nodesD_wrd hw]
      by_cases hg : 5000 ≤ many
      · rw [if_pos hg] at h; cases h
      rw [if_neg hg] at h
      cases hwo : wordOf pvL w q with
      | none => rw [hwo] at h; cases h
      | some x =>
        rw [hwo] at h
        dsimp only at h
        by_cases hf : fitsB t = true
        · rw [if_pos hf] at h
          cases hk2 : nodesD pvL f e t (q + w.length) (many + 1) deep with
          | bad b => rw [hk2] at h; cases h
          | ok l4 s4 p4 m4 =>
            rw [hk2] at h
            dsimp only at h
            have hG2 := nodes_good S _ _ _ _ _ _ _ _ _ _ hk2 (by omega) hd (by omega)
            have hI2 := ih g _ _ _ _ _ _ _ _ _ hk2 (by omega) hd (by omega)
            injection h with h1 h2 h3 h4
            subst h1; subst h2; subst h3; subst h4
            have b1 := hG2.1
            have hdp : dpL (l4.map (ndOf S)) ≤ dpL ((x :: l4).map (ndOf S)) := by rw [List.map_cons, dpL_cons]; exact Nat.le_max_right _ _
            by_cases hg2 : 5000 ≤ many + 1
            · rw [if_pos hg2]
              exact .inl (by omega)
            · rw [if_neg hg2, wordOf_sh hwo]
              dsimp only
              rw [if_pos (fits_app hf), show q + 1 + w.length = q + w.length + 1 by omega]
              cases hy : nodesD pvL (f + g) (some (e.getD 125)) (t ++ tlW) (q + w.length + 1) (many + 1 + 1) (deep + 1) with
              | bad b =>
                rw [hy] at hI2
                rcases hI2 with h | h
                · exact .inl h
                · exact .inr (by omega)
              | ok l'' s'' p'' m'' =>
                rw [hy] at hI2
                obtain ⟨j1, j2, j3, j4⟩ := hI2
                subst j1
                exact ⟨by rw [shPs], j2, j3, j4⟩
        · rw [if_neg hf] at h; cases h
end Go.Proofs.YthbighnkohjfnaaGreatDoor
