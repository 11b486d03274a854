/-
  PLAIN FACTS on the text of a set of instants: what it is, and that a text is of one list only.
-/
import Derived.Lib.ItoaLen
import Derived.Test.YtfonmgpkbgdniaaGreatDoorJNum
import Derived.Test.YtfonmgpkbgdniaaGreatDoorJSPure
namespace Go.Proofs.YtfonmgpkbgdniaaGreatDoor
open Lib

/-- an end of a span -/
def endT (x : Int) : List UInt8 := if x = minT then [45] else if x = maxT then [43] else itoa x
/-- a span -/
def oneT (s : Sp) : List UInt8 := 91 :: (endT s.1 ++ 44 :: (endT s.2 ++ [41]))
/-- spans, with a blank between -/
def bodyT : List Sp → List UInt8
  | [] => []
  | [s] => oneT s
  | s :: p :: l => oneT s ++ 32 :: bodyT (p :: l)
/-- the text of spans -/
def textT (l : List Sp) : List UInt8 := if l = [] then [110, 111, 110, 101] else bodyT l
def AllOk (l : List Sp) : Prop := ∀ s ∈ l, SpOk s

/-- the bytes of a number -/
def NumC (c : UInt8) : Prop := c = 43 ∨ c = 45 ∨ (48 ≤ c.toNat ∧ c.toNat ≤ 57)
theorem numC_not {c : UInt8} (h : NumC c) : c ≠ 44 ∧ c ≠ 41 ∧ c ≠ 32 ∧ c ≠ 91 := by
  rcases h with h | h | ⟨h1, h2⟩
  · subst h; decide
  · subst h; decide
  · refine ⟨?_, ?_, ?_, ?_⟩ <;> (rintro rfl; revert h1 h2; decide)

theorem itoa_mem (x : Int) : ∀ c ∈ itoa x, NumC c := by
  intro c hc
  unfold itoa at hc
  split at hc
  · rcases List.mem_cons.1 hc with h | h
    · exact .inr (.inl h)
    · exact .inr (.inr (dec_mem _ c h))
  · exact .inr (.inr (dec_mem _ c hc))
theorem endT_mem (x : Int) : ∀ c ∈ endT x, NumC c := by
  intro c hc
  unfold endT at hc
  split at hc
  · exact .inr (.inl (List.mem_singleton.1 hc))
  · split at hc
    · exact .inl (List.mem_singleton.1 hc)
    · exact itoa_mem x c hc
theorem itoa_cons (x : Int) : (∃ c r, itoa x = c :: r ∧ 48 ≤ c.toNat ∧ c.toNat ≤ 57) ∨ (∃ c r, itoa x = 45 :: c :: r ∧ 48 ≤ c.toNat ∧ c.toNat ≤ 57) := by
  unfold itoa
  split
  · obtain ⟨c, r, h⟩ := dec_cons x.natAbs
    exact .inr ⟨c, r, by rw [h], dec_mem x.natAbs c (by rw [h]; exact List.mem_cons_self)⟩
  · obtain ⟨c, r, h⟩ := dec_cons x.toNat
    exact .inl ⟨c, r, h, dec_mem x.toNat c (by rw [h]; exact List.mem_cons_self)⟩
theorem itoa_sign (x : Int) : itoa x ≠ [45] ∧ itoa x ≠ [43] := by
  rcases itoa_cons x with ⟨c, r, h, h1, h2⟩ | ⟨c, r, h, h1, h2⟩
  · rw [h]
    refine ⟨fun e => ?_, fun e => ?_⟩ <;>
      (have := (List.cons.inj e).1; subst this; revert h1 h2; decide)
  · rw [h]
    refine ⟨fun e => ?_, fun e => ?_⟩ <;> cases (List.cons.inj e).2
theorem endT_cons (x : Int) : ∃ c r, endT x = c :: r ∧ NumC c := by
  have hm := endT_mem x
  cases he : endT x with
  | nil =>
    exfalso
    unfold endT at he
    split at he
    · cases he
    · split at he
      · cases he
      · rcases itoa_cons x with ⟨c, r, h, _⟩ | ⟨c, r, h, _⟩ <;> (rw [h] at he; cases he)
  | cons c r => exact ⟨c, r, rfl, hm c (by rw [he]; exact List.mem_cons_self)⟩
theorem itoa_inj {x y : Int} (hx : minT ≤ x ∧ x ≤ maxT) (hy : minT ≤ y ∧ y ≤ maxT) (h : itoa x = itoa y) : x = y := by
  have h1 := parse_itoa x hx.1 hx.2
  have h2 := parse_itoa y hy.1 hy.2
  rw [h, h2] at h1
  cases h1; rfl
theorem endT_inj {x y : Int} (hx : minT ≤ x ∧ x ≤ maxT) (hy : minT ≤ y ∧ y ≤ maxT) (h : endT x = endT y) : x = y := by
  have sx := itoa_sign x
  have sy := itoa_sign y
  unfold endT at h
  by_cases a1 : x = minT
  · by_cases b1 : y = minT
    · rw [a1, b1]
    · rw [if_pos a1, if_neg b1] at h
      by_cases b2 : y = maxT
      · rw [if_pos b2] at h; exact absurd h (by decide)
      · rw [if_neg b2] at h; exact absurd h.symm sy.1
  · rw [if_neg a1] at h
    by_cases a2 : x = maxT
    · rw [if_pos a2] at h
      by_cases b1 : y = minT
      · rw [if_pos b1] at h; exact absurd h (by decide)
      · rw [if_neg b1] at h
        by_cases b2 : y = maxT
        · rw [a2, b2]
        · rw [if_neg b2] at h; exact absurd h.symm sy.2
    · rw [if_neg a2] at h
      by_cases b1 : y = minT
      · rw [if_pos b1] at h; exact absurd h sx.1
      · rw [if_neg b1] at h
        by_cases b2 : y = maxT
        · rw [if_pos b2] at h; exact absurd h sx.2
        · rw [if_neg b2] at h; exact itoa_inj hx hy h
theorem endT_len {x : Int} (hx : minT ≤ x ∧ x ≤ maxT) : 1 ≤ (endT x).length ∧ (endT x).length ≤ 21 := by
  refine ⟨?_, ?_⟩
  · obtain ⟨c, r, h, _⟩ := endT_cons x; rw [h]; simp
  · unfold endT
    split
    · simp
    · split
      · simp
      · exact itoa_length_le x hx.1 hx.2

/-- two ways to end at one byte that neither has are one -/
theorem stop_inj {c : UInt8} : ∀ {a b r r' : List UInt8}, (∀ x ∈ a, x ≠ c) → (∀ x ∈ b, x ≠ c) → a ++ c :: r = b ++ c :: r' → a = b ∧ r = r'
  | [], [], _, _, _, _, h => ⟨rfl, (List.cons.inj h).2⟩
  | [], y :: b, _, _, _, hb, h => absurd (List.cons.inj h).1.symm (hb y List.mem_cons_self)
  | x :: a, [], _, _, ha, _, h => absurd (List.cons.inj h).1 (ha x List.mem_cons_self)
  | x :: a, y :: b, _, _, ha, hb, h => by
    obtain ⟨h1, h2⟩ := List.cons.inj h
    obtain ⟨h3, h4⟩ := stop_inj (fun z hz => ha z (List.mem_cons_of_mem _ hz)) (fun z hz => hb z (List.mem_cons_of_mem _ hz)) h2
    exact ⟨by rw [h1, h3], h4⟩
theorem oneT_inj {s p : Sp} {r r' : List UInt8} (hs : SpOk s) (hp : SpOk p) (h : oneT s ++ r = oneT p ++ r') : s = p ∧ r = r' := by
  unfold oneT at h
  simp only [List.cons_append, List.append_assoc, List.nil_append] at h
  have h := (List.cons.inj h).2
  obtain ⟨h1, h2⟩ := stop_inj (fun x hx => (numC_not (endT_mem _ x hx)).1) (fun x hx => (numC_not (endT_mem _ x hx)).1) h
  obtain ⟨h3, h4⟩ := stop_inj (fun x hx => (numC_not (endT_mem _ x hx)).2.1) (fun x hx => (numC_not (endT_mem _ x hx)).2.1) h2
  exact ⟨Prod.ext (endT_inj hs.1 hp.1 h1) (endT_inj hs.2 hp.2 h3), h4⟩
theorem oneT_len {s : Sp} (h : SpOk s) : 5 ≤ (oneT s).length ∧ (oneT s).length ≤ 45 := by
  have h1 := endT_len h.1
  have h2 := endT_len h.2
  unfold oneT
  simp only [List.length_cons, List.length_append, List.length_nil]
  omega
theorem bodyT_cons (s p : Sp) (l : List Sp) : bodyT (s :: p :: l) = oneT s ++ 32 :: bodyT (p :: l) := rfl
theorem bodyT_snoc : ∀ (l : List Sp) (s : Sp), l ≠ [] → bodyT (l ++ [s]) = bodyT l ++ 32 :: oneT s
  | [], _, h => absurd rfl h
  | [p], s, _ => rfl
  | p :: q :: l, s, _ => by
    have := bodyT_snoc (q :: l) s (by simp)
    rw [List.cons_append, List.cons_append, bodyT_cons, ← List.cons_append, this, bodyT_cons, List.append_assoc, List.cons_append]
theorem bodyT_inj : ∀ {l m : List Sp}, l ≠ [] → m ≠ [] → AllOk l → AllOk m → bodyT l = bodyT m → l = m
  | [], _, h, _, _, _, _ => absurd rfl h
  | _, [], _, h, _, _, _ => absurd rfl h
  | [s], [p], _, _, hl, hm, h => by
    have h' : oneT s ++ [] = oneT p ++ [] := by simpa [bodyT] using h
    rw [(oneT_inj (hl s (by simp)) (hm p (by simp)) h').1]
  | [s], p :: q :: m, _, _, hl, hm, h => by
    have h' : oneT s ++ [] = oneT p ++ 32 :: bodyT (q :: m) := by simpa [bodyT] using h
    exact absurd (oneT_inj (hl s (by simp)) (hm p (by simp)) h').2 (by simp)
  | s :: q :: l, [p], _, _, hl, hm, h => by
    have h' : oneT s ++ 32 :: bodyT (q :: l) = oneT p ++ [] := by simpa [bodyT] using h
    exact absurd (oneT_inj (hl s (by simp)) (hm p (by simp)) h').2 (by simp)
  | s :: q :: l, p :: r :: m, _, _, hl, hm, h => by
    rw [bodyT_cons, bodyT_cons] at h
    obtain ⟨h1, h2⟩ := oneT_inj (hl s (by simp)) (hm p (by simp)) h
    rw [h1, bodyT_inj (by simp) (by simp) (fun x hx => hl x (List.mem_cons_of_mem _ hx)) (fun x hx => hm x (List.mem_cons_of_mem _ hx)) (List.cons.inj h2).2]
theorem bodyT_head {l : List Sp} (h : l ≠ []) : ∃ r, bodyT l = 91 :: r := by
  match l, h with
  | [s], _ => exact ⟨_, rfl⟩
  | s :: p :: l, _ => exact ⟨_, rfl⟩
theorem textT_inj {l m : List Sp} (hl : AllOk l) (hm : AllOk m) (h : textT l = textT m) : l = m := by
  unfold textT at h
  by_cases a : l = []
  · by_cases b : m = []
    · rw [a, b]
    · rw [if_pos a, if_neg b] at h
      obtain ⟨r, e⟩ := bodyT_head b
      rw [e] at h; exact absurd (List.cons.inj h).1 (by decide)
  · by_cases b : m = []
    · rw [if_neg a, if_pos b] at h
      obtain ⟨r, e⟩ := bodyT_head a
      rw [e] at h; exact absurd (List.cons.inj h).1 (by decide)
    · rw [if_neg a, if_neg b] at h
      exact bodyT_inj a b hl hm h
theorem bodyT_len : ∀ {l : List Sp}, AllOk l → (bodyT l).length ≤ 46 * l.length
  | [], _ => Nat.zero_le _
  | [s], h => by have := (oneT_len (h s (by simp))).2; simp only [bodyT, List.length_cons, List.length_nil]; omega
  | s :: p :: l, h => by
    have h1 := (oneT_len (h s (by simp))).2
    have h2 := bodyT_len (l := p :: l) (fun x hx => h x (List.mem_cons_of_mem _ hx))
    rw [bodyT_cons]
    simp only [List.length_append, List.length_cons] at h2 ⊢
    omega
/-- so many spans a text of that length can say -/
theorem bodyT_few : ∀ {l : List Sp}, AllOk l → 5 * l.length ≤ (bodyT l).length
  | [], _ => Nat.zero_le _
  | [s], h => by have := (oneT_len (h s (by simp))).1; simp only [bodyT, List.length_cons, List.length_nil]; omega
  | s :: p :: l, h => by
    have h1 := (oneT_len (h s (by simp))).1
    have h2 := bodyT_few (l := p :: l) (fun x hx => h x (List.mem_cons_of_mem _ hx))
    rw [bodyT_cons]
    simp only [List.length_append, List.length_cons] at h2 ⊢
    omega
theorem textT_len {l : List Sp} (h : AllOk l) : (textT l).length ≤ 46 * l.length + 4 := by
  unfold textT
  split
  · simp
  · exact Nat.le_trans (bodyT_len h) (Nat.le_add_right _ _)
theorem oneT_no (s : Sp) : ∀ c ∈ oneT s, c ≠ 32 := by
  intro c hc
  unfold oneT at hc
  rcases List.mem_cons.1 hc with h | hc
  · subst h; decide
  · rcases List.mem_append.1 hc with h | hc
    · exact (numC_not (endT_mem _ c h)).2.2.1
    · rcases List.mem_cons.1 hc with h | hc
      · subst h; decide
      · rcases List.mem_append.1 hc with h | hc
        · exact (numC_not (endT_mem _ c h)).2.2.1
        · rw [List.mem_singleton.1 hc]; decide
/-- what stands before the first blank is the first span, if there is a blank -/
theorem body_mid {m : List Sp} {p r : List UInt8} (hm : m ≠ []) (hp : ∀ c ∈ p, c ≠ 32) (h : bodyT m = p ++ 32 :: r) : ∃ x m', m = x :: m' ∧ m' ≠ [] ∧ p = oneT x ∧ r = bodyT m' := by
  match m, hm with
  | [x], _ =>
    exact absurd rfl (oneT_no x 32 (by
      have : oneT x = p ++ 32 :: r := h
      rw [this]; simp))
  | x :: y :: m, _ =>
    rw [bodyT_cons] at h
    obtain ⟨h1, h2⟩ := stop_inj (oneT_no x) hp h
    exact ⟨x, y :: m, rfl, by simp, h1.symm, h2.symm⟩
/-- where no blank stands, there is one span -/
theorem body_end {m : List Sp} {p : List UInt8} (hm : m ≠ []) (hp : ∀ c ∈ p, c ≠ 32) (h : bodyT m = p) : ∃ x, m = [x] ∧ p = oneT x := by
  match m, hm with
  | [x], _ => exact ⟨x, rfl, h.symm⟩
  | x :: y :: m, _ =>
    rw [bodyT_cons] at h
    exact absurd rfl (hp 32 (by rw [← h]; simp))

/-- what reading the text s must say: the set whose text it is, or none -/
def Says (s : List UInt8) (o : Option (List Sp)) : Prop := (∀ l, o = some l → AllOk l ∧ SetL l ∧ textT l = s) ∧ (o = none → ∀ l, AllOk l → SetL l → textT l ≠ s)
theorem says_one {s : List UInt8} {o o' : Option (List Sp)} (h : Says s o) (h' : Says s o') : o = o' := by
  cases o with
  | none => cases o' with
    | none => rfl
    | some l => exact absurd (h'.1 l rfl).2.2 (h.2 rfl l (h'.1 l rfl).1 (h'.1 l rfl).2.1)
  | some l => cases o' with
    | none => exact absurd (h.1 l rfl).2.2 (h'.2 rfl l (h.1 l rfl).1 (h.1 l rfl).2.1)
    | some m =>
      obtain ⟨a1, _, a3⟩ := h.1 l rfl
      obtain ⟨b1, _, b3⟩ := h'.1 m rfl
      rw [textT_inj a1 b1 (a3.trans b3.symm)]
theorem says_back {l : List Sp} (hl : AllOk l) (h : SetL l) : Says (textT l) (some l) := ⟨(fun m e => by cases e; exact ⟨hl, h, rfl⟩), (fun e => by cases e)⟩
/-- what has been read of a text while a reader stands at r: if s is the text of some spans, those read are its first, and r is the text of the rest -/
def Mid (s : List UInt8) (l : List Sp) (r : List UInt8) : Prop := ∀ m, m ≠ [] → AllOk m → bodyT m = s → ∃ m', m = l ++ m' ∧ m' ≠ [] ∧ r = bodyT m'
theorem mid_new (s : List UInt8) : Mid s [] s := fun m hm _ e => ⟨m, rfl, hm, e.symm⟩
theorem mid_step {s r p : List UInt8} {l : List Sp} {x : Sp} (h : Mid s l (p ++ 32 :: r)) (hp : ∀ c ∈ p, c ≠ 32) (hx : ∀ y, SpOk y → p = oneT y → x = y) : Mid s (l ++ [x]) r := fun m hm ok e => by
  obtain ⟨m', e1, e2, e3⟩ := h m hm ok e
  obtain ⟨y, m2, f1, f2, f3, f4⟩ := body_mid e2 hp e3.symm
  subst f1
  have hy := hx y (ok y (by rw [e1]; simp)) f3
  exact ⟨m2, by rw [e1, hy]; simp, f2, f4⟩
theorem mid_end {s p : List UInt8} {l : List Sp} {x : Sp} (h : Mid s l p) (hp : ∀ c ∈ p, c ≠ 32) (hx : ∀ y, SpOk y → p = oneT y → x = y) : ∀ m, m ≠ [] → AllOk m → bodyT m = s → m = l ++ [x] := fun m hm ok e => by
  obtain ⟨m', e1, e2, e3⟩ := h m hm ok e
  obtain ⟨y, f1, f3⟩ := body_end e2 hp e3.symm
  subst f1
  rw [e1, hx y (ok y (by rw [e1]; simp)) f3]
theorem mid_no {s r p : List UInt8} {l : List Sp} (h : Mid s l (p ++ 32 :: r)) (hp : ∀ c ∈ p, c ≠ 32) (hx : ∀ y, SpOk y → p ≠ oneT y) : ∀ m, m ≠ [] → AllOk m → bodyT m ≠ s := fun m hm ok e => by
  obtain ⟨m', e1, e2, e3⟩ := h m hm ok e
  obtain ⟨y, m2, f1, _, f3, _⟩ := body_mid e2 hp e3.symm
  subst f1
  exact hx y (ok y (by rw [e1]; simp)) f3
theorem mid_noEnd {s p : List UInt8} {l : List Sp} (h : Mid s l p) (hp : ∀ c ∈ p, c ≠ 32) (hx : ∀ y, SpOk y → p ≠ oneT y) : ∀ m, m ≠ [] → AllOk m → bodyT m ≠ s := fun m hm ok e => by
  obtain ⟨m', e1, e2, e3⟩ := h m hm ok e
  obtain ⟨y, f1, f3⟩ := body_end e2 hp e3.symm
  subst f1
  exact hx y (ok y (by rw [e1]; simp)) f3
/-- a text that is not the word of the empty set, of no spans at all -/
theorem says_none {s : List UInt8} (h0 : s ≠ [110, 111, 110, 101]) (h : ∀ m, m ≠ [] → AllOk m → SetL m → bodyT m ≠ s) : Says s none := ⟨(fun _ e => by cases e), fun _ l ok hl e => by
  unfold textT at e
  by_cases hn : l = []
  · rw [if_pos hn] at e; exact h0 e.symm
  · rw [if_neg hn] at e; exact h l hn ok hl e⟩
theorem says_nil : Says [110, 111, 110, 101] (some []) := ⟨(fun m e => by cases e; exact ⟨(fun _ h => by cases h), setL_nil, rfl⟩), (fun e => by cases e)⟩
end Go.Proofs.YtfonmgpkbgdniaaGreatDoor
