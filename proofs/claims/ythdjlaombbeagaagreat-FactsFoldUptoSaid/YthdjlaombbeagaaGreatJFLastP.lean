import Derived.Test.YthdjlaombbeagaaGreatJSPure
import Derived.Test.YthdjlaombbeagaaGreatJDPure
/-
  PLAIN FACTS: stretches of one key; how few spans a set has; turns, one behind the other.
-/
namespace Go.Proofs.YthdjlaombbeagaaGreat

section
variable {α κ : Type} [DecidableEq κ] (key : α → κ)
/-- how long the first stretch of one key is -/
def runN : List α → Nat
  | [] => 0
  | x :: l => 1 + (l.takeWhile fun y => decide (key y = key x)).length
theorem runN_pos {l : List α} (h : l ≠ []) : 1 ≤ runN key l := by
  cases l with
  | nil => exact absurd rfl h
  | cons x l => show 1 ≤ 1 + _; omega
theorem takeWhile_len (p : α → Bool) : ∀ l : List α, (l.takeWhile p).length ≤ l.length
  | [] => Nat.le_refl _
  | x :: l => by
    rw [List.takeWhile_cons]
    split
    · have := takeWhile_len p l; simp; omega
    · simp
theorem runN_le (l : List α) : runN key l ≤ l.length := by
  cases l with
  | nil => exact Nat.le_refl _
  | cons x l => have := takeWhile_len (fun y => decide (key y = key x)) l; show 1 + _ ≤ l.length + 1; omega
theorem takeWhile_is (p : α → Bool) : ∀ (l : List α) (n : Nat), n ≤ l.length → (∀ i (h : i < l.length), i < n → p l[i] = true) → (∀ h : n < l.length, p l[n] = false) → (l.takeWhile p).length = n
  | [], n, h, _, _ => by simp at h; simp [h]
  | x :: l, 0, _, _, h2 => by
    have := h2 (by simp)
    rw [List.takeWhile_cons, if_neg (by simpa using this)]; rfl
  | x :: l, n + 1, h, h1, h2 => by
    have h0 := h1 0 (by simp) (by omega)
    rw [List.takeWhile_cons, if_pos (by simpa using h0), List.length_cons]
    rw [takeWhile_is p l n (by simpa using h) (fun i hi hn => by have := h1 (i + 1) (by simp; omega) (by omega); simpa using this) (fun hn => by have := h2 (by simp; omega); simpa using this)]
/-- the counter stands at the stretch's end -/
theorem runN_is {l : List α} {n : Nat} (h0 : 0 < l.length) (hn : 1 ≤ n) (hl : n ≤ l.length) (h1 : ∀ i (h : i < l.length), i < n → key l[i] = key l[0]) (h2 : ∀ h : n < l.length, key l[n] ≠ key l[0]) : runN key l = n := by
  cases l with
  | nil => simp at h0
  | cons x l =>
    show 1 + _ = n
    obtain ⟨m, rfl⟩ : ∃ m, n = m + 1 := ⟨n - 1, by omega⟩
    rw [takeWhile_is (fun y => decide (key y = key x)) l m (by simpa using hl) (fun i hi hm => by have := h1 (i + 1) (by simp; omega) (by omega); simpa using this) (fun hm => by have := h2 (by simp; omega); simpa using this)]
    omega
theorem takeWhile_all (p : α → Bool) : ∀ (l : List α) (y : α), y ∈ l.takeWhile p → p y = true
  | [], y, h => by cases h
  | x :: l, y, h => by
    rw [List.takeWhile_cons] at h
    split at h
    · rename_i hx
      rcases List.mem_cons.1 h with e | h
      · subst e; exact hx
      · exact takeWhile_all p l y h
    · cases h
theorem runN_same {l : List α} {i : Nat} (h : i < l.length) (hn : i < runN key l) : key l[i] = key (l[0]'(by omega)) := by
  cases l with
  | nil => simp at h
  | cons x l =>
    cases i with
    | zero => rfl
    | succ i =>
      have hi : i < (l.takeWhile fun y => decide (key y = key x)).length := by
        have : i + 1 < 1 + (l.takeWhile fun y => decide (key y = key x)).length := hn
        omega
      have hp : l.takeWhile (fun y => decide (key y = key x)) <+: l := List.takeWhile_prefix _
      have hm := takeWhile_all (fun y => decide (key y = key x)) l _ (List.getElem_mem hi)
      have e : (l.takeWhile fun y => decide (key y = key x))[i] = l[i]'(by simp at h; omega) := hp.getElem hi
      rw [e] at hm
      simpa using hm
/-- the stretches of one key, one behind the other -/
def runsL (l : List α) : List (List α) :=
  if _h : l = [] then [] else l.take (runN key l) :: runsL (l.drop (runN key l))
termination_by l.length
decreasing_by
  have h1 := runN_pos key _h
  have h2 : 0 < l.length := List.length_pos_iff.2 _h
  rw [List.length_drop]; omega
theorem runsL_nil : runsL key [] = [] := by rw [runsL]; simp
theorem runsL_step {l : List α} (h : l ≠ []) : runsL key l = l.take (runN key l) :: runsL key (l.drop (runN key l)) := by rw [runsL]; simp [h]
theorem runsL_join : ∀ (n : Nat) (l : List α), l.length ≤ n → (runsL key l).flatten = l
  | 0, l, h => by
    have : l = [] := List.length_eq_zero_iff.1 (by omega)
    subst this; rw [runsL_nil]; rfl
  | n + 1, l, h => by
    by_cases hl : l = []
    · subst hl; rw [runsL_nil]; rfl
    · have h1 := runN_pos key hl
      rw [runsL_step key hl, List.flatten_cons, runsL_join n _ (by rw [List.length_drop]; omega), List.take_append_drop]
theorem runsL_each : ∀ (n : Nat) (l : List α), l.length ≤ n → ∀ r ∈ runsL key l, ∃ x r', r = x :: r' ∧ ∀ y ∈ r, key y = key x
  | 0, l, h, r, hr => by
    have : l = [] := List.length_eq_zero_iff.1 (by omega)
    subst this; rw [runsL_nil] at hr; cases hr
  | n + 1, l, h, r, hr => by
    by_cases hl : l = []
    · subst hl; rw [runsL_nil] at hr; cases hr
    · have h1 := runN_pos key hl
      have h2 := runN_le key l
      have hp : 0 < l.length := List.length_pos_iff.2 hl
      rw [runsL_step key hl] at hr
      rcases List.mem_cons.1 hr with e | hr
      · subst e
        refine ⟨l[0], (l.take (runN key l)).tail, ?_, fun y hy => ?_⟩
        · cases hk : runN key l with
          | zero => omega
          | succ k => cases l with
            | nil => simp at hp
            | cons a b => simp
        · obtain ⟨i, hi, rfl⟩ := List.mem_iff_getElem.1 hy
          rw [List.getElem_take]
          rw [List.length_take] at hi
          exact runN_same key (by omega) (by omega)
      · exact runsL_each n _ (by rw [List.length_drop]; omega) r hr
end

/-- what is said at an instant turns at these instants alone -/
def TurnsAt (E : List Int) (p : Int → Prop) : Prop := ∀ t, t ∉ E → (p t ↔ p (t - 1))
theorem TurnsAt.and {E : List Int} {p q : Int → Prop} (h : TurnsAt E p) (k : TurnsAt E q) : TurnsAt E (fun t => p t ∧ q t) := fun t ht => and_congr (h t ht) (k t ht)
theorem TurnsAt.or {E : List Int} {p q : Int → Prop} (h : TurnsAt E p) (k : TurnsAt E q) : TurnsAt E (fun t => p t ∨ q t) := fun t ht => or_congr (h t ht) (k t ht)
theorem TurnsAt.not {E : List Int} {p : Int → Prop} (h : TurnsAt E p) : TurnsAt E (fun t => ¬ p t) := fun t ht => not_congr (h t ht)
theorem TurnsAt.more {E E' : List Int} {p : Int → Prop} (h : TurnsAt E p) (hE : ∀ x ∈ E, x ∈ E') : TurnsAt E' p := fun t ht => h t fun k => ht (hE t k)
theorem TurnsAt.iff {E : List Int} {p q : Int → Prop} (h : TurnsAt E p) (e : ∀ t, q t ↔ p t) : TurnsAt E q := fun t ht => (e t).trans ((h t ht).trans (e (t - 1)).symm)
/-- the ends of spans -/
def endsP (l : List Sp) : List Int := l.flatMap fun s => [s.1, s.2]
theorem turnsAt_inn (l : List Sp) : TurnsAt (endsP l) (Inn l) := fun t ht => by
  have hn : ∀ s ∈ l, t ≠ s.1 ∧ t ≠ s.2 := fun s hs => by
    constructor
    · rintro rfl; exact ht (List.mem_flatMap.2 ⟨s, hs, by simp⟩)
    · rintro rfl; exact ht (List.mem_flatMap.2 ⟨s, hs, by simp⟩)
  constructor
  · rintro ⟨s, hs, h1, h2⟩
    have := hn s hs
    exact ⟨s, hs, by omega, by omega⟩
  · rintro ⟨s, hs, h1, h2⟩
    have := hn s hs
    exact ⟨s, hs, by omega, by omega⟩
theorem endsP_len (l : List Sp) : (endsP l).length = 2 * l.length := by
  induction l with
  | nil => rfl
  | cons s l ih => unfold endsP at ih ⊢; rw [List.flatMap_cons, List.length_append, ih]; simp; omega
theorem nodup_few {α : Type} : ∀ (a b : List α), a.Nodup → (∀ x ∈ a, x ∈ b) → a.length ≤ b.length
  | [], b, _, _ => Nat.zero_le _
  | x :: r, b, hn, hm => by
    obtain ⟨hx, hr⟩ := List.nodup_cons.1 hn
    obtain ⟨b1, b2, rfl⟩ := List.append_of_mem (hm x (by simp))
    have := nodup_few r (b1 ++ b2) hr fun y hy => by
      have h1 := hm y (by simp [hy])
      have hne : y ≠ x := fun e => hx (by rw [← e]; exact hy)
      simp only [List.mem_append, List.mem_cons] at h1 ⊢
      rcases h1 with h | h | h
      · exact .inl h
      · exact absurd h hne
      · exact .inr h
    simp at this ⊢
    omega
theorem set_apart {l : List Sp} (h : SetL l) {s q : Sp} (hs : s ∈ l) (hq : q ∈ l) : s = q ∨ s.2 < q.1 ∨ q.2 < s.1 := by
  obtain ⟨i, hi, rfl⟩ := List.mem_iff_getElem.1 hs
  obtain ⟨j, hj, rfl⟩ := List.mem_iff_getElem.1 hq
  rcases Nat.lt_trichotomy i j with hij | hij | hij
  · exact .inr (.inl (List.pairwise_iff_getElem.1 h.1 i j hi hj hij))
  · subst hij; exact .inl rfl
  · exact .inr (.inr (List.pairwise_iff_getElem.1 h.1 j i hj hi hij))
theorem set_start {l : List Sp} (h : SetL l) {s : Sp} (hs : s ∈ l) : Inn l s.1 ∧ ¬ Inn l (s.1 - 1) := by
  refine ⟨⟨s, hs, Int.le_refl _, h.2 s hs⟩, ?_⟩
  rintro ⟨q, hq, h1, h2⟩
  have h3 := h.2 s hs
  have h4 := h.2 q hq
  rcases set_apart h hs hq with e | e | e
  · subst e; omega
  · omega
  · omega
theorem set_end {l : List Sp} (h : SetL l) {s : Sp} (hs : s ∈ l) : Inn l (s.2 - 1) ∧ ¬ Inn l s.2 := by
  have h3 := h.2 s hs
  refine ⟨⟨s, hs, by omega, by omega⟩, ?_⟩
  rintro ⟨q, hq, h1, h2⟩
  rcases set_apart h hs hq with e | e | e
  · subst e; omega
  · omega
  · have := h.2 q hq; omega
/-- twice as many, with the ends -/
theorem set_few2 {E : List Int} {l : List Sp} (h : SetL l) (hE : TurnsAt E (Inn l)) : 2 * l.length ≤ E.length := by
  have ha : l.Pairwise fun a b => a.2 < b.1 := h.1
  have hnd : (l.map (·.1) ++ l.map (·.2)).Nodup := by
    rw [List.nodup_append]
    refine ⟨?_, ?_, ?_⟩
    · unfold List.Nodup
      rw [List.pairwise_map, List.pairwise_iff_getElem]
      intro i j hi hj hij
      have h1 := List.pairwise_iff_getElem.1 ha i j hi hj hij
      have h2 := h.2 l[i] (List.getElem_mem hi)
      omega
    · unfold List.Nodup
      rw [List.pairwise_map, List.pairwise_iff_getElem]
      intro i j hi hj hij
      have h1 := List.pairwise_iff_getElem.1 ha i j hi hj hij
      have h2 := h.2 l[j] (List.getElem_mem hj)
      omega
    · intro x hx y hy e
      obtain ⟨s, hs, rfl⟩ := List.mem_map.1 hx
      obtain ⟨q, hq, rfl⟩ := List.mem_map.1 hy
      have h1 := h.2 s hs
      have h2 := h.2 q hq
      rcases set_apart h hs hq with e' | e' | e'
      · subst e'; omega
      · omega
      · omega
  have hm : ∀ x ∈ l.map (·.1) ++ l.map (·.2), x ∈ E := fun x hx => by
    rcases List.mem_append.1 hx with hx | hx
    · obtain ⟨s, hs, rfl⟩ := List.mem_map.1 hx
      obtain ⟨g1, g2⟩ := set_start h hs
      exact Classical.byContradiction fun hn => g2 ((hE _ hn).1 g1)
    · obtain ⟨s, hs, rfl⟩ := List.mem_map.1 hx
      obtain ⟨g1, g2⟩ := set_end h hs
      exact Classical.byContradiction fun hn => g2 ((hE _ hn).2 g1)
  have := nodup_few _ _ hnd hm
  rw [List.length_append, List.length_map, List.length_map] at this
  omega

/-- what transactions make of a triple's instants: first some go, then some come -/
structure TurnP where
  i : List Sp
  o : List Sp
def inT : List TurnP → Int → Prop
  | [], _ => False
  | x :: l, t => (Inn x.i t ∧ ∀ y ∈ l, ¬ Inn y.o t) ∨ inT l t
def outT (l : List TurnP) (t : Int) : Prop := ∃ y ∈ l, Inn y.o t
theorem outT_append (a b : List TurnP) (t : Int) : outT (a ++ b) t ↔ outT a t ∨ outT b t := by
  unfold outT
  constructor
  · rintro ⟨y, hy, h⟩
    rcases List.mem_append.1 hy with k | k
    · exact .inl ⟨y, k, h⟩
    · exact .inr ⟨y, k, h⟩
  · rintro (⟨y, hy, h⟩ | ⟨y, hy, h⟩)
    · exact ⟨y, List.mem_append.2 (.inl hy), h⟩
    · exact ⟨y, List.mem_append.2 (.inr hy), h⟩
theorem inT_append (b : List TurnP) (t : Int) : ∀ a : List TurnP, inT (a ++ b) t ↔ (inT a t ∧ ¬ outT b t) ∨ inT b t
  | [] => by simp [inT]
  | x :: a => by
    have ih := inT_append b t a
    have hd : (∀ y ∈ a ++ b, ¬ Inn y.o t) ↔ (∀ y ∈ a, ¬ Inn y.o t) ∧ ¬ outT b t := by
      unfold outT
      constructor
      · intro h
        exact ⟨fun y hy => h y (List.mem_append.2 (.inl hy)), fun ⟨y, hy, k⟩ => h y (List.mem_append.2 (.inr hy)) k⟩
      · rintro ⟨h1, h2⟩ y hy
        rcases List.mem_append.1 hy with k | k
        · exact h1 y k
        · exact fun k' => h2 ⟨y, k, k'⟩
    show (Inn x.i t ∧ ∀ y ∈ a ++ b, ¬ Inn y.o t) ∨ inT (a ++ b) t ↔ _
    rw [hd, ih]
    show _ ↔ (((Inn x.i t ∧ ∀ y ∈ a, ¬ Inn y.o t) ∨ inT a t) ∧ ¬ outT b t) ∨ inT b t
    constructor
    · rintro (⟨h1, h2, h3⟩ | ⟨h1, h2⟩ | h)
      · exact .inl ⟨.inl ⟨h1, h2⟩, h3⟩
      · exact .inl ⟨.inr h1, h2⟩
      · exact .inr h
    · rintro (⟨⟨h1, h2⟩ | h1, h3⟩ | h)
      · exact .inl ⟨h1, h2, h3⟩
      · exact .inr (.inl ⟨h1, h3⟩)
      · exact .inr (.inr h)
/-- a turn of sets, whose instants turn at E alone -/
structure TurnOk (E : List Int) (x : TurnP) : Prop where
  i : SetL x.i
  o : SetL x.o
  ik : ∀ s ∈ x.i, SpOk s
  ok : ∀ s ∈ x.o, SpOk s
  ie : TurnsAt E (Inn x.i)
  oe : TurnsAt E (Inn x.o)
/-- one turn that is some, one behind the other -/
def Joins (E : List Int) (l : List TurnP) (x : TurnP) : Prop := TurnOk E x ∧ (∀ t, Inn x.i t ↔ inT l t) ∧ ∀ t, Inn x.o t ↔ outT l t
theorem joins_one {E : List Int} {x : TurnP} (h : TurnOk E x) : Joins E [x] x := ⟨h, (fun t => by simp [inT]), fun t => by simp [outT]⟩
theorem joins_then {E : List Int} {a b : List TurnP} {x y z : TurnP} (hx : Joins E a x) (hy : Joins E b y) (hzi : SetL z.i) (hzo : SetL z.o) (hik : ∀ s ∈ z.i, SpOk s) (hok : ∀ s ∈ z.o, SpOk s)
    (h1 : ∀ t, Inn z.i t ↔ (Inn x.i t ∧ ¬ Inn y.o t) ∨ Inn y.i t) (h2 : ∀ t, Inn z.o t ↔ Inn x.o t ∨ Inn y.o t) : Joins E (a ++ b) z := by
  obtain ⟨hx, i1, o1⟩ := hx
  obtain ⟨hy, i2, o2⟩ := hy
  refine ⟨⟨hzi, hzo, hik, hok, ((hx.ie.and hy.oe.not).or hy.ie).iff h1, (hx.oe.or hy.oe).iff h2⟩, fun t => ?_, fun t => ?_⟩
  · rw [h1, inT_append, i1, o2, i2]
  · rw [h2, outT_append, o1, o2]
theorem joins_few {E : List Int} {x : TurnP} (h : TurnOk E x) : 2 * x.i.length ≤ E.length ∧ 2 * x.o.length ≤ E.length := ⟨set_few2 h.i h.ie, set_few2 h.o h.oe⟩
end Go.Proofs.YthdjlaombbeagaaGreat

/-
  PLAIN FACTS: what datoms are folded to.
-/
namespace Go.Proofs.YthdjlaombbeagaaGreat

def spD (d : Dat) : Sp := (d.fr, d.til)
/-- the spans of a transaction's datoms that are Add, and of those that are not -/
def addsL (r : List Dat) : List Sp := (r.filter fun d => d.add).map spD
def cutsL (r : List Dat) : List Sp := (r.filter fun d => !d.add).map spD
def triD (d : Dat) : Int × Int × Int × Int × ByteArray := (d.e, d.a, d.k, d.m, d.s)
/-- A fact. -/
structure FactP where
  e : Int
  a : Int
  k : Int
  m : Int
  s : ByteArray
  l : List Sp
def factD (d : Dat) (l : List Sp) : FactP := ⟨d.e, d.a, d.k, d.m, d.s, l⟩
/-- the turn of one transaction's datoms, as they are said -/
def turnR (r : List Dat) : TurnP := ⟨addsL r, cutsL r⟩
/-- an instant is added and cut -/
def Clash (r : List Dat) : Prop := ∃ t, Inn (addsL r) t ∧ Inn (cutsL r) t
def timesL (run : List Dat) : List (List Dat) := runsL (fun d : Dat => d.t) run
/-- the set of the instants of a triple's datoms -/
def HeldL (run : List Dat) (l : List Sp) : Prop := SetL l ∧ ∀ t, Inn l t ↔ inT ((timesL run).map turnR) t
def factOf (r : List Dat) (l : List Sp) : List FactP := match r with
  | [] => []
  | d :: _ => if l = [] then [] else [factD d l]
def factsOf : List (List Dat) → List (List Sp) → List FactP
  | [], _ => []
  | _ :: _, [] => []
  | r :: rs, l :: ls => factOf r l ++ factsOf rs ls
theorem factsOf_cons (r : List Dat) (rs : List (List Dat)) (l : List Sp) (ls : List (List Sp)) : factsOf (r :: rs) (l :: ls) = factOf r l ++ factsOf rs ls := rfl
def FoldsTo (rs : List (List Dat)) (fs : List FactP) : Prop := ∃ ls : List (List Sp), ls.length = rs.length ∧ (∀ (i : Nat) (r : List Dat) (l : List Sp), rs[i]? = some r → ls[i]? = some l → HeldL r l) ∧ fs = factsOf rs ls
theorem foldsTo_nil : FoldsTo [] [] := ⟨[], rfl, (fun i r l h => by simp at h), rfl⟩
theorem factsOf_snoc : ∀ (rs : List (List Dat)) (ls : List (List Sp)) (r : List Dat) (l : List Sp), ls.length = rs.length → factsOf (rs ++ [r]) (ls ++ [l]) = factsOf rs ls ++ factsOf [r] [l]
  | [], [], r, l, _ => by simp [factsOf]
  | [], _ :: _, _, _, h => by simp at h
  | _ :: _, [], _, _, h => by simp at h
  | a :: rs, b :: ls, r, l, h => by
    have ih := factsOf_snoc rs ls r l (by simpa using h)
    show factsOf (a :: (rs ++ [r])) (b :: (ls ++ [l])) = factsOf (a :: rs) (b :: ls) ++ _
    rw [factsOf_cons, factsOf_cons, ih, List.append_assoc]
theorem foldsTo_snoc {rs : List (List Dat)} {fs : List FactP} {d : Dat} {r : List Dat} {l : List Sp} (h : FoldsTo rs fs) (hl : HeldL (d :: r) l) : FoldsTo (rs ++ [d :: r]) (if l = [] then fs else fs ++ [factD d l]) := by
  obtain ⟨ls, h1, h2, rfl⟩ := h
  refine ⟨ls ++ [l], by simp [h1], fun i q m hq hm => ?_, ?_⟩
  · by_cases hi : i < rs.length
    · rw [List.getElem?_append_left hi] at hq
      rw [List.getElem?_append_left (by omega)] at hm
      exact h2 i q m hq hm
    · rw [List.getElem?_append_right (by omega)] at hq hm
      rw [h1] at hm
      cases hk : i - rs.length with
      | zero => rw [hk] at hq hm; simp at hq hm; subst hq hm; exact hl
      | succ k => rw [hk] at hq; simp at hq
  · rw [factsOf_snoc rs ls _ _ h1]
    by_cases hn : l = []
    · rw [if_pos hn]; simp [factsOf, factOf, hn]
    · rw [if_neg hn]; simp [factsOf, factOf, hn]
theorem factsOf_len : ∀ (rs : List (List Dat)) (ls : List (List Sp)), (factsOf rs ls).length ≤ rs.length
  | [], _ => by simp [factsOf]
  | _ :: _, [] => by simp [factsOf]
  | r :: rs, l :: ls => by
    have ih := factsOf_len rs ls
    rw [factsOf_cons, List.length_append, List.length_cons]
    have : (factOf r l).length ≤ 1 := by
      unfold factOf
      cases r with
      | nil => simp
      | cons d r => simp only; split <;> simp
    omega
theorem foldsTo_len {rs : List (List Dat)} {fs : List FactP} (h : FoldsTo rs fs) : fs.length ≤ rs.length := by
  obtain ⟨ls, _, _, rfl⟩ := h
  exact factsOf_len rs ls
/-- datoms in order go together -/
def Goes (s : List Dat) : Prop := ∀ run ∈ runsL triD s, ∀ once ∈ timesL run, ¬ Clash once
/-- one transaction's turn, as sets -/
def IsTurn (r : List Dat) (x : TurnP) : Prop := SetL x.i ∧ SetL x.o ∧ (∀ t, Inn x.i t ↔ Inn (addsL r) t) ∧ ∀ t, Inn x.o t ↔ Inn (cutsL r) t
theorem inT_same : ∀ {rs : List (List Dat)} {ts : List TurnP}, ts.length = rs.length → (∀ (i : Nat) (r : List Dat) (x : TurnP), rs[i]? = some r → ts[i]? = some x → IsTurn r x) → ∀ t, inT ts t ↔ inT (rs.map turnR) t
  | [], [], _, _, t => by simp [inT]
  | [], _ :: _, h, _, _ => by simp at h
  | _ :: _, [], h, _, _ => by simp at h
  | r :: rs, x :: ts, h, hx, t => by
    have h0 := hx 0 r x rfl rfl
    have ht : ts.length = rs.length := by simpa using h
    have hr : ∀ (i : Nat) (r : List Dat) (x : TurnP), rs[i]? = some r → ts[i]? = some x → IsTurn r x := fun i a b ha hb => hx (i + 1) a b (by simpa using ha) (by simpa using hb)
    have ih := inT_same ht hr t
    have hout : (∀ y ∈ ts, ¬ Inn y.o t) ↔ ∀ y ∈ rs.map turnR, ¬ Inn y.o t := by
      constructor
      · intro hh y hy
        obtain ⟨q, hq, rfl⟩ := List.mem_map.1 hy
        obtain ⟨i, hi, rfl⟩ := List.mem_iff_getElem.1 hq
        have := hr i _ _ (List.getElem?_eq_getElem hi) (List.getElem?_eq_getElem (show i < ts.length by omega))
        exact fun k => hh _ (List.getElem_mem (show i < ts.length by omega)) ((this.2.2.2 t).2 k)
      · intro hh y hy
        obtain ⟨i, hi, rfl⟩ := List.mem_iff_getElem.1 hy
        have := hr i _ _ (List.getElem?_eq_getElem (show i < rs.length by omega)) (List.getElem?_eq_getElem hi)
        exact fun k => hh _ (List.mem_map.2 ⟨_, List.getElem_mem (show i < rs.length by omega), rfl⟩) ((this.2.2.2 t).1 k)
    show (Inn x.i t ∧ ∀ y ∈ ts, ¬ Inn y.o t) ∨ inT ts t ↔ (Inn (addsL r) t ∧ ∀ y ∈ rs.map turnR, ¬ Inn y.o t) ∨ inT (rs.map turnR) t
    rw [h0.2.2.1 t, hout, ih]
/-- all ends of datoms' spans -/
def endsD (s : List Dat) : List Int := s.flatMap fun d => [d.fr, d.til]
theorem endsD_len (s : List Dat) : (endsD s).length = 2 * s.length := by
  induction s with
  | nil => rfl
  | cons d s ih => unfold endsD at ih ⊢; rw [List.flatMap_cons, List.length_append, ih]; simp; omega
theorem ends_of {s r : List Dat} {p : Dat → Bool} (h : ∀ d ∈ r, d ∈ s) : ∀ x ∈ endsP ((r.filter p).map spD), x ∈ endsD s := fun x hx => by
  obtain ⟨q, hq, hx⟩ := List.mem_flatMap.1 hx
  obtain ⟨d, hd, rfl⟩ := List.mem_map.1 hq
  exact List.mem_flatMap.2 ⟨d, h d (List.mem_filter.1 hd).1, hx⟩
theorem turnsAt_adds {s r : List Dat} (h : ∀ d ∈ r, d ∈ s) : TurnsAt (endsD s) (Inn (addsL r)) := (turnsAt_inn _).more (ends_of h)
theorem turnsAt_cuts {s r : List Dat} (h : ∀ d ∈ r, d ∈ s) : TurnsAt (endsD s) (Inn (cutsL r)) := (turnsAt_inn _).more (ends_of h)
theorem isTurn_ok {s r : List Dat} {x : TurnP} (h : ∀ d ∈ r, d ∈ s) (hx : IsTurn r x) (h1 : ∀ q ∈ x.i, SpOk q) (h2 : ∀ q ∈ x.o, SpOk q) : TurnOk (endsD s) x :=
  ⟨hx.1, hx.2.1, h1, h2, (turnsAt_adds h).iff hx.2.2.1, (turnsAt_cuts h).iff hx.2.2.2⟩
theorem joins_held {E : List Int} {run : List Dat} {ts : List TurnP} {x : TurnP} (hj : Joins E ts x) (hl : ts.length = (timesL run).length) (h : ∀ (i : Nat) (r : List Dat) (x : TurnP), (timesL run)[i]? = some r → ts[i]? = some x → IsTurn r x) : HeldL run x.i :=
  ⟨hj.1.i, fun t => (hj.2.1 t).trans (inT_same hl h t)⟩
end Go.Proofs.YthdjlaombbeagaaGreat

/-
  PLAIN FACTS: an instant is in what is folded just if the last datom that names it is Add.
-/
namespace Go.Proofs.YthdjlaombbeagaaGreat

/-- stretches of one key rise, where the keys do -/
theorem runsL_rise {α κ : Type} [DecidableEq κ] (key : α → κ) {R : κ → κ → Prop} (tr : ∀ a b c, R a b → R b c → R a c) : ∀ (n : Nat) (l : List α), l.length ≤ n → l.Pairwise (fun x y => key x = key y ∨ R (key x) (key y)) →
    (runsL key l).Pairwise fun r r' => ∀ x ∈ r, ∀ y ∈ r', R (key x) (key y)
  | 0, l, h, _ => by
    have : l = [] := List.length_eq_zero_iff.1 (by omega)
    subst this; rw [runsL_nil]; exact List.Pairwise.nil
  | n + 1, l, h, hp => by
    by_cases hl : l = []
    · subst hl; rw [runsL_nil]; exact List.Pairwise.nil
    · have h1 := runN_pos key hl
      have h2 := runN_le key l
      have h0 : 0 < l.length := List.length_pos_iff.2 hl
      rw [runsL_step key hl]
      have hd : (l.drop (runN key l)).Pairwise fun x y => key x = key y ∨ R (key x) (key y) := hp.sublist (List.drop_sublist _ _)
      refine List.pairwise_cons.2 ⟨fun r' hr' x hx y hy => ?_, runsL_rise key tr n _ (by rw [List.length_drop]; omega) hd⟩
      have hy' : y ∈ l.drop (runN key l) := by
        rw [← runsL_join key _ (l.drop (runN key l)) (Nat.le_refl _)]
        exact List.mem_flatten.2 ⟨r', hr', hy⟩
      obtain ⟨i, hi, rfl⟩ := List.mem_iff_getElem.1 hx
      obtain ⟨j, hj, rfl⟩ := List.mem_iff_getElem.1 hy'
      rw [List.length_take] at hi
      rw [List.length_drop] at hj
      rw [List.getElem_take, List.getElem_drop, runN_same key (by omega) (by omega)]
      have hlt : runN key l < l.length := by omega
      have hne : key l[runN key l] ≠ key l[0] := fun e => by
        have hs : ∀ i (h : i < l.length), i < runN key l + 1 → key l[i] = key l[0] := fun i hi' hn => by
          by_cases hi2 : i < runN key l
          · exact runN_same key hi' hi2
          · have : i = runN key l := by omega
            subst this; exact e
        cases hx : l with
        | nil => exact hl hx
        | cons a m =>
          have hm : runN key l = 1 + (m.takeWhile fun y => decide (key y = key a)).length := by rw [hx]; rfl
          have hlm : l.length = m.length + 1 := by rw [hx]; rfl
          have h3 : (m.takeWhile fun y => decide (key y = key a)).length < m.length := by omega
          have h4 := takeWhile_stop (fun y => decide (key y = key a)) m h3
          have h5 : l[runN key l] = m[(m.takeWhile fun y => decide (key y = key a)).length] := by
            simp only [hm, Nat.add_comm 1]
            simp only [hx, List.getElem_cons_succ]
          have h6 : l[0] = a := by simp only [hx, List.getElem_cons_zero]
          rw [h5, h6] at e
          simp [e] at h4
      have hq : R (key l[0]) (key l[runN key l]) := by
        rcases List.pairwise_iff_getElem.1 hp 0 (runN key l) h0 hlt (by omega) with e | e
        · exact absurd e.symm hne
        · exact e
      cases j with
      | zero => exact hq
      | succ j =>
        rcases List.pairwise_iff_getElem.1 hp (runN key l) (runN key l + (j + 1)) hlt (by omega) (by omega) with e | e
        · rw [← e]; exact hq
        · exact tr _ _ _ hq e
where
  takeWhile_stop {α : Type} (p : α → Bool) : ∀ (l : List α) (h : (l.takeWhile p).length < l.length), p (l[(l.takeWhile p).length]) = false
    | [], h => by simp at h
    | x :: l, h => by
      by_cases hx : p x = true
      · have e : ((x :: l).takeWhile p).length = (l.takeWhile p).length + 1 := by rw [List.takeWhile_cons, if_pos hx]; rfl
        have := takeWhile_stop p l (by rw [e] at h; simpa using h)
        simp only [e, List.getElem_cons_succ]
        exact this
      · have e : ((x :: l).takeWhile p).length = 0 := by rw [List.takeWhile_cons, if_neg hx]; rfl
        simp only [e, List.getElem_cons_zero]
        simpa using hx

/-- a datom names an instant -/
def Names (d : Dat) (t : Int) : Prop := d.fr ≤ t ∧ t < d.til
theorem inn_adds {r : List Dat} {t : Int} : Inn (addsL r) t ↔ ∃ d ∈ r, d.add = true ∧ Names d t := by
  constructor
  · rintro ⟨s, hs, h⟩
    obtain ⟨d, hd, rfl⟩ := List.mem_map.1 hs
    obtain ⟨h1, h2⟩ := List.mem_filter.1 hd
    exact ⟨d, h1, h2, h⟩
  · rintro ⟨d, h1, h2, h⟩
    exact ⟨spD d, List.mem_map.2 ⟨d, List.mem_filter.2 ⟨h1, h2⟩, rfl⟩, h⟩
theorem inn_cuts {r : List Dat} {t : Int} : Inn (cutsL r) t ↔ ∃ d ∈ r, d.add = false ∧ Names d t := by
  constructor
  · rintro ⟨s, hs, h⟩
    obtain ⟨d, hd, rfl⟩ := List.mem_map.1 hs
    obtain ⟨h1, h2⟩ := List.mem_filter.1 hd
    exact ⟨d, h1, by simpa using h2, h⟩
  · rintro ⟨d, h1, h2, h⟩
    exact ⟨spD d, List.mem_map.2 ⟨d, List.mem_filter.2 ⟨h1, by simpa using h2⟩, rfl⟩, h⟩
/-- of turns that rise in time, with no instant both added and cut in one, an instant is in just if it is in one's, and cut by none behind -/
theorem inT_last : ∀ (rs : List (List Dat)) (t : Int), rs.Pairwise (fun r r' => ∀ x ∈ r, ∀ y ∈ r', x.t < y.t) → (∀ r ∈ rs, ¬ Clash r) → (∀ r ∈ rs, ∀ x ∈ r, ∀ y ∈ r, x.t = y.t) →
    (inT (rs.map turnR) t ↔ ∃ x ∈ rs.flatten, x.add = true ∧ Names x t ∧ ∀ y ∈ rs.flatten, Names y t → y.add = false → y.t < x.t)
  | [], t, _, _, _ => by simp [inT]
  | r :: rs, t, hp, hc, he => by
    obtain ⟨hr, hp'⟩ := List.pairwise_cons.1 hp
    have ih := inT_last rs t hp' (fun q hq => hc q (List.mem_cons_of_mem _ hq)) (fun q hq => he q (List.mem_cons_of_mem _ hq))
    show (Inn (addsL r) t ∧ ∀ y ∈ rs.map turnR, ¬ Inn y.o t) ∨ inT (rs.map turnR) t ↔ _
    rw [ih, inn_adds]
    constructor
    · rintro (⟨⟨x, hx, h1, h2⟩, h3⟩ | ⟨x, hx, h1, h2, h3⟩)
      · refine ⟨x, List.mem_flatten.2 ⟨r, by simp, hx⟩, h1, h2, fun y hy hn ha => ?_⟩
        obtain ⟨q, hq, hyq⟩ := List.mem_flatten.1 hy
        rcases List.mem_cons.1 hq with e | hq
        · subst e
          exact absurd ⟨t, inn_adds.2 ⟨x, hx, h1, h2⟩, inn_cuts.2 ⟨y, hyq, ha, hn⟩⟩ (hc q (by simp))
        · exact absurd (inn_cuts.2 ⟨y, hyq, ha, hn⟩) (h3 (turnR q) (List.mem_map.2 ⟨q, hq, rfl⟩))
      · refine ⟨x, List.mem_flatten.2 ?_, h1, h2, fun y hy hn ha => ?_⟩
        · obtain ⟨q, hq, hxq⟩ := List.mem_flatten.1 hx
          exact ⟨q, List.mem_cons_of_mem _ hq, hxq⟩
        · obtain ⟨q, hq, hyq⟩ := List.mem_flatten.1 hy
          rcases List.mem_cons.1 hq with e | hq
          · subst e
            obtain ⟨q', hq', hxq'⟩ := List.mem_flatten.1 hx
            exact hr q' hq' y hyq x hxq'
          · exact h3 y (List.mem_flatten.2 ⟨q, hq, hyq⟩) hn ha
    · rintro ⟨x, hx, h1, h2, h3⟩
      obtain ⟨q, hq, hxq⟩ := List.mem_flatten.1 hx
      rcases List.mem_cons.1 hq with e | hq
      · subst e
        refine .inl ⟨⟨x, hxq, h1, h2⟩, fun y hy hi => ?_⟩
        obtain ⟨q', hq', rfl⟩ := List.mem_map.1 hy
        obtain ⟨z, hz, ha, hn⟩ := inn_cuts.1 hi
        have := h3 z (List.mem_flatten.2 ⟨q', List.mem_cons_of_mem _ hq', hz⟩) hn ha
        have := hr q' hq' x hxq z hz
        omega
      · refine .inr ⟨x, List.mem_flatten.2 ⟨q, hq, hxq⟩, h1, h2, fun y hy hn ha => ?_⟩
        obtain ⟨q', hq', hy'⟩ := List.mem_flatten.1 hy
        exact h3 y (List.mem_flatten.2 ⟨q', List.mem_cons_of_mem _ hq', hy'⟩) hn ha
end Go.Proofs.YthdjlaombbeagaaGreat
