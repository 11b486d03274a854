import Derived.Test.YtlmihlepaoifiaaJSPure
import Derived.Laws.AppendOwnNone
import Derived.Test.YtlmihlepaoifiaaJSAdd
import Derived.Lib.SliceRun
import Derived.Test.YtlmihlepaoifiaaJDOrd
/-
  FACTS: the instants at which something may turn, rising and each once; the set that they cut out.
-/
namespace Go.Proofs.Ytlmihlepaoifiaa

def insR : List Int → Int → List Int
  | [], n => [n]
  | x :: l, n => if x < n then x :: insR l n else if x = n then x :: l else n :: x :: l
def Rises (l : List Int) : Prop := l.Pairwise (· < ·)
theorem insR_mem : ∀ (l : List Int) (n x : Int), x ∈ insR l n ↔ x = n ∨ x ∈ l
  | [], n, x => by simp [insR]
  | y :: l, n, x => by
    unfold insR
    split
    · simp only [List.mem_cons, insR_mem l n x]
      exact ⟨fun h => by rcases h with h | h | h <;> simp [h], fun h => by rcases h with h | h | h <;> simp [h]⟩
    · split
      · rename_i h
        subst h
        simp only [List.mem_cons]
        exact ⟨fun h => .inr h, fun h => by rcases h with h | h | h <;> simp [h]⟩
      · simp only [List.mem_cons]
theorem insR_rises : ∀ (l : List Int) (n : Int), Rises l → Rises (insR l n)
  | [], n, _ => List.pairwise_singleton _ _
  | y :: l, n, h => by
    obtain ⟨h1, h2⟩ := List.pairwise_cons.1 h
    unfold insR
    split
    · refine List.pairwise_cons.2 ⟨fun x hx => ?_, insR_rises l n h2⟩
      rcases (insR_mem l n x).1 hx with rfl | hx
      · assumption
      · exact h1 x hx
    · split
      · exact h
      · refine List.pairwise_cons.2 ⟨fun x hx => ?_, h⟩
        rcases List.mem_cons.1 hx with rfl | hx
        · omega
        · have := h1 x hx
          omega
def flatE (l : List Sp) : List Int := l.flatMap (fun s => [s.1, s.2])
def endsF (l : List Int) : List Int := l.foldl insR []
def endsL (l : List Sp) : List Int := endsF (flatE l)
theorem fold_mem : ∀ (l acc : List Int) (x : Int), x ∈ l.foldl insR acc ↔ x ∈ l ∨ x ∈ acc
  | [], acc, x => by simp
  | y :: l, acc, x => by
    rw [List.foldl_cons, fold_mem l, insR_mem, List.mem_cons]
    exact ⟨fun h => by rcases h with h | h | h <;> simp [h], fun h => by rcases h with (h | h) | h <;> simp [h]⟩
theorem fold_rises : ∀ (l acc : List Int), Rises acc → Rises (l.foldl insR acc)
  | [], _, h => h
  | y :: l, acc, h => by
    rw [List.foldl_cons]
    exact fold_rises l _ (insR_rises acc y h)
theorem endsL_mem (l : List Sp) (x : Int) : x ∈ endsL l ↔ ∃ s ∈ l, x = s.1 ∨ x = s.2 := by
  unfold endsL endsF
  rw [fold_mem]
  unfold flatE
  simp [List.mem_flatMap]
theorem endsL_rises (l : List Sp) : Rises (endsL l) := fold_rises _ [] List.Pairwise.nil
/-- the set that ends cut out: the stretches between two ends that are wanted -/
def ofL (f : Bool → Bool → Bool) (a b : List Sp) : List Sp → List Int → List Sp
  | acc, x :: y :: r => ofL f a b (if f (innB a x) (innB b x) then addL acc (x, y) else acc) (y :: r)
  | acc, [_] => acc
  | acc, [] => acc
theorem innB_same {a : List Sp} {x t : Int} (h : ∀ s ∈ a, (s.1 ≤ t ↔ s.1 ≤ x) ∧ (t < s.2 ↔ x < s.2)) : innB a t = innB a x := by
  unfold innB
  refine decide_eq_decide.2 ⟨fun ⟨s, hs, h1, h2⟩ => ⟨s, hs, ((h s hs).1).1 h1, ((h s hs).2).1 h2⟩, fun ⟨s, hs, h1, h2⟩ => ⟨s, hs, ((h s hs).1).2 h1, ((h s hs).2).2 h2⟩⟩
theorem innB_no {a : List Sp} {t : Int} (h : ∀ s ∈ a, ¬ (s.1 ≤ t ∧ t < s.2)) : innB a t = false := decide_eq_false fun ⟨s, hs, h1, h2⟩ => h s hs ⟨h1, h2⟩
def Cuts (l : List Sp) (x : Int) (r : List Int) : Prop := ∀ s ∈ l, (s.1 ≤ x ∨ s.1 ∈ r) ∧ (s.2 ≤ x ∨ s.2 ∈ r)
theorem of_in (f : Bool → Bool → Bool) (hf : f false false = false) (a b : List Sp) : ∀ (r : List Int) (x : Int) (acc : List Sp), Rises (x :: r) → Cuts a x r → Cuts b x r → SetL acc → (∀ q ∈ acc, q.1 ≤ x) →
    SetL (ofL f a b acc (x :: r)) ∧ ∀ t, Inn (ofL f a b acc (x :: r)) t ↔ Inn acc t ∨ (x ≤ t ∧ f (innB a t) (innB b t) = true)
  | [], x, acc, _, ha, hb, hs, _ => by
    refine ⟨hs, fun t => ⟨.inl, fun h => ?_⟩⟩
    rcases h with h | ⟨ht, h⟩
    · exact h
    · have h1 : innB a t = false := innB_no fun s hs ⟨_, k⟩ => by
        rcases (ha s hs).2 with h9 | h9
        · omega
        · cases h9
      have h2 : innB b t = false := innB_no fun s hs ⟨_, k⟩ => by
        rcases (hb s hs).2 with h9 | h9
        · omega
        · cases h9
      rw [h1, h2, hf] at h
      cases h
  | y :: r, x, acc, hr, ha, hb, hs, hq => by
    obtain ⟨hr1, hr2⟩ := List.pairwise_cons.1 hr
    have hxy := hr1 y (by simp)
    have hry := (List.pairwise_cons.1 hr2).1
    have hge : ∀ z ∈ y :: r, y ≤ z := fun z hz => by
      rcases List.mem_cons.1 hz with rfl | hz
      · exact Int.le_refl _
      · exact Int.le_of_lt (hry z hz)
    have same : ∀ l : List Sp, Cuts l x (y :: r) → ∀ t, x ≤ t → t < y → innB l t = innB l x := fun l hl t h1 h2 => innB_same fun s hs => by
      obtain ⟨k1, k2⟩ := hl s hs
      have k1' : s.1 ≤ x ∨ y ≤ s.1 := k1.imp id (hge _)
      have k2' : s.2 ≤ x ∨ y ≤ s.2 := k2.imp id (hge _)
      omega
    have next : ∀ l : List Sp, Cuts l x (y :: r) → Cuts l y r := fun l hl s hs => by
      obtain ⟨k1, k2⟩ := hl s hs
      refine ⟨?_, ?_⟩
      · rcases k1 with k | k
        · exact .inl (by omega)
        · rcases List.mem_cons.1 k with k | k
          · exact .inl (by omega)
          · exact .inr k
      · rcases k2 with k | k
        · exact .inl (by omega)
        · rcases List.mem_cons.1 k with k | k
          · exact .inl (by omega)
          · exact .inr k
    unfold ofL
    have key : SetL (if f (innB a x) (innB b x) = true then addL acc (x, y) else acc) ∧ (∀ t, Inn (if f (innB a x) (innB b x) = true then addL acc (x, y) else acc) t ↔ Inn acc t ∨ (x ≤ t ∧ t < y ∧ f (innB a t) (innB b t) = true)) ∧ ∀ q ∈ (if f (innB a x) (innB b x) = true then addL acc (x, y) else acc), q.1 ≤ y := by
      by_cases h : f (innB a x) (innB b x) = true
      · rw [if_pos h]
        obtain ⟨g1, g2, g3⟩ := addL_set hs (s := (x, y)) hxy hq
        refine ⟨g1, fun t => ?_, fun q hq' => Int.le_trans (g3 q hq') (Int.le_of_lt hxy)⟩
        rw [g2]
        refine or_congr Iff.rfl ⟨fun ⟨k1, k2⟩ => ⟨k1, k2, ?_⟩, fun ⟨k1, k2, _⟩ => ⟨k1, k2⟩⟩
        rw [same a ha t k1 k2, same b hb t k1 k2]
        exact h
      · rw [if_neg h]
        refine ⟨hs, fun t => ⟨.inl, fun k => ?_⟩, fun q hq' => Int.le_trans (hq q hq') (Int.le_of_lt hxy)⟩
        rcases k with k | ⟨k1, k2, k3⟩
        · exact k
        · rw [same a ha t k1 k2, same b hb t k1 k2] at k3
          exact absurd k3 h
    obtain ⟨i1, i2⟩ := of_in f hf a b r y _ hr2 (next a ha) (next b hb) key.1 key.2.2
    refine ⟨i1, fun t => ?_⟩
    rw [i2, key.2.1]
    refine ⟨fun h => ?_, fun h => ?_⟩
    · rcases h with (h | ⟨k1, _, k3⟩) | ⟨k1, k2⟩
      · exact .inl h
      · exact .inr ⟨k1, k3⟩
      · exact .inr ⟨by omega, k2⟩
    · rcases h with h | ⟨k1, k2⟩
      · exact .inl (.inl h)
      · by_cases ht : t < y
        · exact .inl (.inr ⟨k1, ht, k2⟩)
        · exact .inr ⟨by omega, k2⟩
/-- What the ends cut out is a set, and has what is wanted. -/
theorem of_set (f : Bool → Bool → Bool) (hf : f false false = false) (a b : List Sp) : SetL (ofL f a b [] (endsL (a ++ b))) ∧ ∀ t, innB (ofL f a b [] (endsL (a ++ b))) t = f (innB a t) (innB b t) := by
  have hm := endsL_mem (a ++ b)
  have hr := endsL_rises (a ++ b)
  have main : SetL (ofL f a b [] (endsL (a ++ b))) ∧ ∀ t, Inn (ofL f a b [] (endsL (a ++ b))) t ↔ f (innB a t) (innB b t) = true := by
    cases he : endsL (a ++ b) with
    | nil =>
      rw [he] at hm
      have none_ : ∀ s, s ∈ a ++ b → False := fun s hs => by
        have := (hm s.1).2 ⟨s, hs, .inl rfl⟩
        cases this
      refine ⟨setL_nil, fun t => ?_⟩
      rw [innB_no (a := a) (fun s hs => (none_ s (by simp [hs])).elim), innB_no (a := b) (fun s hs => (none_ s (by simp [hs])).elim), hf]
      exact ⟨fun h => absurd h (inn_nil t), fun h => by cases h⟩
    | cons x r =>
      rw [he] at hm hr
      have cut : ∀ s, s ∈ a ++ b → (s.1 ≤ x ∨ s.1 ∈ r) ∧ (s.2 ≤ x ∨ s.2 ∈ r) := fun s hs => by
        refine ⟨?_, ?_⟩
        · rcases List.mem_cons.1 ((hm s.1).2 ⟨s, hs, .inl rfl⟩) with k | k
          · exact .inl (by omega)
          · exact .inr k
        · rcases List.mem_cons.1 ((hm s.2).2 ⟨s, hs, .inr rfl⟩) with k | k
          · exact .inl (by omega)
          · exact .inr k
      obtain ⟨i1, i2⟩ := of_in f hf a b r x [] hr (fun s hs => cut s (by simp [hs])) (fun s hs => cut s (by simp [hs])) setL_nil (fun _ h => by cases h)
      refine ⟨i1, fun t => ?_⟩
      rw [i2]
      refine ⟨fun h => ?_, fun h => .inr ⟨?_, h⟩⟩
      · rcases h with h | h
        · exact absurd h (inn_nil t)
        · exact h.2
      · by_cases hx : x ≤ t
        · exact hx
        · have low : ∀ s, s ∈ a ++ b → ¬ (s.1 ≤ t ∧ t < s.2) := fun s hs ⟨k, _⟩ => by
            rcases List.mem_cons.1 ((hm s.1).2 ⟨s, hs, .inl rfl⟩) with k9 | k9
            · omega
            · have := (List.pairwise_cons.1 hr).1 _ k9
              omega
          rw [innB_no (a := a) (fun s hs => low s (by simp [hs])), innB_no (a := b) (fun s hs => low s (by simp [hs])), hf] at h
          cases h
  refine ⟨main.1, fun t => ?_⟩
  unfold innB
  by_cases h : f (innB a t) (innB b t) = true
  · rw [decide_eq_true ((main.2 t).2 h)]
    exact h.symm
  · rw [decide_eq_false (fun k => h ((main.2 t).1 k))]
    cases hh : f (innB a t) (innB b t) with
    | true => exact absurd hh h
    | false =>
      unfold innB at hh
      exact hh.symm
end Go.Proofs.Ytlmihlepaoifiaa

/-
  CONTRACT of the document's own answer: ends (the instants at which something may turn).
-/
namespace Go.Proofs.Ytlmihlepaoifiaa
open Go.RowKit

def valI (n : Int) : Value := .int .i64 n
/-- a slice of numbers in blocks from B on, which the call has to itself -/
def OwnI (W : World) (B : Nat) (v : Value) (l : List Int) : Prop := W.ownsRow B 2 1 v l.length (l.map valI)
theorem OwnI.low {W : World} {B B' : Nat} {v : Value} {l : List Int} (h : OwnI W B v l) (hB : B' ≤ B) : OwnI W B' v l := by
  refine ⟨h.1, ?_⟩
  rcases h.2 with h | ⟨g, cap, cur, h1, h2, h3⟩
  · exact .inl h
  · exact .inr ⟨g, cap, cur, h1, by omega, h3⟩
theorem OwnI.form {W : World} {B : Nat} {v : Value} {l : List Int} (h : OwnI W B v l) : (v = .slice none 0 0 ∧ l = []) ∨ ∃ g cap, v = .slice (some ⟨g, 0, none⟩) l.length cap ∧ l.length ≤ cap ∧ cap ≤ maxLen ∧ B ≤ g ∧ g < W.heap.size ∧ ∀ (j : Nat) (x : Int), l[j]? = some x → W.cell? ⟨g, j, none⟩ = some (valI x) := by
  have hr := h
  rcases h.2 with ⟨rfl, h0⟩ | ⟨g, cap, cur, rfl, hB, hg, h1, h2, _⟩
  · exact .inl ⟨rfl, List.length_eq_zero_iff.1 h0⟩
  · refine .inr ⟨g, cap, rfl, h1, h2, hB, (Array.getElem?_eq_some_iff.1 hg).1, fun j x hx => ?_⟩
    have hj : j < l.length := (List.getElem?_eq_some_iff.1 hx).1
    have hr' : W.ownsRow B 2 1 (.slice (some ⟨g, 0, none⟩) l.length cap) l.length (l.map valI) := hr
    rw [hr'.cellAt j (by omega), List.getElem?_map, hx]
    rfl
theorem OwnI.drewN {W : World} {B : Nat} {v : Value} {l : List Int} (h : OwnI W B v l) (n : Nat) : OwnI (W.drewN n) B v l := h
theorem OwnI.next {W W' : World} {B : Nat} {v : Value} {l : List Int} (h : OwnI W B v l) (hb : Below W.heap.size W W') : OwnI W' B v l := by
  refine World.ownsRow.kept (row := none) h ⟨hb.os, hb.tape, hb.output, hb.size, fun k hk _ => hb.block k hk⟩ ?_
  cases hv : v.ownBlock with
  | none => exact .inl rfl
  | some g => exact .inr (fun e => by cases e)
theorem addI (g o j : Nat) : Addr.add ⟨g, o, none⟩ j = ⟨g, o + j, none⟩ := by
  unfold Addr.add
  split
  · subst_vars; rfl
  · rfl
end Go.Proofs.Ytlmihlepaoifiaa

/-
  RULE: appending a slice that may be nil to a slice that the call has to itself.
-/
namespace Go.Proofs.Ytlmihlepaoifiaa
open Go.RowKit

end Go.Proofs.Ytlmihlepaoifiaa

/-
  SLICES OF VALUES; CONTRACT: slices.Clone at values.
-/
namespace Go.Proofs.Ytlmihlepaoifiaa
open Go.RowKit Go.Shelf

/-- one value's cells -/
structure VlAt (W : World) (b o : Nat) (v : Vl) : Prop where
  c0 : W.cell? ⟨b, o, none⟩ = some (.int .i64 v.1)
  c1 : W.cell? ⟨b, o + 1, none⟩ = some (.int .i64 v.2.1)
  c2 : W.cell? ⟨b, o + 2, none⟩ = some (.string v.2.2)
/-- a slice that reads as these values, in blocks below B -/
def SlV (W : World) (B : Nat) (A : Option Addr) (l : List Vl) : Prop :=
  l ≠ [] → ∃ b o, A = some ⟨b, o, none⟩ ∧ b < B ∧ ∀ (j : Nat) (v : Vl), l[j]? = some v → VlAt W b (o + j * 3) v
theorem VlAt.next {W W' : World} {B b o : Nat} {v : Vl} (h : VlAt W b o v) (hb : Below B W W') (hB : b < B) : VlAt W' b o v :=
  ⟨(hb.cell (p := ⟨b, o, none⟩) hB).trans h.c0, (hb.cell (p := ⟨b, o + 1, none⟩) hB).trans h.c1, (hb.cell (p := ⟨b, o + 2, none⟩) hB).trans h.c2⟩
theorem SlV.next {W W' : World} {B : Nat} {A : Option Addr} {l : List Vl} (h : SlV W B A l) {B' : Nat} (hb : Below B' W W') (hB : B ≤ B') : SlV W' B A l := fun hl => by
  obtain ⟨b, o, e, hlt, hc⟩ := h hl
  exact ⟨b, o, e, hlt, fun j p hp => (hc j p hp).next hb (by omega)⟩
theorem SlV.more {W : World} {B B' : Nat} {A : Option Addr} {l : List Vl} (h : SlV W B A l) (hB : B ≤ B') : SlV W B' A l := fun hl => by
  obtain ⟨b, o, e, hlt, hc⟩ := h hl
  exact ⟨b, o, e, by omega, hc⟩
theorem SlV.at_ {W : World} {B : Nat} {A : Option Addr} {l : List Vl} (h : SlV W B A l) {j : Nat} (hj : j < l.length) : ∃ b o, A = some ⟨b, o, none⟩ ∧ b < B ∧ VlAt W b (o + j * 3) l[j] := by
  obtain ⟨b, o, e, hlt, hc⟩ := h (by intro e; rw [e] at hj; simp at hj)
  exact ⟨b, o, e, hlt, hc j _ (List.getElem?_eq_getElem hj)⟩
/-- a slice of values in blocks from B on, which the call has to itself -/
def OwnV (W : World) (B : Nat) (v : Value) (l : List Vl) : Prop := W.ownsRow B 27 3 v l.length (l.flatMap cellsV)
theorem flatV {l : List Vl} {j i : Nat} (hi : i < 3) : (l.flatMap cellsV)[j * 3 + i]? = l[j]?.bind fun x => (cellsV x)[i]? := flatG cellsV_len hi
theorem OwnV.slv {W : World} {B : Nat} {v : Value} {l : List Vl} (h : OwnV W B v l) : ∃ A c, v = .slice A l.length c ∧ SlV W W.heap.size A l ∧ l.length ≤ c ∧ c ≤ maxLen := by
  rcases h.2 with ⟨rfl, h0⟩ | ⟨g, cap, cur, rfl, _, hgb, h1, h2, _⟩
  · exact ⟨none, 0, by rw [h0], fun hl => absurd (List.length_eq_zero_iff.1 h0) hl, by omega, Nat.zero_le _⟩
  · refine ⟨_, _, rfl, fun _ => ⟨g, 0, rfl, (Array.getElem?_eq_some_iff.1 hgb).1, fun j p hp => ?_⟩, h1, h2⟩
    have hr : W.ownsRow B 27 3 (.slice (some ⟨g, 0, none⟩) l.length cap) l.length (l.flatMap cellsV) := h
    have hj : j < l.length := (List.getElem?_eq_some_iff.1 hp).1
    have hc : ∀ i, i < 3 → W.cell? ⟨g, j * 3 + i, none⟩ = (cellsV p)[i]? := fun i hi => by
      rw [hr.cellAt (j * 3 + i) (by omega), flatV hi, hp]; rfl
    rw [Nat.zero_add]
    exact ⟨hc 0 (by omega), hc 1 (by omega), hc 2 (by omega)⟩
end Go.Proofs.Ytlmihlepaoifiaa
