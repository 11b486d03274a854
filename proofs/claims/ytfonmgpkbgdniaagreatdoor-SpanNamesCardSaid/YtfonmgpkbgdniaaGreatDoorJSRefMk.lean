import Derived.Test.YtfonmgpkbgdniaaGreatDoorJSPure
import Derived.Laws.AppendOwnNone
import Derived.Test.YtfonmgpkbgdniaaGreatDoorJSAdd
import Derived.Test.YtfonmgpkbgdniaaGreatDoorJSSet
/-
  FACTS: the instants at which something may turn, rising and each once; the set that they cut out.
-/
namespace Go.Proofs.YtfonmgpkbgdniaaGreatDoor

def insR : List Int → Int → List Int
  | [], n => [n]
  | x :: l, n => if x < n then x :: insR l n else if x = n then x :: l else n :: x :: l
def cntR : List Int → Int → Nat
  | [], _ => 0
  | x :: l, n => if x < n then cntR l n + 1 else 0
theorem cntR_le : ∀ (l : List Int) (n : Int), cntR l n ≤ l.length
  | [], _ => Nat.le_refl _
  | x :: l, n => by
    have := cntR_le l n
    unfold cntR
    split <;> simp <;> omega
theorem insR_cut : ∀ (l : List Int) (n : Int), insR l n = if l[cntR l n]? = some n then l else l.take (cntR l n) ++ n :: l.drop (cntR l n)
  | [], n => by simp [insR, cntR]
  | x :: l, n => by
    unfold insR cntR
    by_cases h : x < n
    · simp only [if_pos h, insR_cut l n, List.getElem?_cons_succ]
      split <;> simp
    · simp only [if_neg h, List.getElem?_cons_zero, Option.some.injEq]
      split <;> simp
theorem cntR_of : ∀ (l : List Int) (n : Int) (j : Nat), j ≤ l.length → (∀ i x, i < j → l[i]? = some x → x < n) → (∀ x, l[j]? = some x → ¬ x < n) → cntR l n = j
  | [], n, j, hj, _, _ => by simp at hj; simp [cntR, hj]
  | x :: l, n, 0, _, _, h => by
    unfold cntR
    rw [if_neg (h x rfl)]
  | x :: l, n, j + 1, hj, h1, h2 => by
    unfold cntR
    rw [if_pos (h1 0 x (by omega) rfl), cntR_of l n j (by simp at hj; omega) (fun i y hi hy => h1 (i + 1) y (by omega) (by simpa using hy)) (fun y hy => h2 y (by simpa using hy))]
def Rises (l : List Int) : Prop := l.Pairwise (· < ·)
theorem insR_mem : ∀ (l : List Int) (n x : Int), x ∈ insR l n ↔ x = n ∨ x ∈ l
  | [], n, x => by simp [insR]
  | y :: l, n, x => by
    unfold insR
    split
    · simp only [List.mem_cons, insR_mem l n x]
      exact ⟨fun h => by rcases h with h | h | h <;> simp [h], fun h => by rcases h with h | h | h <;> simp [h]⟩
    · split
      · rename_i h
        subst h
        simp only [List.mem_cons]
        exact ⟨fun h => .inr h, fun h => by rcases h with h | h | h <;> simp [h]⟩
      · simp only [List.mem_cons]
theorem insR_rises : ∀ (l : List Int) (n : Int), Rises l → Rises (insR l n)
  | [], n, _ => List.pairwise_singleton _ _
  | y :: l, n, h => by
    obtain ⟨h1, h2⟩ := List.pairwise_cons.1 h
    unfold insR
    split
    · refine List.pairwise_cons.2 ⟨fun x hx => ?_, insR_rises l n h2⟩
      rcases (insR_mem l n x).1 hx with rfl | hx
      · assumption
      · exact h1 x hx
    · split
      · exact h
      · refine List.pairwise_cons.2 ⟨fun x hx => ?_, h⟩
        rcases List.mem_cons.1 hx with rfl | hx
        · omega
        · have := h1 x hx
          omega
theorem insR_len (l : List Int) (n : Int) : (insR l n).length ≤ l.length + 1 := by
  induction l with
  | nil => simp [insR]
  | cons y l ih =>
    unfold insR
    split
    · simp; omega
    · split <;> simp
def flatE (l : List Sp) : List Int := l.flatMap (fun s => [s.1, s.2])
def endsF (l : List Int) : List Int := l.foldl insR []
def endsL (l : List Sp) : List Int := endsF (flatE l)
theorem endsF_snoc (l : List Int) (n : Int) : endsF (l ++ [n]) = insR (endsF l) n := by unfold endsF; rw [List.foldl_append]; rfl
theorem fold_mem : ∀ (l acc : List Int) (x : Int), x ∈ l.foldl insR acc ↔ x ∈ l ∨ x ∈ acc
  | [], acc, x => by simp
  | y :: l, acc, x => by
    rw [List.foldl_cons, fold_mem l, insR_mem, List.mem_cons]
    exact ⟨fun h => by rcases h with h | h | h <;> simp [h], fun h => by rcases h with (h | h) | h <;> simp [h]⟩
theorem fold_rises : ∀ (l acc : List Int), Rises acc → Rises (l.foldl insR acc)
  | [], _, h => h
  | y :: l, acc, h => by
    rw [List.foldl_cons]
    exact fold_rises l _ (insR_rises acc y h)
theorem fold_len : ∀ (l acc : List Int), (l.foldl insR acc).length ≤ l.length + acc.length
  | [], _ => by simp
  | y :: l, acc => by
    rw [List.foldl_cons]
    have := fold_len l (insR acc y)
    have := insR_len acc y
    simp only [List.length_cons]
    omega
theorem flatE_len (l : List Sp) : (flatE l).length = 2 * l.length := by
  unfold flatE
  induction l with
  | nil => rfl
  | cons s l ih => rw [List.flatMap_cons, List.length_append, ih, List.length_cons, List.length_cons, List.length_cons, List.length_nil]; omega
theorem flatE_from : ∀ (l : List Sp) (k : Nat) (s : Sp), l[k]? = some s → (flatE l)[2 * k]? = some s.1 ∧ (flatE l)[2 * k + 1]? = some s.2
  | [], _, _, h => by simp at h
  | p :: l, 0, s, h => by
    simp only [List.getElem?_cons_zero, Option.some.injEq] at h
    subst h
    exact ⟨rfl, rfl⟩
  | p :: l, k + 1, s, h => by
    have := flatE_from l k s (by simpa using h)
    rw [show 2 * (k + 1) = 2 * k + 1 + 1 from by omega]
    exact this
theorem endsL_mem (l : List Sp) (x : Int) : x ∈ endsL l ↔ ∃ s ∈ l, x = s.1 ∨ x = s.2 := by
  unfold endsL endsF
  rw [fold_mem]
  unfold flatE
  simp [List.mem_flatMap]
theorem endsL_rises (l : List Sp) : Rises (endsL l) := fold_rises _ [] List.Pairwise.nil
theorem endsL_len (l : List Sp) : (endsL l).length ≤ 2 * l.length := by
  have := fold_len (flatE l) []
  rw [flatE_len] at this
  exact this
/-- the set that ends cut out: the stretches between two ends that are wanted -/
def ofL (f : Bool → Bool → Bool) (a b : List Sp) : List Sp → List Int → List Sp
  | acc, x :: y :: r => ofL f a b (if f (innB a x) (innB b x) then addL acc (x, y) else acc) (y :: r)
  | acc, [_] => acc
  | acc, [] => acc
theorem innB_same {a : List Sp} {x t : Int} (h : ∀ s ∈ a, (s.1 ≤ t ↔ s.1 ≤ x) ∧ (t < s.2 ↔ x < s.2)) : innB a t = innB a x := by
  unfold innB
  refine decide_eq_decide.2 ⟨fun ⟨s, hs, h1, h2⟩ => ⟨s, hs, ((h s hs).1).1 h1, ((h s hs).2).1 h2⟩, fun ⟨s, hs, h1, h2⟩ => ⟨s, hs, ((h s hs).1).2 h1, ((h s hs).2).2 h2⟩⟩
theorem innB_no {a : List Sp} {t : Int} (h : ∀ s ∈ a, ¬ (s.1 ≤ t ∧ t < s.2)) : innB a t = false := decide_eq_false fun ⟨s, hs, h1, h2⟩ => h s hs ⟨h1, h2⟩
def Cuts (l : List Sp) (x : Int) (r : List Int) : Prop := ∀ s ∈ l, (s.1 ≤ x ∨ s.1 ∈ r) ∧ (s.2 ≤ x ∨ s.2 ∈ r)
theorem of_in (f : Bool → Bool → Bool) (hf : f false false = false) (a b : List Sp) : ∀ (r : List Int) (x : Int) (acc : List Sp), Rises (x :: r) → Cuts a x r → Cuts b x r → SetL acc → (∀ q ∈ acc, q.1 ≤ x) →
    SetL (ofL f a b acc (x :: r)) ∧ ∀ t, Inn (ofL f a b acc (x :: r)) t ↔ Inn acc t ∨ (x ≤ t ∧ f (innB a t) (innB b t) = true)
  | [], x, acc, _, ha, hb, hs, _ => by
    refine ⟨hs, fun t => ⟨.inl, fun h => ?_⟩⟩
    rcases h with h | ⟨ht, h⟩
    · exact h
    · have h1 : innB a t = false := innB_no fun s hs ⟨_, k⟩ => by
        rcases (ha s hs).2 with h9 | h9
        · omega
        · cases h9
      have h2 : innB b t = false := innB_no fun s hs ⟨_, k⟩ => by
        rcases (hb s hs).2 with h9 | h9
        · omega
        · cases h9
      rw [h1, h2, hf] at h
      cases h
  | y :: r, x, acc, hr, ha, hb, hs, hq => by
    obtain ⟨hr1, hr2⟩ := List.pairwise_cons.1 hr
    have hxy := hr1 y (by simp)
    have hry := (List.pairwise_cons.1 hr2).1
    have hge : ∀ z ∈ y :: r, y ≤ z := fun z hz => by
      rcases List.mem_cons.1 hz with rfl | hz
      · exact Int.le_refl _
      · exact Int.le_of_lt (hry z hz)
    have same : ∀ l : List Sp, Cuts l x (y :: r) → ∀ t, x ≤ t → t < y → innB l t = innB l x := fun l hl t h1 h2 => innB_same fun s hs => by
      obtain ⟨k1, k2⟩ := hl s hs
      have k1' : s.1 ≤ x ∨ y ≤ s.1 := k1.imp id (hge _)
      have k2' : s.2 ≤ x ∨ y ≤ s.2 := k2.imp id (hge _)
      omega
    have next : ∀ l : List Sp, Cuts l x (y :: r) → Cuts l y r := fun l hl s hs => by
      obtain ⟨k1, k2⟩ := hl s hs
      refine ⟨?_, ?_⟩
      · rcases k1 with k | k
        · exact .inl (by omega)
        · rcases List.mem_cons.1 k with k | k
          · exact .inl (by omega)
          · exact .inr k
      · rcases k2 with k | k
        · exact .inl (by omega)
        · rcases List.mem_cons.1 k with k | k
          · exact .inl (by omega)
          · exact .inr k
    unfold ofL
    have key : SetL (if f (innB a x) (innB b x) = true then addL acc (x, y) else acc) ∧ (∀ t, Inn (if f (innB a x) (innB b x) = true then addL acc (x, y) else acc) t ↔ Inn acc t ∨ (x ≤ t ∧ t < y ∧ f (innB a t) (innB b t) = true)) ∧ ∀ q ∈ (if f (innB a x) (innB b x) = true then addL acc (x, y) else acc), q.1 ≤ y := by
      by_cases h : f (innB a x) (innB b x) = true
      · rw [if_pos h]
        obtain ⟨g1, g2, g3⟩ := addL_set hs (s := (x, y)) hxy hq
        refine ⟨g1, fun t => ?_, fun q hq' => Int.le_trans (g3 q hq') (Int.le_of_lt hxy)⟩
        rw [g2]
        refine or_congr Iff.rfl ⟨fun ⟨k1, k2⟩ => ⟨k1, k2, ?_⟩, fun ⟨k1, k2, _⟩ => ⟨k1, k2⟩⟩
        rw [same a ha t k1 k2, same b hb t k1 k2]
        exact h
      · rw [if_neg h]
        refine ⟨hs, fun t => ⟨.inl, fun k => ?_⟩, fun q hq' => Int.le_trans (hq q hq') (Int.le_of_lt hxy)⟩
        rcases k with k | ⟨k1, k2, k3⟩
        · exact k
        · rw [same a ha t k1 k2, same b hb t k1 k2] at k3
          exact absurd k3 h
    obtain ⟨i1, i2⟩ := of_in f hf a b r y _ hr2 (next a ha) (next b hb) key.1 key.2.2
    refine ⟨i1, fun t => ?_⟩
    rw [i2, key.2.1]
    refine ⟨fun h => ?_, fun h => ?_⟩
    · rcases h with (h | ⟨k1, _, k3⟩) | ⟨k1, k2⟩
      · exact .inl h
      · exact .inr ⟨k1, k3⟩
      · exact .inr ⟨by omega, k2⟩
    · rcases h with h | ⟨k1, k2⟩
      · exact .inl (.inl h)
      · by_cases ht : t < y
        · exact .inl (.inr ⟨k1, ht, k2⟩)
        · exact .inr ⟨by omega, k2⟩
/-- What the ends cut out is a set, and has what is wanted. -/
theorem of_set (f : Bool → Bool → Bool) (hf : f false false = false) (a b : List Sp) : SetL (ofL f a b [] (endsL (a ++ b))) ∧ ∀ t, innB (ofL f a b [] (endsL (a ++ b))) t = f (innB a t) (innB b t) := by
  have hm := endsL_mem (a ++ b)
  have hr := endsL_rises (a ++ b)
  have main : SetL (ofL f a b [] (endsL (a ++ b))) ∧ ∀ t, Inn (ofL f a b [] (endsL (a ++ b))) t ↔ f (innB a t) (innB b t) = true := by
    cases he : endsL (a ++ b) with
    | nil =>
      rw [he] at hm
      have none_ : ∀ s, s ∈ a ++ b → False := fun s hs => by
        have := (hm s.1).2 ⟨s, hs, .inl rfl⟩
        cases this
      refine ⟨setL_nil, fun t => ?_⟩
      rw [innB_no (a := a) (fun s hs => (none_ s (by simp [hs])).elim), innB_no (a := b) (fun s hs => (none_ s (by simp [hs])).elim), hf]
      exact ⟨fun h => absurd h (inn_nil t), fun h => by cases h⟩
    | cons x r =>
      rw [he] at hm hr
      have cut : ∀ s, s ∈ a ++ b → (s.1 ≤ x ∨ s.1 ∈ r) ∧ (s.2 ≤ x ∨ s.2 ∈ r) := fun s hs => by
        refine ⟨?_, ?_⟩
        · rcases List.mem_cons.1 ((hm s.1).2 ⟨s, hs, .inl rfl⟩) with k | k
          · exact .inl (by omega)
          · exact .inr k
        · rcases List.mem_cons.1 ((hm s.2).2 ⟨s, hs, .inr rfl⟩) with k | k
          · exact .inl (by omega)
          · exact .inr k
      obtain ⟨i1, i2⟩ := of_in f hf a b r x [] hr (fun s hs => cut s (by simp [hs])) (fun s hs => cut s (by simp [hs])) setL_nil (fun _ h => by cases h)
      refine ⟨i1, fun t => ?_⟩
      rw [i2]
      refine ⟨fun h => ?_, fun h => .inr ⟨?_, h⟩⟩
      · rcases h with h | h
        · exact absurd h (inn_nil t)
        · exact h.2
      · by_cases hx : x ≤ t
        · exact hx
        · have low : ∀ s, s ∈ a ++ b → ¬ (s.1 ≤ t ∧ t < s.2) := fun s hs ⟨k, _⟩ => by
            rcases List.mem_cons.1 ((hm s.1).2 ⟨s, hs, .inl rfl⟩) with k9 | k9
            · omega
            · have := (List.pairwise_cons.1 hr).1 _ k9
              omega
          rw [innB_no (a := a) (fun s hs => low s (by simp [hs])), innB_no (a := b) (fun s hs => low s (by simp [hs])), hf] at h
          cases h
  refine ⟨main.1, fun t => ?_⟩
  unfold innB
  by_cases h : f (innB a t) (innB b t) = true
  · rw [decide_eq_true ((main.2 t).2 h)]
    exact h.symm
  · rw [decide_eq_false (fun k => h ((main.2 t).1 k))]
    cases hh : f (innB a t) (innB b t) with
    | true => exact absurd hh h
    | false =>
      unfold innB at hh
      exact hh.symm
end Go.Proofs.YtfonmgpkbgdniaaGreatDoor

/-
  CONTRACT of the document's own answer: ends (the instants at which something may turn).
-/
namespace Go.Proofs.YtfonmgpkbgdniaaGreatDoor
open Go.RowKit

theorem info2 : (Tryz.prog.info? 2).map (fun i => (i.zero, i.size, i.bytes)) = some (some (.int .i64 0), 1, 8) := by kernel_rfl
def valI (n : Int) : Value := .int .i64 n
theorem valI_one (l : List Int) : ∀ u ∈ l.map valI, u.oneCell' = true := by
  intro u hu
  obtain ⟨x, _, rfl⟩ := List.mem_map.1 hu
  rfl
/-- a slice of numbers in blocks from B on, which the call has to itself -/
def OwnI (W : World) (B : Nat) (v : Value) (l : List Int) : Prop := W.ownsRow B 2 1 v l.length (l.map valI)
theorem ownI_nil (W : World) (B : Nat) : OwnI W B (.slice none 0 0) [] := World.ownsRow_nil _ _ _ _
theorem OwnI.low {W : World} {B B' : Nat} {v : Value} {l : List Int} (h : OwnI W B v l) (hB : B' ≤ B) : OwnI W B' v l := by
  refine ⟨h.1, ?_⟩
  rcases h.2 with h | ⟨g, cap, cur, h1, h2, h3⟩
  · exact .inl h
  · exact .inr ⟨g, cap, cur, h1, by omega, h3⟩
theorem OwnI.form {W : World} {B : Nat} {v : Value} {l : List Int} (h : OwnI W B v l) : (v = .slice none 0 0 ∧ l = []) ∨ ∃ g cap, v = .slice (some ⟨g, 0, none⟩) l.length cap ∧ l.length ≤ cap ∧ cap ≤ maxLen ∧ B ≤ g ∧ g < W.heap.size ∧ ∀ (j : Nat) (x : Int), l[j]? = some x → W.cell? ⟨g, j, none⟩ = some (valI x) := by
  have hr := h
  rcases h.2 with ⟨rfl, h0⟩ | ⟨g, cap, cur, rfl, hB, hg, h1, h2, _⟩
  · exact .inl ⟨rfl, List.length_eq_zero_iff.1 h0⟩
  · refine .inr ⟨g, cap, rfl, h1, h2, hB, (Array.getElem?_eq_some_iff.1 hg).1, fun j x hx => ?_⟩
    have hj : j < l.length := (List.getElem?_eq_some_iff.1 hx).1
    have hr' : W.ownsRow B 2 1 (.slice (some ⟨g, 0, none⟩) l.length cap) l.length (l.map valI) := hr
    rw [hr'.cellAt j (by omega), List.getElem?_map, hx]
    rfl
theorem OwnI.drewN {W : World} {B : Nat} {v : Value} {l : List Int} (h : OwnI W B v l) (n : Nat) : OwnI (W.drewN n) B v l := h
theorem below_ownI {W w1 : World} {B : Nat} {v : Value} {l : List Int} (h : OwnI W B v l) (hg : W.grownBy w1 v.ownBlock) (hB : B ≤ W.heap.size) : Below B W w1 :=
  (Below.refl B W).grown hg hB (fun k hk => (World.ownsRow.lt h k hk).1)
theorem OwnI.next {W W' : World} {B : Nat} {v : Value} {l : List Int} (h : OwnI W B v l) (hb : Below W.heap.size W W') : OwnI W' B v l := by
  refine World.ownsRow.kept (row := none) h ⟨hb.os, hb.tape, hb.output, hb.size, fun k hk _ => hb.block k hk⟩ ?_
  cases hv : v.ownBlock with
  | none => exact .inl rfl
  | some g => exact .inr (fun e => by cases e)
def cutI (A : Option Addr) (c k : Nat) : Option Addr := if c = k then A else A.map (·.add k)
theorem cutI_zero (A : Option Addr) (c : Nat) : cutI A c 0 = A := by
  unfold cutI
  split
  · rfl
  · cases A <;> simp [Addr.add]
theorem quoTwo (j k : Nat) (h : j / 2 = k) (hj : j ≤ 100000) (w : World) : (binOp .quo 3 (.int .i64 (j : Int)) (.int .i64 2)).run Tryz.prog w = .ok (.int .i64 (k : Int)) w := by
  have u3 := Tryz.underlying3
  have e : (j : Int) / 2 = (k : Int) := by omega
  have f : IntKind.i64.wrap (k : Int) = (k : Int) := IntWalk.i64_in _ (by omega)
  go_simp
theorem remTwo (j k : Nat) (h : j % 2 = k) (hj : j ≤ 100000) (w : World) : (binOp .rem 3 (.int .i64 (j : Int)) (.int .i64 2)).run Tryz.prog w = .ok (.int .i64 (k : Int)) w := by
  have u3 := Tryz.underlying3
  have e : (j : Int).tmod 2 = (k : Int) := by rw [Int.tmod_eq_emod_of_nonneg (by omega)]; omega
  go_simp

theorem ownI_some {W : World} {B : Nat} {v : Value} {l : List Int} (h : OwnI W B v l) (hl : l ≠ []) : ∃ g cap, v = .slice (some ⟨g, 0, none⟩) l.length cap := by
  rcases h.form with ⟨_, h⟩ | ⟨g, cap, h, _⟩
  · exact absurd h hl
  · exact ⟨g, cap, h⟩
theorem ownI_of {W : World} {B m : Nat} {v : Value} {l : List Int} (h : W.ownsRow B 2 1 v m (l.map valI)) : OwnI W B v l := by
  have h1 := h.1
  rw [List.length_map] at h1
  obtain rfl : m = l.length := by omega
  exact h
theorem ownI_app {W : World} {B m : Nat} {v : Value} {a b : List Int} (h : W.ownsRow B 2 1 v m (a.map valI ++ b.map valI)) : OwnI W B v (a ++ b) :=
  ownI_of (m := m) (by rw [List.map_append]; exact h)
theorem addI (g o j : Nat) : Addr.add ⟨g, o, none⟩ j = ⟨g, o + j, none⟩ := by
  unfold Addr.add
  split
  · subst_vars; rfl
  · rfl
theorem cutI_at {g cap k : Nat} {E : List Int} (hle : E.length ≤ cap) : ∃ o, cutI (some ⟨g, 0, none⟩) cap k = some ⟨g, o, none⟩ ∧ ∀ (j : Nat) (x : Int), (E.drop k)[j]? = some x → o + j = k + j := by
  unfold cutI
  split
  · rename_i h
    refine ⟨0, rfl, fun j x hx => ?_⟩
    rw [List.drop_eq_nil_of_le (by omega)] at hx
    simp at hx
  · refine ⟨k, ?_, fun _ _ _ => rfl⟩
    show some (Addr.add _ _) = _
    rw [addI, Nat.zero_add]
theorem newsI {W W' : World} {g B : Nat} {l : List Int} {o : Nat} (h : ∀ (j : Nat) (x : Int), l[j]? = some x → W.cell? ⟨g, o + j, none⟩ = some (valI x)) (hb : Below B W W') (hg : g < B) (j : Nat) (u : Value) (hu : (l.map valI)[j]? = some u) : W'.cell? (Addr.add ⟨g, o, none⟩ j) = some u := by
  rw [List.getElem?_map] at hu
  obtain ⟨x, hx, rfl⟩ := Option.map_eq_some_iff.1 hu
  rw [addI]
  exact (hb.cell (p := ⟨g, o + j, none⟩) hg).trans (h j x hx)
theorem lit_I (W : World) (n : Int) (j : Nat) (u : Value) (h : (List.map valI [n])[j]? = some u) : (W.alloc (.cells #[.int .i64 n] 2)).cell? (Addr.add ⟨W.heap.size, 0, none⟩ j) = some u := by
  cases j with
  | zero =>
    have : u = valI n := by simpa using h.symm
    subst this
    show World.cell? _ ⟨_, 0, none⟩ = _
    go_simp
    rfl
  | succ j => simp at h
end Go.Proofs.YtfonmgpkbgdniaaGreatDoor

/-
  FACTS for Of's contracts.
-/
namespace Go.Proofs.YtfonmgpkbgdniaaGreatDoor
open Go.RowKit

def orF (x y : Bool) : Bool := x || y
def andF (x y : Bool) : Bool := x && y
def notF (x y : Bool) : Bool := x && !y

/-- what the region that appends reads -/
def SEnd (ge j : Nat) (t u : Int) (W : World) : Prop := W.cell? ⟨ge, j, none⟩ = some (.int .i64 t) ∧ W.cell? ⟨ge, j + 1, none⟩ = some (.int .i64 u)
theorem SEnd.next {ge j B : Nat} {t u : Int} {W W' : World} (h : SEnd ge j t u W) (hb : Below B W W') (hg : ge < B) : SEnd ge j t u W' :=
  ⟨(hb.cell (p := ⟨ge, j, none⟩) hg).trans h.1, (hb.cell (p := ⟨ge, j + 1, none⟩) hg).trans h.2⟩
theorem OwnS.low {W : World} {B B' : Nat} {v : Value} {l : List Sp} (h : OwnS W B v l) (hB : B' ≤ B) : OwnS W B' v l := by
  refine ⟨h.1, ?_⟩
  rcases h.2 with h | ⟨g, cap, cur, h1, h2, h3⟩
  · exact .inl h
  · exact .inr ⟨g, cap, cur, h1, by omega, h3⟩
theorem OwnS.drewN {W : World} {B : Nat} {v : Value} {l : List Sp} (h : OwnS W B v l) (n : Nat) : OwnS (W.drewN n) B v l := h
end Go.Proofs.YtfonmgpkbgdniaaGreatDoor

/-
  CONTRACTS of the document's own answer: Two (what two sets are together).
-/
namespace Go.Proofs.YtfonmgpkbgdniaaGreatDoor
open Go.RowKit

/-- the document's answer for two sets -/
def twoL (f : Bool → Bool → Bool) (a b : List Sp) : List Sp := if setB a && setB b then ofL f a b [] (endsL (a ++ b)) else []
def twoE (a b : List Sp) : Int := if setB a && setB b then 0 else 30

end Go.Proofs.YtfonmgpkbgdniaaGreatDoor

/-
  CONTRACTS of the document's own answer: Covers, Make.
-/
namespace Go.Proofs.YtfonmgpkbgdniaaGreatDoor
open Go.RowKit

def covB (a b : List Sp) : Bool := setB a && setB b && decide ((twoL notF b a).length = 0)
end Go.Proofs.YtfonmgpkbgdniaaGreatDoor
