import Derived.Test.YtlmihlepaoifiaaGreatJSPure
import Derived.Laws.AppendOwnNone
import Derived.Test.YtlmihlepaoifiaaGreatJSAdd
import Derived.Lib.SliceRun
import Derived.Test.YtlmihlepaoifiaaGreatJDOrd
/-
  FACTS: the instants at which something may turn, rising and each once; the set that they cut out.
-/
namespace Go.Proofs.YtlmihlepaoifiaaGreat

def insR : List Int → Int → List Int
  | [], n => [n]
  | x :: l, n => if x < n then x :: insR l n else if x = n then x :: l else n :: x :: l
def cntR : List Int → Int → Nat
  | [], _ => 0
  | x :: l, n => if x < n then cntR l n + 1 else 0
theorem insR_cut : ∀ (l : List Int) (n : Int), insR l n = if l[cntR l n]? = some n then l else l.take (cntR l n) ++ n :: l.drop (cntR l n)
  | [], n => by simp [insR, cntR]
  | x :: l, n => by
    unfold insR cntR
    by_cases h : x < n
    · simp only [if_pos h, insR_cut l n, List.getElem?_cons_succ]
      split <;> simp
    · simp only [if_neg h, List.getElem?_cons_zero, Option.some.injEq]
      split <;> simp
theorem cntR_of : ∀ (l : List Int) (n : Int) (j : Nat), j ≤ l.length → (∀ i x, i < j → l[i]? = some x → x < n) → (∀ x, l[j]? = some x → ¬ x < n) → cntR l n = j
  | [], n, j, hj, _, _ => by simp at hj; simp [cntR, hj]
  | x :: l, n, 0, _, _, h => by
    unfold cntR
    rw [if_neg (h x rfl)]
  | x :: l, n, j + 1, hj, h1, h2 => by
    unfold cntR
    rw [if_pos (h1 0 x (by omega) rfl), cntR_of l n j (by simp at hj; omega) (fun i y hi hy => h1 (i + 1) y (by omega) (by simpa using hy)) (fun y hy => h2 y (by simpa using hy))]
def Rises (l : List Int) : Prop := l.Pairwise (· < ·)
theorem insR_mem : ∀ (l : List Int) (n x : Int), x ∈ insR l n ↔ x = n ∨ x ∈ l
  | [], n, x => by simp [insR]
  | y :: l, n, x => by
    unfold insR
    split
    · simp only [List.mem_cons, insR_mem l n x]
      exact ⟨fun h => by rcases h with h | h | h <;> simp [h], fun h => by rcases h with h | h | h <;> simp [h]⟩
    · split
      · rename_i h
        subst h
        simp only [List.mem_cons]
        exact ⟨fun h => .inr h, fun h => by rcases h with h | h | h <;> simp [h]⟩
      · simp only [List.mem_cons]
theorem insR_rises : ∀ (l : List Int) (n : Int), Rises l → Rises (insR l n)
  | [], n, _ => List.pairwise_singleton _ _
  | y :: l, n, h => by
    obtain ⟨h1, h2⟩ := List.pairwise_cons.1 h
    unfold insR
    split
    · refine List.pairwise_cons.2 ⟨fun x hx => ?_, insR_rises l n h2⟩
      rcases (insR_mem l n x).1 hx with rfl | hx
      · assumption
      · exact h1 x hx
    · split
      · exact h
      · refine List.pairwise_cons.2 ⟨fun x hx => ?_, h⟩
        rcases List.mem_cons.1 hx with rfl | hx
        · omega
        · have := h1 x hx
          omega
theorem insR_len (l : List Int) (n : Int) : (insR l n).length ≤ l.length + 1 := by
  induction l with
  | nil => simp [insR]
  | cons y l ih =>
    unfold insR
    split
    · simp; omega
    · split <;> simp
def flatE (l : List Sp) : List Int := l.flatMap (fun s => [s.1, s.2])
def endsF (l : List Int) : List Int := l.foldl insR []
def endsL (l : List Sp) : List Int := endsF (flatE l)
theorem endsF_snoc (l : List Int) (n : Int) : endsF (l ++ [n]) = insR (endsF l) n := by unfold endsF; rw [List.foldl_append]; rfl
theorem fold_mem : ∀ (l acc : List Int) (x : Int), x ∈ l.foldl insR acc ↔ x ∈ l ∨ x ∈ acc
  | [], acc, x => by simp
  | y :: l, acc, x => by
    rw [List.foldl_cons, fold_mem l, insR_mem, List.mem_cons]
    exact ⟨fun h => by rcases h with h | h | h <;> simp [h], fun h => by rcases h with (h | h) | h <;> simp [h]⟩
theorem fold_rises : ∀ (l acc : List Int), Rises acc → Rises (l.foldl insR acc)
  | [], _, h => h
  | y :: l, acc, h => by
    rw [List.foldl_cons]
    exact fold_rises l _ (insR_rises acc y h)
theorem fold_len : ∀ (l acc : List Int), (l.foldl insR acc).length ≤ l.length + acc.length
  | [], _ => by simp
  | y :: l, acc => by
    rw [List.foldl_cons]
    have := fold_len l (insR acc y)
    have := insR_len acc y
    simp only [List.length_cons]
    omega
theorem flatE_len (l : List Sp) : (flatE l).length = 2 * l.length := by
  unfold flatE
  induction l with
  | nil => rfl
  | cons s l ih => rw [List.flatMap_cons, List.length_append, ih, List.length_cons, List.length_cons, List.length_cons, List.length_nil]; omega
theorem flatE_from : ∀ (l : List Sp) (k : Nat) (s : Sp), l[k]? = some s → (flatE l)[2 * k]? = some s.1 ∧ (flatE l)[2 * k + 1]? = some s.2
  | [], _, _, h => by simp at h
  | p :: l, 0, s, h => by
    simp only [List.getElem?_cons_zero, Option.some.injEq] at h
    subst h
    exact ⟨rfl, rfl⟩
  | p :: l, k + 1, s, h => by
    have := flatE_from l k s (by simpa using h)
    rw [show 2 * (k + 1) = 2 * k + 1 + 1 from by omega]
    exact this
theorem endsL_mem (l : List Sp) (x : Int) : x ∈ endsL l ↔ ∃ s ∈ l, x = s.1 ∨ x = s.2 := by
  unfold endsL endsF
  rw [fold_mem]
  unfold flatE
  simp [List.mem_flatMap]
theorem endsL_rises (l : List Sp) : Rises (endsL l) := fold_rises _ [] List.Pairwise.nil
theorem endsL_len (l : List Sp) : (endsL l).length ≤ 2 * l.length := by
  have := fold_len (flatE l) []
  rw [flatE_len] at this
  exact this
/-- the set that ends cut out: the stretches between two ends that are wanted -/
def ofL (f : Bool → Bool → Bool) (a b : List Sp) : List Sp → List Int → List Sp
  | acc, x :: y :: r => ofL f a b (if f (innB a x) (innB b x) then addL acc (x, y) else acc) (y :: r)
  | acc, [_] => acc
  | acc, [] => acc
theorem innB_same {a : List Sp} {x t : Int} (h : ∀ s ∈ a, (s.1 ≤ t ↔ s.1 ≤ x) ∧ (t < s.2 ↔ x < s.2)) : innB a t = innB a x := by
  unfold innB
  refine decide_eq_decide.2 ⟨fun ⟨s, hs, h1, h2⟩ => ⟨s, hs, ((h s hs).1).1 h1, ((h s hs).2).1 h2⟩, fun ⟨s, hs, h1, h2⟩ => ⟨s, hs, ((h s hs).1).2 h1, ((h s hs).2).2 h2⟩⟩
theorem innB_no {a : List Sp} {t : Int} (h : ∀ s ∈ a, ¬ (s.1 ≤ t ∧ t < s.2)) : innB a t = false := decide_eq_false fun ⟨s, hs, h1, h2⟩ => h s hs ⟨h1, h2⟩
def Cuts (l : List Sp) (x : Int) (r : List Int) : Prop := ∀ s ∈ l, (s.1 ≤ x ∨ s.1 ∈ r) ∧ (s.2 ≤ x ∨ s.2 ∈ r)
theorem of_in (f : Bool → Bool → Bool) (hf : f false false = false) (a b : List Sp) : ∀ (r : List Int) (x : Int) (acc : List Sp), Rises (x :: r) → Cuts a x r → Cuts b x r → SetL acc → (∀ q ∈ acc, q.1 ≤ x) →
    SetL (ofL f a b acc (x :: r)) ∧ ∀ t, Inn (ofL f a b acc (x :: r)) t ↔ Inn acc t ∨ (x ≤ t ∧ f (innB a t) (innB b t) = true)
  | [], x, acc, _, ha, hb, hs, _ => by
    refine ⟨hs, fun t => ⟨.inl, fun h => ?_⟩⟩
    rcases h with h | ⟨ht, h⟩
    · exact h
    · have h1 : innB a t = false := innB_no fun s hs ⟨_, k⟩ => by
        rcases (ha s hs).2 with h9 | h9
        · omega
        · cases h9
      have h2 : innB b t = false := innB_no fun s hs ⟨_, k⟩ => by
        rcases (hb s hs).2 with h9 | h9
        · omega
        · cases h9
      rw [h1, h2, hf] at h
      cases h
  | y :: r, x, acc, hr, ha, hb, hs, hq => by
    obtain ⟨hr1, hr2⟩ := List.pairwise_cons.1 hr
    have hxy := hr1 y (by simp)
    have hry := (List.pairwise_cons.1 hr2).1
    have hge : ∀ z ∈ y :: r, y ≤ z := fun z hz => by
      rcases List.mem_cons.1 hz with rfl | hz
      · exact Int.le_refl _
      · exact Int.le_of_lt (hry z hz)
    have same : ∀ l : List Sp, Cuts l x (y :: r) → ∀ t, x ≤ t → t < y → innB l t = innB l x := fun l hl t h1 h2 => innB_same fun s hs => by
      obtain ⟨k1, k2⟩ := hl s hs
      have k1' : s.1 ≤ x ∨ y ≤ s.1 := k1.imp id (hge _)
      have k2' : s.2 ≤ x ∨ y ≤ s.2 := k2.imp id (hge _)
      omega
    have next : ∀ l : List Sp, Cuts l x (y :: r) → Cuts l y r := fun l hl s hs => by
      obtain ⟨k1, k2⟩ := hl s hs
      refine ⟨?_, ?_⟩
      · rcases k1 with k | k
        · exact .inl (by omega)
        · rcases List.mem_cons.1 k with k | k
          · exact .inl (by omega)
          · exact .inr k
      · rcases k2 with k | k
        · exact .inl (by omega)
        · rcases List.mem_cons.1 k with k | k
          · exact .inl (by omega)
          · exact .inr k
    unfold ofL
    have key : SetL (if f (innB a x) (innB b x) = true then addL acc (x, y) else acc) ∧ (∀ t, Inn (if f (innB a x) (innB b x) = true then addL acc (x, y) else acc) t ↔ Inn acc t ∨ (x ≤ t ∧ t < y ∧ f (innB a t) (innB b t) = true)) ∧ ∀ q ∈ (if f (innB a x) (innB b x) = true then addL acc (x, y) else acc), q.1 ≤ y := by
      by_cases h : f (innB a x) (innB b x) = true
      · rw [if_pos h]
        obtain ⟨g1, g2, g3⟩ := addL_set hs (s := (x, y)) hxy hq
        refine ⟨g1, fun t => ?_, fun q hq' => Int.le_trans (g3 q hq') (Int.le_of_lt hxy)⟩
        rw [g2]
        refine or_congr Iff.rfl ⟨fun ⟨k1, k2⟩ => ⟨k1, k2, ?_⟩, fun ⟨k1, k2, _⟩ => ⟨k1, k2⟩⟩
        rw [same a ha t k1 k2, same b hb t k1 k2]
        exact h
      · rw [if_neg h]
        refine ⟨hs, fun t => ⟨.inl, fun k => ?_⟩, fun q hq' => Int.le_trans (hq q hq') (Int.le_of_lt hxy)⟩
        rcases k with k | ⟨k1, k2, k3⟩
        · exact k
        · rw [same a ha t k1 k2, same b hb t k1 k2] at k3
          exact absurd k3 h
    obtain ⟨i1, i2⟩ := of_in f hf a b r y _ hr2 (next a ha) (next b hb) key.1 key.2.2
    refine ⟨i1, fun t => ?_⟩
    rw [i2, key.2.1]
    refine ⟨fun h => ?_, fun h => ?_⟩
    · rcases h with (h | ⟨k1, _, k3⟩) | ⟨k1, k2⟩
      · exact .inl h
      · exact .inr ⟨k1, k3⟩
      · exact .inr ⟨by omega, k2⟩
    · rcases h with h | ⟨k1, k2⟩
      · exact .inl (.inl h)
      · by_cases ht : t < y
        · exact .inl (.inr ⟨k1, ht, k2⟩)
        · exact .inr ⟨by omega, k2⟩
/-- What the ends cut out is a set, and has what is wanted. -/
theorem of_set (f : Bool → Bool → Bool) (hf : f false false = false) (a b : List Sp) : SetL (ofL f a b [] (endsL (a ++ b))) ∧ ∀ t, innB (ofL f a b [] (endsL (a ++ b))) t = f (innB a t) (innB b t) := by
  have hm := endsL_mem (a ++ b)
  have hr := endsL_rises (a ++ b)
  have main : SetL (ofL f a b [] (endsL (a ++ b))) ∧ ∀ t, Inn (ofL f a b [] (endsL (a ++ b))) t ↔ f (innB a t) (innB b t) = true := by
    cases he : endsL (a ++ b) with
    | nil =>
      rw [he] at hm
      have none_ : ∀ s, s ∈ a ++ b → False := fun s hs => by
        have := (hm s.1).2 ⟨s, hs, .inl rfl⟩
        cases this
      refine ⟨setL_nil, fun t => ?_⟩
      rw [innB_no (a := a) (fun s hs => (none_ s (by simp [hs])).elim), innB_no (a := b) (fun s hs => (none_ s (by simp [hs])).elim), hf]
      exact ⟨fun h => absurd h (inn_nil t), fun h => by cases h⟩
    | cons x r =>
      rw [he] at hm hr
      have cut : ∀ s, s ∈ a ++ b → (s.1 ≤ x ∨ s.1 ∈ r) ∧ (s.2 ≤ x ∨ s.2 ∈ r) := fun s hs => by
        refine ⟨?_, ?_⟩
        · rcases List.mem_cons.1 ((hm s.1).2 ⟨s, hs, .inl rfl⟩) with k | k
          · exact .inl (by omega)
          · exact .inr k
        · rcases List.mem_cons.1 ((hm s.2).2 ⟨s, hs, .inr rfl⟩) with k | k
          · exact .inl (by omega)
          · exact .inr k
      obtain ⟨i1, i2⟩ := of_in f hf a b r x [] hr (fun s hs => cut s (by simp [hs])) (fun s hs => cut s (by simp [hs])) setL_nil (fun _ h => by cases h)
      refine ⟨i1, fun t => ?_⟩
      rw [i2]
      refine ⟨fun h => ?_, fun h => .inr ⟨?_, h⟩⟩
      · rcases h with h | h
        · exact absurd h (inn_nil t)
        · exact h.2
      · by_cases hx : x ≤ t
        · exact hx
        · have low : ∀ s, s ∈ a ++ b → ¬ (s.1 ≤ t ∧ t < s.2) := fun s hs ⟨k, _⟩ => by
            rcases List.mem_cons.1 ((hm s.1).2 ⟨s, hs, .inl rfl⟩) with k9 | k9
            · omega
            · have := (List.pairwise_cons.1 hr).1 _ k9
              omega
          rw [innB_no (a := a) (fun s hs => low s (by simp [hs])), innB_no (a := b) (fun s hs => low s (by simp [hs])), hf] at h
          cases h
  refine ⟨main.1, fun t => ?_⟩
  unfold innB
  by_cases h : f (innB a t) (innB b t) = true
  · rw [decide_eq_true ((main.2 t).2 h)]
    exact h.symm
  · rw [decide_eq_false (fun k => h ((main.2 t).1 k))]
    cases hh : f (innB a t) (innB b t) with
    | true => exact absurd hh h
    | false =>
      unfold innB at hh
      exact hh.symm
end Go.Proofs.YtlmihlepaoifiaaGreat

/-
  CONTRACT of the document's own answer: ends (the instants at which something may turn).
-/
namespace Go.Proofs.YtlmihlepaoifiaaGreat
open Go.RowKit

theorem info2 : (Tryz.prog.info? 2).map (fun i => (i.zero, i.size, i.bytes)) = some (some (.int .i64 0), 1, 8) := by kernel_rfl
def valI (n : Int) : Value := .int .i64 n
theorem valI_one (l : List Int) : ∀ u ∈ l.map valI, u.oneCell' = true := by
  intro u hu
  obtain ⟨x, _, rfl⟩ := List.mem_map.1 hu
  rfl
/-- a slice of numbers in blocks from B on, which the call has to itself -/
def OwnI (W : World) (B : Nat) (v : Value) (l : List Int) : Prop := W.ownsRow B 2 1 v l.length (l.map valI)
theorem ownI_nil (W : World) (B : Nat) : OwnI W B (.slice none 0 0) [] := World.ownsRow_nil _ _ _ _
theorem OwnI.low {W : World} {B B' : Nat} {v : Value} {l : List Int} (h : OwnI W B v l) (hB : B' ≤ B) : OwnI W B' v l := by
  refine ⟨h.1, ?_⟩
  rcases h.2 with h | ⟨g, cap, cur, h1, h2, h3⟩
  · exact .inl h
  · exact .inr ⟨g, cap, cur, h1, by omega, h3⟩
theorem OwnI.form {W : World} {B : Nat} {v : Value} {l : List Int} (h : OwnI W B v l) : (v = .slice none 0 0 ∧ l = []) ∨ ∃ g cap, v = .slice (some ⟨g, 0, none⟩) l.length cap ∧ l.length ≤ cap ∧ cap ≤ maxLen ∧ B ≤ g ∧ g < W.heap.size ∧ ∀ (j : Nat) (x : Int), l[j]? = some x → W.cell? ⟨g, j, none⟩ = some (valI x) := by
  have hr := h
  rcases h.2 with ⟨rfl, h0⟩ | ⟨g, cap, cur, rfl, hB, hg, h1, h2, _⟩
  · exact .inl ⟨rfl, List.length_eq_zero_iff.1 h0⟩
  · refine .inr ⟨g, cap, rfl, h1, h2, hB, (Array.getElem?_eq_some_iff.1 hg).1, fun j x hx => ?_⟩
    have hj : j < l.length := (List.getElem?_eq_some_iff.1 hx).1
    have hr' : W.ownsRow B 2 1 (.slice (some ⟨g, 0, none⟩) l.length cap) l.length (l.map valI) := hr
    rw [hr'.cellAt j (by omega), List.getElem?_map, hx]
    rfl
theorem OwnI.drewN {W : World} {B : Nat} {v : Value} {l : List Int} (h : OwnI W B v l) (n : Nat) : OwnI (W.drewN n) B v l := h
theorem below_ownI {W w1 : World} {B : Nat} {v : Value} {l : List Int} (h : OwnI W B v l) (hg : W.grownBy w1 v.ownBlock) (hB : B ≤ W.heap.size) : Below B W w1 :=
  (Below.refl B W).grown hg hB (fun k hk => (World.ownsRow.lt h k hk).1)
theorem OwnI.next {W W' : World} {B : Nat} {v : Value} {l : List Int} (h : OwnI W B v l) (hb : Below W.heap.size W W') : OwnI W' B v l := by
  refine World.ownsRow.kept (row := none) h ⟨hb.os, hb.tape, hb.output, hb.size, fun k hk _ => hb.block k hk⟩ ?_
  cases hv : v.ownBlock with
  | none => exact .inl rfl
  | some g => exact .inr (fun e => by cases e)
def cutI (A : Option Addr) (c k : Nat) : Option Addr := if c = k then A else A.map (·.add k)
theorem sliceI_from (A : Option Addr) (n c k : Nat) (hk : k ≤ n) (w : World) : (Instr.slice 91 (.slice A n c) (some (.int .i64 (k : Int))) none none).run Tryz.prog w = .ok (.slice (cutI A c k) (n - k) (c - k)) w := by
  have hT : Tryz.prog.underlying 91 = some (.slice (Tryz.prog.elem 91)) := by kernel_rfl
  have hS : (Go.sizeOf (Tryz.prog.elem 91)).run Tryz.prog w = .ok 1 w := by kernel_rfl
  rw [run_slice_l (w := w) 91 A n c hT .i64 (k : Int) (by omega) (by omega), hS]
  simp [Result.andThen, sliced, cutI]
theorem sliceI_to (A : Option Addr) (n c k : Nat) (hk : k ≤ c) (w : World) : (Instr.slice 91 (.slice A n c) none (some (.int .i64 (k : Int))) none).run Tryz.prog w = .ok (.slice (cutI A c 0) k c) w := by
  have hT : Tryz.prog.underlying 91 = some (.slice (Tryz.prog.elem 91)) := by kernel_rfl
  have hS : (Go.sizeOf (Tryz.prog.elem 91)).run Tryz.prog w = .ok 1 w := by kernel_rfl
  rw [run_slice_h (w := w) 91 A n c hT .i64 (k : Int) (by omega) (by omega), hS]
  simp [Result.andThen, sliced, cutI]
theorem cutI_zero (A : Option Addr) (c : Nat) : cutI A c 0 = A := by
  unfold cutI
  split
  · rfl
  · cases A <;> simp [Addr.add]
theorem remTwo (j k : Nat) (h : j % 2 = k) (hj : j ≤ 100000) (w : World) : (binOp .rem 3 (.int .i64 (j : Int)) (.int .i64 2)).run Tryz.prog w = .ok (.int .i64 (k : Int)) w := by
  have u3 := Tryz.underlying3
  have e : (j : Int).tmod 2 = (k : Int) := by rw [Int.tmod_eq_emod_of_nonneg (by omega)]; omega
  go_simp

theorem ownI_some {W : World} {B : Nat} {v : Value} {l : List Int} (h : OwnI W B v l) (hl : l ≠ []) : ∃ g cap, v = .slice (some ⟨g, 0, none⟩) l.length cap := by
  rcases h.form with ⟨_, h⟩ | ⟨g, cap, h, _⟩
  · exact absurd h hl
  · exact ⟨g, cap, h⟩
theorem ownI_of {W : World} {B m : Nat} {v : Value} {l : List Int} (h : W.ownsRow B 2 1 v m (l.map valI)) : OwnI W B v l := by
  have h1 := h.1
  rw [List.length_map] at h1
  obtain rfl : m = l.length := by omega
  exact h
theorem ownI_app {W : World} {B m : Nat} {v : Value} {a b : List Int} (h : W.ownsRow B 2 1 v m (a.map valI ++ b.map valI)) : OwnI W B v (a ++ b) :=
  ownI_of (m := m) (by rw [List.map_append]; exact h)
theorem addI (g o j : Nat) : Addr.add ⟨g, o, none⟩ j = ⟨g, o + j, none⟩ := by
  unfold Addr.add
  split
  · subst_vars; rfl
  · rfl
theorem cutI_at {g cap k : Nat} {E : List Int} (hle : E.length ≤ cap) : ∃ o, cutI (some ⟨g, 0, none⟩) cap k = some ⟨g, o, none⟩ ∧ ∀ (j : Nat) (x : Int), (E.drop k)[j]? = some x → o + j = k + j := by
  unfold cutI
  split
  · rename_i h
    refine ⟨0, rfl, fun j x hx => ?_⟩
    rw [List.drop_eq_nil_of_le (by omega)] at hx
    simp at hx
  · refine ⟨k, ?_, fun _ _ _ => rfl⟩
    show some (Addr.add _ _) = _
    rw [addI, Nat.zero_add]
theorem newsI {W W' : World} {g B : Nat} {l : List Int} {o : Nat} (h : ∀ (j : Nat) (x : Int), l[j]? = some x → W.cell? ⟨g, o + j, none⟩ = some (valI x)) (hb : Below B W W') (hg : g < B) (j : Nat) (u : Value) (hu : (l.map valI)[j]? = some u) : W'.cell? (Addr.add ⟨g, o, none⟩ j) = some u := by
  rw [List.getElem?_map] at hu
  obtain ⟨x, hx, rfl⟩ := Option.map_eq_some_iff.1 hu
  rw [addI]
  exact (hb.cell (p := ⟨g, o + j, none⟩) hg).trans (h j x hx)
theorem lit_I (W : World) (n : Int) (j : Nat) (u : Value) (h : (List.map valI [n])[j]? = some u) : (W.alloc (.cells #[.int .i64 n] 2)).cell? (Addr.add ⟨W.heap.size, 0, none⟩ j) = some u := by
  cases j with
  | zero =>
    have : u = valI n := by simpa using h.symm
    subst this
    show World.cell? _ ⟨_, 0, none⟩ = _
    go_simp
    rfl
  | succ j => simp at h
set_option maxRecDepth 100000 in
set_option maxHeartbeats 1000000 in
theorem ends_any (A : Option Addr) (c : Nat) (l : List Sp) (w : World) (hs : SlS w w.heap.size A l) (hl : l.length ≤ 2000) :
    Calls Tryz.prog 60 #[.slice A l.length c] w fun e w' => ∃ v, e = .returned v ∧ OwnI w' w.heap.size v (endsL l) ∧ Below w.heap.size w w' := by
  have HS := Lib.hid hs
  have HFL := Lib.hid (flatE_len l)
  obtain ⟨i0, hi, hz0, hz1, hz2⟩ := info_parts info2
  clear hs
  go_enter Tryz.func60, Tryz.ntmps60
  go_wp2
  go_loopg [3, 4] (2 * l.length) (fun g v x wr => ∃ j : Nat, x = .int .i64 j ∧ j + g = 2 * l.length ∧ Hid (OwnI wr w.heap.size v (endsF ((flatE l).take j))) ∧ Hid (Below w.heap.size w wr) ∧ w.heap.size ≤ wr.heap.size)
  case atStart => exact ⟨0, rfl, by omega, ownI_nil _ _, Below.refl _ _, Nat.le_refl _⟩
  case round =>
    obtain ⟨j, rfl, hj, HO, HB, hsz⟩ := hrel
    cases gk with
    | zero =>
      have hjz : ¬ ((j : Int) < 2 * (l.length : Int)) := by omega
      have HF : Hid (endsF ((flatE l).take j) = endsL l) := by
        show _ = _
        rw [List.take_of_length_le (by rw [HFL.out]; omega)]
        rfl
      go_wp2
      go_ret
      exact ⟨_, rfl, by rw [← HF.out]; exact HO.out, HB.out⟩
    | succ g =>
      have hjz : (j : Int) < 2 * (l.length : Int) := by omega
      have hkl : j / 2 < l.length := by omega
      have hki : (j : Int) / 2 < (l.length : Int) := by omega
      obtain ⟨b, o, rfl, _, hp⟩ := (HS.out.next HB.out (Nat.le_refl _)).at_ hkl
      obtain ⟨⟨x, y⟩, hpe⟩ : ∃ p, l[j / 2] = p := ⟨_, rfl⟩
      have hfr := flatE_from l (j / 2) (x, y) (by rw [List.getElem?_eq_getElem hkl, hpe])
      rw [hpe] at hp
      have c0 := hp.c0
      have c1 := hp.c1
      clear hp hpe
      have hpar : j % 2 = 0 ∨ j % 2 = 1 := by omega
      obtain ⟨E, hE⟩ : ∃ E, endsF ((flatE l).take j) = E := ⟨_, rfl⟩
      have HNX : Hid (∀ n, (flatE l)[j]? = some n → endsF ((flatE l).take (j + 1)) = insR E n) := fun n hn => by
        rw [List.take_add_one, hn, ← hE]
        exact endsF_snoc _ _
      have hEl : E.length ≤ 4000 := by
        have := fold_len ((flatE l).take j) []
        rw [List.length_take, HFL.out] at this
        rw [← hE]
        unfold endsF
        simp only [List.length_nil] at this
        omega
      have hform := (hE ▸ HO.out).form
      rcases hpar with hpar | hpar
      · have hR := remTwo j 0 hpar (by omega)
        have hpi : (j : Int) % 2 = 0 := by omega
        have hpt : (j : Int).tmod 2 = 0 := by rw [Int.tmod_eq_emod_of_nonneg (by omega)]; omega
        have HN : Hid ((flatE l)[j]? = some x) := by show _ = _; rw [← hfr.1]; congr 1; omega
        clear hfr hpar
        go_wp2
        rcases hform with ⟨rfl, rfl⟩ | ⟨gb, cap, rfl, hle, hcm, hgb, hgs, hcell⟩
        · go_loopw [6] (fun z wq => ∃ m : Nat, z = .int .i64 0 ∧ wq = wr.drewN m) (fun _ _ => 0)
          case atStart => exact ⟨0, rfl, rfl⟩
          case round =>
            obtain ⟨m, rfl, rfl⟩ := hrel
            have HL1 := Lib.hid (ownI_nil ((wr.drewN m).alloc (.cells #[.int .i64 x] 2)) wr.heap.size)
            have tok : True := trivial
            go_wp2_with (first | (at_builtin; have _t := tok; refine wpList_append_own _ rfl _ _ 91 rfl wr.heap.size 2 i0 (.int .i64 0) 1 8 Tryz.underlying91 hi hz0 hz1 hz2 rfl (by decide) _ _ _ rfl HL1.out ⟨wr.heap.size, 0, none⟩ 1 1 (List.map valI [x]) rfl rfl (fun j u h => lit_I _ _ j u h) (valI_one _) (by decide) (by decide) (by simp) ?_; intro v' w3 hown' hgrow _; have HV2 : Hid (OwnI w3 wr.heap.size v' [x]) := hown'; obtain ⟨gv, cv, rfl⟩ := ownI_some HV2.out (by simp); have HB3 := Lib.hid ((below_ind (Below.refl wr.heap.size wr) m).trans (((Below.refl wr.heap.size (wr.drewN m)).alloc (Nat.le_refl _) _).trans (below_ownI HL1.out hgrow (by simp)))); clear tok hown' hgrow) | (at_builtin; refine wpList_append_own_none rfl _ _ 91 rfl wr.heap.size 2 i0 1 Tryz.underlying91 hi _ _ _ rfl HV2.out rfl ?_))
            go_roundg g
            case measure => omega
            case rel => exact ⟨j + 1, by go_num, by omega, by (show OwnI _ _ _ _; rw [HNX.out _ HN.out]; exact HV2.out.low hsz), HB.out.trans (HB3.out.mono hsz), by have := HB3.out.size; omega⟩
        · have HC := Lib.hid hcell
          clear hcell
          go_loopw [6] (fun z wq => ∃ k m : Nat, z = .int .i64 k ∧ k ≤ E.length ∧ wq = wr.drewN m ∧ Hid (∀ i q, i < k → E[i]? = some q → q < x)) (fun z _ => E.length - (intOf z).toNat)
          case atStart => exact ⟨0, 0, rfl, by omega, rfl, fun i q hi => by omega⟩
          case round =>
            obtain ⟨k, m, rfl, hk, rfl, HK⟩ := hrel
            by_cases h1 : k < E.length
            · have h1i : (k : Int) < (E.length : Int) := by omega
              obtain ⟨q, hq⟩ : ∃ q, E[k]? = some q := ⟨_, List.getElem?_eq_getElem h1⟩
              have d0 : wr.cell? ⟨gb, k, none⟩ = some (.int .i64 q) := HC.out k q hq
              have HQ := Lib.hid hq
              clear hq
              by_cases hlt : q < x
              · have HKN : Hid (∀ i z, i < k + 1 → E[i]? = some z → z < x) := fun i z hi2 hz => by
                  rcases Nat.lt_succ_iff_lt_or_eq.1 hi2 with h | rfl
                  · exact HK.out i z h hz
                  · rw [HQ.out] at hz
                    cases hz
                    exact hlt
                go_wp2
                go_roundw
                case rel => exact ⟨k + 1, _, by go_num, by omega, rfl, HKN⟩
                case measure => simp [intOf]; omega
              · have HCN : Hid (cntR E x = k) := cntR_of E x k hk HK.out (fun z hz => by rw [HQ.out] at hz; cases hz; exact hlt)
                by_cases heq : q = x
                · have HR : Hid (insR E x = E) := by
                    show _ = _
                    rw [insR_cut, HCN.out, HQ.out, heq, if_pos rfl]
                  have HOE : Hid (OwnI wr w.heap.size (.slice (some ⟨gb, 0, none⟩) E.length cap) E) := hE ▸ HO.out
                  go_wp2
                  go_roundg g
                  case measure => omega
                  case rel => exact ⟨j + 1, by go_num, by omega, by (show OwnI _ _ _ _; rw [HNX.out _ HN.out, HR.out]; exact HOE.out.drewN _), below_ind HB.out _, hsz⟩
                · have hne : ¬ E[k]? = some x := fun h => heq (by rw [HQ.out] at h; exact Option.some.inj h)
                  have HR : Hid (insR E x = (E.take k ++ [x]) ++ E.drop k) := by
                    show _ = _
                    rw [insR_cut, HCN.out, if_neg hne]
                    simp
                  have hT := sliceI_to (some ⟨gb, 0, none⟩) E.length cap k (by omega)
                  rw [cutI_zero] at hT
                  obtain ⟨o2, ho2, hat⟩ := cutI_at (g := gb) (k := k) hle
                  have hF := sliceI_from (some ⟨gb, 0, none⟩) E.length cap k hk
                  rw [ho2] at hF
                  have HLT : Hid ((E.take k).length = k) := List.length_take_of_le hk
                  have HLT2 : Hid ((E.take k ++ [x]).length = k + 1) := by show _ = _; rw [List.length_append, HLT.out]; rfl
                  have HT1 : Hid (∀ (i : Nat) (q : Int), (E.take k)[i]? = some q → wr.cell? ⟨gb, 0 + i, none⟩ = some (valI q)) := fun i q hq => by
                    rw [Nat.zero_add]
                    have h0 : i < k := by
                      have := (List.getElem?_eq_some_iff.1 hq).1
                      rw [HLT.out] at this
                      exact this
                    rw [List.getElem?_take_of_lt h0] at hq
                    exact HC.out i q hq
                  have HT2 : Hid (∀ (i : Nat) (q : Int), (E.drop k)[i]? = some q → wr.cell? ⟨gb, o2 + i, none⟩ = some (valI q)) := fun i q hq => by
                    rw [hat i q hq]
                    rw [List.getElem?_drop] at hq
                    exact HC.out _ q hq
                  have HBm := Lib.hid (below_ind (Below.refl wr.heap.size wr) m)
                  have HL0 := Lib.hid (ownI_nil (wr.drewN m) wr.heap.size)
                  have hmx : 50000 ≤ maxLen := by decide
                  have tok1 : True := trivial
                  have tok2 : True := trivial
                  clear hat ho2 HK hne
                  go_wp2_with (first | (at_builtin; have _t := tok1; refine wpList_append_own _ rfl _ _ 91 rfl wr.heap.size 2 i0 (.int .i64 0) 1 8 Tryz.underlying91 hi hz0 hz1 hz2 rfl (by decide) _ _ _ rfl HL0.out ⟨gb, 0, none⟩ k cap ((E.take k).map valI) rfl (by rw [List.length_map, HLT.out, Nat.mul_one]) (newsI HT1.out HBm.out hgs) (valI_one _) (by simp; omega) (by simp; omega) (by simp) ?_; intro v1 w3 hown' hgrow _; have HV1 : Hid (OwnI w3 wr.heap.size v1 (E.take k)) := ownI_app (a := []) hown'; have HB3 := Lib.hid (HBm.out.trans (below_ownI HL0.out hgrow (by simp))); clear tok1 hown' hgrow) | (at_builtin; have _t := tok2; refine wpList_append_own _ rfl _ _ 91 rfl wr.heap.size 2 i0 (.int .i64 0) 1 8 Tryz.underlying91 hi hz0 hz1 hz2 rfl (by decide) _ _ _ rfl (World.ownsRow.alloc HV1.out _) ⟨w3.heap.size, 0, none⟩ 1 1 (List.map valI [x]) rfl rfl (fun j u h => lit_I _ _ j u h) (valI_one _) (by have := HLT.out; omega) (by have := HLT.out; omega) (by have := HB3.out.size; simp; omega) ?_; intro v2 w4 hown' hgrow _; have HV2 : Hid (OwnI w4 wr.heap.size v2 (E.take k ++ [x])) := ownI_app hown'; have HB4 := Lib.hid ((HB3.out.alloc HB3.out.size _).trans (below_ownI (l := E.take k) (World.ownsRow.alloc HV1.out _) hgrow (by have := HB3.out.size; simp; omega))); clear tok2 hown' hgrow) | (at_builtin; refine wpList_append_own _ rfl _ _ 91 rfl wr.heap.size 2 i0 (.int .i64 0) 1 8 Tryz.underlying91 hi hz0 hz1 hz2 rfl (by decide) _ _ _ rfl HV2.out ⟨gb, o2, none⟩ (E.length - k) (cap - k) ((E.drop k).map valI) rfl (by rw [List.length_map, List.length_drop, Nat.mul_one]) (newsI HT2.out HB4.out hgs) (valI_one _) (by have := HLT2.out; omega) (by have := HLT2.out; omega) HB4.out.size ?_; intro v3 w5 hown' hgrow _; have HV3 : Hid (OwnI w5 wr.heap.size v3 ((E.take k ++ [x]) ++ E.drop k)) := ownI_app hown'; have HB5 := Lib.hid (HB4.out.trans (below_ownI HV2.out hgrow HB4.out.size)); clear hown' hgrow))
                  go_roundg g
                  case measure => omega
                  case rel => exact ⟨j + 1, by go_num, by omega, by (show OwnI _ _ _ _; rw [HNX.out _ HN.out, HR.out]; exact HV3.out.low hsz), HB.out.trans (HB5.out.mono hsz), by have := HB5.out.size; omega⟩
            · have h1i : ¬ (k : Int) < (E.length : Int) := by omega
              have HCN : Hid (cntR E x = k) := cntR_of E x k hk HK.out (fun z hz => absurd (List.getElem?_eq_some_iff.1 hz).1 h1)
              have hne : ¬ E[k]? = some x := fun h => h1 (List.getElem?_eq_some_iff.1 h).1
              have HR : Hid (insR E x = (E.take k ++ [x]) ++ E.drop k) := by
                show _ = _
                rw [insR_cut, HCN.out, if_neg hne]
                simp
              have hT := sliceI_to (some ⟨gb, 0, none⟩) E.length cap k (by omega)
              rw [cutI_zero] at hT
              obtain ⟨o2, ho2, hat⟩ := cutI_at (g := gb) (k := k) hle
              have hF := sliceI_from (some ⟨gb, 0, none⟩) E.length cap k hk
              rw [ho2] at hF
              have HLT : Hid ((E.take k).length = k) := List.length_take_of_le hk
              have HLT2 : Hid ((E.take k ++ [x]).length = k + 1) := by show _ = _; rw [List.length_append, HLT.out]; rfl
              have HT1 : Hid (∀ (i : Nat) (q : Int), (E.take k)[i]? = some q → wr.cell? ⟨gb, 0 + i, none⟩ = some (valI q)) := fun i q hq => by
                rw [Nat.zero_add]
                have h0 : i < k := by
                  have := (List.getElem?_eq_some_iff.1 hq).1
                  rw [HLT.out] at this
                  exact this
                rw [List.getElem?_take_of_lt h0] at hq
                exact HC.out i q hq
              have HT2 : Hid (∀ (i : Nat) (q : Int), (E.drop k)[i]? = some q → wr.cell? ⟨gb, o2 + i, none⟩ = some (valI q)) := fun i q hq => by
                rw [hat i q hq]
                rw [List.getElem?_drop] at hq
                exact HC.out _ q hq
              have HBm := Lib.hid (below_ind (Below.refl wr.heap.size wr) m)
              have HL0 := Lib.hid (ownI_nil (wr.drewN m) wr.heap.size)
              have hmx : 50000 ≤ maxLen := by decide
              have tok1 : True := trivial
              have tok2 : True := trivial
              clear hat ho2 HK hne
              go_wp2_with (first | (at_builtin; have _t := tok1; refine wpList_append_own _ rfl _ _ 91 rfl wr.heap.size 2 i0 (.int .i64 0) 1 8 Tryz.underlying91 hi hz0 hz1 hz2 rfl (by decide) _ _ _ rfl HL0.out ⟨gb, 0, none⟩ k cap ((E.take k).map valI) rfl (by rw [List.length_map, HLT.out, Nat.mul_one]) (newsI HT1.out HBm.out hgs) (valI_one _) (by simp; omega) (by simp; omega) (by simp) ?_; intro v1 w3 hown' hgrow _; have HV1 : Hid (OwnI w3 wr.heap.size v1 (E.take k)) := ownI_app (a := []) hown'; have HB3 := Lib.hid (HBm.out.trans (below_ownI HL0.out hgrow (by simp))); clear tok1 hown' hgrow) | (at_builtin; have _t := tok2; refine wpList_append_own _ rfl _ _ 91 rfl wr.heap.size 2 i0 (.int .i64 0) 1 8 Tryz.underlying91 hi hz0 hz1 hz2 rfl (by decide) _ _ _ rfl (World.ownsRow.alloc HV1.out _) ⟨w3.heap.size, 0, none⟩ 1 1 (List.map valI [x]) rfl rfl (fun j u h => lit_I _ _ j u h) (valI_one _) (by have := HLT.out; omega) (by have := HLT.out; omega) (by have := HB3.out.size; simp; omega) ?_; intro v2 w4 hown' hgrow _; have HV2 : Hid (OwnI w4 wr.heap.size v2 (E.take k ++ [x])) := ownI_app hown'; have HB4 := Lib.hid ((HB3.out.alloc HB3.out.size _).trans (below_ownI (l := E.take k) (World.ownsRow.alloc HV1.out _) hgrow (by have := HB3.out.size; simp; omega))); clear tok2 hown' hgrow) | (at_builtin; refine wpList_append_own _ rfl _ _ 91 rfl wr.heap.size 2 i0 (.int .i64 0) 1 8 Tryz.underlying91 hi hz0 hz1 hz2 rfl (by decide) _ _ _ rfl HV2.out ⟨gb, o2, none⟩ (E.length - k) (cap - k) ((E.drop k).map valI) rfl (by rw [List.length_map, List.length_drop, Nat.mul_one]) (newsI HT2.out HB4.out hgs) (valI_one _) (by have := HLT2.out; omega) (by have := HLT2.out; omega) HB4.out.size ?_; intro v3 w5 hown' hgrow _; have HV3 : Hid (OwnI w5 wr.heap.size v3 ((E.take k ++ [x]) ++ E.drop k)) := ownI_app hown'; have HB5 := Lib.hid (HB4.out.trans (below_ownI HV2.out hgrow HB4.out.size)); clear hown' hgrow))
              go_roundg g
              case measure => omega
              case rel => exact ⟨j + 1, by go_num, by omega, by (show OwnI _ _ _ _; rw [HNX.out _ HN.out, HR.out]; exact HV3.out.low hsz), HB.out.trans (HB5.out.mono hsz), by have := HB5.out.size; omega⟩
      · have hR := remTwo j 1 hpar (by omega)
        have hpi : (j : Int) % 2 = 1 := by omega
        have hpt : (j : Int).tmod 2 = 1 := by rw [Int.tmod_eq_emod_of_nonneg (by omega)]; omega
        have HN : Hid ((flatE l)[j]? = some y) := by show _ = _; rw [← hfr.2]; congr 1; omega
        clear hfr hpar
        go_wp2
        rcases hform with ⟨rfl, rfl⟩ | ⟨gb, cap, rfl, hle, hcm, hgb, hgs, hcell⟩
        · go_loopw [6] (fun z wq => ∃ m : Nat, z = .int .i64 0 ∧ wq = wr.drewN m) (fun _ _ => 0)
          case atStart => exact ⟨0, rfl, rfl⟩
          case round =>
            obtain ⟨m, rfl, rfl⟩ := hrel
            have HL1 := Lib.hid (ownI_nil ((wr.drewN m).alloc (.cells #[.int .i64 y] 2)) wr.heap.size)
            have tok : True := trivial
            go_wp2_with (first | (at_builtin; have _t := tok; refine wpList_append_own _ rfl _ _ 91 rfl wr.heap.size 2 i0 (.int .i64 0) 1 8 Tryz.underlying91 hi hz0 hz1 hz2 rfl (by decide) _ _ _ rfl HL1.out ⟨wr.heap.size, 0, none⟩ 1 1 (List.map valI [y]) rfl rfl (fun j u h => lit_I _ _ j u h) (valI_one _) (by decide) (by decide) (by simp) ?_; intro v' w3 hown' hgrow _; have HV2 : Hid (OwnI w3 wr.heap.size v' [y]) := hown'; obtain ⟨gv, cv, rfl⟩ := ownI_some HV2.out (by simp); have HB3 := Lib.hid ((below_ind (Below.refl wr.heap.size wr) m).trans (((Below.refl wr.heap.size (wr.drewN m)).alloc (Nat.le_refl _) _).trans (below_ownI HL1.out hgrow (by simp)))); clear tok hown' hgrow) | (at_builtin; refine wpList_append_own_none rfl _ _ 91 rfl wr.heap.size 2 i0 1 Tryz.underlying91 hi _ _ _ rfl HV2.out rfl ?_))
            go_roundg g
            case measure => omega
            case rel => exact ⟨j + 1, by go_num, by omega, by (show OwnI _ _ _ _; rw [HNX.out _ HN.out]; exact HV2.out.low hsz), HB.out.trans (HB3.out.mono hsz), by have := HB3.out.size; omega⟩
        · have HC := Lib.hid hcell
          clear hcell
          go_loopw [6] (fun z wq => ∃ k m : Nat, z = .int .i64 k ∧ k ≤ E.length ∧ wq = wr.drewN m ∧ Hid (∀ i q, i < k → E[i]? = some q → q < y)) (fun z _ => E.length - (intOf z).toNat)
          case atStart => exact ⟨0, 0, rfl, by omega, rfl, fun i q hi => by omega⟩
          case round =>
            obtain ⟨k, m, rfl, hk, rfl, HK⟩ := hrel
            by_cases h1 : k < E.length
            · have h1i : (k : Int) < (E.length : Int) := by omega
              obtain ⟨q, hq⟩ : ∃ q, E[k]? = some q := ⟨_, List.getElem?_eq_getElem h1⟩
              have d0 : wr.cell? ⟨gb, k, none⟩ = some (.int .i64 q) := HC.out k q hq
              have HQ := Lib.hid hq
              clear hq
              by_cases hlt : q < y
              · have HKN : Hid (∀ i z, i < k + 1 → E[i]? = some z → z < y) := fun i z hi2 hz => by
                  rcases Nat.lt_succ_iff_lt_or_eq.1 hi2 with h | rfl
                  · exact HK.out i z h hz
                  · rw [HQ.out] at hz
                    cases hz
                    exact hlt
                go_wp2
                go_roundw
                case rel => exact ⟨k + 1, _, by go_num, by omega, rfl, HKN⟩
                case measure => simp [intOf]; omega
              · have HCN : Hid (cntR E y = k) := cntR_of E y k hk HK.out (fun z hz => by rw [HQ.out] at hz; cases hz; exact hlt)
                by_cases heq : q = y
                · have HR : Hid (insR E y = E) := by
                    show _ = _
                    rw [insR_cut, HCN.out, HQ.out, heq, if_pos rfl]
                  have HOE : Hid (OwnI wr w.heap.size (.slice (some ⟨gb, 0, none⟩) E.length cap) E) := hE ▸ HO.out
                  go_wp2
                  go_roundg g
                  case measure => omega
                  case rel => exact ⟨j + 1, by go_num, by omega, by (show OwnI _ _ _ _; rw [HNX.out _ HN.out, HR.out]; exact HOE.out.drewN _), below_ind HB.out _, hsz⟩
                · have hne : ¬ E[k]? = some y := fun h => heq (by rw [HQ.out] at h; exact Option.some.inj h)
                  have HR : Hid (insR E y = (E.take k ++ [y]) ++ E.drop k) := by
                    show _ = _
                    rw [insR_cut, HCN.out, if_neg hne]
                    simp
                  have hT := sliceI_to (some ⟨gb, 0, none⟩) E.length cap k (by omega)
                  rw [cutI_zero] at hT
                  obtain ⟨o2, ho2, hat⟩ := cutI_at (g := gb) (k := k) hle
                  have hF := sliceI_from (some ⟨gb, 0, none⟩) E.length cap k hk
                  rw [ho2] at hF
                  have HLT : Hid ((E.take k).length = k) := List.length_take_of_le hk
                  have HLT2 : Hid ((E.take k ++ [y]).length = k + 1) := by show _ = _; rw [List.length_append, HLT.out]; rfl
                  have HT1 : Hid (∀ (i : Nat) (q : Int), (E.take k)[i]? = some q → wr.cell? ⟨gb, 0 + i, none⟩ = some (valI q)) := fun i q hq => by
                    rw [Nat.zero_add]
                    have h0 : i < k := by
                      have := (List.getElem?_eq_some_iff.1 hq).1
                      rw [HLT.out] at this
                      exact this
                    rw [List.getElem?_take_of_lt h0] at hq
                    exact HC.out i q hq
                  have HT2 : Hid (∀ (i : Nat) (q : Int), (E.drop k)[i]? = some q → wr.cell? ⟨gb, o2 + i, none⟩ = some (valI q)) := fun i q hq => by
                    rw [hat i q hq]
                    rw [List.getElem?_drop] at hq
                    exact HC.out _ q hq
                  have HBm := Lib.hid (below_ind (Below.refl wr.heap.size wr) m)
                  have HL0 := Lib.hid (ownI_nil (wr.drewN m) wr.heap.size)
                  have hmx : 50000 ≤ maxLen := by decide
                  have tok1 : True := trivial
                  have tok2 : True := trivial
                  clear hat ho2 HK hne
                  go_wp2_with (first | (at_builtin; have _t := tok1; refine wpList_append_own _ rfl _ _ 91 rfl wr.heap.size 2 i0 (.int .i64 0) 1 8 Tryz.underlying91 hi hz0 hz1 hz2 rfl (by decide) _ _ _ rfl HL0.out ⟨gb, 0, none⟩ k cap ((E.take k).map valI) rfl (by rw [List.length_map, HLT.out, Nat.mul_one]) (newsI HT1.out HBm.out hgs) (valI_one _) (by simp; omega) (by simp; omega) (by simp) ?_; intro v1 w3 hown' hgrow _; have HV1 : Hid (OwnI w3 wr.heap.size v1 (E.take k)) := ownI_app (a := []) hown'; have HB3 := Lib.hid (HBm.out.trans (below_ownI HL0.out hgrow (by simp))); clear tok1 hown' hgrow) | (at_builtin; have _t := tok2; refine wpList_append_own _ rfl _ _ 91 rfl wr.heap.size 2 i0 (.int .i64 0) 1 8 Tryz.underlying91 hi hz0 hz1 hz2 rfl (by decide) _ _ _ rfl (World.ownsRow.alloc HV1.out _) ⟨w3.heap.size, 0, none⟩ 1 1 (List.map valI [y]) rfl rfl (fun j u h => lit_I _ _ j u h) (valI_one _) (by have := HLT.out; omega) (by have := HLT.out; omega) (by have := HB3.out.size; simp; omega) ?_; intro v2 w4 hown' hgrow _; have HV2 : Hid (OwnI w4 wr.heap.size v2 (E.take k ++ [y])) := ownI_app hown'; have HB4 := Lib.hid ((HB3.out.alloc HB3.out.size _).trans (below_ownI (l := E.take k) (World.ownsRow.alloc HV1.out _) hgrow (by have := HB3.out.size; simp; omega))); clear tok2 hown' hgrow) | (at_builtin; refine wpList_append_own _ rfl _ _ 91 rfl wr.heap.size 2 i0 (.int .i64 0) 1 8 Tryz.underlying91 hi hz0 hz1 hz2 rfl (by decide) _ _ _ rfl HV2.out ⟨gb, o2, none⟩ (E.length - k) (cap - k) ((E.drop k).map valI) rfl (by rw [List.length_map, List.length_drop, Nat.mul_one]) (newsI HT2.out HB4.out hgs) (valI_one _) (by have := HLT2.out; omega) (by have := HLT2.out; omega) HB4.out.size ?_; intro v3 w5 hown' hgrow _; have HV3 : Hid (OwnI w5 wr.heap.size v3 ((E.take k ++ [y]) ++ E.drop k)) := ownI_app hown'; have HB5 := Lib.hid (HB4.out.trans (below_ownI HV2.out hgrow HB4.out.size)); clear hown' hgrow))
                  go_roundg g
                  case measure => omega
                  case rel => exact ⟨j + 1, by go_num, by omega, by (show OwnI _ _ _ _; rw [HNX.out _ HN.out, HR.out]; exact HV3.out.low hsz), HB.out.trans (HB5.out.mono hsz), by have := HB5.out.size; omega⟩
            · have h1i : ¬ (k : Int) < (E.length : Int) := by omega
              have HCN : Hid (cntR E y = k) := cntR_of E y k hk HK.out (fun z hz => absurd (List.getElem?_eq_some_iff.1 hz).1 h1)
              have hne : ¬ E[k]? = some y := fun h => h1 (List.getElem?_eq_some_iff.1 h).1
              have HR : Hid (insR E y = (E.take k ++ [y]) ++ E.drop k) := by
                show _ = _
                rw [insR_cut, HCN.out, if_neg hne]
                simp
              have hT := sliceI_to (some ⟨gb, 0, none⟩) E.length cap k (by omega)
              rw [cutI_zero] at hT
              obtain ⟨o2, ho2, hat⟩ := cutI_at (g := gb) (k := k) hle
              have hF := sliceI_from (some ⟨gb, 0, none⟩) E.length cap k hk
              rw [ho2] at hF
              have HLT : Hid ((E.take k).length = k) := List.length_take_of_le hk
              have HLT2 : Hid ((E.take k ++ [y]).length = k + 1) := by show _ = _; rw [List.length_append, HLT.out]; rfl
              have HT1 : Hid (∀ (i : Nat) (q : Int), (E.take k)[i]? = some q → wr.cell? ⟨gb, 0 + i, none⟩ = some (valI q)) := fun i q hq => by
                rw [Nat.zero_add]
                have h0 : i < k := by
                  have := (List.getElem?_eq_some_iff.1 hq).1
                  rw [HLT.out] at this
                  exact this
                rw [List.getElem?_take_of_lt h0] at hq
                exact HC.out i q hq
              have HT2 : Hid (∀ (i : Nat) (q : Int), (E.drop k)[i]? = some q → wr.cell? ⟨gb, o2 + i, none⟩ = some (valI q)) := fun i q hq => by
                rw [hat i q hq]
                rw [List.getElem?_drop] at hq
                exact HC.out _ q hq
              have HBm := Lib.hid (below_ind (Below.refl wr.heap.size wr) m)
              have HL0 := Lib.hid (ownI_nil (wr.drewN m) wr.heap.size)
              have hmx : 50000 ≤ maxLen := by decide
              have tok1 : True := trivial
              have tok2 : True := trivial
              clear hat ho2 HK hne
              go_wp2_with (first | (at_builtin; have _t := tok1; refine wpList_append_own _ rfl _ _ 91 rfl wr.heap.size 2 i0 (.int .i64 0) 1 8 Tryz.underlying91 hi hz0 hz1 hz2 rfl (by decide) _ _ _ rfl HL0.out ⟨gb, 0, none⟩ k cap ((E.take k).map valI) rfl (by rw [List.length_map, HLT.out, Nat.mul_one]) (newsI HT1.out HBm.out hgs) (valI_one _) (by simp; omega) (by simp; omega) (by simp) ?_; intro v1 w3 hown' hgrow _; have HV1 : Hid (OwnI w3 wr.heap.size v1 (E.take k)) := ownI_app (a := []) hown'; have HB3 := Lib.hid (HBm.out.trans (below_ownI HL0.out hgrow (by simp))); clear tok1 hown' hgrow) | (at_builtin; have _t := tok2; refine wpList_append_own _ rfl _ _ 91 rfl wr.heap.size 2 i0 (.int .i64 0) 1 8 Tryz.underlying91 hi hz0 hz1 hz2 rfl (by decide) _ _ _ rfl (World.ownsRow.alloc HV1.out _) ⟨w3.heap.size, 0, none⟩ 1 1 (List.map valI [y]) rfl rfl (fun j u h => lit_I _ _ j u h) (valI_one _) (by have := HLT.out; omega) (by have := HLT.out; omega) (by have := HB3.out.size; simp; omega) ?_; intro v2 w4 hown' hgrow _; have HV2 : Hid (OwnI w4 wr.heap.size v2 (E.take k ++ [y])) := ownI_app hown'; have HB4 := Lib.hid ((HB3.out.alloc HB3.out.size _).trans (below_ownI (l := E.take k) (World.ownsRow.alloc HV1.out _) hgrow (by have := HB3.out.size; simp; omega))); clear tok2 hown' hgrow) | (at_builtin; refine wpList_append_own _ rfl _ _ 91 rfl wr.heap.size 2 i0 (.int .i64 0) 1 8 Tryz.underlying91 hi hz0 hz1 hz2 rfl (by decide) _ _ _ rfl HV2.out ⟨gb, o2, none⟩ (E.length - k) (cap - k) ((E.drop k).map valI) rfl (by rw [List.length_map, List.length_drop, Nat.mul_one]) (newsI HT2.out HB4.out hgs) (valI_one _) (by have := HLT2.out; omega) (by have := HLT2.out; omega) HB4.out.size ?_; intro v3 w5 hown' hgrow _; have HV3 : Hid (OwnI w5 wr.heap.size v3 ((E.take k ++ [y]) ++ E.drop k)) := ownI_app hown'; have HB5 := Lib.hid (HB4.out.trans (below_ownI HV2.out hgrow HB4.out.size)); clear hown' hgrow))
              go_roundg g
              case measure => omega
              case rel => exact ⟨j + 1, by go_num, by omega, by (show OwnI _ _ _ _; rw [HNX.out _ HN.out, HR.out]; exact HV3.out.low hsz), HB.out.trans (HB5.out.mono hsz), by have := HB5.out.size; omega⟩
end Go.Proofs.YtlmihlepaoifiaaGreat

/-
  RULE: appending a slice that may be nil to a slice that the call has to itself.
-/
namespace Go.Proofs.YtlmihlepaoifiaaGreat
open Go.RowKit

theorem wpList_append_any {P : Program} {w : World} {ops : Array Oper} {rest : List Oper} {o : Oper} {a : Act} {Q : Exit → Act → World → Prop} (hgd : o.guard = none) (s x : Operand) (t : TypeId)
    (ho : o.op = .call { callee := .builtin .append, args := #[s, x], argTypes := #[t, t] })
    (base : Nat) (e : TypeId) (i : TypeInfo) (z : Value) (size bytes : Nat) (ht : P.underlying t = some (.slice e)) (hi : P.info? e = some i) (hz : i.zero = some z)
    (hsize : i.size = size) (hby : i.bytes = bytes) (hzs : z.cells.size = size) (hsz : 0 < size)
    (v : Value) (n : Nat) (xs : List Value) (hs : a.eval s = v) (hown : w.ownsRow base e size v n xs)
    (A : Option Addr) (m c : Nat) (news : List Value) (hx : a.eval x = .slice A m c) (hl : news.length = m * size) (hA : A = none → m = 0 ∧ c = 0) (hnews : ∀ ad, A = some ad → ∀ j u, news[j]? = some u → w.cell? (ad.add j) = some u) (h1 : ∀ u ∈ news, u.oneCell' = true)
    (h63 : n + m ≤ maxLen) (hbytes : (n + m) * bytes ≤ 140737488355328) (hbase : base ≤ w.heap.size)
    (h : ∀ v' w', w'.ownsRow base e size v' (n + m) (xs ++ news) → w.grownBy w' v.ownBlock → wpList P ops Q rest (a.put o.dst v') w') : wpList P ops Q (o :: rest) a w := by
  cases A with
  | none =>
    obtain ⟨rfl, rfl⟩ := hA rfl
    rw [Nat.zero_mul] at hl
    have hn := List.length_eq_zero_iff.1 hl
    subst hn
    refine wpList_append_own_none hgd s x t ho base e i size ht hi v n xs hs hown hx (h v w (by rw [List.append_nil]; exact hown) ⟨rfl, rfl, rfl, Nat.le_refl _, fun _ _ _ => rfl⟩)
  | some ad =>
    exact wpList_append_own w hgd s x t ho base e i z size bytes ht hi hz hsize hby hzs hsz v n xs hs hown ad m c news hx hl (hnews ad rfl) h1 h63 hbytes hbase fun v' w' h2 h3 _ => h v' w' h2 h3
theorem SlS.news {W : World} {B : Nat} {A : Option Addr} {l : List Sp} (h : SlS W B A l) (ad : Addr) (hA : A = some ad) (j : Nat) (u : Value) (hu : (l.flatMap cellsS)[j]? = some u) : W.cell? (ad.add j) = some u := by
  have hj := (List.getElem?_eq_some_iff.1 hu).1
  rw [flatS_len] at hj
  obtain ⟨b, o, e, _, hc⟩ := h (fun e => by rw [e] at hj; simp at hj)
  rw [hA] at e
  cases e
  rw [addI]
  obtain ⟨k, i, hi, rfl⟩ : ∃ k i, i < 2 ∧ j = k * 2 + i := ⟨j / 2, j % 2, by omega, by omega⟩
  rw [flatS hi] at hu
  obtain ⟨s, hs, hu⟩ := Option.bind_eq_some_iff.1 hu
  have hp := hc k s hs
  rcases (by omega : i = 0 ∨ i = 1) with rfl | rfl
  · simp [cellsS] at hu
    subst hu
    exact hp.c0
  · simp [cellsS] at hu
    subst hu
    rw [← Nat.add_assoc]
    exact hp.c1
theorem cellsS_all (l : List Sp) : ∀ u ∈ l.flatMap cellsS, u.oneCell' = true := fun u hu => by
  obtain ⟨s, _, hs⟩ := List.mem_flatMap.1 hu
  exact cellsS_one s u hs
theorem ownS_of {W : World} {B m : Nat} {v : Value} {a b : List Sp} (h : W.ownsRow B 68 2 v m (a.flatMap cellsS ++ b.flatMap cellsS)) : OwnS W B v (a ++ b) := by
  have h1 := h.1
  rw [← List.flatMap_append, flatS_len] at h1
  obtain rfl : m = (a ++ b).length := by omega
  show World.ownsRow _ _ _ _ _ _ _
  rw [List.flatMap_append]
  exact h
theorem below_ownS {W w1 : World} {B : Nat} {v : Value} {l : List Sp} (h : OwnS W B v l) (hg : W.grownBy w1 v.ownBlock) (hB : B ≤ W.heap.size) : Below B W w1 :=
  (Below.refl B W).grown hg hB (fun k hk => (World.ownsRow.lt h k hk).1)
end Go.Proofs.YtlmihlepaoifiaaGreat

/-
  SLICES OF VALUES; CONTRACT: slices.Clone at values.
-/
namespace Go.Proofs.YtlmihlepaoifiaaGreat
open Go.RowKit Go.Shelf

/-- one value's cells -/
structure VlAt (W : World) (b o : Nat) (v : Vl) : Prop where
  c0 : W.cell? ⟨b, o, none⟩ = some (.int .i64 v.1)
  c1 : W.cell? ⟨b, o + 1, none⟩ = some (.int .i64 v.2.1)
  c2 : W.cell? ⟨b, o + 2, none⟩ = some (.string v.2.2)
/-- a slice that reads as these values, in blocks below B -/
def SlV (W : World) (B : Nat) (A : Option Addr) (l : List Vl) : Prop :=
  l ≠ [] → ∃ b o, A = some ⟨b, o, none⟩ ∧ b < B ∧ ∀ (j : Nat) (v : Vl), l[j]? = some v → VlAt W b (o + j * 3) v
theorem VlAt.next {W W' : World} {B b o : Nat} {v : Vl} (h : VlAt W b o v) (hb : Below B W W') (hB : b < B) : VlAt W' b o v :=
  ⟨(hb.cell (p := ⟨b, o, none⟩) hB).trans h.c0, (hb.cell (p := ⟨b, o + 1, none⟩) hB).trans h.c1, (hb.cell (p := ⟨b, o + 2, none⟩) hB).trans h.c2⟩
theorem SlV.next {W W' : World} {B : Nat} {A : Option Addr} {l : List Vl} (h : SlV W B A l) {B' : Nat} (hb : Below B' W W') (hB : B ≤ B') : SlV W' B A l := fun hl => by
  obtain ⟨b, o, e, hlt, hc⟩ := h hl
  exact ⟨b, o, e, hlt, fun j p hp => (hc j p hp).next hb (by omega)⟩
theorem SlV.more {W : World} {B B' : Nat} {A : Option Addr} {l : List Vl} (h : SlV W B A l) (hB : B ≤ B') : SlV W B' A l := fun hl => by
  obtain ⟨b, o, e, hlt, hc⟩ := h hl
  exact ⟨b, o, e, by omega, hc⟩
theorem SlV.at_ {W : World} {B : Nat} {A : Option Addr} {l : List Vl} (h : SlV W B A l) {j : Nat} (hj : j < l.length) : ∃ b o, A = some ⟨b, o, none⟩ ∧ b < B ∧ VlAt W b (o + j * 3) l[j] := by
  obtain ⟨b, o, e, hlt, hc⟩ := h (by intro e; rw [e] at hj; simp at hj)
  exact ⟨b, o, e, hlt, hc j _ (List.getElem?_eq_getElem hj)⟩
/-- a slice of values in blocks from B on, which the call has to itself -/
def OwnV (W : World) (B : Nat) (v : Value) (l : List Vl) : Prop := W.ownsRow B 28 3 v l.length (l.flatMap cellsV)
theorem flatV {l : List Vl} {j i : Nat} (hi : i < 3) : (l.flatMap cellsV)[j * 3 + i]? = l[j]?.bind fun x => (cellsV x)[i]? := flatG cellsV_len hi
theorem flatV_len (l : List Vl) : (l.flatMap cellsV).length = l.length * 3 := flatG_len cellsV_len l
theorem OwnV.slv {W : World} {B : Nat} {v : Value} {l : List Vl} (h : OwnV W B v l) : ∃ A c, v = .slice A l.length c ∧ SlV W W.heap.size A l ∧ l.length ≤ c ∧ c ≤ maxLen := by
  rcases h.2 with ⟨rfl, h0⟩ | ⟨g, cap, cur, rfl, _, hgb, h1, h2, _⟩
  · exact ⟨none, 0, by rw [h0], fun hl => absurd (List.length_eq_zero_iff.1 h0) hl, by omega, Nat.zero_le _⟩
  · refine ⟨_, _, rfl, fun _ => ⟨g, 0, rfl, (Array.getElem?_eq_some_iff.1 hgb).1, fun j p hp => ?_⟩, h1, h2⟩
    have hr : W.ownsRow B 28 3 (.slice (some ⟨g, 0, none⟩) l.length cap) l.length (l.flatMap cellsV) := h
    have hj : j < l.length := (List.getElem?_eq_some_iff.1 hp).1
    have hc : ∀ i, i < 3 → W.cell? ⟨g, j * 3 + i, none⟩ = (cellsV p)[i]? := fun i hi => by
      rw [hr.cellAt (j * 3 + i) (by omega), flatV hi, hp]; rfl
    rw [Nat.zero_add]
    exact ⟨hc 0 (by omega), hc 1 (by omega), hc 2 (by omega)⟩
theorem SlV.news {W : World} {B : Nat} {A : Option Addr} {l : List Vl} (h : SlV W B A l) (ad : Addr) (hA : A = some ad) (j : Nat) (u : Value) (hu : (l.flatMap cellsV)[j]? = some u) : W.cell? (ad.add j) = some u := by
  have hj := (List.getElem?_eq_some_iff.1 hu).1
  rw [flatV_len] at hj
  obtain ⟨b, o, e, _, hc⟩ := h (fun e => by rw [e] at hj; simp at hj)
  rw [hA] at e
  cases e
  rw [addI]
  obtain ⟨k, i, hi, rfl⟩ : ∃ k i, i < 3 ∧ j = k * 3 + i := ⟨j / 3, j % 3, by omega, by omega⟩
  rw [flatV hi] at hu
  obtain ⟨s, hs, hu⟩ := Option.bind_eq_some_iff.1 hu
  have hp := hc k s hs
  rcases (by omega : i = 0 ∨ i = 1 ∨ i = 2) with rfl | rfl | rfl
  · simp [cellsV] at hu
    subst hu
    exact hp.c0
  · simp [cellsV] at hu
    subst hu
    rw [← Nat.add_assoc]
    exact hp.c1
  · simp [cellsV] at hu
    subst hu
    rw [← Nat.add_assoc]
    exact hp.c2
theorem ownV_of {W : World} {B m : Nat} {v : Value} {a b : List Vl} (h : W.ownsRow B 28 3 v m (a.flatMap cellsV ++ b.flatMap cellsV)) : OwnV W B v (a ++ b) := by
  have h1 := h.1
  rw [← List.flatMap_append, flatV_len] at h1
  obtain rfl : m = (a ++ b).length := by omega
  show World.ownsRow _ _ _ _ _ _ _
  rw [List.flatMap_append]
  exact h
theorem below_ownV {W w1 : World} {B : Nat} {v : Value} {l : List Vl} (h : OwnV W B v l) (hg : W.grownBy w1 v.ownBlock) (hB : B ≤ W.heap.size) : Below B W w1 :=
  (Below.refl B W).grown hg hB (fun k hk => (World.ownsRow.lt h k hk).1)
theorem info22 : (Tryz.prog.info? 28).map (fun i => (i.zero, i.size, i.bytes)) = some (some (.agg #[.int .i64 0, .int .i64 0, .string ⟨#[]⟩]), 3, 32) := by kernel_rfl
end Go.Proofs.YtlmihlepaoifiaaGreat
