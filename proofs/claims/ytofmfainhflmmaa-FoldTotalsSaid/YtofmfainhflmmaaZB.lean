/-
  WORDS FOR SLICES: of one cell an element; of values; of rows (slices of values).
-/
import Derived.Test.YtofmfainhflmmaaOrdRef
import Derived.Test.YtofmfainhflmmaaVOrd
import Derived.Test.YtofmfainhflmmaaDrawn
import Derived.Laws.IdiomStrings
import Derived.Laws.OwnMore
import Derived.Laws.AppendOwnNone
import Derived.Lib.SmallJoins
import Derived.Lib.BufferRead
import Derived.Lib.Hide
import Derived.Lib.SliceRun
import Derived.OwnWalk
import Derived.WalkKit
import Derived.ProofKit
import Derived.WalkMore
namespace Go.Proofs.Ytofmfainhflmmaa
open Go.RowKit
open Go.Sort (grow)

theorem addI (g o j : Nat) : Addr.add ⟨g, o, none⟩ j = ⟨g, o + j, none⟩ := by
  unfold Addr.add
  split
  · subst_vars; rfl
  · rfl
theorem below_drewN {n0 : Nat} (w : World) (q : Nat) : Below n0 w (w.drewN q) := ⟨rfl, rfl, rfl, Nat.le_refl _, fun _ _ => rfl⟩
theorem wpList_append_any {P : Program} {w : World} {ops : Array Oper} {rest : List Oper} {o : Oper} {a : Act} {Q : Exit → Act → World → Prop} (hgd : o.guard = none) (s x : Operand) (t : TypeId)
    (ho : o.op = .call { callee := .builtin .append, args := #[s, x], argTypes := #[t, t] })
    (base : Nat) (e : TypeId) (i : TypeInfo) (z : Value) (size bytes : Nat) (ht : P.underlying t = some (.slice e)) (hi : P.info? e = some i) (hz : i.zero = some z)
    (hsize : i.size = size) (hby : i.bytes = bytes) (hzs : z.cells.size = size) (hsz : 0 < size)
    (v : Value) (n : Nat) (xs : List Value) (hs : a.eval s = v) (hown : w.ownsRow base e size v n xs)
    (A : Option Addr) (m c : Nat) (news : List Value) (hx : a.eval x = .slice A m c) (hl : news.length = m * size) (hA : A = none → m = 0 ∧ c = 0) (hnews : ∀ ad, A = some ad → ∀ j u, news[j]? = some u → w.cell? (ad.add j) = some u) (h1 : ∀ u ∈ news, u.oneCell' = true)
    (h63 : n + m ≤ maxLen) (hbytes : (n + m) * bytes ≤ 140737488355328) (hbase : base ≤ w.heap.size)
    (h : ∀ v' w', w'.ownsRow base e size v' (n + m) (xs ++ news) → w.grownBy w' v.ownBlock → wpList P ops Q rest (a.put o.dst v') w') : wpList P ops Q (o :: rest) a w := by
  cases A with
  | none =>
    obtain ⟨rfl, rfl⟩ := hA rfl
    rw [Nat.zero_mul] at hl
    have hn := List.length_eq_zero_iff.1 hl
    subst hn
    refine wpList_append_own_none hgd s x t ho base e i size ht hi v n xs hs hown hx (h v w (by rw [List.append_nil]; exact hown) ⟨rfl, rfl, rfl, Nat.le_refl _, fun _ _ _ => rfl⟩)
  | some ad =>
    exact wpList_append_own w hgd s x t ho base e i z size bytes ht hi hz hsize hby hzs hsz v n xs hs hown ad m c news hx hl (hnews ad rfl) h1 h63 hbytes hbase fun v' w' h2 h3 _ => h v' w' h2 h3
theorem below_owns {W w1 : World} {B : Nat} {t : TypeId} {k n : Nat} {v : Value} {xs : List Value} (h : W.ownsRow B t k v n xs) (hg : W.grownBy w1 v.ownBlock) (hB : B ≤ W.heap.size) : Below B W w1 :=
  (Below.refl B W).grown hg hB (fun k hk => (World.ownsRow.lt h k hk).1)
theorem owns_next {W W' : World} {B : Nat} {t : TypeId} {k n : Nat} {v : Value} {xs : List Value} (h : W.ownsRow B t k v n xs) (hb : Below W.heap.size W W') : W'.ownsRow B t k v n xs := by
  refine ⟨h.1, ?_⟩
  rcases h.2 with h | ⟨g, cap, cur, h1, h2, h3, h4⟩
  · exact .inl h
  · exact .inr ⟨g, cap, cur, h1, h2, (hb.block g (Array.getElem?_eq_some_iff.1 h3).1).trans h3, h4⟩
theorem owns_low {W : World} {B B' : Nat} {t : TypeId} {k n : Nat} {v : Value} {xs : List Value} (h : W.ownsRow B t k v n xs) (hB : B' ≤ B) : W.ownsRow B' t k v n xs := by
  refine ⟨h.1, ?_⟩
  rcases h.2 with h | ⟨g, cap, cur, h1, h2, h3⟩
  · exact .inl h
  · exact .inr ⟨g, cap, cur, h1, by omega, h3⟩
/-- rows of different types lie apart: a call that grows the one keeps the other -/
theorem owns_other {W W' : World} {B B' : Nat} {t t' : TypeId} {k k' n n' : Nat} {v v' : Value} {xs xs' : List Value} (h : W.ownsRow B t k v n xs) (h' : W.ownsRow B' t' k' v' n' xs') (ht : t ≠ t') (hg : W.grownBy W' v'.ownBlock) : W'.ownsRow B t k v n xs := by
  refine ⟨h.1, ?_⟩
  rcases h.2 with h0 | ⟨g, cap, cur, h1, h2, h3, h4⟩
  · exact .inl h0
  · refine .inr ⟨g, cap, cur, h1, h2, (hg.block g (Array.getElem?_eq_some_iff.1 h3).1 ?_).trans h3, h4⟩
    rcases h'.2 with ⟨rfl, _⟩ | ⟨g', cap', cur', rfl, _, hgb, _⟩
    · simp [Value.ownBlock]
    · intro e
      have e2 : g = g' := by simpa [Value.ownBlock] using e
      subst e2
      rw [h3] at hgb
      injection hgb with hgb
      injection hgb with _ hgb _
      exact ht hgb

/-! one cell an element -/
section
variable {α : Type}
/-- a slice that reads as these, in blocks below B -/
def Sl1 (e : α → Value) (W : World) (B : Nat) (A : Option Addr) (l : List α) : Prop :=
  l ≠ [] → ∃ b o, A = some ⟨b, o, none⟩ ∧ b < B ∧ ∀ (j : Nat) (x : α), l[j]? = some x → W.cell? ⟨b, o + j, none⟩ = some (e x)
theorem Sl1.next {e : α → Value} {W W' : World} {B : Nat} {A : Option Addr} {l : List α} (h : Sl1 e W B A l) {B' : Nat} (hb : Below B' W W') (hB : B ≤ B') : Sl1 e W' B A l := fun hl => by
  obtain ⟨b, o, e1, hlt, hc⟩ := h hl
  exact ⟨b, o, e1, hlt, fun j p hp => (hb.cell (p := ⟨b, o + j, none⟩) (by show b < B'; omega)).trans (hc j p hp)⟩
theorem Sl1.more {e : α → Value} {W : World} {B B' : Nat} {A : Option Addr} {l : List α} (h : Sl1 e W B A l) (hB : B ≤ B') : Sl1 e W B' A l := fun hl => by
  obtain ⟨b, o, e1, hlt, hc⟩ := h hl
  exact ⟨b, o, e1, by omega, hc⟩
theorem Sl1.at_ {e : α → Value} {W : World} {B : Nat} {A : Option Addr} {l : List α} (h : Sl1 e W B A l) {j : Nat} (hj : j < l.length) : ∃ b o, A = some ⟨b, o, none⟩ ∧ b < B ∧ W.cell? ⟨b, o + j, none⟩ = some (e l[j]) := by
  obtain ⟨b, o, e1, hlt, hc⟩ := h (by intro e; rw [e] at hj; simp at hj)
  exact ⟨b, o, e1, hlt, hc j _ (List.getElem?_eq_getElem hj)⟩
/-- the same, where the slice's place is known -/
theorem Sl1.cell {e : α → Value} {W : World} {B b o : Nat} {l : List α} (h : Sl1 e W B (some ⟨b, o, none⟩) l) {j : Nat} {x : α} (hx : l[j]? = some x) : W.cell? ⟨b, o + j, none⟩ = some (e x) := by
  obtain ⟨b', o', e1, _, hc⟩ := h (by intro e; rw [e] at hx; simp at hx)
  cases e1
  exact hc j x hx
theorem Sl1.take {e : α → Value} {W : World} {B : Nat} {A : Option Addr} {l : List α} (h : Sl1 e W B A l) (k : Nat) : Sl1 e W B A (l.take k) := fun hl => by
  obtain ⟨b, o, e1, hlt, hc⟩ := h (fun e => hl (by rw [e]; simp))
  refine ⟨b, o, e1, hlt, fun j p hp => hc j p ?_⟩
  rw [List.getElem?_take] at hp
  split at hp
  · exact hp
  · cases hp
def cut1 (A : Option Addr) (c k : Nat) : Option Addr := if c = k then A else A.map (·.add (k * 1))
theorem cut1_zero (A : Option Addr) (c : Nat) : cut1 A c 0 = A := by
  unfold cut1
  split
  · rfl
  · cases A with
    | none => rfl
    | some a =>
      show some (a.add (0 * 1)) = some a
      rw [Nat.zero_mul]
      congr 1
theorem cut1_none {A : Option Addr} {c k : Nat} (h : cut1 A c k = none) : A = none := by
  unfold cut1 at h
  split at h
  · exact h
  · simpa using h
theorem Sl1.drop {e : α → Value} {W : World} {B : Nat} {A : Option Addr} {l : List α} (h : Sl1 e W B A l) {c : Nat} (k : Nat) (hlc : l.length ≤ c) : Sl1 e W B (cut1 A c k) (l.drop k) := fun hl => by
  have hk : k < l.length := by
    rcases Nat.lt_or_ge k l.length with h1 | h1
    · exact h1
    · exact absurd (List.drop_of_length_le h1) hl
  obtain ⟨b, o, rfl, hlt, hc⟩ := h (fun e => by rw [e] at hk; exact absurd hk (Nat.not_lt_zero _))
  unfold cut1
  rw [if_neg (by omega)]
  refine ⟨b, o + k, by show some (Addr.add ⟨b, o, none⟩ (k * 1)) = _; rw [Nat.mul_one, addI], hlt, fun j p hp => ?_⟩
  rw [List.getElem?_drop] at hp
  have := hc (k + j) p hp
  rwa [show o + (k + j) = o + k + j from by omega] at this
theorem Sl1.news {e : α → Value} {W : World} {B : Nat} {A : Option Addr} {l : List α} (h : Sl1 e W B A l) (ad : Addr) (hA : A = some ad) (j : Nat) (u : Value) (hu : (l.map e)[j]? = some u) : W.cell? (ad.add j) = some u := by
  rw [List.getElem?_map] at hu
  obtain ⟨x, hx, rfl⟩ := Option.map_eq_some_iff.1 hu
  obtain ⟨b, o, e1, _, hc⟩ := h (fun e => by rw [e] at hx; simp at hx)
  rw [hA] at e1
  cases e1
  rw [addI]
  exact hc j x hx
theorem sl1_nil {e : α → Value} {W : World} {B : Nat} {A : Option Addr} : Sl1 e W B A ([] : List α) := fun h => absurd rfl h
/-- a slice in blocks from B on, which the call has to itself -/
def Own1 (t : TypeId) (e : α → Value) (W : World) (B : Nat) (v : Value) (l : List α) : Prop := W.ownsRow B t 1 v l.length (l.map e)
theorem own1_nil (t : TypeId) (e : α → Value) (W : World) (B : Nat) : Own1 t e W B (.slice none 0 0) [] := World.ownsRow_nil _ _ _ _
theorem Own1.next {t : TypeId} {e : α → Value} {W W' : World} {B : Nat} {v : Value} {l : List α} (h : Own1 t e W B v l) (hb : Below W.heap.size W W') : Own1 t e W' B v l := owns_next h hb
theorem Own1.low {t : TypeId} {e : α → Value} {W : World} {B B' : Nat} {v : Value} {l : List α} (h : Own1 t e W B v l) (hB : B' ≤ B) : Own1 t e W B' v l := owns_low h hB
theorem Own1.form {t : TypeId} {e : α → Value} {W : World} {B : Nat} {v : Value} {l : List α} (h : Own1 t e W B v l) : ∃ A c, v = .slice A l.length c ∧ Sl1 e W W.heap.size A l ∧ l.length ≤ c ∧ c ≤ maxLen ∧ (A = none → l.length = 0 ∧ c = 0) ∧ (∀ a, A = some a → ∃ g, a = ⟨g, 0, none⟩ ∧ B ≤ g ∧ g < W.heap.size) := by
  rcases h.2 with ⟨rfl, h0⟩ | ⟨g, cap, cur, rfl, hB, hgb, h1, h2, _⟩
  · exact ⟨none, 0, by rw [h0], fun hl => absurd (List.length_eq_zero_iff.1 h0) hl, by omega, Nat.zero_le _, fun _ => ⟨h0, rfl⟩, fun a e => by cases e⟩
  · have hlt := (Array.getElem?_eq_some_iff.1 hgb).1
    refine ⟨_, _, rfl, fun _ => ⟨g, 0, rfl, hlt, fun j p hp => ?_⟩, h1, h2, (fun e => by cases e), fun a e => ⟨g, (by cases e; rfl), hB, hlt⟩⟩
    have hr : W.ownsRow B t 1 (.slice (some ⟨g, 0, none⟩) l.length cap) l.length (l.map e) := h
    have hj : j < l.length := (List.getElem?_eq_some_iff.1 hp).1
    rw [Nat.zero_add, hr.cellAt j (by omega), List.getElem?_map, hp]; rfl
theorem own1_of {t : TypeId} {e : α → Value} {W : World} {B m : Nat} {v : Value} {a b : List α} (h : W.ownsRow B t 1 v m (a.map e ++ b.map e)) : Own1 t e W B v (a ++ b) := by
  have h1 := h.1
  rw [← List.map_append, List.length_map] at h1
  obtain rfl : m = (a ++ b).length := by omega
  show World.ownsRow _ _ _ _ _ _ _
  rw [List.map_append]
  exact h
theorem own1_zero (t : TypeId) (e : α → Value) (W : World) (B : Nat) (hB : B ≤ W.heap.size) : Own1 t e (W.alloc (.cells #[] t)) B (.slice (some ⟨W.heap.size, 0, none⟩) 0 0) [] :=
  ⟨rfl, .inr ⟨W.heap.size, 0, #[], rfl, hB, heap_alloc_new W _, Nat.le_refl _, Nat.zero_le _, rfl, rfl⟩⟩
theorem lit1 (e : α → Value) (t : TypeId) (w3 : World) (x : α) (ad : Addr) (h : some (⟨w3.heap.size, 0, none⟩ : Addr) = some ad) (j : Nat) (u : Value) (hu : ([x].map e)[j]? = some u) :
    (w3.alloc (.cells #[e x] t)).cell? (ad.add j) = some u := by
  cases h
  rw [addI, Nat.zero_add, World.cell?_alloc_new]
  simpa using hu
end

/-! values -/
/-- one value: kind, number, text -/
abbrev Vl := Int × (Int × ByteArray)
def cellsV (v : Vl) : List Value := [.int .i64 v.1, .int .i64 v.2.1, .string v.2.2]
theorem cellsV_one (v : Vl) : ∀ u ∈ cellsV v, u.oneCell' = true := by
  intro u hu
  simp [cellsV] at hu
  rcases hu with rfl | rfl | rfl <;> rfl
theorem flatV {l : List Vl} {j i : Nat} (hi : i < 3) : (l.flatMap cellsV)[j * 3 + i]? = l[j]?.bind fun x => (cellsV x)[i]? := by
  induction l generalizing j with
  | nil => simp
  | cons x l ih =>
    cases j with
    | zero =>
      rw [List.flatMap_cons, Nat.zero_mul, Nat.zero_add, List.getElem?_append_left (by show i < 3; exact hi)]
      simp
    | succ j =>
      have e : (j + 1) * 3 + i = 3 + (j * 3 + i) := by omega
      have h3 : (cellsV x).length = 3 := rfl
      rw [List.flatMap_cons, e, List.getElem?_append_right (by rw [h3]; omega), h3, Nat.add_sub_cancel_left, ih]
      simp
theorem flatV_len (l : List Vl) : (l.flatMap cellsV).length = l.length * 3 := by
  induction l with
  | nil => simp
  | cons x l ih =>
    have h3 : (cellsV x).length = 3 := rfl
    rw [List.flatMap_cons, List.length_append, ih, h3, List.length_cons]; omega
theorem cellsV_all (l : List Vl) : ∀ u ∈ l.flatMap cellsV, u.oneCell' = true := fun u hu => by
  obtain ⟨s, _, hs⟩ := List.mem_flatMap.1 hu
  exact cellsV_one s u hs
/-- one value's cells -/
structure VlAt (W : World) (b o : Nat) (v : Vl) : Prop where
  c0 : W.cell? ⟨b, o, none⟩ = some (.int .i64 v.1)
  c1 : W.cell? ⟨b, o + 1, none⟩ = some (.int .i64 v.2.1)
  c2 : W.cell? ⟨b, o + 2, none⟩ = some (.string v.2.2)
/-- a slice that reads as these values, in blocks below B -/
def SlV (W : World) (B : Nat) (A : Option Addr) (l : List Vl) : Prop :=
  l ≠ [] → ∃ b o, A = some ⟨b, o, none⟩ ∧ b < B ∧ ∀ (j : Nat) (v : Vl), l[j]? = some v → VlAt W b (o + j * 3) v
theorem VlAt.next {W W' : World} {B b o : Nat} {v : Vl} (h : VlAt W b o v) (hb : Below B W W') (hB : b < B) : VlAt W' b o v :=
  ⟨(hb.cell (p := ⟨b, o, none⟩) hB).trans h.c0, (hb.cell (p := ⟨b, o + 1, none⟩) hB).trans h.c1, (hb.cell (p := ⟨b, o + 2, none⟩) hB).trans h.c2⟩
theorem VlAt.drewN {W : World} {b o : Nat} {v : Vl} (h : VlAt W b o v) (n : Nat) : VlAt (W.drewN n) b o v := ⟨h.c0, h.c1, h.c2⟩
theorem SlV.next {W W' : World} {B : Nat} {A : Option Addr} {l : List Vl} (h : SlV W B A l) {B' : Nat} (hb : Below B' W W') (hB : B ≤ B') : SlV W' B A l := fun hl => by
  obtain ⟨b, o, e, hlt, hc⟩ := h hl
  exact ⟨b, o, e, hlt, fun j p hp => (hc j p hp).next hb (by omega)⟩
theorem SlV.more {W : World} {B B' : Nat} {A : Option Addr} {l : List Vl} (h : SlV W B A l) (hB : B ≤ B') : SlV W B' A l := fun hl => by
  obtain ⟨b, o, e, hlt, hc⟩ := h hl
  exact ⟨b, o, e, by omega, hc⟩
theorem SlV.at_ {W : World} {B : Nat} {A : Option Addr} {l : List Vl} (h : SlV W B A l) {j : Nat} (hj : j < l.length) : ∃ b o, A = some ⟨b, o, none⟩ ∧ b < B ∧ VlAt W b (o + j * 3) l[j] := by
  obtain ⟨b, o, e, hlt, hc⟩ := h (by intro e; rw [e] at hj; simp at hj)
  exact ⟨b, o, e, hlt, hc j _ (List.getElem?_eq_getElem hj)⟩
/-- a slice of values in blocks from B on, which the call has to itself -/
def OwnV (W : World) (B : Nat) (v : Value) (l : List Vl) : Prop := W.ownsRow B 24 3 v l.length (l.flatMap cellsV)
theorem OwnV.next {W W' : World} {B : Nat} {v : Value} {l : List Vl} (h : OwnV W B v l) (hb : Below W.heap.size W W') : OwnV W' B v l := owns_next h hb
theorem OwnV.low {W : World} {B B' : Nat} {v : Value} {l : List Vl} (h : OwnV W B v l) (hB : B' ≤ B) : OwnV W B' v l := owns_low h hB
theorem OwnV.form {W : World} {B : Nat} {v : Value} {l : List Vl} (h : OwnV W B v l) : ∃ A c, v = .slice A l.length c ∧ SlV W W.heap.size A l ∧ l.length ≤ c ∧ c ≤ maxLen ∧ (A = none → l.length = 0 ∧ c = 0) := by
  rcases h.2 with ⟨rfl, h0⟩ | ⟨g, cap, cur, rfl, _, hgb, h1, h2, _⟩
  · exact ⟨none, 0, by rw [h0], fun hl => absurd (List.length_eq_zero_iff.1 h0) hl, by omega, Nat.zero_le _, fun _ => ⟨h0, rfl⟩⟩
  · refine ⟨_, _, rfl, fun _ => ⟨g, 0, rfl, (Array.getElem?_eq_some_iff.1 hgb).1, fun j p hp => ?_⟩, h1, h2, (fun e => by cases e)⟩
    have hr : W.ownsRow B 24 3 (.slice (some ⟨g, 0, none⟩) l.length cap) l.length (l.flatMap cellsV) := h
    have hj : j < l.length := (List.getElem?_eq_some_iff.1 hp).1
    have hc : ∀ i, i < 3 → W.cell? ⟨g, j * 3 + i, none⟩ = (cellsV p)[i]? := fun i hi => by
      rw [hr.cellAt (j * 3 + i) (by omega), flatV hi, hp]; rfl
    rw [Nat.zero_add]
    exact ⟨hc 0 (by omega), hc 1 (by omega), hc 2 (by omega)⟩
theorem SlV.news {W : World} {B : Nat} {A : Option Addr} {l : List Vl} (h : SlV W B A l) (ad : Addr) (hA : A = some ad) (j : Nat) (u : Value) (hu : (l.flatMap cellsV)[j]? = some u) : W.cell? (ad.add j) = some u := by
  have hj := (List.getElem?_eq_some_iff.1 hu).1
  rw [flatV_len] at hj
  obtain ⟨b, o, e, _, hc⟩ := h (fun e => by rw [e] at hj; simp at hj)
  rw [hA] at e
  cases e
  rw [addI]
  obtain ⟨k, i, hi, rfl⟩ : ∃ k i, i < 3 ∧ j = k * 3 + i := ⟨j / 3, j % 3, by omega, by omega⟩
  rw [flatV hi] at hu
  obtain ⟨s, hs, hu⟩ := Option.bind_eq_some_iff.1 hu
  have hp := hc k s hs
  rcases (by omega : i = 0 ∨ i = 1 ∨ i = 2) with rfl | rfl | rfl
  · simp [cellsV] at hu
    subst hu
    exact hp.c0
  · simp [cellsV] at hu
    subst hu
    rw [← Nat.add_assoc]
    exact hp.c1
  · simp [cellsV] at hu
    subst hu
    rw [← Nat.add_assoc]
    exact hp.c2
theorem ownV_of {W : World} {B m : Nat} {v : Value} {a b : List Vl} (h : W.ownsRow B 24 3 v m (a.flatMap cellsV ++ b.flatMap cellsV)) : OwnV W B v (a ++ b) := by
  have h1 := h.1
  rw [← List.flatMap_append, flatV_len] at h1
  obtain rfl : m = (a ++ b).length := by omega
  show World.ownsRow _ _ _ _ _ _ _
  rw [List.flatMap_append]
  exact h
theorem infoV : (Try.prog.info? 24).map (fun i => (i.zero, i.size, i.bytes)) = some (some (.agg #[.int .i64 0, .int .i64 0, .string ⟨#[]⟩]), 3, 32) := by kernel_rfl
theorem infoR : (Try.prog.info? 46).map (fun i => (i.zero, i.size, i.bytes)) = some (some (.slice none 0 0), 1, 24) := by kernel_rfl
theorem infoS : (Try.prog.info? 9).map (fun i => (i.zero, i.size, i.bytes)) = some (some (.string ⟨#[]⟩), 1, 16) := by kernel_rfl
theorem ownV_zero (W : World) (B : Nat) (hB : B ≤ W.heap.size) : OwnV (W.alloc (.cells #[] 24)) B (.slice (some ⟨W.heap.size, 0, none⟩) 0 0) [] :=
  ⟨rfl, .inr ⟨W.heap.size, 0, #[], rfl, hB, heap_alloc_new W _, Nat.le_refl _, Nat.zero_le _, rfl, rfl⟩⟩

/-! rows -/
/-- a row as it stands: where, what -/
structure Rw where
  A : Option Addr
  c : Nat
  l : List Vl
instance : Inhabited Rw := ⟨⟨none, 0, []⟩⟩
def cellR (r : Rw) : Value := .slice r.A r.l.length r.c
def zOk (l : List Vl) : Prop := ∀ v ∈ l, v.2.2.size ≤ maxLen ∧ (-9223372036854775808 ≤ v.2.1 ∧ v.2.1 ≤ 9223372036854775807)
structure RwOk (W : World) (B : Nat) (r : Rw) : Prop where
  s : SlV W B r.A r.l
  n : r.A = none → r.l.length = 0 ∧ r.c = 0
  c : r.l.length ≤ r.c
  m : r.c ≤ maxLen
  z : zOk r.l
theorem RwOk.next {W W' : World} {B : Nat} {r : Rw} (h : RwOk W B r) {B' : Nat} (hb : Below B' W W') (hB : B ≤ B') : RwOk W' B r := ⟨h.s.next hb hB, h.n, h.c, h.m, h.z⟩
theorem RwOk.more {W : World} {B B' : Nat} {r : Rw} (h : RwOk W B r) (hB : B ≤ B') : RwOk W B' r := ⟨h.s.more hB, h.n, h.c, h.m, h.z⟩
/-- a slice that reads as these rows -/
structure SlR (W : World) (B : Nat) (A : Option Addr) (R : List Rw) : Prop where
  s : Sl1 cellR W B A R
  r : ∀ x ∈ R, RwOk W B x
theorem SlR.next {W W' : World} {B : Nat} {A : Option Addr} {R : List Rw} (h : SlR W B A R) {B' : Nat} (hb : Below B' W W') (hB : B ≤ B') : SlR W' B A R := ⟨h.s.next hb hB, fun x hx => (h.r x hx).next hb hB⟩
theorem SlR.more {W : World} {B B' : Nat} {A : Option Addr} {R : List Rw} (h : SlR W B A R) (hB : B ≤ B') : SlR W B' A R := ⟨h.s.more hB, fun x hx => (h.r x hx).more hB⟩
theorem SlR.up {W W' : World} {A : Option Addr} {R : List Rw} (h : SlR W W.heap.size A R) {B' : Nat} (hb : Below B' W W') (hB : W.heap.size ≤ B') : SlR W' W'.heap.size A R := (h.next hb hB).more hb.size
theorem Sl1.up {α : Type} {e : α → Value} {W W' : World} {A : Option Addr} {R : List α} (h : Sl1 e W W.heap.size A R) {B' : Nat} (hb : Below B' W W') (hB : W.heap.size ≤ B') : Sl1 e W' W'.heap.size A R := (h.next hb hB).more hb.size
theorem RwOk.up {W W' : World} {r : Rw} (h : RwOk W W.heap.size r) {B' : Nat} (hb : Below B' W W') (hB : W.heap.size ≤ B') : RwOk W' W'.heap.size r := (h.next hb hB).more hb.size
/-- rows, and what they hold, in blocks from B on, which the call has to itself -/
structure OwnR (W : World) (B : Nat) (v : Value) (R : List Rw) : Prop where
  o : Own1 46 cellR W B v R
  i : ∀ x ∈ R, OwnV W B (cellR x) x.l
  z : ∀ x ∈ R, zOk x.l
theorem OwnV.rwOk {W : World} {B : Nat} {r : Rw} (h : OwnV W B (cellR r) r.l) (hz : zOk r.l) : RwOk W W.heap.size r := by
  obtain ⟨A, c, e, hs, h1, h2, h3⟩ := h.form
  have e1 : r.A = A ∧ r.c = c := by unfold cellR at e; cases e; exact ⟨rfl, rfl⟩
  obtain ⟨rfl, rfl⟩ := e1
  exact ⟨hs, h3, h1, h2, hz⟩
theorem OwnR.form {W : World} {B : Nat} {v : Value} {R : List Rw} (h : OwnR W B v R) : ∃ A c, v = .slice A R.length c ∧ SlR W W.heap.size A R ∧ R.length ≤ c ∧ c ≤ maxLen ∧ (A = none → R.length = 0 ∧ c = 0) ∧ (∀ a, A = some a → ∃ g, a = ⟨g, 0, none⟩ ∧ B ≤ g ∧ g < W.heap.size) := by
  obtain ⟨A, c, e, hs, h1, h2, h3, h4⟩ := h.o.form
  exact ⟨A, c, e, ⟨hs, fun x hx => (h.i x hx).rwOk (h.z x hx)⟩, h1, h2, h3, h4⟩
theorem OwnR.next {W W' : World} {B : Nat} {v : Value} {R : List Rw} (h : OwnR W B v R) (hb : Below W.heap.size W W') : OwnR W' B v R := ⟨h.o.next hb, fun x hx => (h.i x hx).next hb, h.z⟩
theorem OwnR.low {W : World} {B B' : Nat} {v : Value} {R : List Rw} (h : OwnR W B v R) (hB : B' ≤ B) : OwnR W B' v R := ⟨h.o.low hB, fun x hx => (h.i x hx).low hB, h.z⟩
theorem ownR_nil (W : World) (B : Nat) : OwnR W B (.slice none 0 0) [] := ⟨own1_nil _ _ _ _, (fun x hx => by cases hx), (fun x hx => by cases hx)⟩
/-- the values that rows hold -/
def txR (R : List Rw) : List (List Vl) := R.map (·.l)
def strV (s : ByteArray) : Value := .string s
abbrev OwnC (W : World) (B : Nat) (v : Value) (l : List ByteArray) : Prop := Own1 9 strV W B v l
abbrev SlC (W : World) (B : Nat) (A : Option Addr) (l : List ByteArray) : Prop := Sl1 strV W B A l
end Go.Proofs.Ytofmfainhflmmaa
