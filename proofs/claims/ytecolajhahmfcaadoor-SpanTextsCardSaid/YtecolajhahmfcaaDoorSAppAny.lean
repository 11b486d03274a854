/-
  RULE: appending a slice that may be nil to a slice that the call has to itself.
-/
import Derived.Test.YtecolajhahmfcaaDoorSEnds
namespace Go.Proofs.YtecolajhahmfcaaDoor
open Go.RowKit

theorem wpList_append_any {P : Program} {w : World} {ops : Array Oper} {rest : List Oper} {o : Oper} {a : Act} {Q : Exit → Act → World → Prop} (hgd : o.guard = none) (s x : Operand) (t : TypeId)
    (ho : o.op = .call { callee := .builtin .append, args := #[s, x], argTypes := #[t, t] })
    (base : Nat) (e : TypeId) (i : TypeInfo) (z : Value) (size bytes : Nat) (ht : P.underlying t = some (.slice e)) (hi : P.info? e = some i) (hz : i.zero = some z)
    (hsize : i.size = size) (hby : i.bytes = bytes) (hzs : z.cells.size = size) (hsz : 0 < size)
    (v : Value) (n : Nat) (xs : List Value) (hs : a.eval s = v) (hown : w.ownsRow base e size v n xs)
    (A : Option Addr) (m c : Nat) (news : List Value) (hx : a.eval x = .slice A m c) (hl : news.length = m * size) (hA : A = none → m = 0 ∧ c = 0) (hnews : ∀ ad, A = some ad → ∀ j u, news[j]? = some u → w.cell? (ad.add j) = some u) (h1 : ∀ u ∈ news, u.oneCell' = true)
    (h63 : n + m ≤ maxLen) (hbytes : (n + m) * bytes ≤ 140737488355328) (hbase : base ≤ w.heap.size)
    (h : ∀ v' w', w'.ownsRow base e size v' (n + m) (xs ++ news) → w.grownBy w' v.ownBlock → wpList P ops Q rest (a.put o.dst v') w') : wpList P ops Q (o :: rest) a w := by
  cases A with
  | none =>
    obtain ⟨rfl, rfl⟩ := hA rfl
    rw [Nat.zero_mul] at hl
    have hn := List.length_eq_zero_iff.1 hl
    subst hn
    refine wpList_append_own_none hgd s x t ho base e i size ht hi v n xs hs hown hx (h v w (by rw [List.append_nil]; exact hown) ⟨rfl, rfl, rfl, Nat.le_refl _, fun _ _ _ => rfl⟩)
  | some ad =>
    exact wpList_append_own w hgd s x t ho base e i z size bytes ht hi hz hsize hby hzs hsz v n xs hs hown ad m c news hx hl (hnews ad rfl) h1 h63 hbytes hbase fun v' w' h2 h3 _ => h v' w' h2 h3
theorem SlS.news {W : World} {B : Nat} {A : Option Addr} {l : List Sp} (h : SlS W B A l) (ad : Addr) (hA : A = some ad) (j : Nat) (u : Value) (hu : (l.flatMap cellsS)[j]? = some u) : W.cell? (ad.add j) = some u := by
  have hj := (List.getElem?_eq_some_iff.1 hu).1
  rw [flatS_len] at hj
  obtain ⟨b, o, e, _, hc⟩ := h (fun e => by rw [e] at hj; simp at hj)
  rw [hA] at e
  cases e
  rw [addI]
  obtain ⟨k, i, hi, rfl⟩ : ∃ k i, i < 2 ∧ j = k * 2 + i := ⟨j / 2, j % 2, by omega, by omega⟩
  rw [flatS hi] at hu
  obtain ⟨s, hs, hu⟩ := Option.bind_eq_some_iff.1 hu
  have hp := hc k s hs
  rcases (by omega : i = 0 ∨ i = 1) with rfl | rfl
  · simp [cellsS] at hu
    subst hu
    exact hp.c0
  · simp [cellsS] at hu
    subst hu
    rw [← Nat.add_assoc]
    exact hp.c1
theorem cellsS_all (l : List Sp) : ∀ u ∈ l.flatMap cellsS, u.oneCell' = true := fun u hu => by
  obtain ⟨s, _, hs⟩ := List.mem_flatMap.1 hu
  exact cellsS_one s u hs
theorem ownS_of {W : World} {B m : Nat} {v : Value} {a b : List Sp} (h : W.ownsRow B 38 2 v m (a.flatMap cellsS ++ b.flatMap cellsS)) : OwnS W B v (a ++ b) := by
  have h1 := h.1
  rw [← List.flatMap_append, flatS_len] at h1
  obtain rfl : m = (a ++ b).length := by omega
  show World.ownsRow _ _ _ _ _ _ _
  rw [List.flatMap_append]
  exact h
theorem below_ownS {W w1 : World} {B : Nat} {v : Value} {l : List Sp} (h : OwnS W B v l) (hg : W.grownBy w1 v.ownBlock) (hB : B ≤ W.heap.size) : Below B W w1 :=
  (Below.refl B W).grown hg hB (fun k hk => (World.ownsRow.lt h k hk).1)
end Go.Proofs.YtecolajhahmfcaaDoor
