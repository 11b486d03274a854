/-
  NODES GATHERED in a row.
-/
import Derived.Test.YtdjdlfndmeegnaaDoorKTnode
import Derived.Maps.AppendAt
import Derived.RangeFuncBox
import Derived.OwnWalk
import Derived.Laws.OwnMore
namespace Go.Proofs.YtdjdlfndmeegnaaDoor
open Go.RowKit
open Go.Deep

/-- the cells of nodes, each with its kids' slice -/
def catN (l : List (Nd × Option Addr × Nat)) : List Value := l.flatMap fun p => cellsN p.1 (.slice p.2.1 p.1.kids.length p.2.2)
theorem catN_snoc (l : List (Nd × Option Addr × Nat)) (p : Nd × Option Addr × Nat) : catN (l ++ [p]) = catN l ++ cellsN p.1 (.slice p.2.1 p.1.kids.length p.2.2) := by
  unfold catN; rw [List.flatMap_append]; simp
theorem catN_len (l : List (Nd × Option Addr × Nat)) : (catN l).length = l.length * 8 := by
  induction l with
  | nil => rfl
  | cons a r ih => unfold catN at *; rw [List.flatMap_cons, List.length_append, ih]; simp [cellsN]; omega
theorem catN_at (l : List (Nd × Option Addr × Nat)) (j i : Nat) (hi : i < 8) : (catN l)[j * 8 + i]? = (l[j]?).bind fun p => (cellsN p.1 (.slice p.2.1 p.1.kids.length p.2.2))[i]? := by
  induction l generalizing j with
  | nil => simp [catN]
  | cons a r ih =>
    have hc : catN (a :: r) = cellsN a.1 (.slice a.2.1 a.1.kids.length a.2.2) ++ catN r := by unfold catN; rw [List.flatMap_cons]
    have h8 : (cellsN a.1 (.slice a.2.1 a.1.kids.length a.2.2)).length = 8 := rfl
    rw [hc]
    cases j with
    | zero => rw [List.getElem?_append_left (by omega), Nat.zero_mul, Nat.zero_add]; rfl
    | succ j =>
      rw [List.getElem?_append_right (by omega), h8, show (j + 1) * 8 + i - 8 = j * 8 + i from by omega, ih]
      rfl
/-- nodes gathered in a row of the call's own -/
structure Gat (lo : Nat) (W : World) (v : Value) (l : List (Nd × Option Addr × Nat)) : Prop where
  own : W.ownsRow lo 35 8 v l.length (catN l)
  kids : ∀ p ∈ l, SlN 1 W (Fr lo W) p.2.1 p.1.kids
  head : ∃ x r, l = x :: r ∧ x.1.k = 2
theorem Gat.form {lo : Nat} {W : World} {v : Value} {l : List (Nd × Option Addr × Nat)} (h : Gat lo W v l) : ∃ g cap, v = .slice (some ⟨g, 0, none⟩) l.length cap ∧ lo ≤ g ∧ g < W.heap.size ∧ W.cell? ⟨g, 0, none⟩ = some (.int .i64 2) := by
  obtain ⟨x, r, e, hx⟩ := h.head
  have ho := h.own
  obtain ⟨g, cap, rfl⟩ : ∃ g cap, v = .slice (some ⟨g, 0, none⟩) l.length cap := by
    have hl : l.length = r.length + 1 := by rw [e]; rfl
    rw [hl] at ho
    obtain ⟨g, cap, hv⟩ := ownsRow_succ ho
    exact ⟨g, cap, by rw [hl]; exact hv⟩
  have hlt := ho.lt g rfl
  refine ⟨g, cap, rfl, hlt.1, hlt.2, ?_⟩
  have hl : 0 < l.length := by rw [e]; simp
  rw [ho.cellAt 0 (by omega), e, ← hx]
  rfl
theorem Gat.apart {lo : Nat} {W : World} {v : Value} {l : List (Nd × Option Addr × Nat)} (h : Gat lo W v l) {lo' b : Nat} (hb : Fr lo' W b) : some b ≠ v.ownBlock := by
  obtain ⟨g, cap, rfl, _, _, hc⟩ := h.form
  intro e
  obtain rfl : b = g := by simpa [Value.ownBlock] using e
  rw [hb.2.2] at hc
  simp at hc
theorem Gat.next {lo : Nat} {W W' : World} {v : Value} {l : List (Nd × Option Addr × Nat)} (h : Gat lo W v l) (hb : Below W.heap.size W W') : Gat lo W' v l := by
  refine ⟨⟨h.own.1, ?_⟩, fun p hp => (h.kids p hp).fr (fun b hB => hb.block b hB.2.1) hb.size (Nat.le_refl _), h.head⟩
  rcases h.own.2 with h | ⟨g, cap, cur, h1, h2, h3, h4⟩
  · exact .inl h
  · exact .inr ⟨g, cap, cur, h1, h2, (hb.block g (Array.getElem?_eq_some_iff.1 h3).1).trans h3, h4⟩
theorem Gat.snoc {lo : Nat} {W W' : World} {v v' : Value} {l : List (Nd × Option Addr × Nat)} (h : Gat lo W v l) (p : Nd × Option Addr × Nat) (hx : SlN 1 W (Fr lo W) p.2.1 p.1.kids)
    (ho : W'.ownsRow lo 35 8 v' (l.length + 1) (catN l ++ cellsN p.1 (.slice p.2.1 p.1.kids.length p.2.2))) (hg : W.grownBy W' v.ownBlock) : Gat lo W' v' (l ++ [p]) := by
  have hk : ∀ b, Fr lo W b → W'.heap[b]? = W.heap[b]? := fun b hB => hg.block b hB.2.1 (h.apart hB)
  refine ⟨by rw [List.length_append, catN_snoc]; exact ho, fun q hq => ?_, ?_⟩
  · rcases List.mem_append.1 hq with hq | hq
    · exact (h.kids q hq).fr hk hg.size (Nat.le_refl _)
    · obtain rfl : q = p := by simpa using hq
      exact hx.fr hk hg.size (Nat.le_refl _)
  · obtain ⟨x, r, e, hx⟩ := h.head
    exact ⟨x, r ++ [p], by rw [e]; rfl, hx⟩
theorem Gat.sl {lo : Nat} {W : World} {A : Option Addr} {n c : Nat} {l : List (Nd × Option Addr × Nat)} (h : Gat lo W (.slice A n c) l) (hl : l.length ≤ 1000) : n = (l.map (·.1)).length ∧ SlN 2 W (fun b => lo ≤ b ∧ b < W.heap.size) A (l.map (·.1)) := by
  obtain ⟨g, cap, e, hlo, hlt, _⟩ := h.form
  cases e
  have ho := h.own
  refine ⟨by simp, by rw [List.length_map]; omega, fun _ => ⟨g, 0, rfl, ⟨hlo, hlt⟩, fun j x hx => ?_⟩⟩
  obtain ⟨p, hp, rfl⟩ : ∃ p, l[j]? = some p ∧ p.1 = x := by simpa using hx
  have hj := (List.getElem?_eq_some_iff.1 hp).1
  refine ⟨p.2.1, p.2.2, fun i hi => ?_, (h.kids p (List.mem_of_getElem? hp)).mono fun b hb => ⟨hb.1, hb.2.1⟩⟩
  rw [Nat.zero_add, ho.cellAt (j * 8 + i) (by omega), catN_at l j i hi, hp]
  rfl
theorem Gat.below {lo : Nat} {W W' : World} {v : Value} {l : List (Nd × Option Addr × Nat)} (h : Gat lo W v l) (hg : W.grownBy W' v.ownBlock) (hB : lo ≤ W.heap.size) : Below lo W W' :=
  (Below.refl lo W).grown hg hB (fun k hk => (World.ownsRow.lt h.own k hk).1)
theorem SBx.low {w : World} {cs : Array Value} {t : TypeId} {W W' : World} (h : SBx w cs t W) {B : Nat} (hb : Below B W W') (hB : w.heap.size + 2 ≤ B) : SBx w cs t W' :=
  ⟨h.x.next hb (by omega), by obtain ⟨zs, h1, h2⟩ := h.z; exact ⟨zs, h1, h2.next hb (by omega)⟩, h.below.trans (hb.mono (by omega))⟩
theorem Blk.grown {W W' : World} {b lo n : Nat} {cs : Array Value} {t : TypeId} {v : Value} {xs : List Value} (h : Blk W b cs t) (ho : W.ownsRow lo 35 8 v n xs) (hg : W.grownBy W' v.ownBlock) (ht : t ≠ 35) : Blk W' b cs t := by
  refine (hg.block b h.lt ?_).trans h
  rcases ho.2 with ⟨rfl, _⟩ | ⟨g, cap, cur, rfl, _, hgb, _⟩
  · simp [Value.ownBlock]
  · intro e
    obtain rfl : b = g := by simpa [Value.ownBlock] using e
    rw [show W.heap[b]? = _ from h] at hgb
    simp at hgb
    exact ht hgb.2
theorem cellsN_one (x : Nd) (K : Option Addr) (n c : Nat) : ∀ u ∈ cellsN x (.slice K n c), u.oneCell' = true := by
  intro u hu
  simp [cellsN] at hu
  rcases hu with rfl | rfl | rfl | rfl | rfl | rfl | rfl | rfl <;> rfl
theorem litN (W : World) (x : Nd) (K : Option Addr) (n c : Nat) (j : Nat) (u : Value) (hu : (cellsN x (.slice K n c))[j]? = some u) :
    (W.alloc (.cells #[.int .i64 x.k, .int .i64 x.vk, .int .i64 x.vn, .string x.vs, .string x.s, .slice K n c, .int .i64 x.ln, .int .i64 x.co] 35)).cell? ((⟨W.heap.size, 0, none⟩ : Addr).add j) = some u := by
  have e : (⟨W.heap.size, 0, none⟩ : Addr).add j = ⟨W.heap.size, j, none⟩ := by unfold Addr.add; split <;> simp_all
  rw [e, World.cell?_alloc_new]
  simpa [cellsN] using hu
theorem infoN : (Tryd.prog.info? 35).map (fun i => (i.zero, i.size, i.bytes)) = some (some (.agg #[.int .i64 0, .int .i64 0, .int .i64 0, .string ⟨#[]⟩, .string ⟨#[]⟩, .slice none 0 0, .int .i64 0, .int .i64 0]), 8, 96) := by kernel_rfl
theorem Gat.one (W : World) (x : Nd) (K : Option Addr) (c lo : Nat) (hx : x.k = 2) (hk : x.kids = []) (hlo : lo ≤ W.heap.size) :
    Gat lo (W.alloc (.cells #[.int .i64 x.k, .int .i64 x.vk, .int .i64 x.vn, .string x.vs, .string x.s, .slice K x.kids.length c, .int .i64 x.ln, .int .i64 x.co] 35)) (.slice (some ⟨W.heap.size, 0, none⟩) 1 1) [(x, K, c)] :=
  ⟨World.ownsRow_lit W _ 1 hlo (by decide) rfl, fun p hp => by
    obtain rfl : p = (x, K, c) := by simpa using hp
    show SlN 1 _ _ K x.kids
    rw [hk]
    exact SlN.nil _ _ _ _, ⟨_, _, rfl, hx⟩⟩

end Go.Proofs.YtdjdlfndmeegnaaDoor
