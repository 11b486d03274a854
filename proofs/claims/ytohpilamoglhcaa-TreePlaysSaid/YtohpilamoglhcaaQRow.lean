/-
  ROWS OF PAIRS that a call has to itself, each with its own bytes; what Range answers (plain).
-/
import Derived.Test.YtohpilamoglhcaaQTell
import Derived.Test.YtohpilamoglhcaaQMet2
import Derived.Maps.AppendAt
namespace Go.Proofs.Ytohpilamoglhcaa
open Go.RowKit Go.Shelf

abbrev Q3 := Pr × Value × Value
def cellsQ (q : Q3) : List Value := [q.2.1, q.2.2]
theorem cellsQ_len (qs : List Q3) : (qs.flatMap cellsQ).length = qs.length * 2 := by
  induction qs with
  | nil => rfl
  | cons q r ih => rw [List.flatMap_cons, List.length_append, ih, List.length_cons]; simp [cellsQ]; omega
/-- bytes of a call's own -/
def BV (w : World) (B : Nat) (v : Value) (l : By) : Prop := ∃ A c, v = .slice A l.length c ∧ OwnB w B v l
theorem BV.one {w : World} {B : Nat} {v : Value} {l : By} (h : BV w B v l) : v.oneCell' = true := by
  obtain ⟨A, c, rfl, _⟩ := h; rfl
/-- the blocks of pairs' bytes -/
def blksQ (qs : List Q3) : List Nat := (qs.flatMap fun q => [q.2.1.ownBlock, q.2.2.ownBlock]).filterMap id
theorem blksQ_snoc (qs : List Q3) (q : Q3) : blksQ (qs ++ [q]) = blksQ qs ++ ([q.2.1.ownBlock, q.2.2.ownBlock].filterMap id) := by
  unfold blksQ
  rw [List.flatMap_append, List.filterMap_append]
  simp
structure OwnQ (w : World) (B : Nat) (v : Value) (qs : List Q3) : Prop where
  row : w.ownsRow B 93 2 v qs.length (qs.flatMap cellsQ)
  el : ∀ q ∈ qs, BV w B q.2.1 q.1.1 ∧ BV w B q.2.2 q.1.2
  ap : (blksQ qs).Pairwise (· < ·)
  lt : ∀ g ∈ blksQ qs, B ≤ g ∧ g < w.heap.size
theorem OwnQ.form {w : World} {B : Nat} {v : Value} {qs : List Q3} (h : OwnQ w B v qs) : ∃ A c, v = .slice A qs.length c := by
  rcases h.row.2 with ⟨rfl, h0⟩ | ⟨g, cap, cur, rfl, _⟩
  · exact ⟨none, 0, by rw [h0]⟩
  · exact ⟨_, _, rfl⟩
theorem ownQ_nil (w : World) (B : Nat) : OwnQ w B (.slice none 0 0) [] := ⟨World.ownsRow_nil _ _ _ _, (fun _ h => by cases h), List.Pairwise.nil, (fun _ h => by cases h)⟩
/-- another row's growth leaves bytes -/
theorem ownB_row {w w' : World} {B B' n s : Nat} {v u : Value} {xs : List Value} {l : By} (h : OwnB w B u l) (hr : w.ownsRow B' 93 s v n xs) (hg : w.grownBy w' v.ownBlock) : OwnB w' B u l := by
  refine World.ownsRow.kept h hg ?_
  rcases hr.2 with ⟨rfl, _⟩ | ⟨g, cap, cur, rfl, _, hgb, _⟩
  · rcases h.2 with ⟨rfl, _⟩ | ⟨g2, cap2, cur2, rfl, _⟩
    · exact .inl rfl
    · exact .inr (by simp [Value.ownBlock])
  · exact .inr (fun e => blk_own hgb (by decide) h e.symm)
theorem BV.next {w w' : World} {B : Nat} {v : Value} {l : By} (h : BV w B v l) (hb : Below w.heap.size w w') : BV w' B v l := by
  obtain ⟨A, c, e, h⟩ := h
  exact ⟨A, c, e, h.next hb⟩
theorem OwnQ.next {w w' : World} {B : Nat} {v : Value} {qs : List Q3} (h : OwnQ w B v qs) (hb : Below w.heap.size w w') : OwnQ w' B v qs := by
  refine ⟨?_, fun q hq => ⟨(h.el q hq).1.next hb, (h.el q hq).2.next hb⟩, h.ap, fun g hg => ⟨(h.lt g hg).1, Nat.lt_of_lt_of_le (h.lt g hg).2 hb.size⟩⟩
  refine World.ownsRow.kept (row := none) h.row ⟨hb.os, hb.tape, hb.output, hb.size, fun k hk _ => hb.block k hk⟩ ?_
  rcases h.row.2 with ⟨rfl, _⟩ | ⟨g, cap, cur, rfl, _⟩
  · exact .inl rfl
  · exact .inr (by simp [Value.ownBlock])
/-- a store into a box of one cell -/
theorem OwnQ.set {w : World} {B b : Nat} {v u x : Value} {t : TypeId} {qs : List Q3} (h : OwnQ w B v qs) (hb : Boxed w b t x) (ht : t ≠ 93) (ht2 : t ≠ 5) : OwnQ (w.setCell ⟨b, 0, none⟩ u) B v qs := by
  have hg := grownBy_setCell' w b u
  refine ⟨World.ownsRow.kept h.row hg (.inr (hb.not_row ht h.row).symm), fun q hq => ?_, h.ap, fun g hg2 => ⟨(h.lt g hg2).1, by simpa using (h.lt g hg2).2⟩⟩
  obtain ⟨⟨A, c, e, h1⟩, ⟨A2, c2, e2, h2⟩⟩ := h.el q hq
  exact ⟨⟨A, c, e, World.ownsRow.kept h1 hg (.inr (hb.not_row ht2 h1).symm)⟩, ⟨A2, c2, e2, World.ownsRow.kept h2 hg (.inr (hb.not_row ht2 h2).symm)⟩⟩
theorem OwnQ.kept {w w' : World} {B : Nat} {v : Value} {qs : List Q3} {row : Option Nat} (h : OwnQ w B v qs) (hg : w.grownBy w' row) (hr : ∀ r, row = some r → ∃ o, w.heap[r]? = some o ∧ o.isCells = false) : OwnQ w' B v qs := by
  have hk : ∀ {s : Nat} {t : TypeId} {u : Value} {n : Nat} {xs : List Value} {B : Nat}, w.ownsRow B t s u n xs → w'.ownsRow B t s u n xs := fun hw => by
    refine World.ownsRow.kept hw hg ?_
    rcases hw.2 with ⟨rfl, _⟩ | ⟨g, cap, cur, rfl, _, hgb, _⟩
    · exact .inl rfl
    · refine .inr (fun e => ?_)
      obtain ⟨o, ho, ho2⟩ := hr g e.symm
      rw [hgb] at ho
      cases ho
      cases ho2
  refine ⟨hk h.row, fun q hq => ?_, h.ap, fun g hg2 => ⟨(h.lt g hg2).1, Nat.lt_of_lt_of_le (h.lt g hg2).2 hg.size⟩⟩
  obtain ⟨⟨A, c, e, h1⟩, ⟨A2, c2, e2, h2⟩⟩ := h.el q hq
  exact ⟨⟨A, c, e, hk h1⟩, ⟨A2, c2, e2, hk h2⟩⟩
/-- an append of a pair of a call's own: w: ahead of own; w4: behind it; w5: behind the literal's block; w6: behind the append -/
theorem OwnQ.snoc {w w4 w5 w6 : World} {B : Nat} {v v' : Value} {qs : List Q3} {p : Pr} {u1 u2 : Value} (h : OwnQ w B v qs) (hB : B ≤ w.heap.size) (hb4 : Below w.heap.size w w4) (hv : PrV w4 w.heap.size (.agg #[u1, u2]) p) (hb5 : Below w4.heap.size w4 w5)
    (hown : w6.ownsRow B 93 2 v' (qs.length + 1) (qs.flatMap cellsQ ++ [u1, u2])) (hg : w5.grownBy w6 v.ownBlock) : OwnQ w6 B v' (qs ++ [(p, u1, u2)]) := by
  have h5 := (h.next hb4).next hb5
  have hs4 := hb4.size
  have hs5 := hb5.size
  have hs6 := hg.size
  obtain ⟨A, c, A', c', M, e, g1, g2, g3, g4, g5⟩ := hv
  have e' := congrArg (fun | .agg x => x.toList | _ => []) e
  simp only [List.cons.injEq, and_true] at e'
  obtain ⟨rfl, rfl⟩ := e'
  have k1 : OwnB w6 B (.slice A p.1.length c) p.1 := ownB_row ((g1.from_ hB).next hb5) h5.row hg
  have k2 : OwnB w6 M (.slice A' p.2.length c') p.2 := ownB_row (g2.next hb5) h5.row hg
  refine ⟨by simpa [cellsQ] using hown, fun q hq => ?_, ?_, fun g hgm => ?_⟩
  · rcases List.mem_append.1 hq with hq | hq
    · obtain ⟨⟨A1, c1, e1, q1⟩, ⟨A2, c2, e2, q2⟩⟩ := h5.el q hq
      exact ⟨⟨A1, c1, e1, ownB_row q1 h5.row hg⟩, ⟨A2, c2, e2, ownB_row q2 h5.row hg⟩⟩
    · rw [List.mem_singleton.1 hq]
      exact ⟨⟨A, c, rfl, k1⟩, ⟨A', c', rfl, k2.from_ (Nat.le_trans hB g3)⟩⟩
  · rw [blksQ_snoc, List.pairwise_append]
    refine ⟨h.ap, ?_, fun a ha b hb => ?_⟩
    · cases h1 : (Value.slice A p.1.length c).ownBlock with
      | none => cases (Value.slice A' p.2.length c').ownBlock <;> simp
      | some x =>
        cases h2 : (Value.slice A' p.2.length c').ownBlock with
        | none => simp
        | some y =>
          have := g5 x h1
          have := (World.ownsRow.lt g2 y h2).1
          simp
          omega
    · have ha2 := (h.lt a ha).2
      have hb2 : w.heap.size ≤ b := by
        simp only [List.mem_filterMap, List.mem_cons, List.not_mem_nil, or_false, id_eq] at hb
        obtain ⟨y, hy, hy2⟩ := hb
        rcases hy with rfl | rfl
        · exact (World.ownsRow.lt g1 b hy2).1
        · have := (World.ownsRow.lt g2 b hy2).1; omega
      omega
  · rw [blksQ_snoc] at hgm
    rcases List.mem_append.1 hgm with hgm | hgm
    · have := h.lt g hgm; omega
    · simp only [List.mem_filterMap, List.mem_cons, List.not_mem_nil, or_false, id_eq] at hgm
      obtain ⟨y, hy, hy2⟩ := hgm
      rcases hy with rfl | rfl
      · have := World.ownsRow.lt k1 g hy2; omega
      · have := World.ownsRow.lt k2 g hy2; omega

/-! ### what Range answers -/
def rgL (to : By) : Int → List Pr → List Pr
  | _, [] => []
  | m, p :: r => if m ≤ 0 ∨ (to ≠ [] ∧ 0 ≤ ordL p.1 to) then [] else p :: rgL to (m - 1) r
theorem rgL_app {to : By} : ∀ {m : Int} {l r : List Pr}, rgL to m l = l → rgL to m (l ++ r) = l ++ rgL to (m - l.length) r
  | m, [], r, _ => by simp
  | m, p :: l, r, h => by
    unfold rgL at h
    by_cases g : m ≤ 0 ∨ (to ≠ [] ∧ 0 ≤ ordL p.1 to)
    · rw [if_pos g] at h; cases h
    · rw [if_neg g] at h
      injection h with _ h
      have ih := rgL_app (r := r) h
      rw [List.cons_append]
      conv => lhs; unfold rgL
      rw [if_neg g, ih]
      simp only [List.length_cons, List.cons_append]
      congr 3
      omega
theorem rgL_go {to : By} {m : Int} {l : List Pr} {p : Pr} (h : rgL to m l = l) (g : ¬ (m - l.length ≤ 0 ∨ (to ≠ [] ∧ 0 ≤ ordL p.1 to))) : rgL to m (l ++ [p]) = l ++ [p] := by
  rw [rgL_app h]
  unfold rgL
  rw [if_neg g]
  rfl
theorem rgL_stop {to : By} {m : Int} {l r : List Pr} {p : Pr} (h : rgL to m l = l) (g : m - l.length ≤ 0 ∨ (to ≠ [] ∧ 0 ≤ ordL p.1 to)) : rgL to m (l ++ p :: r) = l := by
  rw [rgL_app h]
  unfold rgL
  rw [if_pos g]
  simp
theorem rgL_all : ∀ {m : Int} {l : List Pr}, (l.length : Int) ≤ m → rgL [] m l = l
  | m, [], _ => rfl
  | m, p :: l, h => by
    unfold rgL
    rw [List.length_cons] at h
    rw [if_neg (by simp; omega), rgL_all (by omega)]
theorem rgL_to {to : By} (h0 : to ≠ []) : ∀ {m : Int} {l : List Pr}, Rise l → (l.length : Int) ≤ m → rgL to m l = l.filter (fun q => decide (ordL q.1 to = -1))
  | m, [], _, _ => rfl
  | m, p :: l, hR, h => by
    rw [List.length_cons] at h
    have a := List.pairwise_cons.1 hR
    unfold rgL
    by_cases g : 0 ≤ ordL p.1 to
    · rw [if_pos (.inr ⟨h0, g⟩), List.filter_cons_of_neg (by simp; omega), eq_comm, List.filter_eq_nil_iff]
      intro q hq
      have := qo_ge_trans g (a.1 q hq)
      simp
      omega
    · have g2 : ordL p.1 to = -1 := by have := ordL_range p.1 to; omega
      rw [if_neg (by rintro (h2 | h2); · omega
                     · exact g h2.2), List.filter_cons_of_pos (by simpa using g2), rgL_to h0 a.2 (by omega)]
/-- the pairs from a key on -/
def fromL (k : By) (L : List Pr) : List Pr := L.filter (fun q => decide (0 ≤ ordL q.1 k))
theorem fromQ_map [LT Gb] {w0 : World} (k : By) (ps : List (PrB w0)) : (fromQ k ps).map (·.1.2) = fromL k (ps.map (·.1.2)) := by
  unfold fromQ fromL
  rw [List.filter_map]
  rfl
theorem fromL_nil (L : List Pr) : fromL [] L = L := List.filter_eq_self.2 (fun x _ => by simpa using ordL_nil_ge _)
end Go.Proofs.Ytohpilamoglhcaa
