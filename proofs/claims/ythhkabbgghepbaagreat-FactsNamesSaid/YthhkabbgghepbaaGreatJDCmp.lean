import Derived.Laws.ResultCell
import Derived.Test.YthhkabbgghepbaaGreatJDSl
import Derived.Test.YthhkabbgghepbaaGreatJORdRead
import Derived.Test.YthhkabbgghepbaaGreatJSTold
import Derived.Shelf.RegionOpen
/-
  CONTRACTS over datoms: placesOf, has, part.
-/
namespace Go.Proofs.YthhkabbgghepbaaGreat
open Go.RowKit

/-- where E, A and V stand, in a slot -/
def plcV (o : Int) : Value := if o = 1 then .agg #[.int .i64 (0 : Int), .int .i64 (1 : Int), .int .i64 (2 : Int)] else if o = 2 then .agg #[.int .i64 (1 : Int), .int .i64 (0 : Int), .int .i64 (2 : Int)] else if o = 3 then .agg #[.int .i64 (2 : Int), .int .i64 (0 : Int), .int .i64 (1 : Int)] else if o = 4 then .agg #[.int .i64 (2 : Int), .int .i64 (1 : Int), .int .i64 (0 : Int)] else .agg #[.int .i64 (0 : Int), .int .i64 (0 : Int), .int .i64 (0 : Int)]
theorem plcV_is {o : Int} (h : isO o = true) : plcV o = .agg #[.int .i64 ((plE o : Nat) : Int), .int .i64 ((plA o : Nat) : Int), .int .i64 ((plV o : Nat) : Int)] := by
  rcases isO_cases h with rfl | rfl | rfl | rfl <;> rfl
set_option maxRecDepth 100000 in
set_option maxHeartbeats 1000000 in
theorem placesOf_any (o : Int) (w : World) : Calls Tryz.prog 88 #[.int .i64 o] w fun e w' => e = .returned (.tuple #[plcV o, .bool (isO o)]) ∧ Below w.heap.size w w' := by
  by_cases h1 : o = 1
  · subst h1
    go_enter Tryz.func88, Tryz.ntmps88
    go_wp2
    refine bodyPost_ret (v := .tuple #[plcV 1, .bool true]) ?_ rfl ⟨rfl, ?_⟩
    · rw [results_cell_tmp rfl]
      go_simp
      rfl
    · exact (Below.refl _ _).alloc (Nat.le_refl _) _
  by_cases h2 : o = 2
  · subst h2
    go_enter Tryz.func88, Tryz.ntmps88
    go_wp2
    refine bodyPost_ret (v := .tuple #[plcV 2, .bool true]) ?_ rfl ⟨rfl, ?_⟩
    · rw [results_cell_tmp rfl]
      go_simp
      rfl
    · exact (Below.refl _ _).alloc (Nat.le_refl _) _
  by_cases h3 : o = 3
  · subst h3
    go_enter Tryz.func88, Tryz.ntmps88
    go_wp2
    refine bodyPost_ret (v := .tuple #[plcV 3, .bool true]) ?_ rfl ⟨rfl, ?_⟩
    · rw [results_cell_tmp rfl]
      go_simp
      rfl
    · exact (Below.refl _ _).alloc (Nat.le_refl _) _
  by_cases h4 : o = 4
  · subst h4
    go_enter Tryz.func88, Tryz.ntmps88
    go_wp2
    refine bodyPost_ret (v := .tuple #[plcV 4, .bool true]) ?_ rfl ⟨rfl, ?_⟩
    · rw [results_cell_tmp rfl]
      go_simp
      rfl
    · exact (Below.refl _ _).alloc (Nat.le_refl _) _
  have HE : Hid (plcV o = .agg #[.int .i64 (0 : Int), .int .i64 (0 : Int), .int .i64 (0 : Int)] ∧ isO o = false) := by
    refine ⟨?_, ?_⟩
    · unfold plcV; rw [if_neg h1, if_neg h2, if_neg h3, if_neg h4]
    · unfold isO; rw [decide_eq_false_iff_not]; omega
  have k1 : (o == 1) = false := beq_eq_false_iff_ne.2 h1
  have k2 : (o == 2) = false := beq_eq_false_iff_ne.2 h2
  have k3 : (o == 3) = false := beq_eq_false_iff_ne.2 h3
  have k4 : (o == 4) = false := beq_eq_false_iff_ne.2 h4
  clear h1 h2 h3 h4
  go_enter Tryz.func88, Tryz.ntmps88
  go_wp2
  rw [HE.out.1, HE.out.2]
  refine bodyPost_ret (v := .tuple #[.agg #[.int .i64 (0 : Int), .int .i64 (0 : Int), .int .i64 (0 : Int)], .bool false]) ?_ rfl ⟨rfl, ?_⟩
  · rw [results_cell_tmp rfl]
    go_simp
  · exact (Below.refl _ _).alloc (Nat.le_refl _) _

set_option maxRecDepth 100000 in
set_option maxHeartbeats 1000000 in
theorem has_any (o : Int) (d : Dat) (w : World) : Calls Tryz.prog 58 #[.int .i64 o, .agg #[.int .i64 d.e, .int .i64 d.a, .int .i64 d.k, .int .i64 d.m, .string d.s, .int .i64 d.t, .bool d.add, .int .i64 d.fr, .int .i64 d.til]] w fun e w' => e = .returned (.bool (hasD o d)) ∧ Below w.heap.size w w' := by
  by_cases h1 : o = 1
  · subst h1
    have HE : Hid (hasD 1 d = true) := by show _ = _; unfold hasD; simp
    go_enter Tryz.func58, Tryz.ntmps58
    go_wp2
    go_ret
    exact ⟨by rw [HE.out]; rfl, (Below.refl _ _).alloc (Nat.le_refl _) _⟩
  by_cases h2 : o = 2
  · subst h2
    have HE : Hid (hasD 2 d = true) := by show _ = _; unfold hasD; simp
    go_enter Tryz.func58, Tryz.ntmps58
    go_wp2
    go_ret
    exact ⟨by rw [HE.out]; rfl, (Below.refl _ _).alloc (Nat.le_refl _) _⟩
  by_cases h3 : o = 3
  · subst h3
    have HE : Hid (hasD 3 d = true) := by show _ = _; unfold hasD; simp
    go_enter Tryz.func58, Tryz.ntmps58
    go_wp2
    go_ret
    exact ⟨by rw [HE.out]; rfl, (Below.refl _ _).alloc (Nat.le_refl _) _⟩
  by_cases h4 : o = 4
  · subst h4
    by_cases hk : d.k = 5
    · have HE : Hid (hasD 4 d = true) := by show _ = _; unfold hasD; simp [hk]
      have hkq : (d.k != 5) = false := by rw [hk]; rfl
      clear hk
      go_enter Tryz.func58, Tryz.ntmps58
      go_wp2
      go_ret
      exact ⟨by rw [HE.out]; rfl, (Below.refl _ _).alloc (Nat.le_refl _) _⟩
    · have HE : Hid (hasD 4 d = false) := by show _ = _; unfold hasD; simp [hk]
      have hkq : (d.k != 5) = true := by simpa using hk
      clear hk
      go_enter Tryz.func58, Tryz.ntmps58
      go_wp2
      go_ret
      exact ⟨by rw [HE.out]; rfl, (Below.refl _ _).alloc (Nat.le_refl _) _⟩
  have HE : Hid (hasD o d = false) := by show _ = _; unfold hasD; rw [decide_eq_false_iff_not]; omega
  have k1 : (o == 1) = false := beq_eq_false_iff_ne.2 h1
  have k2 : (o == 2) = false := beq_eq_false_iff_ne.2 h2
  have k3 : (o == 3) = false := beq_eq_false_iff_ne.2 h3
  have k4 : (o == 4) = false := beq_eq_false_iff_ne.2 h4
  clear h1 h2 h3 h4
  go_enter Tryz.func58, Tryz.ntmps58
  go_wp2
  go_ret
  exact ⟨by rw [HE.out]; rfl, (Below.refl _ _).alloc (Nat.le_refl _) _⟩

/-- what a datom has at a place, E, A and V at any three -/
def partPl (pe pa pv : Nat) (d : Dat) (i : Nat) : PartP :=
  if i = pe then numP d.e else if i = pa then numP d.a else if i = pv then valP d else if i = 3 then numP d.t else if i = 4 then numP (cutN d.add) else if i = 5 then numP d.fr else numP d.til
theorem partD_is (o : Int) (d : Dat) (i : Nat) : partD o d i = partPl (plE o) (plA o) (plV o) d i := rfl
set_option maxRecDepth 100000 in
set_option maxHeartbeats 1000000 in
theorem part_any (pe pa pv i : Nat) (d : Dat) (w : World) :
    Calls Tryz.prog 91 #[.agg #[.int .i64 (pe : Int), .int .i64 (pa : Int), .int .i64 (pv : Int)], .agg #[.int .i64 d.e, .int .i64 d.a, .int .i64 d.k, .int .i64 d.m, .string d.s, .int .i64 d.t, .bool d.add, .int .i64 d.fr, .int .i64 d.til], .int .i64 (i : Int)] w fun e w' => e = .returned (partV (partPl pe pa pv d i)) ∧ Below w.heap.size w w' := by
  by_cases h0 : i = pe
  · have HE : Hid (partPl pe pa pv d i = numP d.e) := by show _ = _; unfold partPl; rw [if_pos h0]
    have k0 : ((i : Int) == (pe : Int)) = true := by rw [beq_iff_eq]; omega
    clear h0
    go_enter Tryz.func91, Tryz.ntmps91
    go_wp2
    rw [HE.out]
    refine bodyPost_ret (v := partV (numP d.e)) ?_ rfl ⟨rfl, ?_⟩
    · rw [results_cell_only rfl]
      unfold partV numP
      go_simp
    · exact (((Below.refl _ _).alloc (Nat.le_refl _) _).alloc (by simp) _).alloc (by simp; omega) _
  by_cases h1 : i = pa
  · have HE : Hid (partPl pe pa pv d i = numP d.a) := by show _ = _; unfold partPl; rw [if_neg h0, if_pos h1]
    have k1 : ((i : Int) == (pa : Int)) = true := by rw [beq_iff_eq]; omega
    have k0 : ((i : Int) == (pe : Int)) = false := by rw [beq_eq_false_iff_ne]; omega
    clear h0 h1
    go_enter Tryz.func91, Tryz.ntmps91
    go_wp2
    rw [HE.out]
    refine bodyPost_ret (v := partV (numP d.a)) ?_ rfl ⟨rfl, ?_⟩
    · rw [results_cell_only rfl]
      unfold partV numP
      go_simp
    · exact (((Below.refl _ _).alloc (Nat.le_refl _) _).alloc (by simp) _).alloc (by simp; omega) _
  by_cases h2 : i = pv
  · have HE : Hid (partPl pe pa pv d i = valP d) := by show _ = _; unfold partPl; rw [if_neg h0, if_neg h1, if_pos h2]
    have k2 : ((i : Int) == (pv : Int)) = true := by rw [beq_iff_eq]; omega
    have k0 : ((i : Int) == (pe : Int)) = false := by rw [beq_eq_false_iff_ne]; omega
    have k1 : ((i : Int) == (pa : Int)) = false := by rw [beq_eq_false_iff_ne]; omega
    clear h0 h1 h2
    go_enter Tryz.func91, Tryz.ntmps91
    go_wp2
    rw [HE.out]
    refine bodyPost_ret (v := partV (valP d)) ?_ rfl ⟨rfl, ?_⟩
    · rw [results_cell_only rfl]
      unfold partV valP
      go_simp
    · exact (((Below.refl _ _).alloc (Nat.le_refl _) _).alloc (by simp) _).alloc (by simp; omega) _
  by_cases h3 : i = 3
  · have HE : Hid (partPl pe pa pv d i = numP d.t) := by show _ = _; unfold partPl; rw [if_neg h0, if_neg h1, if_neg h2, if_pos h3]
    have k3 : ((i : Int) == 3) = true := by rw [beq_iff_eq]; omega
    have k0 : ((i : Int) == (pe : Int)) = false := by rw [beq_eq_false_iff_ne]; omega
    have k1 : ((i : Int) == (pa : Int)) = false := by rw [beq_eq_false_iff_ne]; omega
    have k2 : ((i : Int) == (pv : Int)) = false := by rw [beq_eq_false_iff_ne]; omega
    clear h0 h1 h2 h3
    go_enter Tryz.func91, Tryz.ntmps91
    go_wp2
    rw [HE.out]
    refine bodyPost_ret (v := partV (numP d.t)) ?_ rfl ⟨rfl, ?_⟩
    · rw [results_cell_only rfl]
      unfold partV numP
      go_simp
    · exact (((Below.refl _ _).alloc (Nat.le_refl _) _).alloc (by simp) _).alloc (by simp; omega) _
  by_cases h4 : i = 4
  · have HE : Hid (partPl pe pa pv d i = numP (cutN d.add)) := by show _ = _; unfold partPl; rw [if_neg h0, if_neg h1, if_neg h2, if_neg h3, if_pos h4]
    have k4 : ((i : Int) == 4) = true := by rw [beq_iff_eq]; omega
    have k0 : ((i : Int) == (pe : Int)) = false := by rw [beq_eq_false_iff_ne]; omega
    have k1 : ((i : Int) == (pa : Int)) = false := by rw [beq_eq_false_iff_ne]; omega
    have k2 : ((i : Int) == (pv : Int)) = false := by rw [beq_eq_false_iff_ne]; omega
    have k3 : ((i : Int) == 3) = false := by rw [beq_eq_false_iff_ne]; omega
    clear h0 h1 h2 h3 h4
    obtain ⟨g, hg⟩ : ∃ g, cutN d.add = g := ⟨_, rfl⟩
    have HAD := Lib.hid (fun X => addNumber_any d.add X)
    rw [hg] at HE HAD
    clear hg
    go_enter Tryz.func91, Tryz.ntmps91
    go_wp2_with fail
    refine (HAD.out _).mono ?_
    rintro e w1 ⟨rfl, rfl⟩
    go_wp2
    rw [HE.out]
    refine bodyPost_ret (v := partV (numP g)) ?_ rfl ⟨rfl, ?_⟩
    · rw [results_cell_only rfl]
      unfold partV numP
      go_simp
    · exact (((Below.refl _ _).alloc (Nat.le_refl _) _).alloc (by simp) _).alloc (by simp; omega) _
  by_cases h5 : i = 5
  · have HE : Hid (partPl pe pa pv d i = numP d.fr) := by show _ = _; unfold partPl; rw [if_neg h0, if_neg h1, if_neg h2, if_neg h3, if_neg h4, if_pos h5]
    have k5 : ((i : Int) == 5) = true := by rw [beq_iff_eq]; omega
    have k0 : ((i : Int) == (pe : Int)) = false := by rw [beq_eq_false_iff_ne]; omega
    have k1 : ((i : Int) == (pa : Int)) = false := by rw [beq_eq_false_iff_ne]; omega
    have k2 : ((i : Int) == (pv : Int)) = false := by rw [beq_eq_false_iff_ne]; omega
    have k3 : ((i : Int) == 3) = false := by rw [beq_eq_false_iff_ne]; omega
    have k4 : ((i : Int) == 4) = false := by rw [beq_eq_false_iff_ne]; omega
    clear h0 h1 h2 h3 h4 h5
    go_enter Tryz.func91, Tryz.ntmps91
    go_wp2
    rw [HE.out]
    refine bodyPost_ret (v := partV (numP d.fr)) ?_ rfl ⟨rfl, ?_⟩
    · rw [results_cell_only rfl]
      unfold partV numP
      go_simp
    · exact (((Below.refl _ _).alloc (Nat.le_refl _) _).alloc (by simp) _).alloc (by simp; omega) _
  have HE : Hid (partPl pe pa pv d i = numP d.til) := by show _ = _; unfold partPl; rw [if_neg h0, if_neg h1, if_neg h2, if_neg h3, if_neg h4, if_neg h5]
  have k0 : ((i : Int) == (pe : Int)) = false := by rw [beq_eq_false_iff_ne]; omega
  have k1 : ((i : Int) == (pa : Int)) = false := by rw [beq_eq_false_iff_ne]; omega
  have k2 : ((i : Int) == (pv : Int)) = false := by rw [beq_eq_false_iff_ne]; omega
  have k3 : ((i : Int) == 3) = false := by rw [beq_eq_false_iff_ne]; omega
  have k4 : ((i : Int) == 4) = false := by rw [beq_eq_false_iff_ne]; omega
  have k5 : ((i : Int) == 5) = false := by rw [beq_eq_false_iff_ne]; omega
  clear h0 h1 h2 h3 h4 h5
  go_enter Tryz.func91, Tryz.ntmps91
  go_wp2
  rw [HE.out]
  refine bodyPost_ret (v := partV (numP d.til)) ?_ rfl ⟨rfl, ?_⟩
  · rw [results_cell_only rfl]
    unfold partV numP
    go_simp
  · exact (((Below.refl _ _).alloc (Nat.le_refl _) _).alloc (by simp) _).alloc (by simp; omega) _
end Go.Proofs.YthhkabbgghepbaaGreat

/-
  CONTRACTS over datoms: told (the iterator over a datom's parts), compareParts.
-/
namespace Go.Proofs.YthhkabbgghepbaaGreat
open Go.RowKit Go.Shelf

/-- the places, in their order -/
def allF : List (Fin 7) := List.finRange 7
theorem allF_len : allF.length = 7 := by decide
theorem allF_all : ∀ i : Fin 7, allF[i.val]? = some i := by decide
theorem allF_at (i : Nat) (h : i < 7) : allF[i]? = some ⟨i, h⟩ := allF_all ⟨i, h⟩
theorem allF_take (i : Nat) (h : i < 7) : allF.take (i + 1) = allF.take i ++ [⟨i, h⟩] := by
  have h1 : i < allF.length := by rw [allF_len]; exact h
  rw [List.take_succ_eq_append_getElem h1]
  have h2 := allF_at i h
  rw [List.getElem?_eq_getElem h1] at h2
  rw [Option.some.inj h2]
/-- a prefix of what is told, with one more -/
theorem allF_pre {pre : List (Fin 7)} {x : Fin 7} (h : pre ++ [x] <+: allF) : pre.length = x.val ∧ pre <+: allF := by
  refine ⟨?_, (List.prefix_append _ _).trans h⟩
  obtain ⟨r, hr⟩ := h
  have hl : pre.length < 7 := by
    have := congrArg List.length hr
    rw [allF_len] at this
    simp at this
    omega
  have h1 := allF_at pre.length hl
  rw [← hr, List.append_assoc, List.getElem?_append_right (Nat.le_refl _), Nat.sub_self] at h1
  have h2 : x = ⟨pre.length, hl⟩ := by simpa using h1
  rw [h2]

/-- the places in a box -/
def PlcAt (W : World) (b pe pa pv : Nat) : Prop := W.heap[b]? = some (.cells #[.int .i64 (pe : Int), .int .i64 (pa : Int), .int .i64 (pv : Int)] 132 (0, 0))
theorem PlcAt.cell {W : World} {b pe pa pv : Nat} (h : PlcAt W b pe pa pv) (j : Nat) : W.cell? ⟨b, j, none⟩ = (#[Value.int .i64 (pe : Int), .int .i64 (pa : Int), .int .i64 (pv : Int)])[j]? := by unfold PlcAt at h; simp [World.cell?, h]
theorem PlcAt.next {W W' : World} {b B pe pa pv : Nat} (h : PlcAt W b pe pa pv) (hb : Below B W W') (hB : b < B) : PlcAt W' b pe pa pv := (hb.block b hB).trans h
theorem PlcAt.lt {W : World} {b pe pa pv : Nat} (h : PlcAt W b pe pa pv) : b < W.heap.size := (Array.getElem?_eq_some_iff.1 h).1
theorem PlcAt.alloc {W : World} {b pe pa pv : Nat} (h : PlcAt W b pe pa pv) (o : Obj) : PlcAt (W.alloc o) b pe pa pv := (Below.heap_alloc W o b h.lt).trans h
theorem plcAt_new (W : World) (pe pa pv : Nat) : PlcAt (W.alloc (.cells #[.int .i64 (pe : Int), .int .i64 (pa : Int), .int .i64 (pv : Int)] 132)) W.heap.size pe pa pv := heap_alloc_new W _

theorem DatAt.c0 {W : World} {b : Nat} {d : Dat} (h : DatAt W b d) : W.cell? ⟨b, 0, none⟩ = some (.int .i64 d.e) := h.cell 0
theorem DatAt.c1 {W : World} {b : Nat} {d : Dat} (h : DatAt W b d) : W.cell? ⟨b, 1, none⟩ = some (.int .i64 d.a) := h.cell 1
theorem DatAt.c2 {W : World} {b : Nat} {d : Dat} (h : DatAt W b d) : W.cell? ⟨b, 2, none⟩ = some (.int .i64 d.k) := h.cell 2
theorem DatAt.c3 {W : World} {b : Nat} {d : Dat} (h : DatAt W b d) : W.cell? ⟨b, 3, none⟩ = some (.int .i64 d.m) := h.cell 3
theorem DatAt.c4 {W : World} {b : Nat} {d : Dat} (h : DatAt W b d) : W.cell? ⟨b, 4, none⟩ = some (.string d.s) := h.cell 4
theorem DatAt.c5 {W : World} {b : Nat} {d : Dat} (h : DatAt W b d) : W.cell? ⟨b, 5, none⟩ = some (.int .i64 d.t) := h.cell 5
theorem DatAt.c6 {W : World} {b : Nat} {d : Dat} (h : DatAt W b d) : W.cell? ⟨b, 6, none⟩ = some (.bool d.add) := h.cell 6
theorem DatAt.c7 {W : World} {b : Nat} {d : Dat} (h : DatAt W b d) : W.cell? ⟨b, 7, none⟩ = some (.int .i64 d.fr) := h.cell 7
theorem DatAt.c8 {W : World} {b : Nat} {d : Dat} (h : DatAt W b d) : W.cell? ⟨b, 8, none⟩ = some (.int .i64 d.til) := h.cell 8
theorem PlcAt.c0 {W : World} {b pe pa pv : Nat} (h : PlcAt W b pe pa pv) : W.cell? ⟨b, 0, none⟩ = some (.int .i64 (pe : Int)) := h.cell 0
theorem PlcAt.c1 {W : World} {b pe pa pv : Nat} (h : PlcAt W b pe pa pv) : W.cell? ⟨b, 1, none⟩ = some (.int .i64 (pa : Int)) := h.cell 1
theorem PlcAt.c2 {W : World} {b pe pa pv : Nat} (h : PlcAt W b pe pa pv) : W.cell? ⟨b, 2, none⟩ = some (.int .i64 (pv : Int)) := h.cell 2
/-- What lay below n₀, and in two blocks, lies. -/
structure Keep2 (n₀ Ba Bd : Nat) (A B : World) : Prop where
  low : Below n₀ A B
  b1 : B.heap[Ba]? = A.heap[Ba]?
  b2 : B.heap[Bd]? = A.heap[Bd]?
theorem Keep2.refl (n₀ Ba Bd : Nat) (A : World) : Keep2 n₀ Ba Bd A A := ⟨Below.refl _ _, rfl, rfl⟩
theorem Keep2.trans {n₀ Ba Bd : Nat} {A B C : World} (h : Keep2 n₀ Ba Bd A B) (k : Keep2 n₀ Ba Bd B C) : Keep2 n₀ Ba Bd A C := ⟨h.low.trans k.low, k.b1.trans h.b1, k.b2.trans h.b2⟩
theorem keep2_b {n₀ Ba Bd : Nat} {w : World} (hn : n₀ ≤ w.heap.size) (h1 : Ba < w.heap.size) (h2 : Bd < w.heap.size) (W : World) (l : Nat) (o o' : Obj) (hl : w.heap.size ≤ l) (h : W.heap[l]? = some o) (g1 : o.isCells = false) (g2 : o.isWalk = false) : Keep2 n₀ Ba Bd W (W.putObj l o') :=
  ⟨belowK_b hn W l o o' hl h g1 g2, (belowK_b (n₀ := w.heap.size) (Nat.le_refl _) W l o o' hl h g1 g2).block Ba h1, (belowK_b (n₀ := w.heap.size) (Nat.le_refl _) W l o o' hl h g1 g2).block Bd h2⟩
theorem keep2_below {n₀ Ba Bd : Nat} {W W' : World} (h : Below W.heap.size W W') (hn : n₀ ≤ W.heap.size) (h1 : Ba < W.heap.size) (h2 : Bd < W.heap.size) : Keep2 n₀ Ba Bd W W' := ⟨h.mono hn, h.block Ba h1, h.block Bd h2⟩
/-- One round of the loop that is handed places and parts. -/
def HandsP (pe pa pv : Nat) (d : Dat) (l n₀ Ba Bd N : Nat) (J Jx : List (Fin 7) → World → Prop) : Prop :=
  ∀ m pre (x : Fin 7) W, J pre W → pre.length < N → YieldAt Fence.wide m Tryz.prog l #[.int .i64 ((x.val : Nat) : Int), .agg #[.bool (partPl pe pa pv d x.val).v, .int .i64 (partPl pe pa pv d x.val).n, .int .i64 (partPl pe pa pv d x.val).k, .int .i64 (partPl pe pa pv d x.val).m, .string (partPl pe pa pv d x.val).s]] W fun e W' =>
    (e = .returned (.bool true) ∧ J (pre ++ [x]) W' ∧ Keep2 n₀ Ba Bd W W') ∨ (e = .returned (.bool false) ∧ Jx (pre ++ [x]) W')

set_option maxRecDepth 100000 in
set_option maxHeartbeats 2000000 in
theorem toldD_in (lp n₀ C Ba Bd pe pa pv : Nat) (d : Dat) (J Jx : List (Fin 7) → World → Prop) (hA : AbidesFrom C J) (hY : HandsP pe pa pv d lp n₀ Ba Bd 7 J Jx) (n : Nat) (W : World) (hn : n₀ ≤ W.heap.size) (hb : PlcAt W Ba pe pa pv) (hd : DatAt W Bd d) (hJ : J [] W) :
    CallsIn Fence.wide n Tryz.prog 123 #[.func (.yield lp) #[] #[], .pointer (some ⟨Ba, 0, none⟩), .pointer (some ⟨Bd, 0, none⟩)] W fun e W' =>
      (∃ v, e = .returned v) ∧ (J allF W' ∨ ∃ q, q <+: allF ∧ Jx q W') := by
  refine callsIn_of_wp Tryz.func123 rfl trivial ?_ rfl
  simp only [Tryz.ntmps123, List.size_toArray, List.length_cons, List.length_nil, Nat.reduceAdd, Nat.reduceSub, Array.replicate_succ, Array.replicate_zero, List.push_toArray, List.append_toArray, List.nil_append, List.cons_append]
  have HP := Lib.hid (And.intro hb hd)
  have HL := Lib.hid (And.intro hb.lt hd.lt)
  clear hb hd
  gi_wp2
  gi_loopw [4, 5] (fun _ y wr => ∃ j : Nat, y = .int .i64 (j : Int) ∧ j ≤ 7 ∧ J (allF.take j) wr ∧ Hid (Keep2 n₀ Ba Bd W wr) ∧ Hid (W.heap.size ≤ wr.heap.size)) (fun _ y _ => 7 - (intOf y).toNat)
  case atStart => exact ⟨0, rfl, by omega, by rw [List.take_zero]; exact hJ, Keep2.refl _ _ _ _, Nat.le_refl _⟩
  case round =>
    obtain ⟨j, rfl, hj, hJk, HB, HSZ⟩ := hrel
    clear hJ
    by_cases hjl : j < 7
    · have hji : (j : Int) < 7 := by omega
      have hx : PlcAt wr Ba pe pa pv := HB.out.b1.trans HP.out.1
      have hy0 : DatAt wr Bd d := HB.out.b2.trans HP.out.2
      have a0 := hx.cell 0
      have a1 := hx.cell 1
      have a2 := hx.cell 2
      have d0 := hy0.cell 0
      have d1 := hy0.cell 1
      have d2 := hy0.cell 2
      have d3 := hy0.cell 3
      have d4 := hy0.cell 4
      have d5 := hy0.cell 5
      have d6 := hy0.cell 6
      have d7 := hy0.cell 7
      have d8 := hy0.cell 8
      simp at a0 a1 a2 d0 d1 d2 d3 d4 d5 d6 d7 d8
      have HTS := Lib.hid (allF_take j hjl)
      have HPR := Lib.hid (List.take_prefix (j + 1) allF)
      have HLN : Hid ((allF.take j).length < 7) := by show _ < _; rw [List.length_take, allF_len]; omega
      have HJK := Lib.hid hJk
      have hab := Lib.hid (And.intro (show Ba < wr.heap.size by have := HL.out.1; have := HSZ.out; omega) (show Bd < wr.heap.size by have := HL.out.2; have := HSZ.out; omega))
      clear hx hy0 hJk
      gi_wp2_with fail
      refine ⟨trivial, wide_deep _, ?_⟩
      refine (callsIn_wide.2 (part_any pe pa pv j d wr)).mono ?_
      rintro e W4 ⟨rfl, hb4⟩
      have hJ4 : J (allF.take j) W4 := abides_to hA HJK.out hb4
      have HK4 := Lib.hid (HB.out.trans (keep2_below hb4 (Nat.le_trans hn HSZ.out) hab.out.1 hab.out.2))
      have HZ4 := Lib.hid (Nat.le_trans HSZ.out hb4.size)
      obtain ⟨fn, tmps, assign, body, hy, hR⟩ := hY (n - 1) _ ⟨j, hjl⟩ W4 hJ4 HLN.out
      have HY' : Hid ((Instr.yield lp #[.int .i64 (j : Int), partV (partPl pe pa pv d j)]).run Tryz.prog W4 = .ok (.round lp fn tmps assign body) W4) := hy
      obtain ⟨q, hq⟩ : ∃ q, partV (partPl pe pa pv d j) = q := ⟨_, rfl⟩
      rw [hq] at HY' ⊢
      have hy' := HY'.out
      clear hb4 hJ4 hy hq HY' a0 a1 a2 d0 d1 d2 d3 d4 d5 d6 d7 d8
      gi_wp2
      refine ⟨wide_deep _, ?_⟩
      refine hR.mono ?_
      rintro e W5 (⟨rfl, hJ5, hk5⟩ | ⟨rfl, hJx5⟩)
      · gi_wp2
        go_roundw
        case rel => exact ⟨j + 1, by go_num, by omega, by rw [HTS.out]; exact hJ5, HK4.out.trans hk5, Nat.le_trans HZ4.out hk5.low.size⟩
        case measure => simp [intOf]; omega
      · gi_wp2
        refine bodyPost_ret (results_none rfl _ _ _) rfl ?_
        exact ⟨⟨_, rfl⟩, .inr ⟨allF.take (j + 1), HPR.out, by rw [HTS.out]; exact hJx5⟩⟩
    · have hji : ¬ (j : Int) < 7 := by omega
      rw [List.take_of_length_le (by rw [allF_len]; omega)] at hJk
      gi_wp2
      go_end0
      exact ⟨⟨_, rfl⟩, .inl hJk⟩

theorem toldD_stops (n n₀ Ba Bd pe pa pv : Nat) (d : Dat) (w : World) (hn₀ : n₀ ≤ w.heap.size) (hb : PlcAt w Ba pe pa pv) (hd : DatAt w Bd d) :
    SeqStopsK Fence.wide n Tryz.prog 123 #[.pointer (some ⟨Ba, 0, none⟩), .pointer (some ⟨Bd, 0, none⟩)] (fun x : Fin 7 => #[.int .i64 ((x.val : Nat) : Int), .agg #[.bool (partPl pe pa pv d x.val).v, .int .i64 (partPl pe pa pv d x.val).n, .int .i64 (partPl pe pa pv d x.val).k, .int .i64 (partPl pe pa pv d x.val).m, .string (partPl pe pa pv d x.val).s]]) (Keep2 n₀ Ba Bd) (fun ys => ys = allF) (fun q => q <+: allF) 7 w := fun lp J Jx W hW hA _ hY h0' => by
  have hH : HandsP pe pa pv d lp n₀ Ba Bd 7 J Jx := fun m pre x W1 hj hl => YieldAt.anyDepth m (hY pre x W1 hj hl)
  refine (toldD_in lp n₀ _ Ba Bd pe pa pv d J Jx hA hH n W (Nat.le_trans hn₀ hW.size) (hb.next hW hb.lt) (hd.next hW hd.lt) h0').mono ?_
  rintro e W' ⟨hv, hj | ⟨q, hq, hx⟩⟩
  · exact ⟨hv, .inl ⟨_, rfl, hj⟩⟩
  · exact ⟨hv, .inr ⟨q, hq, hx⟩⟩

set_option maxHeartbeats 400000 in
theorem toldOfD_any (pe pa pv : Nat) (d : Dat) (w : World) :
    Calls Tryz.prog 89 #[.agg #[.int .i64 (pe : Int), .int .i64 (pa : Int), .int .i64 (pv : Int)], .agg #[.int .i64 d.e, .int .i64 d.a, .int .i64 d.k, .int .i64 d.m, .string d.s, .int .i64 d.t, .bool d.add, .int .i64 d.fr, .int .i64 d.til]] w fun e w' => e = .returned (.func (.func 123) #[] #[.pointer (some ⟨w.heap.size, 0, none⟩), .pointer (some ⟨w.heap.size + 1, 0, none⟩)]) ∧ w' = (w.alloc (.cells #[.int .i64 (pe : Int), .int .i64 (pa : Int), .int .i64 (pv : Int)] 132)).alloc (.cells #[.int .i64 d.e, .int .i64 d.a, .int .i64 d.k, .int .i64 d.m, .string d.s, .int .i64 d.t, .bool d.add, .int .i64 d.fr, .int .i64 d.til] 46) := by
  go_enter Tryz.func89, Tryz.ntmps89
  go_wp2
  go_ret
  exact ⟨rfl, rfl⟩

set_option maxRecDepth 100000 in
set_option maxHeartbeats 400000 in
theorem cmpParts_any (p q : PartP) (w : World) :
    Calls Tryz.prog 90 #[.agg #[.bool p.v, .int .i64 p.n, .int .i64 p.k, .int .i64 p.m, .string p.s], .agg #[.bool q.v, .int .i64 q.n, .int .i64 q.k, .int .i64 q.m, .string q.s]] w fun e w' => e = .returned (.int .i64 (ordP p q)) ∧ Below w.heap.size w w' := by
  obtain ⟨v, n, k, m, s⟩ := p
  obtain ⟨v', n', k', m', s'⟩ := q
  simp only
  cases v
  · have HE : Hid (ordP ⟨false, n, k, m, s⟩ ⟨v', n', k', m', s'⟩ = ordI n n') := rfl
    obtain ⟨g, hg⟩ : ∃ g, ordI n n' = g := ⟨_, rfl⟩
    have HC := Lib.hid (fun X => cmpI64_any n n' X)
    rw [hg] at HE HC
    clear hg
    go_enter Tryz.func90, Tryz.ntmps90
    go_wp2_with fail
    refine (HC.out _).mono ?_
    rintro e w1 ⟨rfl, rfl⟩
    go_wp2
    go_ret
    exact ⟨by rw [HE.out]; rfl, ((Below.refl _ _).alloc (Nat.le_refl _) _).alloc (by simp) _⟩
  · have HE : Hid (ordP ⟨true, n, k, m, s⟩ ⟨v', n', k', m', s'⟩ = ordV k m s k' m' s') := rfl
    obtain ⟨g, hg⟩ : ∃ g, ordV k m s k' m' s' = g := ⟨_, rfl⟩
    have HC := Lib.hid (fun X => compare_any k m s k' m' s' X)
    rw [hg] at HE HC
    clear hg
    go_enter Tryz.func90, Tryz.ntmps90
    go_wp2_with fail
    refine (HC.out _).mono ?_
    rintro e w1 ⟨rfl, hb⟩
    have HB := Lib.hid ((((Below.refl w.heap.size w).alloc (Nat.le_refl _) _).alloc (by simp) _).trans (hb.mono (by simp; omega)))
    clear hb
    go_wp2
    go_ret
    exact ⟨by rw [HE.out]; rfl, HB.out⟩
end Go.Proofs.YthhkabbgghepbaaGreat

/-
  CONTRACT over datoms: Compare.
-/
namespace Go.Proofs.YthhkabbgghepbaaGreat
open Go.RowKit Go.Shelf
attribute [local go_sem] Oper.semAt_some

theorem DatAt.kept {W W' : World} {b : Nat} {d : Dat} {row : Option Nat} (h : DatAt W b d) (hg : W.grownBy W' row) (hr : some b ≠ row) : DatAt W' b d := (hg.block b h.lt hr).trans h
theorem PlcAt.kept {W W' : World} {b pe pa pv : Nat} {row : Option Nat} (h : PlcAt W b pe pa pv) (hg : W.grownBy W' row) (hr : some b ≠ row) : PlcAt W' b pe pa pv := (hg.block b h.lt hr).trans h
/-- the parts, E, A and V at any three places -/
def partsPl (pe pa pv : Nat) (d : Dat) : List PartP := (List.range 7).map (partPl pe pa pv d)
theorem partsPl_is (o : Int) (d : Dat) : partsPl (plE o) (plA o) (plV o) d = partsD o d := rfl
theorem partsPl_len (pe pa pv : Nat) (d : Dat) : (partsPl pe pa pv d).length = 7 := by unfold partsPl; simp
theorem partsPl_get (pe pa pv : Nat) (d : Dat) (i : Nat) (h : i < (partsPl pe pa pv d).length) : (partsPl pe pa pv d)[i] = partPl pe pa pv d i := by
  simp only [partsPl, List.getElem_map, List.getElem_range]
/-- what stands behind some rounds: all so far were the same -/
def DMid (w : World) (n bs bb bp pe pa pv : Nat) (a b : Dat) (pre : List (Fin 7)) (W : World) : Prop :=
  n ≤ W.heap.size ∧ Boxed W bs 3 (.int .i64 0) ∧ DatAt W bb b ∧ PlcAt W bp pe pa pv ∧ Below w.heap.size w W ∧ (pre <+: allF → ordPF (partsPl pe pa pv a) (partsPl pe pa pv b) 0 = ordPF (partsPl pe pa pv a) (partsPl pe pa pv b) pre.length)
theorem dMid_own (w : World) (bs bb bp pe pa pv n : Nat) (a b : Dat) (h0 : w.heap.size ≤ n) (h1 : bs < n) (h2 : bb < n) (h3 : bp < n) : OwnFrom n (DMid w n bs bb bp pe pa pv a b) := fun pre X Y row ⟨g0, g1, g2, g3, g4, g5⟩ hg hr => by
  have hne : ∀ b, b < n → some b ≠ row := fun b hb e => by have := (hr b e.symm).1; omega
  exact ⟨Nat.le_trans g0 hg.size, g1.kept hg (hne _ h1), g2.kept hg (hne _ h2), g3.kept hg (hne _ h3), g4.grown hg g4.size (fun j ej => by have := (hr j ej).1; omega), g5⟩
def DStop (w : World) (bs pe pa pv : Nat) (a b : Dat) (cd : Code) (pre : List (Fin 7)) (W : World) : Prop :=
  cd = .exit 0 ∧ Below w.heap.size w W ∧ ∃ g : Int, Boxed W bs 3 (.int .i64 g) ∧ (pre <+: allF → ordPF (partsPl pe pa pv a) (partsPl pe pa pv b) 0 = g)
theorem dStop_own (w : World) (bs pe pa pv n : Nat) (a b : Dat) (h0 : w.heap.size ≤ n) (h1 : bs < n) (cd : Code) : OwnFrom n (DStop w bs pe pa pv a b cd) := fun pre X Y row ⟨e, g4, g, g1, g5⟩ hg hr => by
  have hne : ∀ b, b < n → some b ≠ row := fun b hb e => by have := (hr b e.symm).1; omega
  exact ⟨e, g4.grown hg g4.size (fun j ej => by have := (hr j ej).1; omega), g, g1.kept hg (hne _ h1), g5⟩

theorem PartBox.k0 {W : World} {b : Nat} {p : PartP} (h : PartBox W b p) : W.cell? ⟨b, 0, none⟩ = some (.bool p.v) := h.cell 0
theorem PartBox.k1 {W : World} {b : Nat} {p : PartP} (h : PartBox W b p) : W.cell? ⟨b, 1, none⟩ = some (.int .i64 p.n) := h.cell 1
theorem PartBox.k2 {W : World} {b : Nat} {p : PartP} (h : PartBox W b p) : W.cell? ⟨b, 2, none⟩ = some (.int .i64 p.k) := h.cell 2
theorem PartBox.k3 {W : World} {b : Nat} {p : PartP} (h : PartBox W b p) : W.cell? ⟨b, 3, none⟩ = some (.int .i64 p.m) := h.cell 3
theorem PartBox.k4 {W : World} {b : Nat} {p : PartP} (h : PartBox W b p) : W.cell? ⟨b, 4, none⟩ = some (.string p.s) := h.cell 4
theorem PartBox.lt {W : World} {b : Nat} {p : PartP} (h : PartBox W b p) : b < W.heap.size := (Array.getElem?_eq_some_iff.1 h).1
theorem boxed_next {W W' : World} {b B : Nat} {t : TypeId} {v : Value} (h : Boxed W b t v) (hb : Below B W W') (hB : b < B) : Boxed W' b t v := boxed_below h hb hB
/-- one more round, and the two parts are the same -/
theorem dmid_step {w W W5 : World} {n bs bb bp pe pa pv Ba Bd : Nat} {a b : Dat} {pre : List (Fin 7)} {x : Fin 7} (h : DMid w n bs bb bp pe pa pv a b pre W) (hb : Below W.heap.size W W5) (h0 : w.heap.size ≤ bs) (hd : bs ≠ bb ∧ bs ≠ bp ∧ bs ≠ Ba ∧ bs ≠ Bd) (hab : Ba < n ∧ Bd < n) (hg : ordP (partPl pe pa pv a x.val) (partPl pe pa pv b x.val) = 0) :
    KeepsFrom n W (W5.setCell ⟨bs, 0, none⟩ (.int .i64 0)) ∧ Keep2 w.heap.size Ba Bd W (W5.setCell ⟨bs, 0, none⟩ (.int .i64 0)) ∧ DMid w n bs bb bp pe pa pv a b (pre ++ [x]) (W5.setCell ⟨bs, 0, none⟩ (.int .i64 0)) := by
  obtain ⟨gn, g1, g2, g3, g4, g5⟩ := h
  have b1 := boxed_next g1 hb g1.lt
  have hne : ∀ k, bs ≠ k → (W5.setCell ⟨bs, 0, none⟩ (.int .i64 0)).heap[k]? = W5.heap[k]? := fun k hk => Below.heap_setCell _ ⟨bs, 0, none⟩ _ k (fun e => hk e.symm)
  have hK : Keep2 w.heap.size Ba Bd W (W5.setCell ⟨bs, 0, none⟩ (.int .i64 0)) := (keep2_below hb g4.size (by omega) (by omega)).trans ⟨(Below.refl _ _).setCell (p := ⟨bs, 0, none⟩) h0 _, hne _ hd.2.2.1, hne _ hd.2.2.2⟩
  refine ⟨(keepsFrom_below hb).trans (keepsFrom_set (p := ⟨bs, 0, none⟩) b1 _), hK, (by have := hb.size; simp; omega), b1.set _, (hne _ hd.1).trans (g2.next hb g2.lt), (hne _ hd.2.1).trans (g3.next hb g3.lt), g4.trans hK.low, fun hp => ?_⟩
  obtain ⟨hl, hpp⟩ := allF_pre hp
  rw [g5 hpp, hl, List.length_append, List.length_singleton, hl]
  rw [ordPF_step (by rw [partsPl_len]; exact x.isLt) (by rw [partsPl_len]; exact x.isLt), partsPl_get, partsPl_get, hg, if_pos rfl]
theorem dstop_step {w W W5 : World} {n bs bb bp pe pa pv : Nat} {a b : Dat} {pre : List (Fin 7)} {x : Fin 7} {g : Int} (h : DMid w n bs bb bp pe pa pv a b pre W) (hb : Below W.heap.size W W5) (h0 : w.heap.size ≤ bs) (hg : ordP (partPl pe pa pv a x.val) (partPl pe pa pv b x.val) = g) (hz : g ≠ 0) :
    KeepsFrom n W (W5.setCell ⟨bs, 0, none⟩ (.int .i64 g)) ∧ DStop w bs pe pa pv a b (.exit 0) (pre ++ [x]) (W5.setCell ⟨bs, 0, none⟩ (.int .i64 g)) := by
  obtain ⟨gn, g1, g2, g3, g4, g5⟩ := h
  have b1 := boxed_next g1 hb g1.lt
  refine ⟨(keepsFrom_below hb).trans (keepsFrom_set (p := ⟨bs, 0, none⟩) b1 _), rfl, (g4.trans (hb.mono g4.size)).setCell (p := ⟨bs, 0, none⟩) h0 _, g, b1.set _, fun hp => ?_⟩
  obtain ⟨hl, hpp⟩ := allF_pre hp
  rw [g5 hpp, hl]
  rw [ordPF_step (by rw [partsPl_len]; exact x.isLt) (by rw [partsPl_len]; exact x.isLt), partsPl_get, partsPl_get, hg, if_neg hz]

set_option maxRecDepth 100000 in
set_option maxHeartbeats 2000000 in
theorem cmpD_in (m : Nat) (hm3 : Hid (3 ≤ m)) (o : Int) (pe pa pv : Nat) (hpl : ∀ X, Calls Tryz.prog 88 #[.int .i64 o] X fun e w' => e = .returned (.tuple #[.agg #[.int .i64 (pe : Int), .int .i64 (pa : Int), .int .i64 (pv : Int)], .bool true]) ∧ Below X.heap.size X w') (d b : Dat) (w : World) :
    CallsIn Fence.wide m Tryz.prog 61 #[.int .i64 o, .agg #[.int .i64 d.e, .int .i64 d.a, .int .i64 d.k, .int .i64 d.m, .string d.s, .int .i64 d.t, .bool d.add, .int .i64 d.fr, .int .i64 d.til], .agg #[.int .i64 b.e, .int .i64 b.a, .int .i64 b.k, .int .i64 b.m, .string b.s, .int .i64 b.t, .bool b.add, .int .i64 b.fr, .int .i64 b.til]] w fun e w' => e = .returned (.int .i64 (ordPF (partsPl pe pa pv d) (partsPl pe pa pv b) 0)) ∧ Below w.heap.size w w' := by
  have HPL := Lib.hid hpl
  clear hpl
  refine callsIn_of_wp_marks Tryz.func61 rfl trivial ?_ rfl
  simp only [Tryz.ntmps61, List.size_toArray, List.length_cons, List.length_nil, Nat.reduceAdd, Nat.reduceSub, Array.replicate_succ, Array.replicate_zero, List.push_toArray, List.append_toArray, List.nil_append, List.cons_append]
  gi_wp2_with fail
  refine wpIn_wide.2 ?_
  go_step3
  refine (wpIn_wide (n := m)).1 ?_
  gi_wp2_with fail
  obtain ⟨w0, hw0⟩ : ∃ w0, (w.alloc (.cells #[.int .i64 d.e, .int .i64 d.a, .int .i64 d.k, .int .i64 d.m, .string d.s, .int .i64 d.t, .bool d.add, .int .i64 d.fr, .int .i64 d.til] 46)).alloc (.cells #[.int .i64 b.e, .int .i64 b.a, .int .i64 b.k, .int .i64 b.m, .string b.s, .int .i64 b.t, .bool b.add, .int .i64 b.fr, .int .i64 b.til] 46) = w0 := ⟨_, rfl⟩
  have HB0 : Hid (Below w.heap.size w w0) := by rw [← hw0]; exact ((Below.refl _ _).alloc (Nat.le_refl _) _).alloc (by simp) _
  have HD0 : Hid (DatAt w0 (w.heap.size + 1) b) := by
    rw [← hw0]
    have := datAt_new (w.alloc (.cells #[.int .i64 d.e, .int .i64 d.a, .int .i64 d.k, .int .i64 d.m, .string d.s, .int .i64 d.t, .bool d.add, .int .i64 d.fr, .int .i64 d.til] 46)) b
    rwa [World.size_alloc] at this
  have HA0 : Hid (DatAt w0 w.heap.size d) := by rw [← hw0]; exact (datAt_new w d).alloc _
  rw [hw0]
  clear hw0
  refine ⟨trivial, wide_deep _, ?_⟩
  refine (callsIn_wide.2 (HPL.out _)).mono ?_
  rintro e w1 ⟨rfl, hb1⟩
  have HB1 := Lib.hid (HB0.out.trans (hb1.mono HB0.out.size))
  have HD1 := Lib.hid (HD0.out.next hb1 HD0.out.lt)
  have hx := ((HA0.out.next hb1 HA0.out.lt).alloc (.cells #[.int .i64 (pe : Int), .int .i64 (pa : Int), .int .i64 (pv : Int)] 132)).alloc (.cells #[.int .i64 0] 3)
  have d0 := hx.c0
  have d1 := hx.c1
  have d2 := hx.c2
  have d3 := hx.c3
  have d4 := hx.c4
  have d5 := hx.c5
  have d6 := hx.c6
  have d7 := hx.c7
  have d8 := hx.c8
  clear hb1 hx
  gi_wp2_with fail
  refine wpIn_wide.2 ?_
  go_step3
  gi_wp2_with fail
  refine ⟨trivial, wide_deep _, ?_⟩
  refine (callsIn_wide.2 (toldOfD_any _ _ _ _ _)).mono ?_
  rintro e w9 ⟨rfl, rfl⟩
  clear d0 d1 d2 d3 d4 d5 d6 d7 d8
  gi_wp2_with fail
  obtain ⟨W2, hW2⟩ : ∃ W2, ((((w1.alloc (.cells #[.int .i64 (pe : Int), .int .i64 (pa : Int), .int .i64 (pv : Int)] 132)).alloc (.cells #[.int .i64 0] 3)).alloc (.cells #[.int .i64 (pe : Int), .int .i64 (pa : Int), .int .i64 (pv : Int)] 132)).alloc (.cells #[.int .i64 d.e, .int .i64 d.a, .int .i64 d.k, .int .i64 d.m, .string d.s, .int .i64 d.t, .bool d.add, .int .i64 d.fr, .int .i64 d.til] 46)) = W2 := ⟨_, rfl⟩
  have hz : W2.heap.size = w1.heap.size + 4 := by rw [← hW2]; simp
  have hbz := HB1.out.size
  have hdz := HD1.out.lt
  have hBw : Below w.heap.size w W2 := by rw [← hW2]; exact (((HB1.out.alloc hbz _).alloc (by simp; omega) _).alloc (by simp; omega) _).alloc (by simp; omega) _
  have hP : Boxed W2 (w1.heap.size + 1) 3 (.int .i64 0) := by
    rw [← hW2]
    have := Boxed.new (w1.alloc (.cells #[.int .i64 (pe : Int), .int .i64 (pa : Int), .int .i64 (pv : Int)] 132)) 3 (.int .i64 0)
    rw [World.size_alloc] at this
    exact (this.alloc _).alloc _
  have hV0 : PlcAt W2 w1.heap.size pe pa pv := by rw [← hW2]; exact (((plcAt_new w1 pe pa pv).alloc _).alloc _).alloc _
  have hV1 : PlcAt W2 (w1.heap.size + 1 + 1) pe pa pv := by
    rw [← hW2]
    have := plcAt_new ((w1.alloc (.cells #[.int .i64 (pe : Int), .int .i64 (pa : Int), .int .i64 (pv : Int)] 132)).alloc (.cells #[.int .i64 0] 3)) pe pa pv
    rw [World.size_alloc, World.size_alloc] at this
    exact this.alloc _
  have hV2 : DatAt W2 (w1.heap.size + 1 + 1 + 1) d := by
    rw [← hW2]
    have := datAt_new (((w1.alloc (.cells #[.int .i64 (pe : Int), .int .i64 (pa : Int), .int .i64 (pv : Int)] 132)).alloc (.cells #[.int .i64 0] 3)).alloc (.cells #[.int .i64 (pe : Int), .int .i64 (pa : Int), .int .i64 (pv : Int)] 132)) d
    rw [World.size_alloc, World.size_alloc, World.size_alloc] at this
    exact this
  have hVb : DatAt W2 (w.heap.size + 1) b := by rw [← hW2]; exact (((HD1.out.alloc _).alloc _).alloc _).alloc _
  rw [hW2]
  clear hW2
  have hro : Fence.wide.round = none := rfl
  refine wpIn_rangeFunc_ownH hro (by have := hm3.out; omega) (gf := 123) (lb := #[.pointer (some ⟨w1.heap.size + 1 + 1, 0, none⟩), .pointer (some ⟨w1.heap.size + 1 + 1 + 1, 0, none⟩)]) rfl trivial (enters_of Tryz.func123 (by kernel_rfl) rfl)
    (toldD_stops (m - 1) w.heap.size (w1.heap.size + 1 + 1) (w1.heap.size + 1 + 1 + 1) pe pa pv d W2 (by omega) hV1 hV2)
    (fun h k => h.trans k) (fun W l o o' hl h h1 h2 => keep2_b (w := W2) (n₀ := w.heap.size) (by omega) (by omega) (by omega) W l o o' hl h h1 h2) (Below.refl _ _) (fun _ => rfl)
    (DMid w W2.heap.size (w1.heap.size + 1) (w.heap.size + 1) w1.heap.size pe pa pv d b) (DStop w (w1.heap.size + 1) pe pa pv d b) (dMid_own _ _ _ _ _ _ _ _ _ _ (by omega) (by omega) (by omega) (by omega)) (fun cd => dStop_own _ _ _ _ _ _ _ _ (by omega) (by omega) cd)
    ⟨Nat.le_refl _, hP, hVb, hV0, hBw, fun _ => rfl⟩
    (fun x a' W => ∃ g, PartBox W g (partPl pe pa pv d x.val) ∧ a' = { tmps := #[.int .i64 o, .agg #[.int .i64 d.e, .int .i64 d.a, .int .i64 d.k, .int .i64 d.m, .string d.s, .int .i64 d.t, .bool d.add, .int .i64 d.fr, .int .i64 d.til], .agg #[.int .i64 b.e, .int .i64 b.a, .int .i64 b.k, .int .i64 b.m, .string b.s, .int .i64 b.t, .bool b.add, .int .i64 b.fr, .int .i64 b.til], undef, .pointer (some ⟨w.heap.size, 0, none⟩), .pointer (some ⟨w.heap.size + 1, 0, none⟩), .int .i64 0, .pointer (some ⟨w1.heap.size, 0, none⟩), .bool true, .pointer (some ⟨w1.heap.size + 1, 0, none⟩), .int .i64 ((x.val : Nat) : Int), .pointer (some ⟨g, 0, none⟩), .tuple #[.agg #[.int .i64 (pe : Int), .int .i64 (pa : Int), .int .i64 (pv : Int)], .bool true], .int .i64 o, .tuple #[.agg #[.int .i64 (pe : Int), .int .i64 (pa : Int), .int .i64 (pv : Int)], .bool true], .agg #[.int .i64 (pe : Int), .int .i64 (pa : Int), .int .i64 (pv : Int)], .bool true, .bool true, .bool false, .agg #[.int .i64 (pe : Int), .int .i64 (pa : Int), .int .i64 (pv : Int)], .agg #[.int .i64 d.e, .int .i64 d.a, .int .i64 d.k, .int .i64 d.m, .string d.s, .int .i64 d.t, .bool d.add, .int .i64 d.fr, .int .i64 d.til], .func (.func 123) #[] #[.pointer (some ⟨w1.heap.size + 1 + 1, 0, none⟩), .pointer (some ⟨w1.heap.size + 1 + 1 + 1, 0, none⟩)], .int .i64 ((x.val : Nat) : Int), .agg #[.bool (partPl pe pa pv d x.val).v, .int .i64 (partPl pe pa pv d x.val).n, .int .i64 (partPl pe pa pv d x.val).k, .int .i64 (partPl pe pa pv d x.val).m, .string (partPl pe pa pv d x.val).s], undef, undef, undef, undef, undef, undef, undef, undef, undef], defers := [] })
    (fun x a' _ X Y row ⟨g, hg, e⟩ hgr hr => ⟨g, hg.kept hgr (fun r e => (hr r e).2), e⟩) ?assign ?body ?done ?stop
  case assign =>
    rintro lp pre x W K ⟨h0, h1, h2, h3, h4, h5⟩ hK
    gi_wp2
    refine hK _ _ (keepsFrom_below ((Below.refl _ W).alloc (Nat.le_refl _) _)) (keep2_below ((Below.refl _ W).alloc (Nat.le_refl _) _) (by omega) (by omega) (by omega)) ⟨(by simp; omega), h1.alloc _, h2.alloc _, h3.alloc _, h4.alloc h4.size _, h5⟩ ⟨W.heap.size, partBox_new _ _, rfl⟩
  case body =>
    rintro l pre x a' W hwl _ hMid ⟨g, hg, rfl⟩ hlt
    have HM := Lib.hid hMid
    obtain ⟨_, h1, h2, h3, h4, _⟩ := hMid
    have HG : Hid (PartBox W.drew g (partPl pe pa pv d x.val)) := hg
    have HS : Hid (Boxed W.drew (w1.heap.size + 1) 3 (.int .i64 0)) := h1
    have k0 : W.drew.cell? _ = _ := hg.k0
    have k1 : W.drew.cell? _ = _ := hg.k1
    have k2 : W.drew.cell? _ = _ := hg.k2
    have k3 : W.drew.cell? _ = _ := hg.k3
    have k4 : W.drew.cell? _ = _ := hg.k4
    have p0 : W.drew.cell? _ = _ := h3.c0
    have p1 : W.drew.cell? _ = _ := h3.c1
    have p2 : W.drew.cell? _ = _ := h3.c2
    have d0 : W.drew.cell? _ = _ := h2.c0
    have d1 : W.drew.cell? _ = _ := h2.c1
    have d2 : W.drew.cell? _ = _ := h2.c2
    have d3 : W.drew.cell? _ = _ := h2.c3
    have d4 : W.drew.cell? _ = _ := h2.c4
    have d5 : W.drew.cell? _ = _ := h2.c5
    have d6 : W.drew.cell? _ = _ := h2.c6
    have d7 : W.drew.cell? _ = _ := h2.c7
    have d8 : W.drew.cell? _ = _ := h2.c8
    obtain ⟨q, hq⟩ : ∃ q, partV (partPl pe pa pv b x.val) = q := ⟨_, rfl⟩
    have HPT := Lib.hid (fun X => part_any pe pa pv x.val b X)
    have hcp := fun X => cmpParts_any (partPl pe pa pv d x.val) (partPl pe pa pv b x.val) X
    obtain ⟨g0, hg0⟩ : ∃ g0, ordP (partPl pe pa pv d x.val) (partPl pe pa pv b x.val) = g0 := ⟨_, rfl⟩
    rw [hg0] at hcp
    change ∀ X, Calls _ _ #[_, partV (partPl pe pa pv b x.val)] _ _ at hcp
    rw [hq] at HPT hcp
    have HCP := Lib.hid hcp
    have HG0 := Lib.hid hg0
    have hfo : Tryz.prog.follows .mixedOrders = true := by kernel_rfl
    clear hq hcp hg0 hg h1 h2 h3 h4
    gi_wp2
    gi_region_with_o (first | (refine ⟨trivial, wide_deep _, (CallsIn.inRound l (callsIn_wide.2 (HPT.out _))).mono ?_⟩; rintro e W4 ⟨rfl, hb4⟩; have HB4 := Lib.hid hb4; have HG4 := Lib.hid (HG.out.next hb4 HG.out.lt); have m0 := HG4.out.k0; have m1 := HG4.out.k1; have m2 := HG4.out.k2; have m3 := HG4.out.k3; have m4 := HG4.out.k4; clear hb4) | (refine ⟨trivial, wide_deep _, (CallsIn.inRound l (callsIn_wide.2 (HCP.out _))).mono ?_⟩; rintro e W5 ⟨rfl, hb5⟩; have HBd := Lib.hid (HB4.out.trans (hb5.mono HB4.out.size)); have HB5 : Hid (Below W.heap.size W W5) := (Below.refl W.heap.size W).drew.trans HBd.out; have HS5 := Lib.hid (boxed_next HS.out HBd.out HS.out.lt); have s0 := HS5.out.cell; have s1 := HS5.out.frozen; clear hb5))
    all_goals by_cases hgz : g0 = 0
    all_goals first
      | (subst hgz
         gi_wp2
         exact dmid_step HM.out HB5.out (by omega) ⟨by omega, by omega, by omega, by omega⟩ ⟨by omega, by omega⟩ HG0.out)
      | (have hnz : (g0 != 0) = true := by simpa using hgz
         gi_wp2
         exact dstop_step HM.out HB5.out (by omega) HG0.out hgz)
  case done =>
    rintro D ys W hD hys ⟨_, h1, h2, h3, h4, h5⟩ hK
    have b0 := h1.cell
    have HE := Lib.hid (h4.trans (belowK_b (w := W2) (n₀ := w.heap.size) (by omega) W D _ (.deferred none) hD hK rfl rfl))
    have hF : ordPF (partsPl pe pa pv d) (partsPl pe pa pv b) 0 = 0 := by
      rw [h5 (by rw [hys]; exact List.prefix_refl _), hys, allF_len]
      exact ordPF_end (.inl (by rw [partsPl_len]; omega))
    have HF := Lib.hid hF
    clear h1 h2 h3 h4 h5 hys hF
    gi_wp2
    refine ⟨by simp, .inl ⟨_, _, rfl, run_takeDeferred hK, ?_⟩⟩
    exact ⟨_, results_tmp rfl _ _ _, by exact ⟨by rw [HF.out]; rfl, HE.out⟩⟩
  case stop =>
    rintro D cd pre W hD hsp ⟨rfl, h4, g, h1, h5⟩ hK
    have b0 := h1.cell
    have HE := Lib.hid (h4.trans (belowK_b (w := W2) (n₀ := w.heap.size) (by omega) W D _ (.deferred none) hD hK rfl rfl))
    have HF := Lib.hid (h5 hsp)
    clear h1 h4 h5 hsp
    gi_wp2
    refine ⟨by simp, .inl ⟨_, _, rfl, run_takeDeferred hK, ?_⟩⟩
    exact ⟨_, results_tmp rfl _ _ _, by exact ⟨by rw [HF.out]; rfl, HE.out⟩⟩
/-- Compare, in an order. -/
theorem cmpD_yes (o : Int) (a b : Dat) (w : World) (ho : isO o = true) :
    Calls Tryz.prog 61 #[.int .i64 o, .agg #[.int .i64 a.e, .int .i64 a.a, .int .i64 a.k, .int .i64 a.m, .string a.s, .int .i64 a.t, .bool a.add, .int .i64 a.fr, .int .i64 a.til], .agg #[.int .i64 b.e, .int .i64 b.a, .int .i64 b.k, .int .i64 b.m, .string b.s, .int .i64 b.t, .bool b.add, .int .i64 b.fr, .int .i64 b.til]] w fun e w' => e = .returned (.int .i64 (ordD o a b)) ∧ Below w.heap.size w w' := by
  have h := (callsIn_wide (n := 9)).1 (cmpD_in 9 (Nat.le_of_ble_eq_true rfl) o (plE o) (plA o) (plV o) (fun X => by have h9 := placesOf_any o X; rw [plcV_is ho, ho] at h9; exact h9) a b w)
  have e : ordPF (partsPl (plE o) (plA o) (plV o) a) (partsPl (plE o) (plA o) (plV o) b) 0 = ordD o a b := by
    unfold ordD
    rw [if_pos ho]; rfl
  rw [e] at h
  exact h
end Go.Proofs.YthhkabbgghepbaaGreat
