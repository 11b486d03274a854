import Derived.Laws.ResultCell
import Derived.Test.YthdjlaombbeagaaGreatJOArgs
import Derived.Test.YthdjlaombbeagaaGreatJORdRead
import Derived.Test.YthdjlaombbeagaaGreatJSTold
import Derived.Test.YthdjlaombbeagaaGreatJVSl
import Derived.Test.YthdjlaombbeagaaGreatJDOrd
import Derived.Test.YthdjlaombbeagaaGreatJOrdRef
/-
  CONTRACTS over datoms: placesOf, has, part.
-/
namespace Go.Proofs.YthdjlaombbeagaaGreat
open Go.RowKit

/-- where E, A and V stand, in a slot -/
def plcV (o : Int) : Value := if o = 1 then .agg #[.int .i64 (0 : Int), .int .i64 (1 : Int), .int .i64 (2 : Int)] else if o = 2 then .agg #[.int .i64 (1 : Int), .int .i64 (0 : Int), .int .i64 (2 : Int)] else if o = 3 then .agg #[.int .i64 (2 : Int), .int .i64 (0 : Int), .int .i64 (1 : Int)] else if o = 4 then .agg #[.int .i64 (2 : Int), .int .i64 (1 : Int), .int .i64 (0 : Int)] else .agg #[.int .i64 (0 : Int), .int .i64 (0 : Int), .int .i64 (0 : Int)]
theorem plcV_is {o : Int} (h : isO o = true) : plcV o = .agg #[.int .i64 ((plE o : Nat) : Int), .int .i64 ((plA o : Nat) : Int), .int .i64 ((plV o : Nat) : Int)] := by
  rcases isO_cases h with rfl | rfl | rfl | rfl <;> rfl
set_option maxRecDepth 100000 in
set_option maxHeartbeats 1000000 in
theorem placesOf_any (o : Int) (w : World) : Calls Tryz.prog 62 #[.int .i64 o] w fun e w' => e = .returned (.tuple #[plcV o, .bool (isO o)]) ∧ Below w.heap.size w w' := by
  by_cases h1 : o = 1
  · subst h1
    go_enter Tryz.func62, Tryz.ntmps62
    go_wp2
    refine bodyPost_ret (v := .tuple #[plcV 1, .bool true]) ?_ rfl ⟨rfl, ?_⟩
    · rw [results_cell_tmp rfl]
      go_simp
      rfl
    · exact (Below.refl _ _).alloc (Nat.le_refl _) _
  by_cases h2 : o = 2
  · subst h2
    go_enter Tryz.func62, Tryz.ntmps62
    go_wp2
    refine bodyPost_ret (v := .tuple #[plcV 2, .bool true]) ?_ rfl ⟨rfl, ?_⟩
    · rw [results_cell_tmp rfl]
      go_simp
      rfl
    · exact (Below.refl _ _).alloc (Nat.le_refl _) _
  by_cases h3 : o = 3
  · subst h3
    go_enter Tryz.func62, Tryz.ntmps62
    go_wp2
    refine bodyPost_ret (v := .tuple #[plcV 3, .bool true]) ?_ rfl ⟨rfl, ?_⟩
    · rw [results_cell_tmp rfl]
      go_simp
      rfl
    · exact (Below.refl _ _).alloc (Nat.le_refl _) _
  by_cases h4 : o = 4
  · subst h4
    go_enter Tryz.func62, Tryz.ntmps62
    go_wp2
    refine bodyPost_ret (v := .tuple #[plcV 4, .bool true]) ?_ rfl ⟨rfl, ?_⟩
    · rw [results_cell_tmp rfl]
      go_simp
      rfl
    · exact (Below.refl _ _).alloc (Nat.le_refl _) _
  have HE : Hid (plcV o = .agg #[.int .i64 (0 : Int), .int .i64 (0 : Int), .int .i64 (0 : Int)] ∧ isO o = false) := by
    refine ⟨?_, ?_⟩
    · unfold plcV; rw [if_neg h1, if_neg h2, if_neg h3, if_neg h4]
    · unfold isO; rw [decide_eq_false_iff_not]; omega
  have k1 : (o == 1) = false := beq_eq_false_iff_ne.2 h1
  have k2 : (o == 2) = false := beq_eq_false_iff_ne.2 h2
  have k3 : (o == 3) = false := beq_eq_false_iff_ne.2 h3
  have k4 : (o == 4) = false := beq_eq_false_iff_ne.2 h4
  clear h1 h2 h3 h4
  go_enter Tryz.func62, Tryz.ntmps62
  go_wp2
  rw [HE.out.1, HE.out.2]
  refine bodyPost_ret (v := .tuple #[.agg #[.int .i64 (0 : Int), .int .i64 (0 : Int), .int .i64 (0 : Int)], .bool false]) ?_ rfl ⟨rfl, ?_⟩
  · rw [results_cell_tmp rfl]
    go_simp
  · exact (Below.refl _ _).alloc (Nat.le_refl _) _

set_option maxRecDepth 100000 in
set_option maxHeartbeats 1000000 in
theorem has_any (o : Int) (d : Dat) (w : World) : Calls Tryz.prog 37 #[.int .i64 o, .agg #[.int .i64 d.e, .int .i64 d.a, .int .i64 d.k, .int .i64 d.m, .string d.s, .int .i64 d.t, .bool d.add, .int .i64 d.fr, .int .i64 d.til]] w fun e w' => e = .returned (.bool (hasD o d)) ∧ Below w.heap.size w w' := by
  by_cases h1 : o = 1
  · subst h1
    have HE : Hid (hasD 1 d = true) := by show _ = _; unfold hasD; simp
    go_enter Tryz.func37, Tryz.ntmps37
    go_wp2
    go_ret
    exact ⟨by rw [HE.out]; rfl, (Below.refl _ _).alloc (Nat.le_refl _) _⟩
  by_cases h2 : o = 2
  · subst h2
    have HE : Hid (hasD 2 d = true) := by show _ = _; unfold hasD; simp
    go_enter Tryz.func37, Tryz.ntmps37
    go_wp2
    go_ret
    exact ⟨by rw [HE.out]; rfl, (Below.refl _ _).alloc (Nat.le_refl _) _⟩
  by_cases h3 : o = 3
  · subst h3
    have HE : Hid (hasD 3 d = true) := by show _ = _; unfold hasD; simp
    go_enter Tryz.func37, Tryz.ntmps37
    go_wp2
    go_ret
    exact ⟨by rw [HE.out]; rfl, (Below.refl _ _).alloc (Nat.le_refl _) _⟩
  by_cases h4 : o = 4
  · subst h4
    by_cases hk : d.k = 5
    · have HE : Hid (hasD 4 d = true) := by show _ = _; unfold hasD; simp [hk]
      have hkq : (d.k != 5) = false := by rw [hk]; rfl
      clear hk
      go_enter Tryz.func37, Tryz.ntmps37
      go_wp2
      go_ret
      exact ⟨by rw [HE.out]; rfl, (Below.refl _ _).alloc (Nat.le_refl _) _⟩
    · have HE : Hid (hasD 4 d = false) := by show _ = _; unfold hasD; simp [hk]
      have hkq : (d.k != 5) = true := by simpa using hk
      clear hk
      go_enter Tryz.func37, Tryz.ntmps37
      go_wp2
      go_ret
      exact ⟨by rw [HE.out]; rfl, (Below.refl _ _).alloc (Nat.le_refl _) _⟩
  have HE : Hid (hasD o d = false) := by show _ = _; unfold hasD; rw [decide_eq_false_iff_not]; omega
  have k1 : (o == 1) = false := beq_eq_false_iff_ne.2 h1
  have k2 : (o == 2) = false := beq_eq_false_iff_ne.2 h2
  have k3 : (o == 3) = false := beq_eq_false_iff_ne.2 h3
  have k4 : (o == 4) = false := beq_eq_false_iff_ne.2 h4
  clear h1 h2 h3 h4
  go_enter Tryz.func37, Tryz.ntmps37
  go_wp2
  go_ret
  exact ⟨by rw [HE.out]; rfl, (Below.refl _ _).alloc (Nat.le_refl _) _⟩

/-- what a datom has at a place, E, A and V at any three -/
def partPl (pe pa pv : Nat) (d : Dat) (i : Nat) : PartP :=
  if i = pe then numP d.e else if i = pa then numP d.a else if i = pv then valP d else if i = 3 then numP d.t else if i = 4 then numP (cutN d.add) else if i = 5 then numP d.fr else numP d.til
set_option maxRecDepth 100000 in
set_option maxHeartbeats 1000000 in
theorem part_any (pe pa pv i : Nat) (d : Dat) (w : World) :
    Calls Tryz.prog 65 #[.agg #[.int .i64 (pe : Int), .int .i64 (pa : Int), .int .i64 (pv : Int)], .agg #[.int .i64 d.e, .int .i64 d.a, .int .i64 d.k, .int .i64 d.m, .string d.s, .int .i64 d.t, .bool d.add, .int .i64 d.fr, .int .i64 d.til], .int .i64 (i : Int)] w fun e w' => e = .returned (partV (partPl pe pa pv d i)) ∧ Below w.heap.size w w' := by
  by_cases h0 : i = pe
  · have HE : Hid (partPl pe pa pv d i = numP d.e) := by show _ = _; unfold partPl; rw [if_pos h0]
    have k0 : ((i : Int) == (pe : Int)) = true := by rw [beq_iff_eq]; omega
    clear h0
    go_enter Tryz.func65, Tryz.ntmps65
    go_wp2
    rw [HE.out]
    refine bodyPost_ret (v := partV (numP d.e)) ?_ rfl ⟨rfl, ?_⟩
    · rw [results_cell_only rfl]
      unfold partV numP
      go_simp
    · exact (((Below.refl _ _).alloc (Nat.le_refl _) _).alloc (by simp) _).alloc (by simp; omega) _
  by_cases h1 : i = pa
  · have HE : Hid (partPl pe pa pv d i = numP d.a) := by show _ = _; unfold partPl; rw [if_neg h0, if_pos h1]
    have k1 : ((i : Int) == (pa : Int)) = true := by rw [beq_iff_eq]; omega
    have k0 : ((i : Int) == (pe : Int)) = false := by rw [beq_eq_false_iff_ne]; omega
    clear h0 h1
    go_enter Tryz.func65, Tryz.ntmps65
    go_wp2
    rw [HE.out]
    refine bodyPost_ret (v := partV (numP d.a)) ?_ rfl ⟨rfl, ?_⟩
    · rw [results_cell_only rfl]
      unfold partV numP
      go_simp
    · exact (((Below.refl _ _).alloc (Nat.le_refl _) _).alloc (by simp) _).alloc (by simp; omega) _
  by_cases h2 : i = pv
  · have HE : Hid (partPl pe pa pv d i = valP d) := by show _ = _; unfold partPl; rw [if_neg h0, if_neg h1, if_pos h2]
    have k2 : ((i : Int) == (pv : Int)) = true := by rw [beq_iff_eq]; omega
    have k0 : ((i : Int) == (pe : Int)) = false := by rw [beq_eq_false_iff_ne]; omega
    have k1 : ((i : Int) == (pa : Int)) = false := by rw [beq_eq_false_iff_ne]; omega
    clear h0 h1 h2
    go_enter Tryz.func65, Tryz.ntmps65
    go_wp2
    rw [HE.out]
    refine bodyPost_ret (v := partV (valP d)) ?_ rfl ⟨rfl, ?_⟩
    · rw [results_cell_only rfl]
      unfold partV valP
      go_simp
    · exact (((Below.refl _ _).alloc (Nat.le_refl _) _).alloc (by simp) _).alloc (by simp; omega) _
  by_cases h3 : i = 3
  · have HE : Hid (partPl pe pa pv d i = numP d.t) := by show _ = _; unfold partPl; rw [if_neg h0, if_neg h1, if_neg h2, if_pos h3]
    have k3 : ((i : Int) == 3) = true := by rw [beq_iff_eq]; omega
    have k0 : ((i : Int) == (pe : Int)) = false := by rw [beq_eq_false_iff_ne]; omega
    have k1 : ((i : Int) == (pa : Int)) = false := by rw [beq_eq_false_iff_ne]; omega
    have k2 : ((i : Int) == (pv : Int)) = false := by rw [beq_eq_false_iff_ne]; omega
    clear h0 h1 h2 h3
    go_enter Tryz.func65, Tryz.ntmps65
    go_wp2
    rw [HE.out]
    refine bodyPost_ret (v := partV (numP d.t)) ?_ rfl ⟨rfl, ?_⟩
    · rw [results_cell_only rfl]
      unfold partV numP
      go_simp
    · exact (((Below.refl _ _).alloc (Nat.le_refl _) _).alloc (by simp) _).alloc (by simp; omega) _
  by_cases h4 : i = 4
  · have HE : Hid (partPl pe pa pv d i = numP (cutN d.add)) := by show _ = _; unfold partPl; rw [if_neg h0, if_neg h1, if_neg h2, if_neg h3, if_pos h4]
    have k4 : ((i : Int) == 4) = true := by rw [beq_iff_eq]; omega
    have k0 : ((i : Int) == (pe : Int)) = false := by rw [beq_eq_false_iff_ne]; omega
    have k1 : ((i : Int) == (pa : Int)) = false := by rw [beq_eq_false_iff_ne]; omega
    have k2 : ((i : Int) == (pv : Int)) = false := by rw [beq_eq_false_iff_ne]; omega
    have k3 : ((i : Int) == 3) = false := by rw [beq_eq_false_iff_ne]; omega
    clear h0 h1 h2 h3 h4
    obtain ⟨g, hg⟩ : ∃ g, cutN d.add = g := ⟨_, rfl⟩
    have HAD := Lib.hid (fun X => addNumber_any d.add X)
    rw [hg] at HE HAD
    clear hg
    go_enter Tryz.func65, Tryz.ntmps65
    go_wp2_with fail
    refine (HAD.out _).mono ?_
    rintro e w1 ⟨rfl, rfl⟩
    go_wp2
    rw [HE.out]
    refine bodyPost_ret (v := partV (numP g)) ?_ rfl ⟨rfl, ?_⟩
    · rw [results_cell_only rfl]
      unfold partV numP
      go_simp
    · exact (((Below.refl _ _).alloc (Nat.le_refl _) _).alloc (by simp) _).alloc (by simp; omega) _
  by_cases h5 : i = 5
  · have HE : Hid (partPl pe pa pv d i = numP d.fr) := by show _ = _; unfold partPl; rw [if_neg h0, if_neg h1, if_neg h2, if_neg h3, if_neg h4, if_pos h5]
    have k5 : ((i : Int) == 5) = true := by rw [beq_iff_eq]; omega
    have k0 : ((i : Int) == (pe : Int)) = false := by rw [beq_eq_false_iff_ne]; omega
    have k1 : ((i : Int) == (pa : Int)) = false := by rw [beq_eq_false_iff_ne]; omega
    have k2 : ((i : Int) == (pv : Int)) = false := by rw [beq_eq_false_iff_ne]; omega
    have k3 : ((i : Int) == 3) = false := by rw [beq_eq_false_iff_ne]; omega
    have k4 : ((i : Int) == 4) = false := by rw [beq_eq_false_iff_ne]; omega
    clear h0 h1 h2 h3 h4 h5
    go_enter Tryz.func65, Tryz.ntmps65
    go_wp2
    rw [HE.out]
    refine bodyPost_ret (v := partV (numP d.fr)) ?_ rfl ⟨rfl, ?_⟩
    · rw [results_cell_only rfl]
      unfold partV numP
      go_simp
    · exact (((Below.refl _ _).alloc (Nat.le_refl _) _).alloc (by simp) _).alloc (by simp; omega) _
  have HE : Hid (partPl pe pa pv d i = numP d.til) := by show _ = _; unfold partPl; rw [if_neg h0, if_neg h1, if_neg h2, if_neg h3, if_neg h4, if_neg h5]
  have k0 : ((i : Int) == (pe : Int)) = false := by rw [beq_eq_false_iff_ne]; omega
  have k1 : ((i : Int) == (pa : Int)) = false := by rw [beq_eq_false_iff_ne]; omega
  have k2 : ((i : Int) == (pv : Int)) = false := by rw [beq_eq_false_iff_ne]; omega
  have k3 : ((i : Int) == 3) = false := by rw [beq_eq_false_iff_ne]; omega
  have k4 : ((i : Int) == 4) = false := by rw [beq_eq_false_iff_ne]; omega
  have k5 : ((i : Int) == 5) = false := by rw [beq_eq_false_iff_ne]; omega
  clear h0 h1 h2 h3 h4 h5
  go_enter Tryz.func65, Tryz.ntmps65
  go_wp2
  rw [HE.out]
  refine bodyPost_ret (v := partV (numP d.til)) ?_ rfl ⟨rfl, ?_⟩
  · rw [results_cell_only rfl]
    unfold partV numP
    go_simp
  · exact (((Below.refl _ _).alloc (Nat.le_refl _) _).alloc (by simp) _).alloc (by simp; omega) _
end Go.Proofs.YthdjlaombbeagaaGreat

/-
  CONTRACTS over datoms: told (the iterator over a datom's parts), compareParts.
-/
namespace Go.Proofs.YthdjlaombbeagaaGreat
open Go.RowKit Go.Shelf

/-- the places, in their order -/
def allF : List (Fin 7) := List.finRange 7
theorem allF_len : allF.length = 7 := by decide
theorem allF_all : ∀ i : Fin 7, allF[i.val]? = some i := by decide
theorem allF_at (i : Nat) (h : i < 7) : allF[i]? = some ⟨i, h⟩ := allF_all ⟨i, h⟩
theorem allF_take (i : Nat) (h : i < 7) : allF.take (i + 1) = allF.take i ++ [⟨i, h⟩] := by
  have h1 : i < allF.length := by rw [allF_len]; exact h
  rw [List.take_succ_eq_append_getElem h1]
  have h2 := allF_at i h
  rw [List.getElem?_eq_getElem h1] at h2
  rw [Option.some.inj h2]
/-- a prefix of what is told, with one more -/
theorem allF_pre {pre : List (Fin 7)} {x : Fin 7} (h : pre ++ [x] <+: allF) : pre.length = x.val ∧ pre <+: allF := by
  refine ⟨?_, (List.prefix_append _ _).trans h⟩
  obtain ⟨r, hr⟩ := h
  have hl : pre.length < 7 := by
    have := congrArg List.length hr
    rw [allF_len] at this
    simp at this
    omega
  have h1 := allF_at pre.length hl
  rw [← hr, List.append_assoc, List.getElem?_append_right (Nat.le_refl _), Nat.sub_self] at h1
  have h2 : x = ⟨pre.length, hl⟩ := by simpa using h1
  rw [h2]

/-- the places in a box -/
def PlcAt (W : World) (b pe pa pv : Nat) : Prop := W.heap[b]? = some (.cells #[.int .i64 (pe : Int), .int .i64 (pa : Int), .int .i64 (pv : Int)] 106 (0, 0))
theorem PlcAt.cell {W : World} {b pe pa pv : Nat} (h : PlcAt W b pe pa pv) (j : Nat) : W.cell? ⟨b, j, none⟩ = (#[Value.int .i64 (pe : Int), .int .i64 (pa : Int), .int .i64 (pv : Int)])[j]? := by unfold PlcAt at h; simp [World.cell?, h]
theorem PlcAt.next {W W' : World} {b B pe pa pv : Nat} (h : PlcAt W b pe pa pv) (hb : Below B W W') (hB : b < B) : PlcAt W' b pe pa pv := (hb.block b hB).trans h
theorem PlcAt.lt {W : World} {b pe pa pv : Nat} (h : PlcAt W b pe pa pv) : b < W.heap.size := (Array.getElem?_eq_some_iff.1 h).1
theorem PlcAt.alloc {W : World} {b pe pa pv : Nat} (h : PlcAt W b pe pa pv) (o : Obj) : PlcAt (W.alloc o) b pe pa pv := (Below.heap_alloc W o b h.lt).trans h
theorem plcAt_new (W : World) (pe pa pv : Nat) : PlcAt (W.alloc (.cells #[.int .i64 (pe : Int), .int .i64 (pa : Int), .int .i64 (pv : Int)] 106)) W.heap.size pe pa pv := heap_alloc_new W _

theorem DatAt.c0 {W : World} {b : Nat} {d : Dat} (h : DatAt W b d) : W.cell? ⟨b, 0, none⟩ = some (.int .i64 d.e) := h.cell 0
theorem DatAt.c1 {W : World} {b : Nat} {d : Dat} (h : DatAt W b d) : W.cell? ⟨b, 1, none⟩ = some (.int .i64 d.a) := h.cell 1
theorem DatAt.c2 {W : World} {b : Nat} {d : Dat} (h : DatAt W b d) : W.cell? ⟨b, 2, none⟩ = some (.int .i64 d.k) := h.cell 2
theorem DatAt.c3 {W : World} {b : Nat} {d : Dat} (h : DatAt W b d) : W.cell? ⟨b, 3, none⟩ = some (.int .i64 d.m) := h.cell 3
theorem DatAt.c4 {W : World} {b : Nat} {d : Dat} (h : DatAt W b d) : W.cell? ⟨b, 4, none⟩ = some (.string d.s) := h.cell 4
theorem DatAt.c5 {W : World} {b : Nat} {d : Dat} (h : DatAt W b d) : W.cell? ⟨b, 5, none⟩ = some (.int .i64 d.t) := h.cell 5
theorem DatAt.c6 {W : World} {b : Nat} {d : Dat} (h : DatAt W b d) : W.cell? ⟨b, 6, none⟩ = some (.bool d.add) := h.cell 6
theorem DatAt.c7 {W : World} {b : Nat} {d : Dat} (h : DatAt W b d) : W.cell? ⟨b, 7, none⟩ = some (.int .i64 d.fr) := h.cell 7
theorem DatAt.c8 {W : World} {b : Nat} {d : Dat} (h : DatAt W b d) : W.cell? ⟨b, 8, none⟩ = some (.int .i64 d.til) := h.cell 8
theorem PlcAt.c0 {W : World} {b pe pa pv : Nat} (h : PlcAt W b pe pa pv) : W.cell? ⟨b, 0, none⟩ = some (.int .i64 (pe : Int)) := h.cell 0
theorem PlcAt.c1 {W : World} {b pe pa pv : Nat} (h : PlcAt W b pe pa pv) : W.cell? ⟨b, 1, none⟩ = some (.int .i64 (pa : Int)) := h.cell 1
theorem PlcAt.c2 {W : World} {b pe pa pv : Nat} (h : PlcAt W b pe pa pv) : W.cell? ⟨b, 2, none⟩ = some (.int .i64 (pv : Int)) := h.cell 2
/-- What lay below n₀, and in two blocks, lies. -/
structure Keep2 (n₀ Ba Bd : Nat) (A B : World) : Prop where
  low : Below n₀ A B
  b1 : B.heap[Ba]? = A.heap[Ba]?
  b2 : B.heap[Bd]? = A.heap[Bd]?
theorem Keep2.refl (n₀ Ba Bd : Nat) (A : World) : Keep2 n₀ Ba Bd A A := ⟨Below.refl _ _, rfl, rfl⟩
theorem Keep2.trans {n₀ Ba Bd : Nat} {A B C : World} (h : Keep2 n₀ Ba Bd A B) (k : Keep2 n₀ Ba Bd B C) : Keep2 n₀ Ba Bd A C := ⟨h.low.trans k.low, k.b1.trans h.b1, k.b2.trans h.b2⟩
theorem keep2_b {n₀ Ba Bd : Nat} {w : World} (hn : n₀ ≤ w.heap.size) (h1 : Ba < w.heap.size) (h2 : Bd < w.heap.size) (W : World) (l : Nat) (o o' : Obj) (hl : w.heap.size ≤ l) (h : W.heap[l]? = some o) (g1 : o.isCells = false) (g2 : o.isWalk = false) : Keep2 n₀ Ba Bd W (W.putObj l o') :=
  ⟨belowK_b hn W l o o' hl h g1 g2, (belowK_b (n₀ := w.heap.size) (Nat.le_refl _) W l o o' hl h g1 g2).block Ba h1, (belowK_b (n₀ := w.heap.size) (Nat.le_refl _) W l o o' hl h g1 g2).block Bd h2⟩
theorem keep2_below {n₀ Ba Bd : Nat} {W W' : World} (h : Below W.heap.size W W') (hn : n₀ ≤ W.heap.size) (h1 : Ba < W.heap.size) (h2 : Bd < W.heap.size) : Keep2 n₀ Ba Bd W W' := ⟨h.mono hn, h.block Ba h1, h.block Bd h2⟩
/-- One round of the loop that is handed places and parts. -/
def HandsP (pe pa pv : Nat) (d : Dat) (l n₀ Ba Bd N : Nat) (J Jx : List (Fin 7) → World → Prop) : Prop :=
  ∀ m pre (x : Fin 7) W, J pre W → pre.length < N → YieldAt Fence.wide m Tryz.prog l #[.int .i64 ((x.val : Nat) : Int), .agg #[.bool (partPl pe pa pv d x.val).v, .int .i64 (partPl pe pa pv d x.val).n, .int .i64 (partPl pe pa pv d x.val).k, .int .i64 (partPl pe pa pv d x.val).m, .string (partPl pe pa pv d x.val).s]] W fun e W' =>
    (e = .returned (.bool true) ∧ J (pre ++ [x]) W' ∧ Keep2 n₀ Ba Bd W W') ∨ (e = .returned (.bool false) ∧ Jx (pre ++ [x]) W')

set_option maxRecDepth 100000 in
set_option maxHeartbeats 2000000 in
theorem toldD_in (lp n₀ C Ba Bd pe pa pv : Nat) (d : Dat) (J Jx : List (Fin 7) → World → Prop) (hA : AbidesFrom C J) (hY : HandsP pe pa pv d lp n₀ Ba Bd 7 J Jx) (n : Nat) (W : World) (hn : n₀ ≤ W.heap.size) (hb : PlcAt W Ba pe pa pv) (hd : DatAt W Bd d) (hJ : J [] W) :
    CallsIn Fence.wide n Tryz.prog 100 #[.func (.yield lp) #[] #[], .pointer (some ⟨Ba, 0, none⟩), .pointer (some ⟨Bd, 0, none⟩)] W fun e W' =>
      (∃ v, e = .returned v) ∧ (J allF W' ∨ ∃ q, q <+: allF ∧ Jx q W') := by
  refine callsIn_of_wp Tryz.func100 rfl trivial ?_ rfl
  simp only [Tryz.ntmps100, List.size_toArray, List.length_cons, List.length_nil, Nat.reduceAdd, Nat.reduceSub, Array.replicate_succ, Array.replicate_zero, List.push_toArray, List.append_toArray, List.nil_append, List.cons_append]
  have HP := Lib.hid (And.intro hb hd)
  have HL := Lib.hid (And.intro hb.lt hd.lt)
  clear hb hd
  gi_wp2
  gi_loopw [4, 5] (fun _ y wr => ∃ j : Nat, y = .int .i64 (j : Int) ∧ j ≤ 7 ∧ J (allF.take j) wr ∧ Hid (Keep2 n₀ Ba Bd W wr) ∧ Hid (W.heap.size ≤ wr.heap.size)) (fun _ y _ => 7 - (intOf y).toNat)
  case atStart => exact ⟨0, rfl, by omega, by rw [List.take_zero]; exact hJ, Keep2.refl _ _ _ _, Nat.le_refl _⟩
  case round =>
    obtain ⟨j, rfl, hj, hJk, HB, HSZ⟩ := hrel
    clear hJ
    by_cases hjl : j < 7
    · have hji : (j : Int) < 7 := by omega
      have hx : PlcAt wr Ba pe pa pv := HB.out.b1.trans HP.out.1
      have hy0 : DatAt wr Bd d := HB.out.b2.trans HP.out.2
      have a0 := hx.cell 0
      have a1 := hx.cell 1
      have a2 := hx.cell 2
      have d0 := hy0.cell 0
      have d1 := hy0.cell 1
      have d2 := hy0.cell 2
      have d3 := hy0.cell 3
      have d4 := hy0.cell 4
      have d5 := hy0.cell 5
      have d6 := hy0.cell 6
      have d7 := hy0.cell 7
      have d8 := hy0.cell 8
      simp at a0 a1 a2 d0 d1 d2 d3 d4 d5 d6 d7 d8
      have HTS := Lib.hid (allF_take j hjl)
      have HPR := Lib.hid (List.take_prefix (j + 1) allF)
      have HLN : Hid ((allF.take j).length < 7) := by show _ < _; rw [List.length_take, allF_len]; omega
      have HJK := Lib.hid hJk
      have hab := Lib.hid (And.intro (show Ba < wr.heap.size by have := HL.out.1; have := HSZ.out; omega) (show Bd < wr.heap.size by have := HL.out.2; have := HSZ.out; omega))
      clear hx hy0 hJk
      gi_wp2_with fail
      refine ⟨trivial, wide_deep _, ?_⟩
      refine (callsIn_wide.2 (part_any pe pa pv j d wr)).mono ?_
      rintro e W4 ⟨rfl, hb4⟩
      have hJ4 : J (allF.take j) W4 := abides_to hA HJK.out hb4
      have HK4 := Lib.hid (HB.out.trans (keep2_below hb4 (Nat.le_trans hn HSZ.out) hab.out.1 hab.out.2))
      have HZ4 := Lib.hid (Nat.le_trans HSZ.out hb4.size)
      obtain ⟨fn, tmps, assign, body, hy, hR⟩ := hY (n - 1) _ ⟨j, hjl⟩ W4 hJ4 HLN.out
      have HY' : Hid ((Instr.yield lp #[.int .i64 (j : Int), partV (partPl pe pa pv d j)]).run Tryz.prog W4 = .ok (.round lp fn tmps assign body) W4) := hy
      obtain ⟨q, hq⟩ : ∃ q, partV (partPl pe pa pv d j) = q := ⟨_, rfl⟩
      rw [hq] at HY' ⊢
      have hy' := HY'.out
      clear hb4 hJ4 hy hq HY' a0 a1 a2 d0 d1 d2 d3 d4 d5 d6 d7 d8
      gi_wp2
      refine ⟨wide_deep _, ?_⟩
      refine hR.mono ?_
      rintro e W5 (⟨rfl, hJ5, hk5⟩ | ⟨rfl, hJx5⟩)
      · gi_wp2
        go_roundw
        case rel => exact ⟨j + 1, by go_num, by omega, by rw [HTS.out]; exact hJ5, HK4.out.trans hk5, Nat.le_trans HZ4.out hk5.low.size⟩
        case measure => simp [intOf]; omega
      · gi_wp2
        refine bodyPost_ret (results_none rfl _ _ _) rfl ?_
        exact ⟨⟨_, rfl⟩, .inr ⟨allF.take (j + 1), HPR.out, by rw [HTS.out]; exact hJx5⟩⟩
    · have hji : ¬ (j : Int) < 7 := by omega
      rw [List.take_of_length_le (by rw [allF_len]; omega)] at hJk
      gi_wp2
      go_end0
      exact ⟨⟨_, rfl⟩, .inl hJk⟩

theorem toldD_stops (n n₀ Ba Bd pe pa pv : Nat) (d : Dat) (w : World) (hn₀ : n₀ ≤ w.heap.size) (hb : PlcAt w Ba pe pa pv) (hd : DatAt w Bd d) :
    SeqStopsK Fence.wide n Tryz.prog 100 #[.pointer (some ⟨Ba, 0, none⟩), .pointer (some ⟨Bd, 0, none⟩)] (fun x : Fin 7 => #[.int .i64 ((x.val : Nat) : Int), .agg #[.bool (partPl pe pa pv d x.val).v, .int .i64 (partPl pe pa pv d x.val).n, .int .i64 (partPl pe pa pv d x.val).k, .int .i64 (partPl pe pa pv d x.val).m, .string (partPl pe pa pv d x.val).s]]) (Keep2 n₀ Ba Bd) (fun ys => ys = allF) (fun q => q <+: allF) 7 w := fun lp J Jx W hW hA _ hY h0' => by
  have hH : HandsP pe pa pv d lp n₀ Ba Bd 7 J Jx := fun m pre x W1 hj hl => YieldAt.anyDepth m (hY pre x W1 hj hl)
  refine (toldD_in lp n₀ _ Ba Bd pe pa pv d J Jx hA hH n W (Nat.le_trans hn₀ hW.size) (hb.next hW hb.lt) (hd.next hW hd.lt) h0').mono ?_
  rintro e W' ⟨hv, hj | ⟨q, hq, hx⟩⟩
  · exact ⟨hv, .inl ⟨_, rfl, hj⟩⟩
  · exact ⟨hv, .inr ⟨q, hq, hx⟩⟩

set_option maxHeartbeats 400000 in
theorem toldOfD_any (pe pa pv : Nat) (d : Dat) (w : World) :
    Calls Tryz.prog 63 #[.agg #[.int .i64 (pe : Int), .int .i64 (pa : Int), .int .i64 (pv : Int)], .agg #[.int .i64 d.e, .int .i64 d.a, .int .i64 d.k, .int .i64 d.m, .string d.s, .int .i64 d.t, .bool d.add, .int .i64 d.fr, .int .i64 d.til]] w fun e w' => e = .returned (.func (.func 100) #[] #[.pointer (some ⟨w.heap.size, 0, none⟩), .pointer (some ⟨w.heap.size + 1, 0, none⟩)]) ∧ w' = (w.alloc (.cells #[.int .i64 (pe : Int), .int .i64 (pa : Int), .int .i64 (pv : Int)] 106)).alloc (.cells #[.int .i64 d.e, .int .i64 d.a, .int .i64 d.k, .int .i64 d.m, .string d.s, .int .i64 d.t, .bool d.add, .int .i64 d.fr, .int .i64 d.til] 44) := by
  go_enter Tryz.func63, Tryz.ntmps63
  go_wp2
  go_ret
  exact ⟨rfl, rfl⟩

set_option maxRecDepth 100000 in
set_option maxHeartbeats 400000 in
theorem cmpParts_any (p q : PartP) (w : World) :
    Calls Tryz.prog 64 #[.agg #[.bool p.v, .int .i64 p.n, .int .i64 p.k, .int .i64 p.m, .string p.s], .agg #[.bool q.v, .int .i64 q.n, .int .i64 q.k, .int .i64 q.m, .string q.s]] w fun e w' => e = .returned (.int .i64 (ordP p q)) ∧ Below w.heap.size w w' := by
  obtain ⟨v, n, k, m, s⟩ := p
  obtain ⟨v', n', k', m', s'⟩ := q
  simp only
  cases v
  · have HE : Hid (ordP ⟨false, n, k, m, s⟩ ⟨v', n', k', m', s'⟩ = ordI n n') := rfl
    obtain ⟨g, hg⟩ : ∃ g, ordI n n' = g := ⟨_, rfl⟩
    have HC := Lib.hid (fun X => cmpI64_any n n' X)
    rw [hg] at HE HC
    clear hg
    go_enter Tryz.func64, Tryz.ntmps64
    go_wp2_with fail
    refine (HC.out _).mono ?_
    rintro e w1 ⟨rfl, rfl⟩
    go_wp2
    go_ret
    exact ⟨by rw [HE.out]; rfl, ((Below.refl _ _).alloc (Nat.le_refl _) _).alloc (by simp) _⟩
  · have HE : Hid (ordP ⟨true, n, k, m, s⟩ ⟨v', n', k', m', s'⟩ = ordV k m s k' m' s') := rfl
    obtain ⟨g, hg⟩ : ∃ g, ordV k m s k' m' s' = g := ⟨_, rfl⟩
    have HC := Lib.hid (fun X => compare_any k m s k' m' s' X)
    rw [hg] at HE HC
    clear hg
    go_enter Tryz.func64, Tryz.ntmps64
    go_wp2_with fail
    refine (HC.out _).mono ?_
    rintro e w1 ⟨rfl, hb⟩
    have HB := Lib.hid ((((Below.refl w.heap.size w).alloc (Nat.le_refl _) _).alloc (by simp) _).trans (hb.mono (by simp; omega)))
    clear hb
    go_wp2
    go_ret
    exact ⟨by rw [HE.out]; rfl, HB.out⟩
end Go.Proofs.YthdjlaombbeagaaGreat

/-
  CONTRACT: the document's Sorted of values.
-/
namespace Go.Proofs.YthdjlaombbeagaaGreat
open Go.RowKit Go.Shelf

theorem putAt_lt {α : Type} {o : α → α → Int} {x : α} : ∀ {l : List α} {i : Nat}, i < putAt o x l → ∃ hi : i < l.length, o l[i] x < 0
  | [], i, h => absurd h (Nat.not_lt_zero _)
  | y :: r, i, h => by
    rw [putAt] at h
    by_cases h1 : o y x < 0
    · rw [if_pos h1] at h
      cases i with
      | zero => exact ⟨by simp, h1⟩
      | succ i =>
        obtain ⟨hi, h2⟩ := putAt_lt (o := o) (x := x) (l := r) (i := i) (by omega)
        exact ⟨by simp; omega, h2⟩
    · rw [if_neg h1] at h
      exact absurd h (Nat.not_lt_zero _)
theorem putAt_end {α : Type} {o : α → α → Int} {x : α} : ∀ {l : List α} (h : putAt o x l < l.length), ¬ o l[putAt o x l] x < 0
  | [], h => absurd h (Nat.not_lt_zero _)
  | y :: r, h => by
    by_cases h1 : o y x < 0
    · have e : putAt o x (y :: r) = putAt o x r + 1 := by rw [putAt, if_pos h1]
      have h2 : putAt o x r < r.length := by rw [e] at h; simpa using h
      have := putAt_end h2
      simpa [e] using this
    · have e : putAt o x (y :: r) = 0 := by rw [putAt, if_neg h1]
      simpa [e] using h1
theorem putG_old {α : Type} {o : α → α → Int} {x : α} {l : List α} (h : putAt o x l < l.length) (h0 : o l[putAt o x l] x = 0) : putG o l x = l := by
  unfold putG
  rw [if_pos]
  rw [List.getElem?_eq_getElem h]
  simp [h0]
theorem putG_new {α : Type} {o : α → α → Int} {x : α} {l : List α} (h0 : ∀ h : putAt o x l < l.length, o l[putAt o x l] x ≠ 0) : putG o l x = l.take (putAt o x l) ++ x :: l.drop (putAt o x l) := by
  unfold putG
  rw [if_neg]
  by_cases h : putAt o x l < l.length
  · rw [List.getElem?_eq_getElem h]
    simp [h0 h]
  · rw [List.getElem?_eq_none (by omega)]
    simp
theorem putAt_ltQ {α : Type} {o : α → α → Int} {x y : α} {l : List α} {i : Nat} (h : i < putAt o x l) (hy : l[i]? = some y) : o y x < 0 := by
  obtain ⟨hi, h2⟩ := putAt_lt h
  rw [List.getElem?_eq_getElem hi] at hy
  rw [← Option.some.inj hy]; exact h2
theorem putAt_endQ {α : Type} {o : α → α → Int} {x y : α} {l : List α} (hy : l[putAt o x l]? = some y) : ¬ o y x < 0 := by
  obtain ⟨hi, e⟩ := List.getElem?_eq_some_iff.1 hy
  rw [← e]; exact putAt_end hi
theorem putG_oldQ {α : Type} {o : α → α → Int} {x y : α} {l : List α} (hy : l[putAt o x l]? = some y) (h0 : o y x = 0) : putG o l x = l := by
  obtain ⟨hi, e⟩ := List.getElem?_eq_some_iff.1 hy
  exact putG_old hi (by rw [e]; exact h0)
theorem putG_newQ {α : Type} {o : α → α → Int} {x : α} {l : List α} (h0 : ∀ y, l[putAt o x l]? = some y → o y x ≠ 0) : putG o l x = l.take (putAt o x l) ++ x :: l.drop (putAt o x l) :=
  putG_new fun h => h0 _ (List.getElem?_eq_getElem h)
theorem OwnV.form {W : World} {B : Nat} {v : Value} {l : List Vl} (h : OwnV W B v l) : ∃ A c, v = .slice A l.length c ∧ SlV W W.heap.size A l ∧ l.length ≤ c ∧ c ≤ maxLen ∧ (A = none → l.length = 0 ∧ c = 0) := by
  rcases h.2 with ⟨rfl, h0⟩ | ⟨g, cap, cur, e, r1, hgb, h1, h2, r2⟩
  · exact ⟨none, 0, by rw [h0], fun hl => absurd (List.length_eq_zero_iff.1 h0) hl, by omega, Nat.zero_le _, fun _ => ⟨h0, rfl⟩⟩
  · obtain ⟨A, c, e2, h3, h4, h5⟩ := OwnV.slv h
    refine ⟨A, c, e2, h3, h4, h5, fun hA => ?_⟩
    rw [e, hA] at e2
    cases e2
/-- what the comparing regions read -/
def CsV (N ba oa bb ob : Nat) (x y : Vl) (W : World) : Prop := VlAt W ba oa x ∧ VlAt W bb ob y ∧ (ba < N ∧ bb < N) ∧ N ≤ W.heap.size
theorem CsV.next {N ba oa bb ob : Nat} {x y : Vl} {W W' : World} (h : CsV N ba oa bb ob x y W) (hb : Below W.heap.size W W') : CsV N ba oa bb ob x y W' :=
  ⟨h.1.next hb (by have := h.2.2; omega), h.2.1.next hb (by have := h.2.2; omega), h.2.2.1, Nat.le_trans h.2.2.2 hb.size⟩
/-- where a slice's rest stands -/
def cutV (A : Option Addr) (c k : Nat) : Option Addr := if c = k then A else A.map (·.add (k * 3))
theorem SlV.drop {W : World} {B : Nat} {A : Option Addr} {l : List Vl} (h : SlV W B A l) {c : Nat} (k : Nat) (hlc : l.length ≤ c) : SlV W B (cutV A c k) (l.drop k) := fun hl => by
  have hk : k < l.length := by
    rcases Nat.lt_or_ge k l.length with h1 | h1
    · exact h1
    · exact absurd (List.drop_of_length_le h1) hl
  obtain ⟨b, o, rfl, hlt, hc⟩ := h (fun e => by rw [e] at hk; exact absurd hk (Nat.not_lt_zero _))
  unfold cutV
  rw [if_neg (by omega)]
  refine ⟨b, o + k * 3, by show some (Addr.add ⟨b, o, none⟩ (k * 3)) = _; rw [addI], hlt, fun j p hp => ?_⟩
  rw [List.getElem?_drop] at hp
  have := hc (k + j) p hp
  rwa [show o + (k + j) * 3 = o + k * 3 + j * 3 from by omega] at this
theorem SlV.take {W : World} {B : Nat} {A : Option Addr} {l : List Vl} (h : SlV W B A l) (k : Nat) : SlV W B A (l.take k) := fun hl => by
  obtain ⟨b, o, e, hlt, hc⟩ := h (fun e => hl (by rw [e]; simp))
  refine ⟨b, o, e, hlt, fun j p hp => hc j p ?_⟩
  rw [List.getElem?_take] at hp
  split at hp
  · exact hp
  · cases hp
end Go.Proofs.YthdjlaombbeagaaGreat
