/-
  CONTRACT: rows.Select, handed the law's closure.
-/
import Derived.Test.YtafnhhbdcleihaaZKept
import Derived.Recover
namespace Go.Proofs.Ytafnhhbdcleihaa
open Go.RowKit

theorem results_cc {fn : Func} {p q : Tmp} {ty ty2 : TypeId} (h : fn.results = #[.cell p ty, .cell q ty2]) (tmps : Array Value) (P : Program) (w : World) :
    (results fn tmps).run P w = ((asAddr (tmps.getD p undef)).run P w).andThen fun a w₁ => ((loadVar ty a).run P w₁).andThen fun v w₂ => ((asAddr (tmps.getD q undef)).run P w₂).andThen fun b w₃ => ((loadVar ty2 b).run P w₃).andThen fun v2 w₄ => .ok (.tuple #[v, v2]) w₄ := by
  simp only [results, h]
  simp [Sem.run_bind]
theorem sel1_idle (p q : Value) (w : World) :
    CallsD Try.prog 58 #[p, q] .returning w fun e u' w' => e = .returned (.tuple #[]) ∧ u' = .returning ∧ w' = w := by
  refine callsD_of_wpS Try.func58 rfl fun c₀ cs hu => ?_
  apply wpS_seq
  apply wpS_region
  simp [wpOpsS, go_sem, recoverD, hu, Try.ntmps58, Exit.thenS]
  refine wpS_cond (t := false) (by simp [Act.eval, Array.replicate]) ?_
  simp only [Bool.false_eq_true, if_false]
  refine wpS_of_wp (wp_skip ?_)
  cases c₀
  simp_all [bodyPostS, results, Try.results58]
/-- a relation's two cells and an error's, stored -/
theorem cells_three {W : World} {b d : Nat} {u0 u1 u2 v0 v1 v2 : Value} (hne : b ≠ d) (c0 : W.cell? ⟨b, 0, none⟩ = some u0) (c1 : W.cell? ⟨b, 1, none⟩ = some u1) (c2 : W.cell? ⟨d, 0, none⟩ = some u2) :
    (((W.setCell ⟨b, 0, none⟩ v0).setCell ⟨b, 1, none⟩ v1).setCell ⟨d, 0, none⟩ v2).cell? ⟨b, 0, none⟩ = some v0 ∧ (((W.setCell ⟨b, 0, none⟩ v0).setCell ⟨b, 1, none⟩ v1).setCell ⟨d, 0, none⟩ v2).cell? ⟨b, 1, none⟩ = some v1 ∧ (((W.setCell ⟨b, 0, none⟩ v0).setCell ⟨b, 1, none⟩ v1).setCell ⟨d, 0, none⟩ v2).cell? ⟨d, 0, none⟩ = some v2 := by
  obtain ⟨h0, h1⟩ := cells_two (v0 := v0) (v1 := v1) c0 c1
  refine ⟨(World.cell?_setCell_other _ _ _ _ (by intro e; injection e with e; omega)).trans h0, (World.cell?_setCell_other _ _ _ _ (by intro e; injection e with e; omega)).trans h1, World.cell?_setCell_same _ _ _ (show _ = some u2 from ?_)⟩
  rw [World.cell?_setCell_other _ _ _ _ (by intro e; injection e with e; omega), World.cell?_setCell_other _ _ _ _ (by intro e; injection e with e; omega)]
  exact c2
/-- what Select answers -/
def SelEnd (bN bO : Nat) (w : World) (cols : List ByteArray) (T : List (List Vl)) (code : Int) (m : Nat) (e : Ending) (w' : World) : Prop :=
  KpS bN bO w.heap.size w w' ∧ SelSt bN bO m w' ∧ ∃ vc vr c2 R2, e = .returned (.tuple #[.agg #[vc, vr], .int .i64 code]) ∧ OwnC w' w.heap.size vc c2 ∧ AnsR w' w.heap.size vr R2 ∧ (∀ b1 b2 n1 k1 n2 k2, vc = .slice (some b1) n1 k1 → vr = .slice (some b2) n2 k2 → b1.block ≠ b2.block) ∧ (∀ a n c, vr = .slice (some a) n c → w.heap.size ≤ a.block) ∧ c2 = (if code = 0 then cols else []) ∧ txR R2 = (if code = 0 then T else [])
/-- what Select says of its error -/
noncomputable def selC (cols : List ByteArray) (R : List Rw) : Int := if mayRel cols R = true then 0 else 2
set_option maxRecDepth 100000 in
set_option maxHeartbeats 8000000 in
theorem select_any (bx bN bO : Nat) (A1 : Option Addr) (c1 : Nat) (R : List Rw) (A0 : Option Addr) (c0 : Nat) (cols : List ByteArray) (A7 : Option Addr) (c7 : Nat) (R7 : List Rw) (w : World) (hst : SelSt bN bO 0 w) (h1 : bx < bN) (h2 : bN < bO) (h3 : bO < w.heap.size)
    (hbx : w.cell? ⟨bx, 1, none⟩ = some (.slice A1 R.length c1)) (hR : SlR w bN A1 R) (hc : SlC w bN A0 cols) (hn : A0 = none → cols.length = 0 ∧ c0 = 0) (hR7 : SlR w bN A7 R7) (htx : txR R7 = txR R) (hcc0 : cols.length ≤ c0)
    (hl : R.length ≤ 1000000000) (hlc : cols.length ≤ 1000000000) (hll : ∀ r ∈ R7, r.l.length ≤ 1000000000) :
    Calls Try.prog 23 #[.agg #[.slice A0 cols.length c0, .slice A7 R7.length c7], cloV bO bN bx] w (SelEnd bN bO w cols (selF 0 (txR R7)) (selC cols R7) (if mayRel cols R7 = true then R7.length else 0)) := by
  have hmf : ∀ (fn : Fn) (first cap : Array Value) (w : World), (Instr.makeFunc fn first cap).run Try.prog w = .ok (.func fn first cap) w := fun _ _ _ _ => rfl
  have hnf : ∀ W : World, Sem.run Try.prog (binOp BinOp.eql 45 (.func (.func 24) #[] #[.pointer (some ⟨bO, 0, none⟩), .pointer (some ⟨bN, 0, none⟩), .pointer (some ⟨bx, 0, none⟩)]) .nilFunc) W = .ok (.bool false) W := fun W => by
    first
      | rfl
      | (simp [go_sem]; done)
      | (simp [binOp, go_sem]; done)
  have hl7 : R7.length ≤ 1000000000 := by rw [← txR_len, htx, txR_len]; exact hl
  have HST := Lib.hid hst
  have HBX := Lib.hid hbx
  have HR := Lib.hid hR
  have HR7 := Lib.hid hR7
  have HC := Lib.hid hc
  have HN := Lib.hid hn
  have HTX := Lib.hid htx
  have HLL := Lib.hid hll
  have HLT := Lib.hid (show bx < bN ∧ bN < bO ∧ bO < w.heap.size from ⟨h1, h2, h3⟩)
  obtain ⟨wA, hwA⟩ : ∃ X, w.alloc (.cells #[.slice A0 cols.length c0, .slice A7 R7.length c7] 26) = X := ⟨_, rfl⟩
  obtain ⟨wB, hwB⟩ : ∃ X, wA.alloc (.cells #[cloV bO bN bx] 45) = X := ⟨_, rfl⟩
  obtain ⟨wC, hwC⟩ : ∃ X, wB.alloc (.cells #[.slice none 0 0, .slice none 0 0] 26) = X := ⟨_, rfl⟩
  obtain ⟨wD, hwD⟩ : ∃ X, wC.alloc (.cells #[.int .i64 0] 31) = X := ⟨_, rfl⟩
  have zA : wA.heap.size = w.heap.size + 1 := by rw [← hwA]; simp
  have zB : wB.heap.size = w.heap.size + 2 := by rw [← hwB, World.size_alloc, zA]
  have zC : wC.heap.size = w.heap.size + 3 := by rw [← hwC, World.size_alloc, zB]
  have zD : wD.heap.size = w.heap.size + 4 := by rw [← hwD, World.size_alloc, zC]
  have bA : Below w.heap.size w wA := by rw [← hwA]; exact (Below.refl _ _).alloc (Nat.le_refl _) _
  have bB : Below wA.heap.size wA wB := by rw [← hwB]; exact (Below.refl _ _).alloc (Nat.le_refl _) _
  have bC : Below wB.heap.size wB wC := by rw [← hwC]; exact (Below.refl _ _).alloc (Nat.le_refl _) _
  have bD : Below wC.heap.size wC wD := by rw [← hwD]; exact (Below.refl _ _).alloc (Nat.le_refl _) _
  have bBD : Below wB.heap.size wB wD := bC.trans (bD.mono (by omega))
  have bAD : Below wA.heap.size wA wD := bB.trans (bBD.mono (by omega))
  have hbD : Below w.heap.size w wD := bA.trans (bAD.mono (by omega))
  have a0 : wD.cell? ⟨w.heap.size, 0, none⟩ = some (.slice A0 cols.length c0) := (bAD.cell (p := ⟨w.heap.size, 0, none⟩) (by show w.heap.size < _; omega)).trans (by rw [← hwA, World.cell?_alloc_new]; rfl)
  have a1 : wD.cell? ⟨w.heap.size, 1, none⟩ = some (.slice A7 R7.length c7) := (bAD.cell (p := ⟨w.heap.size, 1, none⟩) (by show w.heap.size < _; omega)).trans (by rw [← hwA, World.cell?_alloc_new]; rfl)
  have d0 : wD.cell? ⟨wA.heap.size, 0, none⟩ = some (cloV bO bN bx) := (bBD.cell (p := ⟨wA.heap.size, 0, none⟩) (by show wA.heap.size < _; omega)).trans (by rw [← hwB, World.cell?_alloc_new]; rfl)
  have r0 : wD.cell? ⟨wB.heap.size, 0, none⟩ = some (.slice none 0 0) := (bD.cell (p := ⟨wB.heap.size, 0, none⟩) (by show wB.heap.size < _; omega)).trans (by rw [← hwC, World.cell?_alloc_new]; rfl)
  have r1 : wD.cell? ⟨wB.heap.size, 1, none⟩ = some (.slice none 0 0) := (bD.cell (p := ⟨wB.heap.size, 1, none⟩) (by show wB.heap.size < _; omega)).trans (by rw [← hwC, World.cell?_alloc_new]; rfl)
  have g0 : wD.frozen? ⟨wB.heap.size, 0, none⟩ = false := (bD.frozen (p := ⟨wB.heap.size, 0, none⟩) (by show wB.heap.size < _; omega)).trans (by rw [← hwC]; simp)
  have g1 : wD.frozen? ⟨wB.heap.size, 1, none⟩ = false := (bD.frozen (p := ⟨wB.heap.size, 1, none⟩) (by show wB.heap.size < _; omega)).trans (by rw [← hwC]; simp)
  have e0 : wD.cell? ⟨wC.heap.size, 0, none⟩ = some (.int .i64 0) := by rw [← hwD, World.cell?_alloc_new]; rfl
  have ef : wD.frozen? ⟨wC.heap.size, 0, none⟩ = false := by rw [← hwD]; simp
  have HBX2 := Lib.hid (show (wD.cell? ⟨w.heap.size, 0, none⟩ = some (.slice A0 cols.length c0) ∧ wD.cell? ⟨w.heap.size, 1, none⟩ = some (.slice A7 R7.length c7)) ∧ wD.cell? ⟨wA.heap.size, 0, none⟩ = some (cloV bO bN bx) ∧ (wD.cell? ⟨wB.heap.size, 0, none⟩ = some (.slice none 0 0) ∧ wD.cell? ⟨wB.heap.size, 1, none⟩ = some (.slice none 0 0) ∧ wD.frozen? ⟨wB.heap.size, 0, none⟩ = false ∧ wD.frozen? ⟨wB.heap.size, 1, none⟩ = false) ∧ wD.cell? ⟨wC.heap.size, 0, none⟩ = some (.int .i64 0) ∧ wD.frozen? ⟨wC.heap.size, 0, none⟩ = false from ⟨⟨a0, a1⟩, d0, ⟨r0, r1, g0, g1⟩, e0, ef⟩)
  have HBD := Lib.hid hbD
  have HM := Lib.hid (may_any A0 c0 cols A7 c7 R7 wD (Sl1.more (Sl1.next HC.out hbD (by omega)) (by omega)) ((HR7.out.next hbD (by omega)).more (by omega)) hcc0 hlc hl7)
  have nA : w.heap.size < wA.heap.size := by omega
  have nB0 : wA.heap.size < wB.heap.size := by omega
  have nC0 : wB.heap.size < wC.heap.size := by omega
  have nD : wC.heap.size < wD.heap.size := by omega
  clear hst hbx hR hc hn hR7 htx hll bA bB bC bD bBD bAD hbD zA zB zC zD
  unfold cloV at hwB d0 ⊢
  by_cases q1 : mayRel cols R7 = true
  · have HE : Hid (selC cols R7 = 0) := by show _ = _; unfold selC; rw [if_pos q1]
    rw [q1] at HM
    rw [if_pos q1]
    clear q1
    go_enter_defers Try.func23, Try.ntmps23
    go_wp2_with fail
    refine HM.out.mono ?_
    rintro e w1 ⟨rfl, hb1⟩
    have x0 := (hb1.cell (p := ⟨w.heap.size, 0, none⟩) (by show w.heap.size < _; omega)).trans a0
    have x1 := (hb1.cell (p := ⟨w.heap.size, 1, none⟩) (by show w.heap.size < _; omega)).trans a1
    have x2 := (hb1.cell (p := ⟨wA.heap.size, 0, none⟩) (by show wA.heap.size < _; omega)).trans d0
    have HB1 := Lib.hid hb1
    have hb0 : Below w.heap.size w w1 := HBD.out.trans (hb1.mono HBD.out.size)
    have HB0 := Lib.hid hb0
    have hz1 : wD.heap.size ≤ w1.heap.size := hb1.size
    have HKE := Lib.hid (kept_any wA.heap.size bx bN bO A1 c1 R A0 c0 cols A7 c7 R7 w1 (HST.out.next hb0 (by omega) h3) h1 h2 (by omega) (by omega) ((hb1.cell (p := ⟨wA.heap.size, 0, none⟩) (by show wA.heap.size < _; omega)).trans HBX2.out.2.1) ((hb0.cell (p := ⟨bx, 1, none⟩) (by show bx < _; omega)).trans HBX.out) (HR.out.next hb0 (by omega)) (Sl1.next HC.out hb0 (by omega)) HN.out (HR7.out.next hb0 (by omega)) HTX.out hl hlc HLL.out)
    clear hb1 a0 a1 d0 r0 r1 g0 g1 e0 ef hwA hwB hwC hwD hb0
    go_wp2_with fail
    refine HKE.out.mono ?_
    rintro e w2 ⟨vc, vr, R', rfl, hk, hst2, hoc, hor, htx2⟩
    obtain ⟨A5, c5, rfl, _⟩ := hoc.form
    obtain ⟨A6, c6, rfl, _, _, _, _, hg6⟩ := hor.form
    have nB : wB.heap.size < w1.heap.size := by omega
    have nC : wC.heap.size < w1.heap.size := by omega
    have y0 := (hk.cell (p := ⟨wB.heap.size, 0, none⟩) nB nB (by show wB.heap.size ≠ _; omega) (by show wB.heap.size ≠ _; omega)).trans ((HB1.out.cell (p := ⟨wB.heap.size, 0, none⟩) (by show wB.heap.size < _; omega)).trans HBX2.out.2.2.1.1)
    have y1 := (hk.cell (p := ⟨wB.heap.size, 1, none⟩) nB nB (by show wB.heap.size ≠ _; omega) (by show wB.heap.size ≠ _; omega)).trans ((HB1.out.cell (p := ⟨wB.heap.size, 1, none⟩) (by show wB.heap.size < _; omega)).trans HBX2.out.2.2.1.2.1)
    have y2 := (hk.frozen (p := ⟨wB.heap.size, 0, none⟩) nB nB (by show wB.heap.size ≠ _; omega) (by show wB.heap.size ≠ _; omega)).trans ((HB1.out.frozen (p := ⟨wB.heap.size, 0, none⟩) (by show wB.heap.size < _; omega)).trans HBX2.out.2.2.1.2.2.1)
    have y3 := (hk.frozen (p := ⟨wB.heap.size, 1, none⟩) nB nB (by show wB.heap.size ≠ _; omega) (by show wB.heap.size ≠ _; omega)).trans ((HB1.out.frozen (p := ⟨wB.heap.size, 1, none⟩) (by show wB.heap.size < _; omega)).trans HBX2.out.2.2.1.2.2.2)
    have y4 := (hk.cell (p := ⟨wC.heap.size, 0, none⟩) nC nC (by show wC.heap.size ≠ _; omega) (by show wC.heap.size ≠ _; omega)).trans ((HB1.out.cell (p := ⟨wC.heap.size, 0, none⟩) (by show wC.heap.size < _; omega)).trans HBX2.out.2.2.2.1)
    have y5 := (hk.frozen (p := ⟨wC.heap.size, 0, none⟩) nC nC (by show wC.heap.size ≠ _; omega) (by show wC.heap.size ≠ _; omega)).trans ((HB1.out.frozen (p := ⟨wC.heap.size, 0, none⟩) (by show wC.heap.size < _; omega)).trans HBX2.out.2.2.2.2)
    have HC3 := Lib.hid (cells_three (v0 := .slice A5 cols.length c5) (v1 := .slice A6 R'.length c6) (v2 := .int .i64 0) (show wB.heap.size ≠ wC.heap.size by omega) y0 y1 y4)
    have HF : Hid (SelEnd bN bO w cols (selF 0 (txR R7)) 0 R7.length (.returned (.tuple #[.agg #[.slice A5 cols.length c5, .slice A6 R'.length c6], .int .i64 0])) (((w2.setCell ⟨wB.heap.size, 0, none⟩ (.slice A5 cols.length c5)).setCell ⟨wB.heap.size, 1, none⟩ (.slice A6 R'.length c6)).setCell ⟨wC.heap.size, 0, none⟩ (.int .i64 0))) := by
      have s1 : bN ≠ wB.heap.size := by omega
      have s2 : bO ≠ wB.heap.size := by omega
      have s3 : bN ≠ wC.heap.size := by omega
      have s4 : bO ≠ wC.heap.size := by omega
      refine ⟨?_, ((hst2.set ⟨wB.heap.size, 0, none⟩ _ s1 s2).set ⟨wB.heap.size, 1, none⟩ _ s1 s2).set ⟨wC.heap.size, 0, none⟩ _ s3 s4, _, _, cols, R', rfl, ?_, ?_, owns_apart hoc hor.o (by decide), (fun a n c e => by injection e with e; obtain ⟨g, e3, h9, _⟩ := hg6 a e; rw [e3]; show w.heap.size ≤ g; omega), by rw [if_pos rfl], by rw [if_pos rfl]; exact htx2⟩
      · have hkk : KpS bN bO w.heap.size w w2 := (KpS.of_below HB0.out (Nat.le_refl _)).trans (hk.mono (by omega))
        exact ((hkk.set ⟨wB.heap.size, 0, none⟩ _ (.inr (.inr (by show w.heap.size ≤ wB.heap.size; omega)))).set ⟨wB.heap.size, 1, none⟩ _ (.inr (.inr (by show w.heap.size ≤ wB.heap.size; omega)))).set ⟨wC.heap.size, 0, none⟩ _ (.inr (.inr (by show w.heap.size ≤ wC.heap.size; omega)))
      · exact owns_low (owns_set (owns_set (owns_set hoc nB _ _) nB _ _) nC _ _) (by omega)
      · exact (((hor.set nB _ _).set nB _ _).set nC _ _).ans.low (by omega)
    clear hk hst2 hoc hor htx2 hg6 x0 x1 x2 HKE HM
    go_wp2
    refine leaves_cons (f := 58) (args := #[.pointer (some ⟨wB.heap.size, 0, none⟩), .pointer (some ⟨wC.heap.size, 0, none⟩)]) (by simp) (by simp [go_sem]) ?_
    refine (sel1_idle _ _ _).mono ?_
    rintro e u' w'' ⟨rfl, rfl, rfl⟩
    refine ⟨.tuple #[.agg #[.slice A5 cols.length c5, .slice A6 R'.length c6], .int .i64 0], ?_, ?_⟩
    · rw [results_cc rfl]
      obtain ⟨q0, q1, q2⟩ := HC3.out
      clear y0 y1 y2 y3 y4 y5
      go_simp
    · rw [HE.out]; exact HF.out
  · rw [Bool.not_eq_true] at q1
    have HE : Hid (selC cols R7 = 2) := by show _ = _; unfold selC; rw [q1, if_neg (by simp)]
    rw [q1] at HM
    rw [if_neg (by rw [q1]; simp)]
    clear q1
    go_enter_defers Try.func23, Try.ntmps23
    go_wp2_with fail
    refine HM.out.mono ?_
    rintro e w1 ⟨rfl, hb1⟩
    have hb0 : Below w.heap.size w w1 := HBD.out.trans (hb1.mono HBD.out.size)
    have HB0 := Lib.hid hb0
    have y0 := (hb1.cell (p := ⟨wB.heap.size, 0, none⟩) (by show wB.heap.size < _; omega)).trans HBX2.out.2.2.1.1
    have y1 := (hb1.cell (p := ⟨wB.heap.size, 1, none⟩) (by show wB.heap.size < _; omega)).trans HBX2.out.2.2.1.2.1
    have y2 := (hb1.frozen (p := ⟨wB.heap.size, 0, none⟩) (by show wB.heap.size < _; omega)).trans HBX2.out.2.2.1.2.2.1
    have y3 := (hb1.frozen (p := ⟨wB.heap.size, 1, none⟩) (by show wB.heap.size < _; omega)).trans HBX2.out.2.2.1.2.2.2
    have y4 := (hb1.cell (p := ⟨wC.heap.size, 0, none⟩) (by show wC.heap.size < _; omega)).trans HBX2.out.2.2.2.1
    have y5 := (hb1.frozen (p := ⟨wC.heap.size, 0, none⟩) (by show wC.heap.size < _; omega)).trans HBX2.out.2.2.2.2
    have HC3 := Lib.hid (cells_three (v0 := .slice none 0 0) (v1 := .slice none 0 0) (v2 := .int .i64 2) (show wB.heap.size ≠ wC.heap.size by omega) y0 y1 y4)
    have HF : Hid (SelEnd bN bO w cols (selF 0 (txR R7)) 2 0 (.returned (.tuple #[.agg #[.slice none 0 0, .slice none 0 0], .int .i64 2])) (((w1.setCell ⟨wB.heap.size, 0, none⟩ (.slice none 0 0)).setCell ⟨wB.heap.size, 1, none⟩ (.slice none 0 0)).setCell ⟨wC.heap.size, 0, none⟩ (.int .i64 2))) := by
      have s1 : bN ≠ wB.heap.size := by omega
      have s2 : bO ≠ wB.heap.size := by omega
      have s3 : bN ≠ wC.heap.size := by omega
      have s4 : bO ≠ wC.heap.size := by omega
      refine ⟨?_, (((HST.out.next hb0 (by omega) h3).set ⟨wB.heap.size, 0, none⟩ _ s1 s2).set ⟨wB.heap.size, 1, none⟩ _ s1 s2).set ⟨wC.heap.size, 0, none⟩ _ s3 s4, _, _, [], [], rfl, own1_nil _ _ _ _, ansR_nil _ _, (fun b1 b2 n1 k1 n2 k2 e1 => by cases e1), (fun a n c e => by cases e), by rw [if_neg (by decide)], by rw [if_neg (by decide)]; rfl⟩
      have hkk : KpS bN bO w.heap.size w w1 := KpS.of_below HB0.out (Nat.le_refl _)
      exact ((hkk.set ⟨wB.heap.size, 0, none⟩ _ (.inr (.inr (by show w.heap.size ≤ wB.heap.size; omega)))).set ⟨wB.heap.size, 1, none⟩ _ (.inr (.inr (by show w.heap.size ≤ wB.heap.size; omega)))).set ⟨wC.heap.size, 0, none⟩ _ (.inr (.inr (by show w.heap.size ≤ wC.heap.size; omega)))
    clear hb1 hb0 a0 a1 d0 r0 r1 g0 g1 e0 ef hwA hwB hwC hwD HM
    go_wp2
    refine ⟨.tuple #[.agg #[.slice none 0 0, .slice none 0 0], .int .i64 2], ?_, ?_⟩
    · rw [results_cc rfl]
      obtain ⟨q0, q1, q2⟩ := HC3.out
      clear y0 y1 y2 y3 y4 y5
      go_simp
    · rw [HE.out]; exact HF.out
end Go.Proofs.Ytafnhhbdcleihaa
