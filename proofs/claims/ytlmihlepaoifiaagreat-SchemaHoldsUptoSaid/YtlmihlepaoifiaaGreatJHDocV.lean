import Derived.Test.YtlmihlepaoifiaaGreatJRegion
import Derived.Deep.CutRange
import Derived.BigQuiet
import Derived.Test.YtlmihlepaoifiaaGreatJAMayE
import Derived.Test.YtlmihlepaoifiaaGreatJHDocP
import Derived.Test.YtlmihlepaoifiaaGreatJAFCut
import Derived.Test.YtlmihlepaoifiaaGreatJSLaw
/-
  A DRAWN REGION BY AN INVARIANT: what holds behind each set of operations that have come up, in whatever order they came.
-/
namespace Go.Proofs.YtlmihlepaoifiaaGreat
open Go.RowKit

section
variable {P : Program} {ops : Array Oper} {Q : Exit → Act → World → Prop} {md : Region.Mode} {S : World → Prop}

/-- an invariant of what has come up, the slots and the world; each operation that may come up is wanted and keeps it; `m` tells how many are still to come -/
theorem wpAnyH_inv (I : Array Bool → Act → World → Prop) (m : Array Bool → Nat)
    (hm : ∀ listed a w i, I listed a w → i ∈ Region.ready md ops listed → m (listed.setIfInBounds i true) < m listed)
    (hstep : ∀ listed a w i, I listed a w → i ∈ Region.ready md ops listed → ∃ oi, ops[i]? = some oi ∧ Region.wanted oi (yielded ops a.tmps) = true ∧ ∀ K' : Act → World → Prop, Shut (∀ a' w', S w' ∧ I (listed.setIfInBounds i true) a' w' → K' a' w') → Oper.wp P oi a w K' Q)
    (hdone : ∀ listed a w, I listed a w → Region.ready md ops listed = [] → Q .normal a w) :
    ∀ (fuel : Nat) (listed : Array Bool) (a : Act) (w : World), m listed ≤ fuel → I listed a w → wpAnyH P md ops Q S fuel listed a w := by
  intro fuel
  induction fuel with
  | zero =>
    intro listed a w hf hI
    have h0 : Region.ready md ops listed = [] := by
      cases hr : Region.ready md ops listed with
      | nil => rfl
      | cons i r =>
        have := hm listed a w i hI (by rw [hr]; exact List.mem_cons_self ..)
        omega
    exact ⟨h0, hdone listed a w hI h0⟩
  | succ fuel ih =>
    intro listed a w hf hI
    cases hr : Region.ready md ops listed with
    | nil => exact wpAnyH_done hr (hdone listed a w hI hr) (fuel + 1)
    | cons i r =>
      refine wpAnyH_ready hr (by simp) ?_
      rw [← hr]
      intro j hj
      obtain ⟨oj, hoj, hw, hs⟩ := hstep listed a w j hI hj
      have hmj := hm listed a w j hI hj
      exact AllReadyH.cons hoj (fun K' hK => by
        rw [if_pos hw]
        exact hs K' (fun a' w' h => hK.out a' w' h.1 (fun _ => ih _ a' w' (by omega) h.2))) AllReadyH.nil j (List.mem_cons_self ..)
end
end Go.Proofs.YtlmihlepaoifiaaGreat

/-
  CONTRACT of the document's own answer: Made.
-/
namespace Go.Proofs.YtlmihlepaoifiaaGreat
open Go.RowKit Go.Shelf

/-- no attribute -/
def badL (e : Int) (fs : List FactP) : Prop := e < 10 ∨ (valsL e 1 fs).length ≠ 1 ∨ (valsL e 2 fs).length ≠ 1 ∨ (valsL e 1 fs).head?.map (·.1) ≠ some 7 ∨ (valsL e 2 fs).head?.map (fun v => numA v.1 v.2.1 7) = some 0
instance (e : Int) (fs : List FactP) : Decidable (badL e fs) := inferInstanceAs (Decidable (_ ∨ _ ∨ _ ∨ _ ∨ _))
theorem docL_bad {e : Int} {fs : List FactP} (h : badL e fs) : docL e fs = none := if_pos h
theorem docL_good {e : Int} {fs : List FactP} (h : ¬ badL e fs) : docL e fs = some (attL e fs) := if_neg h
theorem OwnV.form' {W : World} {B : Nat} {v : Value} {l : List Vl} (h : OwnV W B v l) : ∃ A c, v = .slice A l.length c ∧ SlV W W.heap.size A l := by
  obtain ⟨A, c, e, hs, _⟩ := h.slv
  exact ⟨A, c, e, hs⟩
/-- one chain of calls: what an attribute has, and whether one of it is yes -/
def VSt (W : World) (e k : Int) (fs : List FactP) (s : Fin 3) (x y : Value) : Prop := (s.val = 1 → ∃ A9 c9, x = .slice A9 (valsL e k fs).length c9 ∧ SlV W W.heap.size A9 (valsL e k fs)) ∧ (s.val = 2 → y = .bool (yesL (valsL e k fs)))
theorem VSt.next {W W' : World} {e k : Int} {fs : List FactP} {s : Fin 3} {x y : Value} (h : VSt W e k fs s x y) (hb : Below W.heap.size W W') : VSt W' e k fs s x y :=
  ⟨fun h1 => by
    obtain ⟨A9, c9, e9, hs⟩ := h.1 h1
    exact ⟨A9, c9, e9, (hs.next hb (Nat.le_refl _)).more hb.size⟩, h.2⟩
/-- the new attribute's box -/
def BSt (W : World) (N0 : Nat) (g2 g3 : Bool) (x8 : Value) (d : Att) : Prop := g2 = true → ∃ N, x8 = .pointer (some ⟨N, 0, none⟩) ∧ N0 ≤ N ∧ BxA W N (if g3 then d else zA)
theorem BSt.next {W W' : World} {N0 : Nat} {g2 g3 : Bool} {x8 : Value} {d : Att} (h : BSt W N0 g2 g3 x8 d) (hb : Below W.heap.size W W') : BSt W' N0 g2 g3 x8 d := fun h1 => by
  obtain ⟨N, e9, h2, h3⟩ := h h1
  exact ⟨N, e9, h2, h3.next hb (Array.getElem?_eq_some_iff.1 h3).1⟩
def okR (i s1 s2 s3 : Nat) (g1 g2 g3 : Bool) : Bool := (i == 11 && s1 == 0) || (i == 12 && s1 == 1) || (i == 15 && s2 == 0) || (i == 16 && s2 == 1) || (i == 19 && s3 == 0) || (i == 20 && s3 == 1) || (i == 21 && s1 == 2 && s2 == 2 && s3 == 2 && !g1) || (i == 22 && !g2) || (i == 23 && g1 && g2 && !g3)
theorem okR_is {i : Nat} {s1 s2 s3 : Fin 3} {g1 g2 g3 : Bool} (h : okR i s1.val s2.val s3.val g1 g2 g3 = true) : (i = 11 ∧ s1 = 0) ∨ (i = 12 ∧ s1 = 1) ∨ (i = 15 ∧ s2 = 0) ∨ (i = 16 ∧ s2 = 1) ∨ (i = 19 ∧ s3 = 0) ∨ (i = 20 ∧ s3 = 1) ∨ (i = 21 ∧ s1 = 2 ∧ s2 = 2 ∧ s3 = 2 ∧ g1 = false) ∨ (i = 22 ∧ g2 = false) ∨ (i = 23 ∧ g1 = true ∧ g2 = true ∧ g3 = false) := by
  have f0 : ∀ s : Fin 3, (s = 0) = (s.val = 0) := fun s => propext ⟨fun h => by rw [h]; rfl, fun h => Fin.ext h⟩
  have f1 : ∀ s : Fin 3, (s = 1) = (s.val = 1) := fun s => propext ⟨fun h => by rw [h]; rfl, fun h => Fin.ext h⟩
  have f2 : ∀ s : Fin 3, (s = 2) = (s.val = 2) := fun s => propext ⟨fun h => by rw [h]; rfl, fun h => Fin.ext h⟩
  simp only [okR, Bool.or_eq_true, Bool.and_eq_true, beq_iff_eq, Bool.not_eq_true'] at h
  simp only [f0, f1, f2]
  rcases h with (((((((h | h) | h) | h) | h) | h) | h) | h) | h
  · exact .inl h
  · exact .inr (.inl h)
  · exact .inr (.inr (.inl h))
  · exact .inr (.inr (.inr (.inl h)))
  · exact .inr (.inr (.inr (.inr (.inl h))))
  · exact .inr (.inr (.inr (.inr (.inr (.inl h)))))
  · exact .inr (.inr (.inr (.inr (.inr (.inr (.inl ⟨h.1.1.1.1, h.1.1.1.2, h.1.1.2, h.1.2, h.2⟩))))))
  · exact .inr (.inr (.inr (.inr (.inr (.inr (.inr (.inl h)))))))
  · exact .inr (.inr (.inr (.inr (.inr (.inr (.inr (.inr ⟨h.1.1.1, h.1.1.2, h.1.2, h.2⟩)))))))
def okD (s1 s2 s3 : Nat) (g1 g2 g3 : Bool) : Bool := s1 == 2 && s2 == 2 && s3 == 2 && g1 && g2 && g3
theorem OwnV.above {W : World} {B : Nat} {v : Value} {l : List Vl} (h : OwnV W B v l) : ∃ A c, v = .slice A l.length c ∧ SlV W W.heap.size A l ∧ ∀ b o r, A = some ⟨b, o, r⟩ → B ≤ b := by
  rcases h.2 with ⟨rfl, h0⟩ | ⟨g, cap, cur, rfl, hB, hgb, h1, h2, _⟩
  · exact ⟨none, 0, by rw [h0], fun hl => absurd (List.length_eq_zero_iff.1 h0) hl, fun _ _ _ h => by cases h⟩
  · obtain ⟨A, c, e9, hs, _⟩ := h.slv
    refine ⟨A, c, e9, hs, fun b o r h9 => ?_⟩
    subst h9
    injection e9 with e9
    injection e9 with e9
    injection e9 with e9 _ _
    rw [← e9]
    exact hB
theorem unL_take {l : List Vl} {j : Nat} {x : Vl} (h : l[j]? = some x) : unL (l.take (j + 1)) = max (unL (l.take j)) (numA x.1 x.2.1 2) := by rw [List.take_add_one, h, Option.toList_some, unL_snoc]
theorem unL_nn (l : List Vl) : 0 ≤ unL l := by
  unfold unL
  suffices h : ∀ (l : List Vl) (x : Int), 0 ≤ x → 0 ≤ l.foldl (fun x v => max x (numA v.1 v.2.1 2)) x from h l 0 (Int.le_refl _)
  intro l
  induction l with
  | nil => exact fun x h => h
  | cons v l ih => exact fun x h => ih _ (Int.le_trans h (Int.le_max_left _ _))
set_option maxRecDepth 100000 in
set_option maxHeartbeats 8000000 in
theorem refMade_any (A : Option Addr) (c : Nat) (fs : List FactP) (e : Int) (w : World) (hs : FVa w (.slice A fs.length c) fs) (hl : fs.length ≤ 1954687338268) :
    Calls Tryz.prog 41 #[.slice A fs.length c, .int .i64 e] w fun r w' => r = .returned (fndV (docL e fs)) ∧ Below w.heap.size w w' := by
  obtain ⟨w9, hw9⟩ : ∃ w9, w.alloc (.cells #[.int .i64 0, .string ⟨#[]⟩, .int .i64 0, .bool false, .int .i64 0, .bool false, .bool false] 43) = w9 := ⟨_, rfl⟩
  have hz9 : w9.heap.size = w.heap.size + 1 := by rw [← hw9]; simp
  have HB9 : Hid (Below w.heap.size w w9) := by rw [← hw9]; exact (Below.refl _ _).alloc (Nat.le_refl _) _
  have HR9 : Hid (BxA w9 w.heap.size zA) := by rw [← hw9]; exact heap_alloc_new w _
  have HZ9 := Lib.hid hz9
  have HS := Lib.hid hs
  have HC := Lib.hid (fun (a : Int) X (h : Below w.heap.size w X) => refValues_any e a A c fs X (hs.next h) (by omega))
  have HLV := Lib.hid (fun a => valsL_len e a fs)
  clear hs
  go_enter Tryz.func41, Tryz.ntmps41
  go_upto_region 1 with (fail)
  try rw [hw9]
  clear hw9 hz9
  go_wp2_with fail
  refine (HC.out 1 w9 HB9.out).mono ?_
  rintro e9 w1 ⟨⟨v1, rfl, ho1⟩, hb1⟩
  obtain ⟨A1, c1, rfl, hs1⟩ := ho1.form'
  have HS1 := Lib.hid hs1
  have HB1 := Lib.hid (HB9.out.trans (hb1.mono HB9.out.size))
  have HR1 := Lib.hid (HR9.out.next hb1 (by have := HZ9.out; omega))
  clear ho1 hs1
  have HZ1 : Hid (w.heap.size < w1.heap.size) := by have := HZ9.out; have := hb1.size; show _ < _; omega
  clear hb1
  go_wp2_with fail
  refine (HC.out 2 w1 HB1.out).mono ?_
  rintro e9 w2 ⟨⟨v2, rfl, ho2⟩, hb2⟩
  obtain ⟨A2, c2, rfl, hs2⟩ := ho2.form'
  have HS2 := Lib.hid hs2
  have HS1 := Lib.hid ((HS1.out.next hb2 (Nat.le_refl _)).more hb2.size)
  have HB2 := Lib.hid (HB1.out.trans (hb2.mono HB1.out.size))
  have HR2 := Lib.hid (HR1.out.next hb2 HZ1.out)
  have HZ2 : Hid (w.heap.size < w2.heap.size) := Nat.lt_of_lt_of_le HZ1.out hb2.size
  clear ho2 hs2 hb2
  obtain ⟨n, hn⟩ : ∃ n, valsL e 1 fs = n := ⟨_, rfl⟩
  obtain ⟨t, ht⟩ : ∃ t, valsL e 2 fs = t := ⟨_, rfl⟩
  rw [hn] at HS1 ⊢
  rw [ht] at HS2 ⊢
  have HBD : Hid (badL e fs ↔ (e < 10 ∨ n.length ≠ 1 ∨ t.length ≠ 1 ∨ n.head?.map (·.1) ≠ some 7 ∨ t.head?.map (fun v => numA v.1 v.2.1 7) = some 0)) := by show _ ↔ _; unfold badL; rw [hn, ht]
  have HN := Lib.hid hn
  have HT := Lib.hid ht
  clear hn ht
  go_upto_region 3 with (fail)
  go_cut [56] from 17 to 56 (fun x wx => x = .bool (decide (badL e fs)) ∧ wx = w2)
  case first =>
    by_cases e0 : e < 10
    · have d0 : decide (e < 10) = true := decide_eq_true e0
      have HD : Hid (decide (badL e fs) = true) := decide_eq_true (HBD.out.2 (.inl e0))
      clear e0
      go_wp2
      go_meet
      exact ⟨by rw [HD.out], rfl⟩
    · have d0 : decide (e < 10) = false := decide_eq_false e0
      by_cases e1 : n.length = 1
      rotate_left
      · have d1 : ((n.length : Int) != 1) = true := bne_iff_ne.2 (by omega)
        have HD : Hid (decide (badL e fs) = true) := decide_eq_true (HBD.out.2 (.inr (.inl e1)))
        clear e0 e1
        go_wp2
        go_meet
        exact ⟨by rw [HD.out], rfl⟩
      · have d1 : ((n.length : Int) != 1) = false := by simp [e1]
        by_cases e2 : t.length = 1
        rotate_left
        · have d2 : ((t.length : Int) != 1) = true := bne_iff_ne.2 (by omega)
          have HD : Hid (decide (badL e fs) = true) := decide_eq_true (HBD.out.2 (.inr (.inr (.inl e2))))
          clear e0 e1 e2
          go_wp2
          go_meet
          exact ⟨by rw [HD.out], rfl⟩
        · have d2 : ((t.length : Int) != 1) = false := by simp [e2]
          obtain ⟨b1, o1, rfl, _, hp1⟩ := HS1.out.at_ (show 0 < n.length by omega)
          obtain ⟨b2, o2, rfl, _, hp2⟩ := HS2.out.at_ (show 0 < t.length by omega)
          have n0 : (0 : Int) < (n.length : Int) := by omega
          have t0 : (0 : Int) < (t.length : Int) := by omega
          obtain ⟨v, hv⟩ := List.length_eq_one_iff.1 e1
          obtain ⟨u, hu⟩ := List.length_eq_one_iff.1 e2
          have g1 : n[0]'(by omega) = v := by simp [hv]
          have g2 : t[0]'(by omega) = u := by simp [hu]
          rw [g1] at hp1
          rw [g2] at hp2
          have hh1 : n.head? = some v := by rw [hv]; rfl
          have hh2 : t.head? = some u := by rw [hu]; rfl
          have hbd := HBD.out
          rw [hh1, hh2] at hbd
          have HBX := Lib.hid hbd
          have k1 := hp1.c0
          have k2 := hp2.c0
          have k3 := hp2.c1
          simp only [Nat.zero_mul, Nat.add_zero] at k1 k2 k3
          clear hp1 hp2 g1 g2 hbd hv hu hh1 hh2
          by_cases e3 : v.1 = 7
          rotate_left
          · have d3 : (v.1 != 7) = true := bne_iff_ne.2 e3
            have HD : Hid (decide (badL e fs) = true) := decide_eq_true (HBX.out.2 (.inr (.inr (.inr (.inl (fun h => e3 (by simpa using h)))))))
            clear e0 e1 e2 e3
            go_wp2
            go_meet
            exact ⟨by rw [HD.out], rfl⟩
          · have d3 : (v.1 != 7) = false := by simp [e3]
            by_cases e4 : u.1 = 1
            rotate_left
            · have d4 : (u.1 != 1) = true := bne_iff_ne.2 e4
              have HD : Hid (decide (badL e fs) = true) := decide_eq_true (HBX.out.2 (.inr (.inr (.inr (.inr (by simp [numA, e4]))))))
              clear e0 e1 e2 e3 e4
              go_wp2
              go_meet
              exact ⟨by rw [HD.out], rfl⟩
            · have d4 : (u.1 != 1) = false := by simp [e4]
              by_cases e5 : u.2.1 < 1
              · have d5 : decide (u.2.1 < 1) = true := decide_eq_true e5
                have HD : Hid (decide (badL e fs) = true) := decide_eq_true (HBX.out.2 (.inr (.inr (.inr (.inr (by simp only [Option.map_some, Option.some.injEq]; unfold numA; rw [if_neg (by omega)]))))))
                clear e0 e1 e2 e3 e4 e5
                go_wp2
                go_meet
                exact ⟨by rw [HD.out], rfl⟩
              · have d5 : decide (u.2.1 < 1) = false := decide_eq_false e5
                by_cases e6 : 7 < u.2.1
                · have d6 : decide (7 < u.2.1) = true := decide_eq_true e6
                  have HD : Hid (decide (badL e fs) = true) := decide_eq_true (HBX.out.2 (.inr (.inr (.inr (.inr (by simp only [Option.map_some, Option.some.injEq]; unfold numA; rw [if_neg (by omega)]))))))
                  clear e0 e1 e2 e3 e4 e5 e6
                  go_wp2
                  go_meet
                  exact ⟨by rw [HD.out], rfl⟩
                · have d6 : decide (7 < u.2.1) = false := decide_eq_false e6
                  have HD : Hid (decide (badL e fs) = false) := decide_eq_false (fun h => by
                    rcases HBX.out.1 h with h | h | h | h | h
                    · exact e0 h
                    · exact h e1
                    · exact h e2
                    · exact h (by simp [e3])
                    · simp only [Option.map_some, Option.some.injEq] at h
                      unfold numA at h
                      rw [if_pos (by omega)] at h
                      omega)
                  clear e0 e1 e2 e3 e4 e5 e6
                  go_wp2
                  go_meet
                  exact ⟨by rw [HD.out], rfl⟩
  case rest =>
    obtain ⟨rfl, hwc⟩ := hcut
    have hwc := hwc.symm
    subst hwc
    by_cases hbad : badL e fs
    · have hbd : decide (badL e fs) = true := decide_eq_true hbad
      rw [hbd]
      have HDC := Lib.hid (docL_bad hbad)
      clear hbad hbd
      have r0 : w2.cell? ⟨w.heap.size, 0, none⟩ = some (.int .i64 0) := HR2.out.cell 0
      have r1 : w2.cell? ⟨w.heap.size, 1, none⟩ = some (.string ⟨#[]⟩) := HR2.out.cell 1
      have r2 : w2.cell? ⟨w.heap.size, 2, none⟩ = some (.int .i64 0) := HR2.out.cell 2
      have r3 : w2.cell? ⟨w.heap.size, 3, none⟩ = some (.bool false) := HR2.out.cell 3
      have r4 : w2.cell? ⟨w.heap.size, 4, none⟩ = some (.int .i64 0) := HR2.out.cell 4
      have r5 : w2.cell? ⟨w.heap.size, 5, none⟩ = some (.bool false) := HR2.out.cell 5
      have r6 : w2.cell? ⟨w.heap.size, 6, none⟩ = some (.bool false) := HR2.out.cell 6
      have rf0 : w2.frozen? ⟨w.heap.size, 0, none⟩ = false := HR2.out.fz 0
      have rf1 : w2.frozen? ⟨w.heap.size, 1, none⟩ = false := HR2.out.fz 1
      have rf2 : w2.frozen? ⟨w.heap.size, 2, none⟩ = false := HR2.out.fz 2
      have rf3 : w2.frozen? ⟨w.heap.size, 3, none⟩ = false := HR2.out.fz 3
      have rf4 : w2.frozen? ⟨w.heap.size, 4, none⟩ = false := HR2.out.fz 4
      have rf5 : w2.frozen? ⟨w.heap.size, 5, none⟩ = false := HR2.out.fz 5
      have rf6 : w2.frozen? ⟨w.heap.size, 6, none⟩ = false := HR2.out.fz 6
      go_wp2
      have HY := Lib.hid (HR2.out.set7 zA)
      have HBQ := Lib.hid (HB2.out.trans (below_set7 (W := w2) (B := w.heap.size) (b := w.heap.size) (Nat.le_refl _) (.int .i64 zA.id) (.string zA.nm) (.int .i64 zA.ty) (.bool zA.many) (.int .i64 zA.un) (.bool zA.part) (.bool zA.ix)))
      have c0 := HY.out.cell 0
      have c1 := HY.out.cell 1
      have c2 := HY.out.cell 2
      have c3 := HY.out.cell 3
      have c4 := HY.out.cell 4
      have c5 := HY.out.cell 5
      have c6 := HY.out.cell 6
      simp only [zA] at c0 c1 c2 c3 c4 c5 c6
      clear r0 rf0 r1 rf1 r2 rf2 r3 rf3 r4 rf4 r5 rf5 r6 rf6
      refine bodyPost_ret (v := .tuple #[.agg #[.int .i64 0, .string ⟨#[]⟩, .int .i64 0, .bool false, .int .i64 0, .bool false, .bool false], .bool false]) ?_ rfl ⟨by rw [HDC.out]; rfl, HBQ.out⟩
      rw [results_cell_tmp rfl]
      go_simp
    · have hbd : decide (badL e fs) = false := decide_eq_false hbad
      rw [hbd]
      have HDC := Lib.hid (docL_good hbad)
      have hgd : ¬ (e < 10 ∨ n.length ≠ 1 ∨ t.length ≠ 1 ∨ n.head?.map (·.1) ≠ some 7 ∨ t.head?.map (fun v => numA v.1 v.2.1 7) = some 0) := fun h => hbad (HBD.out.2 h)
      clear hbd hbad
      have e1 : n.length = 1 := Classical.byContradiction fun h => hgd (.inr (.inl h))
      have e2 : t.length = 1 := Classical.byContradiction fun h => hgd (.inr (.inr (.inl h)))
      obtain ⟨b1, o1, rfl, hlt1, hp1⟩ := HS1.out.at_ (show 0 < n.length by omega)
      obtain ⟨b2, o2, rfl, hlt2, hp2⟩ := HS2.out.at_ (show 0 < t.length by omega)
      have n0 : (0 : Int) < (n.length : Int) := by omega
      have t0 : (0 : Int) < (t.length : Int) := by omega
      obtain ⟨v, hv⟩ := List.length_eq_one_iff.1 e1
      obtain ⟨u, hu⟩ := List.length_eq_one_iff.1 e2
      have g1 : n[0]'(by omega) = v := by simp [hv]
      have g2 : t[0]'(by omega) = u := by simp [hu]
      rw [g1] at hp1
      rw [g2] at hp2
      have k1 := hp1.c2
      have k2 := hp2.c1
      simp only [Nat.zero_mul, Nat.add_zero] at k1 k2
      have e3 : v.1 = 7 := Classical.byContradiction fun h => hgd (.inr (.inr (.inr (.inl (by rw [hv]; simpa using h)))))
      have e4 : numA u.1 u.2.1 7 ≠ 0 := fun h => hgd (.inr (.inr (.inr (.inr (by rw [hu]; simpa using h)))))
      have hnn : ¬ n = [] := by rw [hv]; exact List.cons_ne_nil _ _
      have htt : ¬ t = [] := by rw [hu]; exact List.cons_ne_nil _ _
      have HNV := Lib.hid hv
      have HTU := Lib.hid hu
      have HE3 := Lib.hid e3
      have HE4 := Lib.hid e4
      have HE1 := Lib.hid e1
      have HE2 := Lib.hid e2
      clear hp1 hp2 g1 g2 hgd hv hu e1 e2 e3 e4
      go_upto_region 5 with (fail)
      refine wp_region_held_drew (S := fun W => Below w2.heap.size w2 W) (by kernel_rfl) (below_ind (Below.refl _ _) 1) (fun hHeld => ?_)
      refine takeV 0 (some 58) ((.int .i64 e)) rfl rfl (by kernel_rfl) (by kernel_rfl) (by kernel_rfl) (fun _ _ _ h => h) (by rfl) (by (intro _w _hSw; (try dsimp only at _hSw); go_simp)) (by assumption) ?_
      simp only [Act.put, List.setIfInBounds_toArray, List.set_cons_zero, List.set_cons_succ]
      refine takeV 1 (some 59) ((.slice (some ⟨b1, o1, none⟩) n.length c1)) rfl rfl (by kernel_rfl) (by kernel_rfl) (by kernel_rfl) (fun _ _ _ h => h) (by rfl) (by (intro _w _hSw; (try dsimp only at _hSw); go_simp)) (by assumption) ?_
      simp only [Act.put, List.setIfInBounds_toArray, List.set_cons_zero, List.set_cons_succ]
      refine takeV 2 (some 60) ((.pointer (some ⟨b1, o1, none⟩))) rfl rfl (by kernel_rfl) (by kernel_rfl) (by kernel_rfl) (fun _ _ _ h => h) (by rfl) (by (intro _w _hSw; (try dsimp only at _hSw); go_simp)) (by assumption) ?_
      simp only [Act.put, List.setIfInBounds_toArray, List.set_cons_zero, List.set_cons_succ]
      refine takeV 3 (some 61) ((.pointer (some ⟨b1, o1 + 2, none⟩))) rfl rfl (by kernel_rfl) (by kernel_rfl) (by kernel_rfl) (fun _ _ _ h => h) (by rfl) (by (intro _w _hSw; (try dsimp only at _hSw); go_simp)) (by assumption) ?_
      simp only [Act.put, List.setIfInBounds_toArray, List.set_cons_zero, List.set_cons_succ]
      refine takeV 4 (some 62) ((.string v.2.2)) rfl rfl (by kernel_rfl) (by kernel_rfl) (by kernel_rfl) (fun _ _ _ h => h) (by rfl) (by (intro _w hSw; have q0 := (hSw.cell (p := ⟨b1, o1 + 2, none⟩) hlt1).trans k1; clear hSw; go_simp)) (by assumption) ?_
      simp only [Act.put, List.setIfInBounds_toArray, List.set_cons_zero, List.set_cons_succ]
      refine takeV 5 (some 63) ((.slice (some ⟨b2, o2, none⟩) t.length c2)) rfl rfl (by kernel_rfl) (by kernel_rfl) (by kernel_rfl) (fun _ _ _ h => h) (by rfl) (by (intro _w _hSw; (try dsimp only at _hSw); go_simp)) (by assumption) ?_
      simp only [Act.put, List.setIfInBounds_toArray, List.set_cons_zero, List.set_cons_succ]
      refine takeV 6 (some 64) ((.pointer (some ⟨b2, o2, none⟩))) rfl rfl (by kernel_rfl) (by kernel_rfl) (by kernel_rfl) (fun _ _ _ h => h) (by rfl) (by (intro _w _hSw; (try dsimp only at _hSw); go_simp)) (by assumption) ?_
      simp only [Act.put, List.setIfInBounds_toArray, List.set_cons_zero, List.set_cons_succ]
      refine takeV 7 (some 65) ((.pointer (some ⟨b2, o2 + 1, none⟩))) rfl rfl (by kernel_rfl) (by kernel_rfl) (by kernel_rfl) (fun _ _ _ h => h) (by rfl) (by (intro _w _hSw; (try dsimp only at _hSw); go_simp)) (by assumption) ?_
      simp only [Act.put, List.setIfInBounds_toArray, List.set_cons_zero, List.set_cons_succ]
      refine takeV 8 (some 66) ((.int .i64 u.2.1)) rfl rfl (by kernel_rfl) (by kernel_rfl) (by kernel_rfl) (fun _ _ _ h => h) (by rfl) (by (intro _w hSw; have q0 := (hSw.cell (p := ⟨b2, o2 + 1, none⟩) hlt2).trans k2; clear hSw; go_simp)) (by assumption) ?_
      simp only [Act.put, List.setIfInBounds_toArray, List.set_cons_zero, List.set_cons_succ]
      refine takeV 9 (some 67) ((.slice A fs.length c)) rfl rfl (by kernel_rfl) (by kernel_rfl) (by kernel_rfl) (fun _ _ _ h => h) (by rfl) (by (intro _w _hSw; (try dsimp only at _hSw); go_simp)) (by assumption) ?_
      simp only [Act.put, List.setIfInBounds_toArray, List.set_cons_zero, List.set_cons_succ]
      refine takeV 10 (some 68) ((.int .i64 e)) rfl rfl (by kernel_rfl) (by kernel_rfl) (by kernel_rfl) (fun _ _ _ h => h) (by rfl) (by (intro _w _hSw; (try dsimp only at _hSw); go_simp)) (by assumption) ?_
      simp only [Act.put, List.setIfInBounds_toArray, List.set_cons_zero, List.set_cons_succ]
      refine takeV 13 (some 71) ((.slice A fs.length c)) rfl rfl (by kernel_rfl) (by kernel_rfl) (by kernel_rfl) (fun _ _ _ h => h) (by rfl) (by (intro _w _hSw; (try dsimp only at _hSw); go_simp)) (by assumption) ?_
      simp only [Act.put, List.setIfInBounds_toArray, List.set_cons_zero, List.set_cons_succ]
      refine takeV 14 (some 72) ((.int .i64 e)) rfl rfl (by kernel_rfl) (by kernel_rfl) (by kernel_rfl) (fun _ _ _ h => h) (by rfl) (by (intro _w _hSw; (try dsimp only at _hSw); go_simp)) (by assumption) ?_
      simp only [Act.put, List.setIfInBounds_toArray, List.set_cons_zero, List.set_cons_succ]
      refine takeV 17 (some 75) ((.slice A fs.length c)) rfl rfl (by kernel_rfl) (by kernel_rfl) (by kernel_rfl) (fun _ _ _ h => h) (by rfl) (by (intro _w _hSw; (try dsimp only at _hSw); go_simp)) (by assumption) ?_
      simp only [Act.put, List.setIfInBounds_toArray, List.set_cons_zero, List.set_cons_succ]
      refine takeV 18 (some 76) ((.int .i64 e)) rfl rfl (by kernel_rfl) (by kernel_rfl) (by kernel_rfl) (fun _ _ _ h => h) (by rfl) (by (intro _w _hSw; (try dsimp only at _hSw); go_simp)) (by assumption) ?_
      simp only [Act.put, List.setIfInBounds_toArray, List.set_cons_zero, List.set_cons_succ]
      have HHE := Lib.hid hHeld
      clear hHeld k1 k2 hnn htt
      refine wpAnyH_inv (fun L a W => ∃ (s1 s2 s3 : Fin 3) (g1 g2 g3 : Bool) (x69 x70 x73 x74 x77 x78 x79 x8 : Value), L = #[true, true, true, true, true, true, true, true, true, true, true, decide (1 ≤ s1.val), decide (2 ≤ s1.val), true, true, decide (1 ≤ s2.val), decide (2 ≤ s2.val), true, true, decide (1 ≤ s3.val), decide (2 ≤ s3.val), g1, g2, g3] ∧ a = ({ tmps := #[.slice A fs.length c, .int .i64 e, undef, undef, .pointer (some ⟨w.heap.size, 0, none⟩), .bool false, .slice (some ⟨b1, o1, none⟩) n.length c1, .slice (some ⟨b2, o2, none⟩) t.length c2, x8, undef, undef, .slice A fs.length c, .int .i64 e, .slice (some ⟨b1, o1, none⟩) n.length c1, .slice A fs.length c, .int .i64 e, .slice (some ⟨b2, o2, none⟩) t.length c2, u17, u18, u19, u20, u21, u22, u23, u24, u25, u26, u27, u28, u29, u30, u31, u32, u33, u34, u35, u36, u37, u38, u39, u40, u41, u42, u43, u44, u45, u46, u47, u48, u49, u50, u51, u52, u53, u54, u55, .bool false, undef, .int .i64 e, .slice (some ⟨b1, o1, none⟩) n.length c1, .pointer (some ⟨b1, o1, none⟩), .pointer (some ⟨b1, o1 + 2, none⟩), .string v.2.2, .slice (some ⟨b2, o2, none⟩) t.length c2, .pointer (some ⟨b2, o2, none⟩), .pointer (some ⟨b2, o2 + 1, none⟩), .int .i64 u.2.1, .slice A fs.length c, .int .i64 e, x69, x70, .slice A fs.length c, .int .i64 e, x73, x74, .slice A fs.length c, .int .i64 e, x77, x78, x79, undef, undef, undef, undef, undef, undef, undef, undef, undef, undef, undef, undef, undef, undef, undef, undef, undef, undef, undef, undef, undef, undef, undef, undef, undef, undef, undef, undef, undef, undef, undef, undef, undef, undef, undef, undef, undef, undef, undef, undef, undef, undef, undef, undef, undef, undef, undef, undef], defers := [] } : Act) ∧ VSt W e 3 fs s1 x69 x70 ∧ VSt W e 5 fs s2 x73 x74 ∧ VSt W e 6 fs s3 x77 x78 ∧ (g1 = true → (s1 = 2 ∧ s2 = 2 ∧ s3 = 2) ∧ x79 = .agg #[.int .i64 e, .string v.2.2, .int .i64 u.2.1, .bool (yesL (valsL e 3 fs)), .int .i64 0, .bool (yesL (valsL e 5 fs)), .bool (yesL (valsL e 6 fs))]) ∧ BSt W w2.heap.size g2 g3 x8 ⟨e, v.2.2, u.2.1, yesL (valsL e 3 fs), 0, yesL (valsL e 5 fs), yesL (valsL e 6 fs)⟩ ∧ (g3 = true → g2 = true) ∧ Below w2.heap.size w2 W) (fun L => (L.toList.filter (fun b => !b)).length) ?hm ?hstep ?hdone _ _ _ _ (by decide +kernel) ⟨0, 0, 0, false, false, false, undef, undef, undef, undef, undef, undef, undef, undef, rfl, rfl, ⟨fun h => absurd h (by decide), fun h => absurd h (by decide)⟩, ⟨fun h => absurd h (by decide), fun h => absurd h (by decide)⟩, ⟨fun h => absurd h (by decide), fun h => absurd h (by decide)⟩, (fun h => by cases h), (fun h => by cases h), (fun h => by cases h), HHE.out⟩
      case hm =>
        intro L a W i hI hi
        obtain ⟨s1, s2, s3, g1, g2, g3, x69, x70, x73, x74, x77, x78, x79, x8, rfl, rfl, hrest⟩ := hI
        clear hrest
        revert i
        revert s1 s2 s3 g1 g2 g3
        decide +kernel
      case hstep =>
        intro L a W i hI hi
        obtain ⟨s1, s2, s3, g1, g2, g3, x69, x70, x73, x74, x77, x78, x79, x8, rfl, rfl, hc1, hc2, hc3, hg1, hg2, hg3, hb⟩ := hI
        have hR := okR_is (i := i) (s1 := s1) (s2 := s2) (s3 := s3) (g1 := g1) (g2 := g2) (g3 := g3) (by
          clear hc1 hc2 hc3 hg1 hg2 hg3 hb
          revert i
          revert s1 s2 s3 g1 g2 g3
          decide +kernel)
        clear hi
        have HB2W : Hid (Below w.heap.size w W) := HB2.out.trans (hb.mono HB2.out.size)
        rcases hR with ⟨rfl, rfl⟩ | ⟨rfl, rfl⟩ | ⟨rfl, rfl⟩ | ⟨rfl, rfl⟩ | ⟨rfl, rfl⟩ | ⟨rfl, rfl⟩ | ⟨rfl, rfl, rfl, rfl, rfl⟩ | ⟨rfl, rfl⟩ | ⟨rfl, rfl, rfl, rfl⟩
        · refine ⟨_, rfl, by kernel_rfl, fun K9 hK => ?_⟩
          go_simp
          go_at_call 58
          refine (HC.out 3 W HB2W.out).mono ?_
          rintro e9 w3 ⟨⟨v9, rfl, ho9⟩, hb3⟩
          obtain ⟨A9, c9, rfl, hs9⟩ := ho9.form'
          exact hK.out _ _ ⟨hb.trans (hb3.mono hb.size), 1, s2, s3, g1, g2, g3, (.slice A9 _ c9), x70, x73, x74, x77, x78, x79, x8, rfl, rfl, ⟨fun _ => ⟨A9, c9, rfl, hs9⟩, fun h => absurd h (by decide)⟩, hc2.next hb3, hc3.next hb3, (fun h => absurd (hg1 h).1.1 (by decide)), hg2.next hb3, hg3, hb.trans (hb3.mono hb.size)⟩
        · refine ⟨_, rfl, by kernel_rfl, fun K9 hK => ?_⟩
          obtain ⟨A9, c9, rfl, hs9⟩ := hc1.1 (by decide)
          go_simp
          go_at_call 59
          refine (refYes_any A9 c9 (valsL e 3 fs) W hs9 (by have := HLV.out 3; omega)).mono ?_
          rintro e9 w3 ⟨rfl, rfl⟩
          exact hK.out _ _ ⟨hb, 2, s2, s3, g1, g2, g3, (.slice A9 _ c9), (.bool (yesL (valsL e 3 fs))), x73, x74, x77, x78, x79, x8, rfl, rfl, ⟨fun h => absurd h (by decide), fun _ => rfl⟩, hc2, hc3, (fun h => absurd (hg1 h).1.1 (by decide)), hg2, hg3, hb⟩
        · refine ⟨_, rfl, by kernel_rfl, fun K9 hK => ?_⟩
          go_simp
          go_at_call 58
          refine (HC.out 5 W HB2W.out).mono ?_
          rintro e9 w3 ⟨⟨v9, rfl, ho9⟩, hb3⟩
          obtain ⟨A9, c9, rfl, hs9⟩ := ho9.form'
          exact hK.out _ _ ⟨hb.trans (hb3.mono hb.size), s1, 1, s3, g1, g2, g3, x69, x70, (.slice A9 _ c9), x74, x77, x78, x79, x8, rfl, rfl, hc1.next hb3, ⟨fun _ => ⟨A9, c9, rfl, hs9⟩, fun h => absurd h (by decide)⟩, hc3.next hb3, (fun h => absurd (hg1 h).1.2.1 (by decide)), hg2.next hb3, hg3, hb.trans (hb3.mono hb.size)⟩
        · refine ⟨_, rfl, by kernel_rfl, fun K9 hK => ?_⟩
          obtain ⟨A9, c9, rfl, hs9⟩ := hc2.1 (by decide)
          go_simp
          go_at_call 59
          refine (refYes_any A9 c9 (valsL e 5 fs) W hs9 (by have := HLV.out 5; omega)).mono ?_
          rintro e9 w3 ⟨rfl, rfl⟩
          exact hK.out _ _ ⟨hb, s1, 2, s3, g1, g2, g3, x69, x70, (.slice A9 _ c9), (.bool (yesL (valsL e 5 fs))), x77, x78, x79, x8, rfl, rfl, hc1, ⟨fun h => absurd h (by decide), fun _ => rfl⟩, hc3, (fun h => absurd (hg1 h).1.2.1 (by decide)), hg2, hg3, hb⟩
        · refine ⟨_, rfl, by kernel_rfl, fun K9 hK => ?_⟩
          go_simp
          go_at_call 58
          refine (HC.out 6 W HB2W.out).mono ?_
          rintro e9 w3 ⟨⟨v9, rfl, ho9⟩, hb3⟩
          obtain ⟨A9, c9, rfl, hs9⟩ := ho9.form'
          exact hK.out _ _ ⟨hb.trans (hb3.mono hb.size), s1, s2, 1, g1, g2, g3, x69, x70, x73, x74, (.slice A9 _ c9), x78, x79, x8, rfl, rfl, hc1.next hb3, hc2.next hb3, ⟨fun _ => ⟨A9, c9, rfl, hs9⟩, fun h => absurd h (by decide)⟩, (fun h => absurd (hg1 h).1.2.2 (by decide)), hg2.next hb3, hg3, hb.trans (hb3.mono hb.size)⟩
        · refine ⟨_, rfl, by kernel_rfl, fun K9 hK => ?_⟩
          obtain ⟨A9, c9, rfl, hs9⟩ := hc3.1 (by decide)
          go_simp
          go_at_call 59
          refine (refYes_any A9 c9 (valsL e 6 fs) W hs9 (by have := HLV.out 6; omega)).mono ?_
          rintro e9 w3 ⟨rfl, rfl⟩
          exact hK.out _ _ ⟨hb, s1, s2, 2, g1, g2, g3, x69, x70, x73, x74, (.slice A9 _ c9), (.bool (yesL (valsL e 6 fs))), x79, x8, rfl, rfl, hc1, hc2, ⟨fun h => absurd h (by decide), fun _ => rfl⟩, (fun h => absurd (hg1 h).1.2.2 (by decide)), hg2, hg3, hb⟩
        · refine ⟨_, rfl, by kernel_rfl, fun K9 hK => ?_⟩
          obtain rfl := hc1.2 rfl
          obtain rfl := hc2.2 rfl
          obtain rfl := hc3.2 rfl
          go_simp
          exact hK.out _ _ ⟨hb, 2, 2, 2, true, g2, g3, x69, _, x73, _, x77, _, .agg #[.int .i64 e, .string v.2.2, .int .i64 u.2.1, .bool (yesL (valsL e 3 fs)), .int .i64 0, .bool (yesL (valsL e 5 fs)), .bool (yesL (valsL e 6 fs))], x8, rfl, rfl, hc1, hc2, hc3, (fun _ => ⟨⟨rfl, rfl, rfl⟩, rfl⟩), hg2, hg3, hb⟩
        · refine ⟨_, rfl, by kernel_rfl, fun K9 hK => ?_⟩
          have hal := (Below.refl W.heap.size W).alloc (Nat.le_refl _) (.cells #[.int .i64 0, .string ⟨#[]⟩, .int .i64 0, .bool false, .int .i64 0, .bool false, .bool false] 43)
          have hg3f : g3 = false := by cases g3 with | false => rfl | true => exact absurd (hg3 rfl) (by decide)
          subst hg3f
          go_simp
          exact hK.out _ _ ⟨hb.trans (hal.mono hb.size), s1, s2, s3, g1, true, false, x69, x70, x73, x74, x77, x78, x79, _, rfl, rfl, hc1.next hal, hc2.next hal, hc3.next hal, hg1, (fun _ => ⟨W.heap.size, rfl, hb.size, bxA_new W zA⟩), (fun h => by cases h), hb.trans (hal.mono hb.size)⟩
        · refine ⟨_, rfl, by kernel_rfl, fun K9 hK => ?_⟩
          obtain ⟨⟨rfl, rfl, rfl⟩, rfl⟩ := hg1 rfl
          obtain ⟨N, rfl, hN, hx⟩ := hg2 rfl
          have hx0 : BxA W N zA := hx
          have q0 : W.cell? ⟨N, 0, none⟩ = some (.int .i64 0) := hx0.cell 0
          have q1 : W.cell? ⟨N, 1, none⟩ = some (.string ⟨#[]⟩) := hx0.cell 1
          have q2 : W.cell? ⟨N, 2, none⟩ = some (.int .i64 0) := hx0.cell 2
          have q3 : W.cell? ⟨N, 3, none⟩ = some (.bool false) := hx0.cell 3
          have q4 : W.cell? ⟨N, 4, none⟩ = some (.int .i64 0) := hx0.cell 4
          have q5 : W.cell? ⟨N, 5, none⟩ = some (.bool false) := hx0.cell 5
          have q6 : W.cell? ⟨N, 6, none⟩ = some (.bool false) := hx0.cell 6
          have qf0 : W.frozen? ⟨N, 0, none⟩ = false := hx0.fz 0
          have qf1 : W.frozen? ⟨N, 1, none⟩ = false := hx0.fz 1
          have qf2 : W.frozen? ⟨N, 2, none⟩ = false := hx0.fz 2
          have qf3 : W.frozen? ⟨N, 3, none⟩ = false := hx0.fz 3
          have qf4 : W.frozen? ⟨N, 4, none⟩ = false := hx0.fz 4
          have qf5 : W.frozen? ⟨N, 5, none⟩ = false := hx0.fz 5
          have qf6 : W.frozen? ⟨N, 6, none⟩ = false := hx0.fz 6
          go_simp
          exact hK.out _ _ ⟨hb.trans (below_set7 hN _ _ _ _ _ _ _), 2, 2, 2, true, true, true, x69, x70, x73, x74, x77, x78, _, _, rfl, rfl, ⟨fun h => absurd h (by decide), hc1.2⟩, ⟨fun h => absurd h (by decide), hc2.2⟩, ⟨fun h => absurd h (by decide), hc3.2⟩, (fun _ => ⟨⟨rfl, rfl, rfl⟩, rfl⟩), (fun _ => ⟨N, rfl, hN, hx0.set7 ⟨e, v.2.2, u.2.1, yesL (valsL e 3 fs), 0, yesL (valsL e 5 fs), yesL (valsL e 6 fs)⟩⟩), fun _ => rfl, hb.trans (below_set7 hN _ _ _ _ _ _ _)⟩
      case hdone =>
        intro L a W hI hi
        obtain ⟨s1, s2, s3, g1, g2, g3, x69, x70, x73, x74, x77, x78, x79, x8, rfl, rfl, hc1, hc2, hc3, hg1, hg2, hg3, hb⟩ := hI
        have hR : okD s1.val s2.val s3.val g1 g2 g3 = true := by
          clear hc1 hc2 hc3 hg1 hg2 hg3 hb
          revert hi
          revert s1 s2 s3 g1 g2 g3
          decide +kernel
        simp only [okD, Bool.and_eq_true] at hR
        obtain ⟨⟨_, rfl⟩, rfl⟩ := hR
        clear hi hc1 hc2 hc3 hg1 hg3
        obtain ⟨N, rfl, hN, hx⟩ := hg2 rfl
        have HXN : Hid (BxA W N ⟨e, v.2.2, u.2.1, yesL (valsL e 3 fs), 0, yesL (valsL e 5 fs), yesL (valsL e 6 fs)⟩) := hx
        have HBW : Hid (Below w.heap.size w W) := HB2.out.trans (hb.mono HB2.out.size)
        have HRW := Lib.hid (HR2.out.next hb HZ2.out)
        have HNL : Hid (N < W.heap.size) := (Array.getElem?_eq_some_iff.1 hx).1
        have HNZ : Hid (w.heap.size < N) := Nat.lt_of_lt_of_le HZ2.out hN
        clear hx hg2 hb hN
        go_wp2_with fail
        refine (HC.out 4 W HBW.out).mono ?_
        rintro e9 w4 ⟨⟨v4, rfl, ho4⟩, hb4⟩
        obtain ⟨l4, hl4⟩ : ∃ l4, valsL e 4 fs = l4 := ⟨_, rfl⟩
        rw [hl4] at ho4
        obtain ⟨A4, c4, rfl, hs4, hab⟩ := ho4.above
        have HS4 := Lib.hid hs4
        have HAB := Lib.hid hab
        have HL4 := Lib.hid hl4
        have HLL : Hid (l4.length ≤ 1954687338268) := by have := HLV.out 4; rw [hl4] at this; show _ ≤ _; omega
        have HB4 := Lib.hid (HBW.out.trans (hb4.mono HBW.out.size))
        have HX4 := Lib.hid (HXN.out.next hb4 HNL.out)
        have HR4 := Lib.hid (HRW.out.next hb4 (Nat.lt_trans HNZ.out HNL.out))
        have HNL4 : Hid (N < w4.heap.size) := Nat.lt_of_lt_of_le HNL.out hb4.size
        clear ho4 hb4 hs4 hab hl4 hl
        go_wp2
        go_loopg [10] l4.length (fun g y wr => ∃ (j : Nat) (uu : Int), y = .int .i64 j ∧ j + g = l4.length ∧ Hid (uu = unL (l4.take j)) ∧ Hid (BxA wr N ⟨e, v.2.2, u.2.1, yesL (valsL e 3 fs), uu, yesL (valsL e 5 fs), yesL (valsL e 6 fs)⟩) ∧ Hid (Below N w4 wr) ∧ Hid (∀ p : Addr, p.block ≠ N → wr.cell? p = w4.cell? p))
        case atStart => exact ⟨0, 0, rfl, by omega, rfl, HX4.out, Below.refl _ _, fun p _ => rfl⟩
        case round =>
          obtain ⟨j, uu, rfl, hj, HU, HXU, HBU, HCU⟩ := hrel
          cases gk with
          | zero =>
            have hjz : ¬ ((j : Int) < (l4.length : Int)) := by omega
            have HUU : Hid (uu = unL l4) := by have := HU.out; rwa [List.take_of_length_le (by omega)] at this
            have HAT : Hid (attL e fs = ⟨e, v.2.2, u.2.1, yesL (valsL e 3 fs), uu, yesL (valsL e 5 fs), yesL (valsL e 6 fs)⟩) := by
              show _ = _
              unfold attL
              rw [HL4.out, ← HUU.out, HN.out, HT.out, HNV.out, HTU.out]
              have h3 : nmL [v] = v.2.2 := if_pos HE3.out
              have h4 : tyL [u] = u.2.1 := by
                show numA u.1 u.2.1 7 = u.2.1
                have := HE4.out
                unfold numA at this ⊢
                split
                · rfl
                · rename_i h; rw [if_neg h] at this; exact absurd rfl this
              rw [h3, h4]
            have HRU := Lib.hid (HR4.out.next HBU.out HNZ.out)
            have HBT : Hid (Below w.heap.size w wr) := HB4.out.trans (HBU.out.mono (Nat.le_of_lt HNZ.out))
            clear hj
            have x0 : wr.cell? ⟨N, 0, none⟩ = some (.int .i64 e) := HXU.out.cell 0
            have x1 : wr.cell? ⟨N, 1, none⟩ = some (.string v.2.2) := HXU.out.cell 1
            have x2 : wr.cell? ⟨N, 2, none⟩ = some (.int .i64 u.2.1) := HXU.out.cell 2
            have x3 : wr.cell? ⟨N, 3, none⟩ = some (.bool (yesL (valsL e 3 fs))) := HXU.out.cell 3
            have x4 : wr.cell? ⟨N, 4, none⟩ = some (.int .i64 uu) := HXU.out.cell 4
            have x5 : wr.cell? ⟨N, 5, none⟩ = some (.bool (yesL (valsL e 5 fs))) := HXU.out.cell 5
            have x6 : wr.cell? ⟨N, 6, none⟩ = some (.bool (yesL (valsL e 6 fs))) := HXU.out.cell 6
            have r0 : wr.cell? ⟨w.heap.size, 0, none⟩ = some (.int .i64 0) := HRU.out.cell 0
            have r1 : wr.cell? ⟨w.heap.size, 1, none⟩ = some (.string ⟨#[]⟩) := HRU.out.cell 1
            have r2 : wr.cell? ⟨w.heap.size, 2, none⟩ = some (.int .i64 0) := HRU.out.cell 2
            have r3 : wr.cell? ⟨w.heap.size, 3, none⟩ = some (.bool false) := HRU.out.cell 3
            have r4 : wr.cell? ⟨w.heap.size, 4, none⟩ = some (.int .i64 0) := HRU.out.cell 4
            have r5 : wr.cell? ⟨w.heap.size, 5, none⟩ = some (.bool false) := HRU.out.cell 5
            have r6 : wr.cell? ⟨w.heap.size, 6, none⟩ = some (.bool false) := HRU.out.cell 6
            have rf0 : wr.frozen? ⟨w.heap.size, 0, none⟩ = false := HRU.out.fz 0
            have rf1 : wr.frozen? ⟨w.heap.size, 1, none⟩ = false := HRU.out.fz 1
            have rf2 : wr.frozen? ⟨w.heap.size, 2, none⟩ = false := HRU.out.fz 2
            have rf3 : wr.frozen? ⟨w.heap.size, 3, none⟩ = false := HRU.out.fz 3
            have rf4 : wr.frozen? ⟨w.heap.size, 4, none⟩ = false := HRU.out.fz 4
            have rf5 : wr.frozen? ⟨w.heap.size, 5, none⟩ = false := HRU.out.fz 5
            have rf6 : wr.frozen? ⟨w.heap.size, 6, none⟩ = false := HRU.out.fz 6
            go_wp2
            have HY := Lib.hid (HRU.out.set7 ⟨e, v.2.2, u.2.1, yesL (valsL e 3 fs), uu, yesL (valsL e 5 fs), yesL (valsL e 6 fs)⟩)
            have HBQ := Lib.hid (HBT.out.trans (below_set7 (W := wr) (B := w.heap.size) (b := w.heap.size) (Nat.le_refl _) (.int .i64 e) (.string v.2.2) (.int .i64 u.2.1) (.bool (yesL (valsL e 3 fs))) (.int .i64 uu) (.bool (yesL (valsL e 5 fs))) (.bool (yesL (valsL e 6 fs)))))
            have z0 := HY.out.cell 0
            have z1 := HY.out.cell 1
            have z2 := HY.out.cell 2
            have z3 := HY.out.cell 3
            have z4 := HY.out.cell 4
            have z5 := HY.out.cell 5
            have z6 := HY.out.cell 6
            clear r0 rf0 r1 rf1 r2 rf2 r3 rf3 r4 rf4 r5 rf5 r6 rf6
            refine bodyPost_ret (v := .tuple #[.agg #[.int .i64 e, .string v.2.2, .int .i64 u.2.1, .bool (yesL (valsL e 3 fs)), .int .i64 uu, .bool (yesL (valsL e 5 fs)), .bool (yesL (valsL e 6 fs))], .bool true]) ?_ rfl ⟨by rw [HDC.out, HAT.out]; rfl, HBQ.out⟩
            rw [results_cell_tmp rfl]
            go_simp
          | succ g =>
            have hjz : (j : Int) < (l4.length : Int) := by omega
            have hjn : j < l4.length := by omega
            have hjb : (j : Int) ≤ 1954687338268 := by have := HLL.out; omega
            obtain ⟨b4, o4, rfl, hlt4, hp⟩ := HS4.out.at_ hjn
            obtain ⟨x, hx⟩ : ∃ x, l4[j] = x := ⟨_, rfl⟩
            rw [hx] at hp
            have HTK := Lib.hid (unL_take (l := l4) (j := j) (x := x) (by rw [List.getElem?_eq_getElem hjn, hx]))
            have hbn : b4 ≠ N := by have := HAB.out b4 o4 none rfl; have := HNL.out; omega
            have k0 : wr.cell? ⟨b4, o4 + j * 3, none⟩ = some (.int .i64 x.1) := (HCU.out ⟨b4, o4 + j * 3, none⟩ hbn).trans hp.c0
            have k1 : wr.cell? ⟨b4, o4 + j * 3 + 1, none⟩ = some (.int .i64 x.2.1) := (HCU.out ⟨b4, o4 + j * 3 + 1, none⟩ hbn).trans hp.c1
            have k4 : wr.cell? ⟨N, 4, none⟩ = some (.int .i64 uu) := HXU.out.cell 4
            have kf : wr.frozen? ⟨N, 4, none⟩ = false := HXU.out.fz 4
            have HUN : Hid (0 ≤ uu) := by rw [HU.out]; exact unL_nn _
            clear hp hx
            by_cases e0 : x.1 = 1
            rotate_left
            · skip
              have q0 : (x.1 == 1) = false := beq_eq_false_iff_ne.2 e0
              have HM : Hid (uu = unL (l4.take (j + 1))) := by
                show _ = _
                rw [HTK.out, ← HU.out]
                have := HUN.out
                unfold numA
                rw [if_neg (by omega)]
                omega
              clear e0
              go_wp2
              go_quiet (fail)
              go_wp2
              go_roundg g
              case measure => omega
              case rel => exact ⟨j + 1, uu, by go_num, by omega, HM.out, HXU.out.next (below_ind (Below.refl wr.heap.size wr) _) (Nat.lt_of_lt_of_le HNL4.out HBU.out.size), below_ind HBU.out _, fun p hp => HCU.out p hp⟩
            · have q0 : (x.1 == 1) = true := by rw [e0, beq_self_eq_true]
              by_cases e1 : 1 ≤ x.2.1
              rotate_left
              · skip
                have q1 : decide (1 ≤ x.2.1) = false := decide_eq_false e1
                have HM : Hid (uu = unL (l4.take (j + 1))) := by
                  show _ = _
                  rw [HTK.out, ← HU.out]
                  have := HUN.out
                  unfold numA
                  rw [if_neg (by omega)]
                  omega
                clear e0 e1
                go_wp2
                go_quiet (fail)
                go_wp2
                go_roundg g
                case measure => omega
                case rel => exact ⟨j + 1, uu, by go_num, by omega, HM.out, HXU.out.next (below_ind (Below.refl wr.heap.size wr) _) (Nat.lt_of_lt_of_le HNL4.out HBU.out.size), below_ind HBU.out _, fun p hp => HCU.out p hp⟩
              · have q1 : decide (1 ≤ x.2.1) = true := decide_eq_true e1
                by_cases e2 : x.2.1 ≤ 2
                rotate_left
                · skip
                  have q2 : decide (x.2.1 ≤ 2) = false := decide_eq_false e2
                  have HM : Hid (uu = unL (l4.take (j + 1))) := by
                    show _ = _
                    rw [HTK.out, ← HU.out]
                    have := HUN.out
                    unfold numA
                    rw [if_neg (by omega)]
                    omega
                  clear e0 e1 e2
                  go_wp2
                  go_quiet (fail)
                  go_wp2
                  go_roundg g
                  case measure => omega
                  case rel => exact ⟨j + 1, uu, by go_num, by omega, HM.out, HXU.out.next (below_ind (Below.refl wr.heap.size wr) _) (Nat.lt_of_lt_of_le HNL4.out HBU.out.size), below_ind HBU.out _, fun p hp => HCU.out p hp⟩
                · have q2 : decide (x.2.1 ≤ 2) = true := decide_eq_true e2
                  by_cases e3 : uu < x.2.1
                  rotate_left
                  · skip
                    have q3 : decide (uu < x.2.1) = false := decide_eq_false e3
                    have HM : Hid (uu = unL (l4.take (j + 1))) := by
                      show _ = _
                      rw [HTK.out, ← HU.out]
                      have := HUN.out
                      unfold numA
                      rw [if_pos ⟨e0, e1, e2⟩]
                      omega
                    clear e0 e1 e2 e3
                    go_wp2
                    go_quiet (fail)
                    go_wp2
                    go_roundg g
                    case measure => omega
                    case rel => exact ⟨j + 1, uu, by go_num, by omega, HM.out, HXU.out.next (below_ind (Below.refl wr.heap.size wr) _) (Nat.lt_of_lt_of_le HNL4.out HBU.out.size), below_ind HBU.out _, fun p hp => HCU.out p hp⟩
                  · have q3 : decide (uu < x.2.1) = true := decide_eq_true e3
                    have HM : Hid (x.2.1 = unL (l4.take (j + 1))) := by
                      show _ = _
                      rw [HTK.out, ← HU.out]
                      unfold numA
                      rw [if_pos ⟨e0, e1, e2⟩]
                      omega
                    clear e0 e1 e2 e3
                    go_wp2
                    go_quiet (fail)
                    go_wp2
                    go_roundg g
                    case measure => omega
                    case rel => exact ⟨j + 1, x.2.1, by go_num, by omega, HM.out, (show BxA (wr.drewN _) N ⟨e, v.2.2, u.2.1, yesL (valsL e 3 fs), uu, yesL (valsL e 5 fs), yesL (valsL e 6 fs)⟩ from HXU.out.next (below_ind (Below.refl wr.heap.size wr) _) (Nat.lt_of_lt_of_le HNL4.out HBU.out.size)).st4 x.2.1, (below_ind HBU.out _).setCell (p := ⟨N, 4, none⟩) (Nat.le_refl N) _, fun p hp => (World.cell?_setCell_other _ _ _ _ (fun h => hp (by rw [← h]))).trans (HCU.out p hp)⟩
end Go.Proofs.YtlmihlepaoifiaaGreat

/-
  CONTRACTS: the document's wrong, both (layer 7).
-/
namespace Go.Proofs.YtlmihlepaoifiaaGreat
open Go.RowKit

set_option maxRecDepth 100000 in
set_option maxHeartbeats 2000000 in
theorem both_any (x y : FactP) (A A' : Option Addr) (c c' : Nat) (w : World) (hx : SlS w w.heap.size A x.l) (hy : SlS w w.heap.size A' y.l) (h1 : A = none → x.l.length = 0 ∧ c = 0) (h2 : A' = none → y.l.length = 0 ∧ c' = 0) (hl : x.l.length ≤ 1000) (hl' : y.l.length ≤ 1000) :
    Calls Tryz.prog 12 #[.agg #[.int .i64 x.e, .int .i64 x.a, .int .i64 x.k, .int .i64 x.m, .string x.s, .slice A x.l.length c], .agg #[.int .i64 y.e, .int .i64 y.a, .int .i64 y.k, .int .i64 y.m, .string y.s, .slice A' y.l.length c']] w fun e w' => e = .returned (.bool (bothB x.l y.l)) ∧ Below w.heap.size w w' := by
  obtain ⟨w1, hw1⟩ : ∃ X, (w.alloc (.cells #[.int .i64 x.e, .int .i64 x.a, .int .i64 x.k, .int .i64 x.m, .string x.s, .slice A x.l.length c] 31)).alloc (.cells #[.int .i64 y.e, .int .i64 y.a, .int .i64 y.k, .int .i64 y.m, .string y.s, .slice A' y.l.length c'] 31) = X := ⟨_, rfl⟩
  have hb1 : Below w.heap.size w w1 := by rw [← hw1]; exact ((Below.refl _ _).alloc (Nat.le_refl _) _).alloc (by simp) _
  have hX : FcBx w1 w.heap.size x (.slice A x.l.length c) := by
    rw [← hw1]
    exact (fcBx_new w x _).next ((Below.refl _ _).alloc (Nat.le_refl _) _)
  have hY : FcBx w1 (w.heap.size + 1) y (.slice A' y.l.length c') := by
    rw [← hw1]
    have := fcBx_new (w.alloc (.cells #[.int .i64 x.e, .int .i64 x.a, .int .i64 x.k, .int .i64 x.m, .string x.s, .slice A x.l.length c] 31)) y (.slice A' y.l.length c')
    rw [World.size_alloc] at this
    exact this
  have HB1 := Lib.hid hb1
  have k5 := hX.k5
  have j5 := hY.k5
  have HOF := Lib.hid (ofAnd_any A A' c c' x.l y.l w1 ((hx.next hb1 (Nat.le_refl _)).more hb1.size) ((hy.next hb1 (Nat.le_refl _)).more hb1.size) h1 h2 hl hl')
  obtain ⟨q, hq⟩ : ∃ q, ofL andF x.l y.l [] (endsL (x.l ++ y.l)) = q := ⟨_, rfl⟩
  have HR : Hid (bothB x.l y.l = !q.isEmpty) := by show _ = _; unfold bothB; rw [hq]
  rw [hq] at HOF
  rw [HR.out]
  clear hb1 hX hY hx hy hq
  go_enter Tryz.func12, Tryz.ntmps12
  go_wp2_with fail
  try rw [hw1]
  clear hw1
  refine HOF.out.mono ?_
  rintro e w2 ⟨v, rfl, ho, hb2⟩
  obtain ⟨A2, c2, rfl, _⟩ := ho.sls
  have HB2 := Lib.hid (HB1.out.trans (hb2.mono HB1.out.size))
  clear ho hb2 HOF k5 j5
  cases q with
  | nil =>
    go_wp2
    go_ret
    exact ⟨rfl, HB2.out⟩
  | cons s r =>
    have hl0 : (0 : Int) < ((s :: r).length : Int) := by rw [List.length_cons]; omega
    have hl0' : decide ((0 : Int) < ((s :: r).length : Int)) = true := decide_eq_true hl0
    obtain ⟨n, hn⟩ : ∃ n, (s :: r).length = n := ⟨_, rfl⟩
    rw [hn] at hl0 hl0' ⊢
    have hl1 : 0 < n := by omega
    have hl2 : decide (0 < n) = true := decide_eq_true hl1
    clear hn hl0 hl0'
    go_wp2
    go_ret
    exact ⟨rfl, HB2.out⟩
/-- an attribute in a box -/
theorem attBx_new (w : World) (a : Att) : (w.alloc (.cells #[.int .i64 a.id, .string a.nm, .int .i64 a.ty, .bool a.many, .int .i64 a.un, .bool a.part, .bool a.ix] 43)).heap[w.heap.size]? = some (.cells #[.int .i64 a.id, .string a.nm, .int .i64 a.ty, .bool a.many, .int .i64 a.un, .bool a.part, .bool a.ix] 43 (0, 0)) := heap_alloc_new w _
def AtBx (W : World) (b : Nat) (a : Att) : Prop := W.heap[b]? = some (.cells #[.int .i64 a.id, .string a.nm, .int .i64 a.ty, .bool a.many, .int .i64 a.un, .bool a.part, .bool a.ix] 43 (0, 0))
theorem AtBx.cell {W : World} {b : Nat} {a : Att} (h : AtBx W b a) (j : Nat) : W.cell? ⟨b, j, none⟩ = (#[Value.int .i64 a.id, .string a.nm, .int .i64 a.ty, .bool a.many, .int .i64 a.un, .bool a.part, .bool a.ix])[j]? := by unfold AtBx at h; simp [World.cell?, h]
theorem AtBx.lt {W : World} {b : Nat} {a : Att} (h : AtBx W b a) : b < W.heap.size := (Array.getElem?_eq_some_iff.1 h).1
theorem AtBx.next {W W' : World} {b : Nat} {a : Att} (h : AtBx W b a) (hb : Below W.heap.size W W') : AtBx W' b a := (hb.block b h.lt).trans h
end Go.Proofs.YtlmihlepaoifiaaGreat

/-
  CONTRACT: the document's wrong (layer 7).
-/
namespace Go.Proofs.YtlmihlepaoifiaaGreat
open Go.RowKit

/-- what wrong is handed: facts, their attributes, and one fact of them -/
structure WrA (w : World) (A At As : Option Addr) (c ct cs : Nat) (fs : List FactP) (T : List Att) (f : FactP) : Prop where
  fv : FVa w (.slice A fs.length c) fs
  fl : fs.length ≤ 1954687338268
  sa : SlA w w.heap.size At T
  tl : T.length ≤ 2000000000000
  lk : ∀ x, T.find? (idP x) = lookO T x
  sl : SlS w w.heap.size As f.l
set_option maxRecDepth 100000 in
set_option maxHeartbeats 4000000 in
theorem wrong0_any (A At As : Option Addr) (c ct cs : Nat) (fs : List FactP) (T : List Att) (f : FactP) (w : World) (H : WrA w A At As c ct cs fs T f) :
    Calls Tryz.prog 11 #[.slice A fs.length c, .slice At T.length ct, .agg #[.int .i64 f.e, .int .i64 f.a, .int .i64 f.k, .int .i64 f.m, .string f.s, .slice As f.l.length cs], .int .i64 71] w fun e w' => e = .returned (.bool (a1B T f)) ∧ Below w.heap.size w w' := by
  obtain ⟨w1, hw1⟩ : ∃ X, w.alloc (.cells #[.int .i64 f.e, .int .i64 f.a, .int .i64 f.k, .int .i64 f.m, .string f.s, .slice As f.l.length cs] 31) = X := ⟨_, rfl⟩
  have hb1 : Below w.heap.size w w1 := by rw [← hw1]; exact (Below.refl _ _).alloc (Nat.le_refl _) _
  have HX1 : Hid (FcBx w1 w.heap.size f (.slice As f.l.length cs)) := by rw [← hw1]; exact fcBx_new w f _
  have HB1 := Lib.hid hb1
  have HH := Lib.hid H
  have k1 := HX1.out.k1
  have HBY := Lib.hid (refByID_any At ct T f.a w1 ((H.sa.next hb1 (Nat.le_refl _)).more hb1.size) H.tl)
  rw [H.lk f.a] at HBY
  obtain ⟨o, ho⟩ : ∃ o, lookO T f.a = o := ⟨_, rfl⟩
  rw [ho] at HBY
  obtain ⟨a, ha⟩ : ∃ a, o.getD zA = a := ⟨_, rfl⟩
  obtain ⟨is, his⟩ : ∃ b, o.isSome = b := ⟨_, rfl⟩
  have HFN : Hid (fndV o = .tuple #[.agg #[.int .i64 a.id, .string a.nm, .int .i64 a.ty, .bool a.many, .int .i64 a.un, .bool a.part, .bool a.ix], .bool is]) := by show _ = _; unfold fndV attV; rw [ha, his]
  rw [HFN.out] at HBY
  have HIS : Hid (isB T f.a = is) := by show _ = _; unfold isB; rw [ho, his]
  have HLA : Hid (lookT T f.a = a) := by show _ = _; unfold lookT; rw [ho, ha]
  clear hb1 H ho ha his
  obtain ⟨R, hRN⟩ : ∃ R, (a1B T f) = R := ⟨_, rfl⟩
  have HRN := Lib.hid hRN
  rw [hRN]
  clear hRN
  go_enter Tryz.func11, Tryz.ntmps11
  go_wp2_with fail
  try rw [hw1]
  clear hw1
  refine HBY.out.mono ?_
  rintro e w2 ⟨rfl, hb2⟩
  obtain ⟨w3, hw3⟩ : ∃ X, w2.alloc (.cells #[.int .i64 a.id, .string a.nm, .int .i64 a.ty, .bool a.many, .int .i64 a.un, .bool a.part, .bool a.ix] 43) = X := ⟨_, rfl⟩
  have hal : Below w2.heap.size w2 w3 := by rw [← hw3]; exact (Below.refl _ _).alloc (Nat.le_refl _) _
  have HY3 : Hid (AtBx w3 w2.heap.size a) := by rw [← hw3]; exact attBx_new w2 a
  have HX3 := Lib.hid ((HX1.out.next hb2).next hal)
  have HB3 := Lib.hid (HB1.out.trans ((hb2.trans (hal.mono hb2.size)).mono HB1.out.size))
  clear hb2 hal HBY k1
  have HR : Hid (a1B T f = !is) := by show _ = _; unfold a1B; rw [HIS.out]
  go_wp2
  try rw [hw3]
  clear hw3
  try go_wp2
  go_ret
  exact ⟨by rw [← HRN.out, HR.out]; rfl, HB3.out⟩
set_option maxRecDepth 100000 in
set_option maxHeartbeats 4000000 in
theorem wrong1_any (A At As : Option Addr) (c ct cs : Nat) (fs : List FactP) (T : List Att) (f : FactP) (w : World) (H : WrA w A At As c ct cs fs T f) :
    Calls Tryz.prog 11 #[.slice A fs.length c, .slice At T.length ct, .agg #[.int .i64 f.e, .int .i64 f.a, .int .i64 f.k, .int .i64 f.m, .string f.s, .slice As f.l.length cs], .int .i64 72] w fun e w' => e = .returned (.bool (w72 T f || (decide (f.a ≤ 2) && decide (10 ≤ f.e) && !(docL f.e fs).isSome))) ∧ Below w.heap.size w w' := by
  obtain ⟨w1, hw1⟩ : ∃ X, w.alloc (.cells #[.int .i64 f.e, .int .i64 f.a, .int .i64 f.k, .int .i64 f.m, .string f.s, .slice As f.l.length cs] 31) = X := ⟨_, rfl⟩
  have hb1 : Below w.heap.size w w1 := by rw [← hw1]; exact (Below.refl _ _).alloc (Nat.le_refl _) _
  have HX1 : Hid (FcBx w1 w.heap.size f (.slice As f.l.length cs)) := by rw [← hw1]; exact fcBx_new w f _
  have HB1 := Lib.hid hb1
  have HH := Lib.hid H
  have k1 := HX1.out.k1
  have HBY := Lib.hid (refByID_any At ct T f.a w1 ((H.sa.next hb1 (Nat.le_refl _)).more hb1.size) H.tl)
  rw [H.lk f.a] at HBY
  obtain ⟨o, ho⟩ : ∃ o, lookO T f.a = o := ⟨_, rfl⟩
  rw [ho] at HBY
  obtain ⟨a, ha⟩ : ∃ a, o.getD zA = a := ⟨_, rfl⟩
  obtain ⟨is, his⟩ : ∃ b, o.isSome = b := ⟨_, rfl⟩
  have HFN : Hid (fndV o = .tuple #[.agg #[.int .i64 a.id, .string a.nm, .int .i64 a.ty, .bool a.many, .int .i64 a.un, .bool a.part, .bool a.ix], .bool is]) := by show _ = _; unfold fndV attV; rw [ha, his]
  rw [HFN.out] at HBY
  have HIS : Hid (isB T f.a = is) := by show _ = _; unfold isB; rw [ho, his]
  have HLA : Hid (lookT T f.a = a) := by show _ = _; unfold lookT; rw [ho, ha]
  clear hb1 H ho ha his
  obtain ⟨R, hRN⟩ : ∃ R, (w72 T f || (decide (f.a ≤ 2) && decide (10 ≤ f.e) && !(docL f.e fs).isSome)) = R := ⟨_, rfl⟩
  have HRN := Lib.hid hRN
  rw [hRN]
  clear hRN
  go_enter Tryz.func11, Tryz.ntmps11
  go_wp2_with fail
  try rw [hw1]
  clear hw1
  refine HBY.out.mono ?_
  rintro e w2 ⟨rfl, hb2⟩
  obtain ⟨w3, hw3⟩ : ∃ X, w2.alloc (.cells #[.int .i64 a.id, .string a.nm, .int .i64 a.ty, .bool a.many, .int .i64 a.un, .bool a.part, .bool a.ix] 43) = X := ⟨_, rfl⟩
  have hal : Below w2.heap.size w2 w3 := by rw [← hw3]; exact (Below.refl _ _).alloc (Nat.le_refl _) _
  have HY3 : Hid (AtBx w3 w2.heap.size a) := by rw [← hw3]; exact attBx_new w2 a
  have HX3 := Lib.hid ((HX1.out.next hb2).next hal)
  have HB3 := Lib.hid (HB1.out.trans ((hb2.trans (hal.mono hb2.size)).mono HB1.out.size))
  clear hb2 hal HBY k1
  have HMD := Lib.hid (fun X (hX : Below w.heap.size w X) => refMade_any A c fs f.e X (HH.out.fv.next hX) HH.out.fl)
  obtain ⟨d, hd⟩ : ∃ d, docL f.e fs = d := ⟨_, rfl⟩
  have HDL := Lib.hid hd
  rw [hd] at HMD
  obtain ⟨z, hz⟩ : ∃ a, d.getD zA = a := ⟨_, rfl⟩
  obtain ⟨md, hmd⟩ : ∃ b, d.isSome = b := ⟨_, rfl⟩
  have HFD : Hid (fndV d = .tuple #[.agg #[.int .i64 z.id, .string z.nm, .int .i64 z.ty, .bool z.many, .int .i64 z.un, .bool z.part, .bool z.ix], .bool md]) := by show _ = _; unfold fndV attV; rw [hz, hmd]
  rw [HFD.out] at HMD
  have HMM : Hid ((docL f.e fs).isSome = md) := by show _ = _; rw [HDL.out, hmd]
  have HW72 : Hid (w72 T f = ((!(f.k == a.ty)) || !rgB f)) := by show _ = _; unfold w72; rw [HLA.out]
  clear hd hz hmd
  have y2 : w3.cell? ⟨w2.heap.size, 2, none⟩ = some (.int .i64 a.ty) := HY3.out.cell 2
  have x0 := HX3.out.k0
  have x1 := HX3.out.k1
  have x2 := HX3.out.k2
  have x3 := HX3.out.k3
  have x4 := HX3.out.k4
  have x5 := HX3.out.k5
  by_cases g1 : a.ty = f.k
  rotate_left
  · have g1' : (a.ty != f.k) = true := bne_iff_ne.2 g1
    have HR : Hid ((w72 T f || (decide (f.a ≤ 2) && decide (10 ≤ f.e) && !(docL f.e fs).isSome)) = true) := by show _ = _; rw [HW72.out, beq_eq_false_iff_ne.2 (fun e => g1 e.symm)]; simp
    clear g1
    go_wp2
    try rw [hw3]
    clear hw3
    try go_wp2
    go_ret
    exact ⟨by rw [← HRN.out, HR.out]; rfl, HB3.out⟩
  have g1' : (a.ty != f.k) = false := by rw [g1]; simp
  have HTY : Hid ((!(f.k == a.ty)) = false) := by show _ = _; rw [g1]; simp
  clear g1
  by_cases g2 : f.a = 2
  · have g2' : (f.a == 2) = true := beq_iff_eq.2 g2
    have g4' : (f.a == 4) = false := beq_eq_false_iff_ne.2 (by omega)
    have HRG : Hid (rgB f = (decide (1 ≤ f.m) && decide (f.m ≤ 7))) := by show _ = _; unfold rgB; rw [if_pos g2]
    clear g2
    by_cases g3 : f.m < 1
    · have g3' : decide (f.m < 1) = true := decide_eq_true g3
      have HR : Hid ((w72 T f || (decide (f.a ≤ 2) && decide (10 ≤ f.e) && !(docL f.e fs).isSome)) = true) := by show _ = _; rw [HW72.out, HRG.out, decide_eq_false (show ¬ (1 : Int) ≤ f.m by omega)]; simp
      clear g3
      go_wp2
      try rw [hw3]
      clear hw3
      try go_wp2
      go_ret
      exact ⟨by rw [← HRN.out, HR.out]; rfl, HB3.out⟩
    have g3' : decide (f.m < 1) = false := decide_eq_false g3
    by_cases g5 : 7 < f.m
    · have g5' : decide (7 < f.m) = true := decide_eq_true g5
      have HR : Hid ((w72 T f || (decide (f.a ≤ 2) && decide (10 ≤ f.e) && !(docL f.e fs).isSome)) = true) := by show _ = _; rw [HW72.out, HRG.out, decide_eq_false (show ¬ f.m ≤ (7 : Int) by omega)]; simp
      clear g3 g5
      go_wp2
      try rw [hw3]
      clear hw3
      try go_wp2
      go_ret
      exact ⟨by rw [← HRN.out, HR.out]; rfl, HB3.out⟩
    have g5' : decide (7 < f.m) = false := decide_eq_false g5
    have HNO : Hid (((!(f.k == a.ty)) || !rgB f) = false) := by show _ = _; rw [HTY.out, HRG.out, decide_eq_true (show (1 : Int) ≤ f.m by omega), decide_eq_true (show f.m ≤ (7 : Int) by omega)]; rfl
    clear g3 g5
    go_wp2_with (fail)
    try rw [hw3]
    clear hw3
    try go_wp2_with (fail)
    refine (HMD.out _ HB3.out).mono ?_
    rintro e w4 ⟨rfl, hb4⟩
    obtain ⟨w5, hw5⟩ : ∃ X, w4.alloc (.cells #[.int .i64 z.id, .string z.nm, .int .i64 z.ty, .bool z.many, .int .i64 z.un, .bool z.part, .bool z.ix] 43) = X := ⟨_, rfl⟩
    have hal5 : Below w4.heap.size w4 w5 := by rw [← hw5]; exact (Below.refl _ _).alloc (Nat.le_refl _) _
    have hx5 := (HX3.out.next hb4).next hal5
    have HB5 := Lib.hid (HB3.out.trans ((hb4.trans (hal5.mono hb4.size)).mono HB3.out.size))
    have z0 := hx5.k0
    have z1 := hx5.k1
    clear hb4 hal5 hx5 x0 x1 x2 x3 x4 x5 y2
    by_cases g8 : f.a ≤ 2
    · have g8' : decide (f.a ≤ 2) = true := decide_eq_true g8
      by_cases g9 : 10 ≤ f.e
      · have g9' : decide (10 ≤ f.e) = true := decide_eq_true g9
        have HR : Hid ((w72 T f || (decide (f.a ≤ 2) && decide (10 ≤ f.e) && !(docL f.e fs).isSome)) = !md) := by show _ = _; rw [HW72.out, HNO.out, HMM.out, g8', g9']; cases md <;> rfl
        go_wp2
        try rw [hw5]
        try go_wp2
        go_ret
        exact ⟨by rw [← HRN.out, HR.out]; rfl, HB5.out⟩
      · have g9' : decide (10 ≤ f.e) = false := decide_eq_false g9
        have HR : Hid ((w72 T f || (decide (f.a ≤ 2) && decide (10 ≤ f.e) && !(docL f.e fs).isSome)) = false) := by show _ = _; rw [HW72.out, HNO.out, HMM.out, g8', g9']; cases md <;> rfl
        go_wp2
        try rw [hw5]
        try go_wp2
        go_ret
        exact ⟨by rw [← HRN.out, HR.out]; rfl, HB5.out⟩
    · have g8' : decide (f.a ≤ 2) = false := decide_eq_false g8
      have HR : Hid ((w72 T f || (decide (f.a ≤ 2) && decide (10 ≤ f.e) && !(docL f.e fs).isSome)) = false) := by show _ = _; rw [HW72.out, HNO.out, g8']; rfl
      go_wp2
      try rw [hw5]
      try go_wp2
      go_ret
      exact ⟨by rw [← HRN.out, HR.out]; rfl, HB5.out⟩
  have g2' : (f.a == 2) = false := beq_eq_false_iff_ne.2 g2
  by_cases g4 : f.a = 4
  · have g4' : (f.a == 4) = true := beq_iff_eq.2 g4
    have HRG : Hid (rgB f = (decide (0 ≤ f.m) && decide (f.m ≤ 2))) := by show _ = _; unfold rgB; rw [if_neg g2, if_pos g4]
    clear g2 g4
    by_cases g6 : f.m < 0
    · have g6' : decide (f.m < 0) = true := decide_eq_true g6
      have HR : Hid ((w72 T f || (decide (f.a ≤ 2) && decide (10 ≤ f.e) && !(docL f.e fs).isSome)) = true) := by show _ = _; rw [HW72.out, HRG.out, decide_eq_false (show ¬ (0 : Int) ≤ f.m by omega)]; simp
      clear g6
      go_wp2
      try rw [hw3]
      clear hw3
      try go_wp2
      go_ret
      exact ⟨by rw [← HRN.out, HR.out]; rfl, HB3.out⟩
    have g6' : decide (f.m < 0) = false := decide_eq_false g6
    by_cases g7 : 2 < f.m
    · have g7' : decide (2 < f.m) = true := decide_eq_true g7
      have HR : Hid ((w72 T f || (decide (f.a ≤ 2) && decide (10 ≤ f.e) && !(docL f.e fs).isSome)) = true) := by show _ = _; rw [HW72.out, HRG.out, decide_eq_false (show ¬ f.m ≤ (2 : Int) by omega)]; simp
      clear g6 g7
      go_wp2
      try rw [hw3]
      clear hw3
      try go_wp2
      go_ret
      exact ⟨by rw [← HRN.out, HR.out]; rfl, HB3.out⟩
    have g7' : decide (2 < f.m) = false := decide_eq_false g7
    have HNO : Hid (((!(f.k == a.ty)) || !rgB f) = false) := by show _ = _; rw [HTY.out, HRG.out, decide_eq_true (show (0 : Int) ≤ f.m by omega), decide_eq_true (show f.m ≤ (2 : Int) by omega)]; rfl
    clear g6 g7
    go_wp2_with (fail)
    try rw [hw3]
    clear hw3
    try go_wp2_with (fail)
    refine (HMD.out _ HB3.out).mono ?_
    rintro e w4 ⟨rfl, hb4⟩
    obtain ⟨w5, hw5⟩ : ∃ X, w4.alloc (.cells #[.int .i64 z.id, .string z.nm, .int .i64 z.ty, .bool z.many, .int .i64 z.un, .bool z.part, .bool z.ix] 43) = X := ⟨_, rfl⟩
    have hal5 : Below w4.heap.size w4 w5 := by rw [← hw5]; exact (Below.refl _ _).alloc (Nat.le_refl _) _
    have hx5 := (HX3.out.next hb4).next hal5
    have HB5 := Lib.hid (HB3.out.trans ((hb4.trans (hal5.mono hb4.size)).mono HB3.out.size))
    have z0 := hx5.k0
    have z1 := hx5.k1
    clear hb4 hal5 hx5 x0 x1 x2 x3 x4 x5 y2
    by_cases g8 : f.a ≤ 2
    · have g8' : decide (f.a ≤ 2) = true := decide_eq_true g8
      by_cases g9 : 10 ≤ f.e
      · have g9' : decide (10 ≤ f.e) = true := decide_eq_true g9
        have HR : Hid ((w72 T f || (decide (f.a ≤ 2) && decide (10 ≤ f.e) && !(docL f.e fs).isSome)) = !md) := by show _ = _; rw [HW72.out, HNO.out, HMM.out, g8', g9']; cases md <;> rfl
        go_wp2
        try rw [hw5]
        try go_wp2
        go_ret
        exact ⟨by rw [← HRN.out, HR.out]; rfl, HB5.out⟩
      · have g9' : decide (10 ≤ f.e) = false := decide_eq_false g9
        have HR : Hid ((w72 T f || (decide (f.a ≤ 2) && decide (10 ≤ f.e) && !(docL f.e fs).isSome)) = false) := by show _ = _; rw [HW72.out, HNO.out, HMM.out, g8', g9']; cases md <;> rfl
        go_wp2
        try rw [hw5]
        try go_wp2
        go_ret
        exact ⟨by rw [← HRN.out, HR.out]; rfl, HB5.out⟩
    · have g8' : decide (f.a ≤ 2) = false := decide_eq_false g8
      have HR : Hid ((w72 T f || (decide (f.a ≤ 2) && decide (10 ≤ f.e) && !(docL f.e fs).isSome)) = false) := by show _ = _; rw [HW72.out, HNO.out, g8']; rfl
      go_wp2
      try rw [hw5]
      try go_wp2
      go_ret
      exact ⟨by rw [← HRN.out, HR.out]; rfl, HB5.out⟩
  have g4' : (f.a == 4) = false := beq_eq_false_iff_ne.2 g4
  have HNO : Hid (((!(f.k == a.ty)) || !rgB f) = false) := by show _ = _; rw [HTY.out]; unfold rgB; rw [if_neg g2, if_neg g4]; rfl
  clear g2 g4
  go_wp2_with (fail)
  try rw [hw3]
  clear hw3
  try go_wp2_with (fail)
  refine (HMD.out _ HB3.out).mono ?_
  rintro e w4 ⟨rfl, hb4⟩
  obtain ⟨w5, hw5⟩ : ∃ X, w4.alloc (.cells #[.int .i64 z.id, .string z.nm, .int .i64 z.ty, .bool z.many, .int .i64 z.un, .bool z.part, .bool z.ix] 43) = X := ⟨_, rfl⟩
  have hal5 : Below w4.heap.size w4 w5 := by rw [← hw5]; exact (Below.refl _ _).alloc (Nat.le_refl _) _
  have hx5 := (HX3.out.next hb4).next hal5
  have HB5 := Lib.hid (HB3.out.trans ((hb4.trans (hal5.mono hb4.size)).mono HB3.out.size))
  have z0 := hx5.k0
  have z1 := hx5.k1
  clear hb4 hal5 hx5 x0 x1 x2 x3 x4 x5 y2
  by_cases g8 : f.a ≤ 2
  · have g8' : decide (f.a ≤ 2) = true := decide_eq_true g8
    by_cases g9 : 10 ≤ f.e
    · have g9' : decide (10 ≤ f.e) = true := decide_eq_true g9
      have HR : Hid ((w72 T f || (decide (f.a ≤ 2) && decide (10 ≤ f.e) && !(docL f.e fs).isSome)) = !md) := by show _ = _; rw [HW72.out, HNO.out, HMM.out, g8', g9']; cases md <;> rfl
      go_wp2
      try rw [hw5]
      try go_wp2
      go_ret
      exact ⟨by rw [← HRN.out, HR.out]; rfl, HB5.out⟩
    · have g9' : decide (10 ≤ f.e) = false := decide_eq_false g9
      have HR : Hid ((w72 T f || (decide (f.a ≤ 2) && decide (10 ≤ f.e) && !(docL f.e fs).isSome)) = false) := by show _ = _; rw [HW72.out, HNO.out, HMM.out, g8', g9']; cases md <;> rfl
      go_wp2
      try rw [hw5]
      try go_wp2
      go_ret
      exact ⟨by rw [← HRN.out, HR.out]; rfl, HB5.out⟩
  · have g8' : decide (f.a ≤ 2) = false := decide_eq_false g8
    have HR : Hid ((w72 T f || (decide (f.a ≤ 2) && decide (10 ≤ f.e) && !(docL f.e fs).isSome)) = false) := by show _ = _; rw [HW72.out, HNO.out, g8']; rfl
    go_wp2
    try rw [hw5]
    try go_wp2
    go_ret
    exact ⟨by rw [← HRN.out, HR.out]; rfl, HB5.out⟩
set_option maxRecDepth 100000 in
set_option maxHeartbeats 4000000 in
theorem wrong4_any (A At As : Option Addr) (c ct cs : Nat) (fs : List FactP) (T : List Att) (f : FactP) (w : World) (H : WrA w A At As c ct cs fs T f) :
    Calls Tryz.prog 11 #[.slice A fs.length c, .slice At T.length ct, .agg #[.int .i64 f.e, .int .i64 f.a, .int .i64 f.k, .int .i64 f.m, .string f.s, .slice As f.l.length cs], .int .i64 75] w fun e w' => e = .returned (.bool (decide (f.a < 10) && !whD f.l)) ∧ Below w.heap.size w w' := by
  obtain ⟨w1, hw1⟩ : ∃ X, w.alloc (.cells #[.int .i64 f.e, .int .i64 f.a, .int .i64 f.k, .int .i64 f.m, .string f.s, .slice As f.l.length cs] 31) = X := ⟨_, rfl⟩
  have hb1 : Below w.heap.size w w1 := by rw [← hw1]; exact (Below.refl _ _).alloc (Nat.le_refl _) _
  have HX1 : Hid (FcBx w1 w.heap.size f (.slice As f.l.length cs)) := by rw [← hw1]; exact fcBx_new w f _
  have HB1 := Lib.hid hb1
  have HH := Lib.hid H
  have k1 := HX1.out.k1
  have HBY := Lib.hid (refByID_any At ct T f.a w1 ((H.sa.next hb1 (Nat.le_refl _)).more hb1.size) H.tl)
  rw [H.lk f.a] at HBY
  obtain ⟨o, ho⟩ : ∃ o, lookO T f.a = o := ⟨_, rfl⟩
  rw [ho] at HBY
  obtain ⟨a, ha⟩ : ∃ a, o.getD zA = a := ⟨_, rfl⟩
  obtain ⟨is, his⟩ : ∃ b, o.isSome = b := ⟨_, rfl⟩
  have HFN : Hid (fndV o = .tuple #[.agg #[.int .i64 a.id, .string a.nm, .int .i64 a.ty, .bool a.many, .int .i64 a.un, .bool a.part, .bool a.ix], .bool is]) := by show _ = _; unfold fndV attV; rw [ha, his]
  rw [HFN.out] at HBY
  have HIS : Hid (isB T f.a = is) := by show _ = _; unfold isB; rw [ho, his]
  have HLA : Hid (lookT T f.a = a) := by show _ = _; unfold lookT; rw [ho, ha]
  clear hb1 H ho ha his
  obtain ⟨R, hRN⟩ : ∃ R, (decide (f.a < 10) && !whD f.l) = R := ⟨_, rfl⟩
  have HRN := Lib.hid hRN
  rw [hRN]
  clear hRN
  go_enter Tryz.func11, Tryz.ntmps11
  go_wp2_with fail
  try rw [hw1]
  clear hw1
  refine HBY.out.mono ?_
  rintro e w2 ⟨rfl, hb2⟩
  obtain ⟨w3, hw3⟩ : ∃ X, w2.alloc (.cells #[.int .i64 a.id, .string a.nm, .int .i64 a.ty, .bool a.many, .int .i64 a.un, .bool a.part, .bool a.ix] 43) = X := ⟨_, rfl⟩
  have hal : Below w2.heap.size w2 w3 := by rw [← hw3]; exact (Below.refl _ _).alloc (Nat.le_refl _) _
  have HY3 : Hid (AtBx w3 w2.heap.size a) := by rw [← hw3]; exact attBx_new w2 a
  have HX3 := Lib.hid ((HX1.out.next hb2).next hal)
  have HB3 := Lib.hid (HB1.out.trans ((hb2.trans (hal.mono hb2.size)).mono HB1.out.size))
  clear hb2 hal HBY k1
  have y2 : w3.cell? ⟨w2.heap.size, 2, none⟩ = some (.int .i64 a.ty) := HY3.out.cell 2
  have x0 := HX3.out.k0
  have x1 := HX3.out.k1
  have x2 := HX3.out.k2
  have x3 := HX3.out.k3
  have x4 := HX3.out.k4
  have x5 := HX3.out.k5
  by_cases g1 : f.a < 10
  rotate_left
  · have g1' : decide (f.a < 10) = false := decide_eq_false g1
    have HR : Hid ((decide (f.a < 10) && !whD f.l) = false) := by show _ = _; rw [g1']; rfl
    clear g1
    go_wp2
    try rw [hw3]
    clear hw3
    try go_wp2
    go_ret
    exact ⟨by rw [← HRN.out, HR.out]; rfl, HB3.out⟩
  have g1' : decide (f.a < 10) = true := decide_eq_true g1
  clear g1
  obtain ⟨l, hl⟩ : ∃ l, f.l = l := ⟨_, rfl⟩
  have HSL := Lib.hid ((HH.out.sl.next HB3.out (Nat.le_refl _)).more HB3.out.size)
  rw [hl] at HSL
  have HWD : Hid (whD f.l = decide (l = [(minT, maxT)])) := by show _ = _; unfold whD; rw [hl]
  by_cases g2 : l.length = 1
  rotate_left
  · have g2' : ((l.length : Int) != 1) = true := bne_iff_ne.2 (by omega)
    have HR : Hid ((decide (f.a < 10) && !whD f.l) = true) := by show _ = _; rw [g1', HWD.out, decide_eq_false (fun e => g2 (by rw [e]; rfl))]; rfl
    rw [hl] at x5 ⊢
    clear g2
    go_wp2
    try rw [hw3]
    clear hw3
    try go_wp2
    go_ret
    exact ⟨by rw [← HRN.out, HR.out]; rfl, HB3.out⟩
  obtain ⟨s, rfl⟩ : ∃ s, l = [s] := by
    match l, g2 with
    | [s], _ => exact ⟨s, rfl⟩
  rw [hl] at x5 ⊢
  obtain ⟨b, o, rfl, hlt, hp⟩ := HSL.out (by simp)
  obtain ⟨p0, p1⟩ := hp 0 s rfl
  simp only [Nat.zero_mul, Nat.add_zero] at p0 p1
  have hn1 : (([s] : List Sp).length : Int) = 1 := rfl
  simp only [List.length_singleton] at x5 ⊢
  clear g2 hl hp
  by_cases g3 : s.1 = minT
  rotate_left
  · have g3' : (s.1 != (-9223372036854775808 : Int)) = true := bne_iff_ne.2 g3
    have HR : Hid ((decide (f.a < 10) && !whD f.l) = true) := by show _ = _; rw [g1', HWD.out, decide_eq_false (fun e => g3 (by injection e with e _; rw [e]))]; rfl
    clear g3
    go_wp2
    try rw [hw3]
    clear hw3
    try go_wp2
    go_ret
    exact ⟨by rw [← HRN.out, HR.out]; rfl, HB3.out⟩
  by_cases g4 : s.2 = maxT
  rotate_left
  · have g3' : (s.1 != (-9223372036854775808 : Int)) = false := by rw [g3]; rfl
    have g4' : (s.2 != (9223372036854775807 : Int)) = true := bne_iff_ne.2 g4
    have HR : Hid ((decide (f.a < 10) && !whD f.l) = true) := by show _ = _; rw [g1', HWD.out, decide_eq_false (fun e => g4 (by injection e with e _; rw [e]))]; rfl
    clear g3 g4
    go_wp2
    try rw [hw3]
    clear hw3
    try go_wp2
    go_ret
    exact ⟨by rw [← HRN.out, HR.out]; rfl, HB3.out⟩
  have g3' : (s.1 != (-9223372036854775808 : Int)) = false := by rw [g3]; rfl
  have g4' : (s.2 != (9223372036854775807 : Int)) = false := by rw [g4]; rfl
  have HR : Hid ((decide (f.a < 10) && !whD f.l) = false) := by show _ = _; rw [g1', HWD.out, decide_eq_true (by rw [show s = (minT, maxT) from Prod.ext g3 g4])]; rfl
  clear g3 g4
  go_wp2
  try rw [hw3]
  clear hw3
  try go_wp2
  go_ret
  exact ⟨by rw [← HRN.out, HR.out]; rfl, HB3.out⟩
end Go.Proofs.YtlmihlepaoifiaaGreat
