import Derived.Test.YtlmihlepaoifiaaGreatJFMay
import Derived.Test.YtlmihlepaoifiaaGreatJOrdRef
import Derived.Test.YtlmihlepaoifiaaGreatJSSet
/-
  CONTRACT of the document's own answer: Compare of two facts.
-/
namespace Go.Proofs.YtlmihlepaoifiaaGreat
open Go.RowKit Go.Shelf

set_option maxRecDepth 100000 in
set_option maxHeartbeats 2000000 in
/-- CONTRACT of the document's own answer: Compare of two facts. -/
theorem refCmpF_any (f g : FactP) (sv sv' : Value) (w : World) (hsv : ∃ A n c, sv = .slice A n c) (hsv' : ∃ A n c, sv' = .slice A n c) (hs : f.s.size ≤ maxLen) (hs' : g.s.size ≤ maxLen) :
    Calls Tryz.prog 57 #[.agg #[.int .i64 f.e, .int .i64 f.a, .int .i64 f.k, .int .i64 f.m, .string f.s, sv], .agg #[.int .i64 g.e, .int .i64 g.a, .int .i64 g.k, .int .i64 g.m, .string g.s, sv']] w fun e w' => e = .returned (.int .i64 (ordTr (triF f) (triF g))) ∧ Below w.heap.size w w' := by
  obtain ⟨A1, n1, c1, rfl⟩ := hsv
  obtain ⟨A2, n2, c2, rfl⟩ := hsv'
  have HT : Hid (ordTr (triF f) (triF g) = if ordI f.e g.e = 0 then (if ordI f.a g.a = 0 then ordV f.k f.m f.s g.k g.m g.s else ordI f.a g.a) else ordI f.e g.e) := rfl
  have HV := Lib.hid (fun W => refCompare_any f.k f.m f.s g.k g.m g.s W hs hs')
  obtain ⟨w0, hw0⟩ : ∃ w0, (w.alloc (.cells #[.int .i64 f.e, .int .i64 f.a, .int .i64 f.k, .int .i64 f.m, .string f.s, .slice A1 n1 c1] 31)).alloc (.cells #[.int .i64 g.e, .int .i64 g.a, .int .i64 g.k, .int .i64 g.m, .string g.s, .slice A2 n2 c2] 31) = w0 := ⟨_, rfl⟩
  have HB0 : Hid (Below w.heap.size w w0) := by rw [← hw0]; exact ((Below.refl _ _).alloc (Nat.le_refl _) _).alloc (by simp) _
  have HX0 : Hid (FcBx w0 w.heap.size f (.slice A1 n1 c1)) := by rw [← hw0]; exact FcBx.next (fcBx_new w f _) ((Below.refl _ _).alloc (Nat.le_refl _) _)
  have HY0 : Hid (FcBx w0 (w.heap.size + 1) g (.slice A2 n2 c2)) := by
    rw [← hw0]
    have := fcBx_new (w.alloc (.cells #[.int .i64 f.e, .int .i64 f.a, .int .i64 f.k, .int .i64 f.m, .string f.s, .slice A1 n1 c1] 31)) g (.slice A2 n2 c2)
    rwa [World.size_alloc] at this
  have x0 := HX0.out.k0
  have x1 := HX0.out.k1
  have x2 := HX0.out.k2
  have x3 := HX0.out.k3
  have x4 := HX0.out.k4
  have y0 := HY0.out.k0
  have y1 := HY0.out.k1
  have y2 := HY0.out.k2
  have y3 := HY0.out.k3
  have y4 := HY0.out.k4
  clear hs hs' HX0 HY0
  go_enter Tryz.func57, Tryz.ntmps57
  go_upto_region 1 with (fail)
  try rw [hw0]
  clear hw0
  by_cases h1 : f.e < g.e
  · have HE : Hid (ordTr (triF f) (triF g) = -1) := by
      show _ = _
      have : ordI f.e g.e = -1 := by unfold ordI; rw [if_pos h1]
      rw [HT.out, this]; rfl
    go_wp2
    go_ret
    exact ⟨by rw [HE.out]; rfl, HB0.out⟩
  by_cases h2 : g.e < f.e
  · have HE : Hid (ordTr (triF f) (triF g) = 1) := by
      show _ = _
      have : ordI f.e g.e = 1 := by unfold ordI; rw [if_neg h1, if_pos h2]
      rw [HT.out, this]; rfl
    have h3 : (f.e == g.e) = false := by have : ¬ f.e = g.e := (by omega); simpa using this
    go_wp2
    go_ret
    exact ⟨by rw [HE.out]; rfl, HB0.out⟩
  have he : f.e = g.e := by omega
  have h3 : (f.e == g.e) = true := by simpa using he
  have HI : Hid (ordI f.e g.e = 0) := (VOrd.ordI_is.zero _ _).2 he
  clear he
  by_cases h4 : f.a < g.a
  · have HE : Hid (ordTr (triF f) (triF g) = -1) := by
      show _ = _
      have : ordI f.a g.a = -1 := by unfold ordI; rw [if_pos h4]
      rw [HT.out, HI.out, this]; rfl
    go_wp2
    go_ret
    exact ⟨by rw [HE.out]; rfl, HB0.out⟩
  by_cases h5 : g.a < f.a
  · have HE : Hid (ordTr (triF f) (triF g) = 1) := by
      show _ = _
      have : ordI f.a g.a = 1 := by unfold ordI; rw [if_neg h4, if_pos h5]
      rw [HT.out, HI.out, this]; rfl
    go_wp2
    go_ret
    exact ⟨by rw [HE.out]; rfl, HB0.out⟩
  have HE : Hid (ordTr (triF f) (triF g) = ordV f.k f.m f.s g.k g.m g.s) := by
    show _ = _
    have : ordI f.a g.a = 0 := (VOrd.ordI_is.zero _ _).2 (by omega)
    rw [HT.out, HI.out, this]; rfl
  go_wp2_with fail
  refine (HV.out _).mono ?_
  rintro e9 w1 ⟨rfl, hb1⟩
  have HB1 := Lib.hid (HB0.out.trans (hb1.mono HB0.out.size))
  clear hb1
  go_wp2
  go_ret
  exact ⟨by rw [HE.out]; rfl, HB1.out⟩

end Go.Proofs.YtlmihlepaoifiaaGreat

/-
  CONTRACT of the document's own answer: Set.
-/
namespace Go.Proofs.YtlmihlepaoifiaaGreat
open Go.RowKit

set_option maxRecDepth 100000 in
set_option maxHeartbeats 400000 in
theorem refSet_big (A : Option Addr) (c : Nat) (l : List Sp) (w : World) (B : Nat) (hs : SlS w B A l) (hl : l.length ≤ 9223372036854775807) :
    Calls Tryz.prog 56 #[.slice A l.length c] w fun e w' => e = .returned (.bool (setB l)) ∧ ∃ n, w' = w.drewN n := by
  go_enter Tryz.func56, Tryz.ntmps56
  go_wp2
  go_loopw [3] (fun i wr => ∃ j n : Nat, j ≤ l.length ∧ i = .int .i64 j ∧ wr = w.drewN n ∧ Hid (∀ k, k < j → OkAt l k)) (fun i _ => l.length - (intOf i).toNat)
  case atStart => exact ⟨0, 0, by omega, rfl, rfl, fun k hk => by omega⟩
  case round =>
    obtain ⟨j, n, hj, rfl, rfl, HO⟩ := hrel
    by_cases h1 : j < l.length
    · have hji : (j : Int) < (l.length : Int) := by omega
      obtain ⟨b, o, rfl, _, hp⟩ := hs.at_ h1
      obtain ⟨⟨x, y⟩, hpe⟩ : ∃ p, l[j] = p := ⟨_, rfl⟩
      have HG : Hid (l[j]? = some (x, y)) := by show _ = _; rw [List.getElem?_eq_getElem h1, hpe]
      rw [hpe] at hp
      have c0 := hp.c0
      have c1 := hp.c1
      have HS := Lib.hid hs
      clear hp hpe
      by_cases hxy : x < y
      · have hng : ¬ y ≤ x := by omega
        have hdg : decide (y ≤ x) = false := decide_eq_false hng
        cases j with
        | zero =>
          have HY : Hid (∀ i, i < 0 + 1 → OkAt l i) := fun i hi => by
            obtain rfl : i = 0 := by omega
            exact (okAt_first HG.out).2 hxy
          clear hs
          simp only [Nat.zero_mul, Nat.add_zero] at c0 c1
          go_wp2
          go_big_quiet (fail)
          go_wp2
          go_roundw
          case rel => exact ⟨0 + 1, _, by omega, rfl, rfl, HY⟩
          case measure => simp [intOf]; omega
        | succ k =>
          have hkl : k < l.length := by omega
          obtain ⟨b', o', he, _, hq⟩ := hs.at_ hkl
          cases he
          obtain ⟨p, hpe⟩ : ∃ p, l[k] = p := ⟨_, rfl⟩
          have HPG : Hid (l[k]? = some p) := by show _ = _; rw [List.getElem?_eq_getElem hkl, hpe]
          rw [hpe] at hq
          have d1 := hq.c1
          clear hq hs hpe
          have hk0 : (0 : Int) < (k : Int) + 1 := by omega
          have hdk : decide ((0 : Int) < (k : Int) + 1) = true := decide_eq_true hk0
          have hki : (k : Int) < (l.length : Int) := by omega
          have hwr : IntKind.i64.wrap (k : Int) = (k : Int) := by
            rw [IntWalk.i64_in _ (by omega)]
          by_cases hle : x ≤ p.2
          · have hdp : decide (x ≤ p.2) = true := decide_eq_true hle
            have HN := Lib.hid (setB_no (l := l) (i := k + 1) (fun h => by have := ((okAt_next (by omega) HG.out HPG.out).1 h).2; simp only at this; omega))
            go_wp2
            go_big_quiet (fail)
            go_wp2
            go_ret
            exact ⟨by rw [HN.out]; rfl, _, World.drewN_drewN _ _ _⟩
          · have hdp : decide (x ≤ p.2) = false := decide_eq_false hle
            have HY : Hid (∀ i, i < k + 1 + 1 → OkAt l i) := fun i hi => by
              rcases Nat.lt_succ_iff_lt_or_eq.1 hi with h | rfl
              · exact HO.out i h
              · exact (okAt_next (by omega) HG.out HPG.out).2 ⟨hxy, by simp only; omega⟩
            go_wp2
            go_big_quiet (fail)
            go_wp2
            go_roundw
            case rel => exact ⟨k + 1 + 1, _, by omega, by go_num, rfl, HY⟩
            case measure => simp [intOf]; omega
      · have hng : y ≤ x := by omega
        have hdg : decide (y ≤ x) = true := decide_eq_true hng
        have HN := Lib.hid (setB_no (l := l) (i := j) (fun h => hxy ((h _ HG.out).1)))
        clear hs
        go_wp2
        go_big_quiet (fail)
        go_wp2
        go_ret
        exact ⟨by rw [HN.out]; rfl, _, World.drewN_drewN _ _ _⟩
    · have hji : ¬ (j : Int) < (l.length : Int) := by omega
      have HV := Lib.hid (setB_all (l := l) (fun i hi => HO.out i (by omega)))
      go_wp2
      go_ret
      exact ⟨by rw [HV.out]; rfl, n, rfl⟩
end Go.Proofs.YtlmihlepaoifiaaGreat
