/-
  CONTRACT: the closure by which meet puts stretches in order.
-/
import Derived.Deep.LoopGhost
import Derived.Test.YtbcdkfolmncjlaaJHBy
namespace Go.Proofs.Ytbcdkfolmncjlaa
open Go.RowKit Go.Maps Go.Shelf

/-- two functions in a row, in a box -/
structure PartsAt (W : World) (bP bL c : Nat) (f1 f2 : Nat) : Prop where
  box : Boxed W bP 85 (.slice (some ⟨bL, 0, none⟩) 2 c)
  lt : bL < W.heap.size
  p0 : W.cell? ⟨bL, 0, none⟩ = some (.func (.func f1) #[] #[])
  p1 : W.cell? ⟨bL, 1, none⟩ = some (.func (.func f2) #[] #[])
theorem PartsAt.next {W W' : World} {bP bL c f1 f2 : Nat} (h : PartsAt W bP bL c f1 f2) (hb : Below W.heap.size W W') : PartsAt W' bP bL c f1 f2 :=
  ⟨(hb.block bP h.box.lt).trans h.box, Nat.lt_of_lt_of_le h.lt hb.size, (hb.cell (p := ⟨bL, 0, none⟩) h.lt).trans h.p0, (hb.cell (p := ⟨bL, 1, none⟩) h.lt).trans h.p1⟩
/-- in order by two parts, then by what begins first -/
def cmpK (k1 k2 : StrP → StrP → Int) (x y : StrP) : Int := if k1 x y = 0 then (if k2 x y = 0 then ordI x.s.1 y.s.1 else k2 x y) else k1 x y
def kE (x y : StrP) : Int := ordI x.f.e y.f.e
def kA (x y : StrP) : Int := ordI x.f.a y.f.a
def kV (x y : StrP) : Int := ordV x.f.k x.f.m x.f.s y.f.k y.f.m y.f.s
structure CmpS (w : World) (g1 g2 b o c0 bP bL c f1 f2 : Nat) (fs : List FactP) (x y : StrP) (W : World) : Prop where
  s : ByS w g1 g2 b o c0 fs x y W
  p : PartsAt W bP bL c f1 f2
theorem CmpS.next {w : World} {g1 g2 b o c0 bP bL c f1 f2 : Nat} {fs : List FactP} {x y : StrP} {W W' : World} (h : CmpS w g1 g2 b o c0 bP bL c f1 f2 fs x y W) (hb : Below W.heap.size W W') : CmpS w g1 g2 b o c0 bP bL c f1 f2 fs x y W' := ⟨h.s.next hb, h.p.next hb⟩
set_option maxRecDepth 100000 in
set_option maxHeartbeats 4000000 in
theorem cmpT_any (b o c0 bP bL c : Nat) (fs : List FactP) (x y : StrP) (w : World) (hs : FVa w (.slice (some ⟨b, o, none⟩) fs.length c0) fs) (hx : StrOk fs x) (hy : StrOk fs y) (hp : PartsAt w bP bL c 38 39) :
    Calls Try.prog 56 #[.agg #[.pointer (some ⟨b, o + x.j * 6, none⟩), .int .i64 x.s.1, .int .i64 x.s.2], .agg #[.pointer (some ⟨b, o + y.j * 6, none⟩), .int .i64 y.s.1, .int .i64 y.s.2], .pointer (some ⟨bP, 0, none⟩)] w fun e w' => e = .returned (.int .i64 (cmpK kE kA x y)) ∧ Below w.heap.size w w' := by
  obtain ⟨W5, hW5⟩ : ∃ W5, (w.alloc (.cells #[.pointer (some ⟨b, o + x.j * 6, none⟩), .int .i64 x.s.1, .int .i64 x.s.2] 89)).alloc (.cells #[.pointer (some ⟨b, o + y.j * 6, none⟩), .int .i64 y.s.1, .int .i64 y.s.2] 89) = W5 := ⟨_, rfl⟩
  have hb : Below w.heap.size w W5 := by rw [← hW5]; exact ((Below.refl _ _).alloc (Nat.le_refl _) _).alloc (by simp) _
  have HS5 : Hid (CmpS w w.heap.size (w.heap.size + 1) b o c0 bP bL c 38 39 fs x y W5) := by
    refine ⟨⟨?_, ?_, hs.next hb, hb⟩, hp.next hb⟩
    · rw [← hW5]
      exact (rBx_new w b o x).next ((Below.refl _ _).alloc (Nat.le_refl _) _)
    · rw [← hW5]
      have := rBx_new (w.alloc (.cells #[.pointer (some ⟨b, o + x.j * 6, none⟩), .int .i64 x.s.1, .int .i64 x.s.2] 89)) b o y
      rwa [World.size_alloc] at this
  have HX := Lib.hid hx
  have HY := Lib.hid hy
  have b0 := HS5.out.p.box.cell
  clear hs hb hx hy hp
  go_enter Try.func56, Try.ntmps56
  go_wp2
  clear hW5 b0
  go_loopg [11] 2 (fun g i wr => ∃ k : Nat, i = .int .i64 k ∧ k + g = 2 ∧ Hid (0 < k → kE x y = 0) ∧ Hid (1 < k → kA x y = 0) ∧ Hid (CmpS w w.heap.size (w.heap.size + 1) b o c0 bP bL c 38 39 fs x y wr))
  case atStart => exact ⟨0, rfl, by omega, fun h => absurd h (by omega), fun h => absurd h (by omega), HS5.out⟩
  case round =>
    obtain ⟨k, rfl, hk, H1, H2, HS⟩ := hrel
    cases gk with
    | zero =>
      obtain rfl : k = 2 := by omega
      have HR : Hid (cmpK kE kA x y = ordI x.s.1 y.s.1) := by
        show _ = _
        unfold cmpK
        rw [if_pos (H1.out (by omega)), if_pos (H2.out (by omega))]
      have hx1 := HS.out.s.x1.c1
      have hy1 := HS.out.s.y1.c1
      go_wp2_with fail
      refine (cmpI64_any _ _ _).mono ?_
      rintro e w3 ⟨rfl, rfl⟩
      clear hx1 hy1
      go_wp2
      go_ret
      exact ⟨by rw [HR.out]; rfl, HS.out.s.low⟩
    | succ g =>
      rcases (show k = 0 ∨ k = 1 by omega) with rfl | rfl
      · have p0 := HS.out.p.p0
        have hx0 := HS.out.s.x1.c0
        have hx1 := HS.out.s.x1.c1
        have hx2 := HS.out.s.x1.c2
        have hy0 := HS.out.s.y1.c0
        have hy1 := HS.out.s.y1.c1
        have hy2 := HS.out.s.y1.c2
        have HC := Lib.hid (byE_any b o c0 fs x y wr HS.out.s.f HX.out HY.out)
        go_wp2_with fail
        refine (show Calls _ _ _ wr (fun e w' => e = .returned (.int .i64 (kE x y)) ∧ Below wr.heap.size wr w') from HC.out).mono ?_
        rintro e w3 ⟨rfl, hb3⟩
        have HS3 := Lib.hid (HS.out.next hb3)
        obtain ⟨v, hv⟩ : ∃ v, kE x y = v := ⟨_, rfl⟩
        rw [hv]
        have HV := Lib.hid hv
        clear hb3 HC hx0 hx1 hx2 hy0 hy1 hy2 p0 hv
        by_cases h0 : v = 0
        · subst h0
          go_wp2
          go_roundg g
          case measure => omega
          case rel => exact ⟨0 + 1, by go_num, by omega, fun _ => HV.out, fun h => absurd h (by omega), HS3.out⟩
        · have hd : (v != 0) = true := by simp [h0]
          have HR : Hid (cmpK kE kA x y = v) := by
            show _ = _
            unfold cmpK
            rw [if_neg (by rw [HV.out]; exact h0)]; exact HV.out
          go_wp2
          go_ret
          exact ⟨by rw [HR.out]; rfl, HS3.out.s.low⟩
      · have p1 := HS.out.p.p1
        have hx0 := HS.out.s.x1.c0
        have hx1 := HS.out.s.x1.c1
        have hx2 := HS.out.s.x1.c2
        have hy0 := HS.out.s.y1.c0
        have hy1 := HS.out.s.y1.c1
        have hy2 := HS.out.s.y1.c2
        have HC := Lib.hid (byA_any b o c0 fs x y wr HS.out.s.f HX.out HY.out)
        go_wp2_with fail
        refine (show Calls _ _ _ wr (fun e w' => e = .returned (.int .i64 (kA x y)) ∧ Below wr.heap.size wr w') from HC.out).mono ?_
        rintro e w3 ⟨rfl, hb3⟩
        have HS3 := Lib.hid (HS.out.next hb3)
        obtain ⟨v, hv⟩ : ∃ v, kA x y = v := ⟨_, rfl⟩
        rw [hv]
        have HV := Lib.hid hv
        clear hb3 HC hx0 hx1 hx2 hy0 hy1 hy2 p1 hv
        by_cases h0 : v = 0
        · subst h0
          go_wp2
          go_roundg g
          case measure => omega
          case rel => exact ⟨1 + 1, by go_num, by omega, fun _ => H1.out (by omega), fun _ => HV.out, HS3.out⟩
        · have hd : (v != 0) = true := by simp [h0]
          have HR : Hid (cmpK kE kA x y = v) := by
            show _ = _
            unfold cmpK
            rw [if_pos (H1.out (by omega)), if_neg (by rw [HV.out]; exact h0)]; exact HV.out
          go_wp2
          go_ret
          exact ⟨by rw [HR.out]; rfl, HS3.out.s.low⟩
set_option maxRecDepth 100000 in
set_option maxHeartbeats 4000000 in
theorem cmpU_any (b o c0 bP bL c : Nat) (fs : List FactP) (x y : StrP) (w : World) (hs : FVa w (.slice (some ⟨b, o, none⟩) fs.length c0) fs) (hx : StrOk fs x) (hy : StrOk fs y) (hp : PartsAt w bP bL c 39 42) :
    Calls Try.prog 56 #[.agg #[.pointer (some ⟨b, o + x.j * 6, none⟩), .int .i64 x.s.1, .int .i64 x.s.2], .agg #[.pointer (some ⟨b, o + y.j * 6, none⟩), .int .i64 y.s.1, .int .i64 y.s.2], .pointer (some ⟨bP, 0, none⟩)] w fun e w' => e = .returned (.int .i64 (cmpK kA kV x y)) ∧ Below w.heap.size w w' := by
  obtain ⟨W5, hW5⟩ : ∃ W5, (w.alloc (.cells #[.pointer (some ⟨b, o + x.j * 6, none⟩), .int .i64 x.s.1, .int .i64 x.s.2] 89)).alloc (.cells #[.pointer (some ⟨b, o + y.j * 6, none⟩), .int .i64 y.s.1, .int .i64 y.s.2] 89) = W5 := ⟨_, rfl⟩
  have hb : Below w.heap.size w W5 := by rw [← hW5]; exact ((Below.refl _ _).alloc (Nat.le_refl _) _).alloc (by simp) _
  have HS5 : Hid (CmpS w w.heap.size (w.heap.size + 1) b o c0 bP bL c 39 42 fs x y W5) := by
    refine ⟨⟨?_, ?_, hs.next hb, hb⟩, hp.next hb⟩
    · rw [← hW5]
      exact (rBx_new w b o x).next ((Below.refl _ _).alloc (Nat.le_refl _) _)
    · rw [← hW5]
      have := rBx_new (w.alloc (.cells #[.pointer (some ⟨b, o + x.j * 6, none⟩), .int .i64 x.s.1, .int .i64 x.s.2] 89)) b o y
      rwa [World.size_alloc] at this
  have HX := Lib.hid hx
  have HY := Lib.hid hy
  have b0 := HS5.out.p.box.cell
  clear hs hb hx hy hp
  go_enter Try.func56, Try.ntmps56
  go_wp2
  clear hW5 b0
  go_loopg [11] 2 (fun g i wr => ∃ k : Nat, i = .int .i64 k ∧ k + g = 2 ∧ Hid (0 < k → kA x y = 0) ∧ Hid (1 < k → kV x y = 0) ∧ Hid (CmpS w w.heap.size (w.heap.size + 1) b o c0 bP bL c 39 42 fs x y wr))
  case atStart => exact ⟨0, rfl, by omega, fun h => absurd h (by omega), fun h => absurd h (by omega), HS5.out⟩
  case round =>
    obtain ⟨k, rfl, hk, H1, H2, HS⟩ := hrel
    cases gk with
    | zero =>
      obtain rfl : k = 2 := by omega
      have HR : Hid (cmpK kA kV x y = ordI x.s.1 y.s.1) := by
        show _ = _
        unfold cmpK
        rw [if_pos (H1.out (by omega)), if_pos (H2.out (by omega))]
      have hx1 := HS.out.s.x1.c1
      have hy1 := HS.out.s.y1.c1
      go_wp2_with fail
      refine (cmpI64_any _ _ _).mono ?_
      rintro e w3 ⟨rfl, rfl⟩
      clear hx1 hy1
      go_wp2
      go_ret
      exact ⟨by rw [HR.out]; rfl, HS.out.s.low⟩
    | succ g =>
      rcases (show k = 0 ∨ k = 1 by omega) with rfl | rfl
      · have p0 := HS.out.p.p0
        have hx0 := HS.out.s.x1.c0
        have hx1 := HS.out.s.x1.c1
        have hx2 := HS.out.s.x1.c2
        have hy0 := HS.out.s.y1.c0
        have hy1 := HS.out.s.y1.c1
        have hy2 := HS.out.s.y1.c2
        have HC := Lib.hid (byA_any b o c0 fs x y wr HS.out.s.f HX.out HY.out)
        go_wp2_with fail
        refine (show Calls _ _ _ wr (fun e w' => e = .returned (.int .i64 (kA x y)) ∧ Below wr.heap.size wr w') from HC.out).mono ?_
        rintro e w3 ⟨rfl, hb3⟩
        have HS3 := Lib.hid (HS.out.next hb3)
        obtain ⟨v, hv⟩ : ∃ v, kA x y = v := ⟨_, rfl⟩
        rw [hv]
        have HV := Lib.hid hv
        clear hb3 HC hx0 hx1 hx2 hy0 hy1 hy2 p0 hv
        by_cases h0 : v = 0
        · subst h0
          go_wp2
          go_roundg g
          case measure => omega
          case rel => exact ⟨0 + 1, by go_num, by omega, fun _ => HV.out, fun h => absurd h (by omega), HS3.out⟩
        · have hd : (v != 0) = true := by simp [h0]
          have HR : Hid (cmpK kA kV x y = v) := by
            show _ = _
            unfold cmpK
            rw [if_neg (by rw [HV.out]; exact h0)]; exact HV.out
          go_wp2
          go_ret
          exact ⟨by rw [HR.out]; rfl, HS3.out.s.low⟩
      · have p1 := HS.out.p.p1
        have hx0 := HS.out.s.x1.c0
        have hx1 := HS.out.s.x1.c1
        have hx2 := HS.out.s.x1.c2
        have hy0 := HS.out.s.y1.c0
        have hy1 := HS.out.s.y1.c1
        have hy2 := HS.out.s.y1.c2
        have HC := Lib.hid (byV_any b o c0 fs x y wr HS.out.s.f HX.out HY.out)
        go_wp2_with fail
        refine (show Calls _ _ _ wr (fun e w' => e = .returned (.int .i64 (kV x y)) ∧ Below wr.heap.size wr w') from HC.out).mono ?_
        rintro e w3 ⟨rfl, hb3⟩
        have HS3 := Lib.hid (HS.out.next hb3)
        obtain ⟨v, hv⟩ : ∃ v, kV x y = v := ⟨_, rfl⟩
        rw [hv]
        have HV := Lib.hid hv
        clear hb3 HC hx0 hx1 hx2 hy0 hy1 hy2 p1 hv
        by_cases h0 : v = 0
        · subst h0
          go_wp2
          go_roundg g
          case measure => omega
          case rel => exact ⟨1 + 1, by go_num, by omega, fun _ => H1.out (by omega), fun _ => HV.out, HS3.out⟩
        · have hd : (v != 0) = true := by simp [h0]
          have HR : Hid (cmpK kA kV x y = v) := by
            show _ = _
            unfold cmpK
            rw [if_pos (H1.out (by omega)), if_neg (by rw [HV.out]; exact h0)]; exact HV.out
          go_wp2
          go_ret
          exact ⟨by rw [HR.out]; rfl, HS3.out.s.low⟩
end Go.Proofs.Ytbcdkfolmncjlaa
