/-
  CONTRACTS: the law's great, own.
-/
import Derived.Deep.LoopGhost
import Derived.Test.YtofmfainhflmmaaJZGath
import Derived.Test.YtofmfainhflmmaaJZTold
namespace Go.Proofs.Ytofmfainhflmmaa
open Go.RowKit

/-- small enough for the statements -/
def Small (n : Nat) (R : List Rw) : Prop := n ≤ 60 ∧ R.length ≤ 150 ∧ ∀ r ∈ R, r.l.length ≤ 60
/-- what great says -/
def GrEnd (n : Nat) (R : List Rw) (e : Ending) : Prop := ∃ q, e = .returned (.bool q) ∧ (q = false → Small n R)
set_option maxRecDepth 100000 in
set_option maxHeartbeats 1000000 in
theorem great_any (A : Option Addr) (n c : Nat) (A' : Option Addr) (c' : Nat) (R : List Rw) (w : World) (B : Nat) (hR : SlR w B A' R) :
    Calls Try.prog 19 #[.slice A n c, .slice A' R.length c'] w fun e w' => GrEnd n R e ∧ w = w' := by
  have HR := Lib.hid hR
  clear hR
  by_cases h1 : 60 < n
  · have h1i : (60 : Int) < (n : Int) := by omega
    go_enter Try.func19, Try.ntmps19
    go_wp2
    go_ret
    exact ⟨⟨_, rfl, fun h => by cases h⟩, rfl⟩
  · have h1i : ¬ (60 : Int) < (n : Int) := by omega
    by_cases h2 : 150 < R.length
    · have h2i : (150 : Int) < (R.length : Int) := by omega
      go_enter Try.func19, Try.ntmps19
      go_wp2
      go_ret
      exact ⟨⟨_, rfl, fun h => by cases h⟩, rfl⟩
    · have h2i : ¬ (150 : Int) < (R.length : Int) := by omega
      go_enter Try.func19, Try.ntmps19
      go_wp2
      go_loopg [16] R.length (fun g x wr => ∃ j : Nat, x = .int .i64 j ∧ j + g = R.length ∧ Hid (∀ i (r : Rw), i < j → R[i]? = some r → r.l.length ≤ 60) ∧ wr = w)
      case atStart => exact ⟨0, rfl, by omega, fun i r h => absurd h (Nat.not_lt_zero _), rfl⟩
      case round =>
        obtain ⟨j, rfl, hj, HJ, rfl⟩ := hrel
        cases gk with
        | zero =>
          have hji : ¬ (j : Int) < (R.length : Int) := by omega
          have HE : Hid (Small n R) := ⟨by omega, by omega, fun r hr => by
            obtain ⟨i, hi⟩ := List.getElem?_of_mem hr
            exact HJ.out i r (by have := (List.getElem?_eq_some_iff.1 hi).1; omega) hi⟩
          go_wp2
          go_ret
          exact ⟨⟨_, rfl, fun _ => HE.out⟩, rfl⟩
        | succ g =>
          have hji : (j : Int) < (R.length : Int) := by omega
          have hjn : j < R.length := by omega
          obtain ⟨b, o, r, rfl, hb, hr, hp, hok⟩ := HR.out.at_ hjn
          have HRR := Lib.hid hr
          clear hr hok
          by_cases h3 : 60 < r.l.length
          · have h3i : (60 : Int) < (r.l.length : Int) := by omega
            go_wp2
            go_ret
            exact ⟨⟨_, rfl, fun h => by cases h⟩, rfl⟩
          · have h3i : ¬ (60 : Int) < (r.l.length : Int) := by omega
            have HE : Hid (∀ i (q : Rw), i < j + 1 → R[i]? = some q → q.l.length ≤ 60) := fun i q hi hq => by
              by_cases e : i = j
              · subst e
                rw [HRR.out] at hq
                rw [← Option.some.inj hq]; omega
              · exact HJ.out i q (by omega) hq
            go_wp2
            go_roundg g
            case measure => omega
            case rel => exact ⟨j + 1, by go_num, by omega, HE.out, rfl⟩

/-- what own answers -/
def OwnEnd (w : World) (cols : List ByteArray) (R : List Rw) (e : Ending) (w' : World) : Prop := ∃ vc vr R', e = .returned (.agg #[vc, vr]) ∧ OwnC w' w.heap.size vc cols ∧ OwnR w' w.heap.size vr R' ∧ txR R' = txR R ∧ Below w.heap.size w w'
theorem take_snocR {R : List Rw} {j : Nat} {r : Rw} (hr : R[j]? = some r) : (txR R).take (j + 1) = (txR R).take j ++ [r.l] := by
  obtain ⟨hj, e⟩ := List.getElem?_eq_some_iff.1 hr
  unfold txR
  rw [← List.map_take, ← List.map_take, List.take_succ_eq_append_getElem hj, e, List.map_append]
  rfl
/-- a relation in the making, in a box -/
structure OwS (b3 lo : Nat) (A5 : Option Addr) (c5 : Nat) (cols : List ByteArray) (vr : Value) (acc : List Rw) (W : World) : Prop where
  c0 : W.cell? ⟨b3, 0, none⟩ = some (.slice A5 cols.length c5)
  c1 : W.cell? ⟨b3, 1, none⟩ = some vr
  f0 : W.frozen? ⟨b3, 0, none⟩ = false
  f1 : W.frozen? ⟨b3, 1, none⟩ = false
  c : OwnC W lo (.slice A5 cols.length c5) cols
  r : OwnR W lo vr acc
theorem OwS.next {W W' : World} {b3 lo : Nat} {A5 : Option Addr} {c5 : Nat} {cols : List ByteArray} {vr : Value} {acc : List Rw} (h : OwS b3 lo A5 c5 cols vr acc W) (hb : Below W.heap.size W W') (hlt : b3 < W.heap.size) : OwS b3 lo A5 c5 cols vr acc W' :=
  ⟨(hb.cell (p := ⟨b3, 0, none⟩) hlt).trans h.c0, (hb.cell (p := ⟨b3, 1, none⟩) hlt).trans h.c1, (hb.frozen (p := ⟨b3, 0, none⟩) hlt).trans h.f0, (hb.frozen (p := ⟨b3, 1, none⟩) hlt).trans h.f1, h.c.next hb, h.r.next hb⟩
def OwL (b3 : Nat) (w3 : World) (A5 : Option Addr) (c5 : Nat) (cols : List ByteArray) (R : List Rw) (j : Nat) (wr : World) : Prop :=
  ∃ (vr : Value) (acc : List Rw), acc.length = j ∧ Hid (OwS b3 w3.heap.size A5 c5 cols vr acc wr) ∧ Hid (txR acc = (txR R).take j) ∧ Hid (Below b3 w3 wr)
set_option maxRecDepth 100000 in
set_option maxHeartbeats 4000000 in
theorem own_any (A : Option Addr) (c : Nat) (cols : List ByteArray) (A' : Option Addr) (c' : Nat) (R : List Rw) (w : World) (hc : SlC w w.heap.size A cols) (hR : SlR w w.heap.size A' R) (hn : A = none → cols.length = 0 ∧ c = 0) (hl : cols.length ≤ 1000000000) (hl' : R.length ≤ 1000000000) (hll : ∀ r ∈ R, r.l.length ≤ 1000000000) :
    Calls Try.prog 20 #[.agg #[.slice A cols.length c, .slice A' R.length c']] w (OwnEnd w cols R) := by
  obtain ⟨i0, hi, hz0, hz1, hz2⟩ := info_parts infoR
  obtain ⟨iv, hiv, hzv0, hzv1, hzv2⟩ := info_parts infoV
  obtain ⟨is, his, hzs0, hzs1, hzs2⟩ := info_parts infoS
  have hmx : 9000000000000 ≤ maxLen := by decide
  have HC := Lib.hid hc
  have HR := Lib.hid hR
  have HN := Lib.hid hn
  have HLL := Lib.hid hll
  clear hc hR hn hll
  obtain ⟨w1, hw1⟩ : ∃ w1, w.alloc (.cells #[.slice A cols.length c, .slice A' R.length c'] 34) = w1 := ⟨_, rfl⟩
  obtain ⟨w2, hw2⟩ : ∃ w2, w1.alloc (.cells #[.slice none 0 0, .slice none 0 0] 34) = w2 := ⟨_, rfl⟩
  obtain ⟨w3, hw3⟩ : ∃ w3, w2.alloc (.cells #[.slice none 0 0, .slice none 0 0] 34) = w3 := ⟨_, rfl⟩
  have hz1' : w1.heap.size = w.heap.size + 1 := by rw [← hw1]; simp
  have hz2' : w2.heap.size = w.heap.size + 2 := by rw [← hw2, World.size_alloc, hz1']
  have hz3' : w3.heap.size = w.heap.size + 3 := by rw [← hw3, World.size_alloc, hz2']
  have hb1 : Below w.heap.size w w1 := by rw [← hw1]; exact (Below.refl _ _).alloc (Nat.le_refl _) _
  have hb2 : Below w1.heap.size w1 w2 := by rw [← hw2]; exact (Below.refl _ _).alloc (Nat.le_refl _) _
  have hb3 : Below w2.heap.size w2 w3 := by rw [← hw3]; exact (Below.refl _ _).alloc (Nat.le_refl _) _
  have a0 : w1.cell? ⟨w.heap.size, 0, none⟩ = some (.slice A cols.length c) := by rw [← hw1, World.cell?_alloc_new]; rfl
  have a1 : w1.cell? ⟨w.heap.size, 1, none⟩ = some (.slice A' R.length c') := by rw [← hw1, World.cell?_alloc_new]; rfl
  have a0 := (hb3.cell (p := ⟨w.heap.size, 0, none⟩) (by show w.heap.size < _; omega)).trans ((hb2.cell (p := ⟨w.heap.size, 0, none⟩) (by show w.heap.size < _; omega)).trans a0)
  have a1 := (hb3.cell (p := ⟨w.heap.size, 1, none⟩) (by show w.heap.size < _; omega)).trans ((hb2.cell (p := ⟨w.heap.size, 1, none⟩) (by show w.heap.size < _; omega)).trans a1)
  have x0 : w3.cell? ⟨w2.heap.size, 0, none⟩ = some (.slice none 0 0) := by rw [← hw3, World.cell?_alloc_new]; rfl
  have x1 : w3.cell? ⟨w2.heap.size, 1, none⟩ = some (.slice none 0 0) := by rw [← hw3, World.cell?_alloc_new]; rfl
  have y0 : w3.frozen? ⟨w2.heap.size, 0, none⟩ = false := by rw [← hw3]; simp
  have y1 : w3.frozen? ⟨w2.heap.size, 1, none⟩ = false := by rw [← hw3]; simp
  have r0 : w2.cell? ⟨w1.heap.size, 0, none⟩ = some (.slice none 0 0) := by rw [← hw2, World.cell?_alloc_new]; rfl
  have r1 : w2.cell? ⟨w1.heap.size, 1, none⟩ = some (.slice none 0 0) := by rw [← hw2, World.cell?_alloc_new]; rfl
  have g0 : w2.frozen? ⟨w1.heap.size, 0, none⟩ = false := by rw [← hw2]; simp
  have g1 : w2.frozen? ⟨w1.heap.size, 1, none⟩ = false := by rw [← hw2]; simp
  have HRC := Lib.hid (show (w3.cell? ⟨w1.heap.size, 0, none⟩ = some (.slice none 0 0) ∧ w3.cell? ⟨w1.heap.size, 1, none⟩ = some (.slice none 0 0) ∧ w3.frozen? ⟨w1.heap.size, 0, none⟩ = false ∧ w3.frozen? ⟨w1.heap.size, 1, none⟩ = false) ∧ w1.heap.size < w2.heap.size ∧ w.heap.size ≤ w1.heap.size from
    ⟨⟨(hb3.cell (p := ⟨w1.heap.size, 0, none⟩) (by show w1.heap.size < _; omega)).trans r0, (hb3.cell (p := ⟨w1.heap.size, 1, none⟩) (by show w1.heap.size < _; omega)).trans r1, (hb3.frozen (p := ⟨w1.heap.size, 0, none⟩) (by show w1.heap.size < _; omega)).trans g0, (hb3.frozen (p := ⟨w1.heap.size, 1, none⟩) (by show w1.heap.size < _; omega)).trans g1⟩, by omega, by omega⟩)
  clear r0 r1 g0 g1
  have HB3 : Hid (Below w.heap.size w w3) := (hb1.trans (hb2.mono (by omega))).trans (hb3.mono (by omega))
  have HX1 := Lib.hid (show w3.cell? ⟨w2.heap.size, 1, none⟩ = some (.slice none 0 0) ∧ w3.frozen? ⟨w2.heap.size, 0, none⟩ = false ∧ w3.frozen? ⟨w2.heap.size, 1, none⟩ = false from ⟨x1, y0, y1⟩)
  have HAA := Lib.hid (show w3.cell? ⟨w.heap.size, 0, none⟩ = some (.slice A cols.length c) ∧ w3.cell? ⟨w.heap.size, 1, none⟩ = some (.slice A' R.length c') from ⟨a0, a1⟩)
  have HZ3 : Hid (w2.heap.size < w3.heap.size ∧ w.heap.size < w2.heap.size) := ⟨by omega, by omega⟩
  have HL0 : Hid (OwnC w3 w3.heap.size (.slice none 0 0) []) := own1_nil _ _ _ _
  have HNC := Lib.hid (HC.out.up HB3.out (Nat.le_refl _)).news
  have HONS : Hid (∀ u ∈ cols.map strV, u.oneCell' = true) := fun u hu => by obtain ⟨x, _, rfl⟩ := List.mem_map.1 hu; rfl
  have HONE : Hid (∀ (l : List Rw), ∀ u ∈ l.map cellR, u.oneCell' = true) := fun l u hu => by obtain ⟨x, _, rfl⟩ := List.mem_map.1 hu; rfl
  have HNN := HN.out
  have HLN : Hid ((cols.map strV).length = cols.length * 1) := by show _ = _; simp
  clear hz1' hz2' hz3' hb1 hb2 hb3 a1 x1 y1 HNN
  go_enter Try.func20, Try.ntmps20
  go_upto_region 3 with (at_builtin; refine wpList_append_any rfl _ _ 31 rfl w3.heap.size 9 is (.string ⟨#[]⟩) 1 16 Try.underlying31 his hzs0 hzs1 hzs2 rfl (by decide) _ _ _ rfl HL0.out A cols.length c (cols.map strV) rfl HLN.out HN.out HNC.out HONS.out (by rw [List.length_nil]; omega) (by rw [List.length_nil]; omega) (Nat.le_refl _) ?_; intro v1 w4 hown hgrow; have hv1 : OwnC w4 w3.heap.size v1 cols := own1_of (a := []) hown; obtain ⟨A5, c5, rfl, _⟩ := hv1.form; have HV1 := Lib.hid hv1; have HB4 := Lib.hid (below_owns HL0.out hgrow (Nat.le_refl _)); have x0 := (HB4.out.cell (p := ⟨w2.heap.size, 0, none⟩) (HZ3.out.1)).trans x0; have y0 := (HB4.out.frozen (p := ⟨w2.heap.size, 0, none⟩) (HZ3.out.1)).trans y0; clear hown hgrow hv1)
  have HKX := Lib.hid (show w4.cell? ⟨w2.heap.size, 0, none⟩ = some (.slice none 0 0) ∧ w4.frozen? ⟨w2.heap.size, 0, none⟩ = false from ⟨x0, y0⟩)
  obtain ⟨w5, hw5⟩ : ∃ w5, w4.setCell ⟨w2.heap.size, 0, none⟩ (.slice A5 cols.length c5) = w5 := ⟨_, rfl⟩
  have HST5 : Hid (∃ vr acc, OwS w2.heap.size w3.heap.size A5 c5 cols vr acc w5 ∧ txR acc = (txR R).take 0 ∧ acc.length = 0) := by
    refine ⟨_, [], ⟨?_, ?_, ?_, ?_, ?_, ownR_nil _ _⟩, by simp [txR], rfl⟩
    · rw [← hw5, World.cell?_setCell_same _ _ _ HKX.out.1]
    · rw [← hw5, World.cell?_setCell_other _ _ _ _ (by intro h; injection h with _ h; omega)]
      exact (HB4.out.cell (p := ⟨w2.heap.size, 1, none⟩) HZ3.out.1).trans HX1.out.1
    · rw [← hw5]; simpa using HKX.out.2
    · rw [← hw5]; simpa using (HB4.out.frozen (p := ⟨w2.heap.size, 1, none⟩) HZ3.out.1).trans HX1.out.2.2
    · rw [← hw5]; exact owns_set HV1.out HZ3.out.1 _ _
  have HB5 : Hid (Below w2.heap.size w3 w5) := by show Below _ _ _; rw [← hw5]; exact (HB4.out.mono (Nat.le_of_lt HZ3.out.1)).setCell (p := ⟨w2.heap.size, 0, none⟩) (Nat.le_refl _) _
  rw [hw5]
  have a1 := (HB5.out.cell (p := ⟨w.heap.size, 1, none⟩) HZ3.out.2).trans HAA.out.2
  clear hw5 x0 y0 a0 hw1 hw2 hw3 HKX
  go_wp2
  go_loopg [5, 15] R.length (fun g _ x15 wr => ∃ j : Nat, x15 = .int .i64 j ∧ j + g = R.length ∧ OwL w2.heap.size w3 A5 c5 cols R j wr)
  case atStart =>
    obtain ⟨vr, acc, h1, h2, h3⟩ := HST5.out
    exact ⟨0, rfl, by omega, vr, acc, h3, h1, h2, HB5.out⟩
  case round =>
    obtain ⟨j, rfl, hj, vr, acc, hal, HO, HT, HB⟩ := hrel
    have HAL := Lib.hid hal
    have a1 := (HB.out.cell (p := ⟨w.heap.size, 1, none⟩) HZ3.out.2).trans HAA.out.2
    have HBW : Hid (Below w.heap.size w wr) := HB3.out.trans (HB.out.mono (Nat.le_of_lt HZ3.out.2))
    have HW3 : Hid (w3.heap.size ≤ wr.heap.size) := HB.out.size
    obtain ⟨A6, c6, rfl, _⟩ := HO.out.r.form
    clear hal
    cases gk with
    | zero =>
      have hji : ¬ (j : Int) < (R.length : Int) := by omega
      have x0 := HO.out.c0
      have x1 := HO.out.c1
      have HE : Hid (txR acc = txR R) := by
        have := HT.out
        rw [List.take_of_length_le (by rw [txR_len]; omega)] at this
        exact this
      have r0 := (HB.out.cell (p := ⟨w1.heap.size, 0, none⟩) HRC.out.2.1).trans HRC.out.1.1
      have r1 := (HB.out.cell (p := ⟨w1.heap.size, 1, none⟩) HRC.out.2.1).trans HRC.out.1.2.1
      have g0 := (HB.out.frozen (p := ⟨w1.heap.size, 0, none⟩) HRC.out.2.1).trans HRC.out.1.2.2.1
      have g1 := (HB.out.frozen (p := ⟨w1.heap.size, 1, none⟩) HRC.out.2.1).trans HRC.out.1.2.2.2
      have HC2 := Lib.hid (cells_two (v0 := .slice A5 cols.length c5) (v1 := .slice A6 acc.length c6) r0 r1)
      go_wp2
      refine bodyPost_ret (v := .agg #[.slice A5 cols.length c5, .slice A6 acc.length c6]) (by rw [results_c1 rfl]; obtain ⟨z0, z1⟩ := HC2.out; clear r0 r1 x0 x1; go_simp) rfl ?_
      have hlo : w1.heap.size < w3.heap.size := Nat.lt_trans HRC.out.2.1 HZ3.out.1
      have hlo2 : w.heap.size ≤ w3.heap.size := HB3.out.size
      refine ⟨_, _, acc, rfl, owns_low (owns_set (owns_set HO.out.c hlo _ _) hlo _ _) hlo2, ((HO.out.r.set hlo _ _).set hlo _ _).low hlo2, HE.out, (HBW.out.setCell (p := ⟨w1.heap.size, 0, none⟩) HRC.out.2.2 _).setCell (p := ⟨w1.heap.size, 1, none⟩) HRC.out.2.2 _⟩
    | succ g =>
      have hji : (j : Int) < (R.length : Int) := by omega
      have hjn : j < R.length := by omega
      obtain ⟨b, o, r, rfl, hb, hr, hp, hok⟩ := (HR.out.next HBW.out (Nat.le_refl _)).at_ hjn
      have hrl := HLL.out r (List.mem_of_getElem? hr)
      have HTK := Lib.hid (take_snocR hr)
      have HOK := Lib.hid hok
      have HNX := Lib.hid hok.s.news
      have HL0 : Hid (OwnV wr wr.heap.size (.slice none 0 0) []) := World.ownsRow_nil _ _ _ _
      have HX0 := HO.out
      have hlt2 : w2.heap.size < wr.heap.size := Nat.lt_of_lt_of_le HZ3.out.1 HW3.out
      have HLT2 := Lib.hid hlt2
      have HRN := Lib.hid hok.n
      have HRZ := Lib.hid hok.z
      clear hr hok HX0 hlt2
      have tok1 : True := trivial
      have tok2 : True := trivial
      go_wp2_with (first
        | (at_builtin; have _t := tok1; refine wpList_append_any rfl _ _ 46 rfl wr.heap.size 24 iv (.agg #[.int .i64 0, .int .i64 0, .string ⟨#[]⟩]) 3 32 Try.underlying46 hiv hzv0 hzv1 hzv2 rfl (by decide) _ _ _ rfl HL0.out r.A r.l.length r.c (r.l.flatMap cellsV) rfl (flatV_len _) HRN.out HNX.out (cellsV_all _) (by rw [List.length_nil]; omega) (by rw [List.length_nil]; omega) (Nat.le_refl _) ?_; intro v1 w6 hown hgrow; have hv1 : OwnV w6 wr.heap.size v1 r.l := ownV_of (a := []) hown; obtain ⟨A7, c7, rfl, _⟩ := hv1.form; have HV1 := Lib.hid hv1; have HB6 := Lib.hid (below_owns HL0.out hgrow (Nat.le_refl _)); have HO6 := Lib.hid (HO.out.next HB6.out HLT2.out); have HL6 : Hid (w2.heap.size < w6.heap.size) := Nat.lt_of_lt_of_le HLT2.out HB6.out.size; have x1 := HO6.out.c1; have HBA := Lib.hid ((Below.refl w6.heap.size w6).alloc (Nat.le_refl _) (.cells #[.slice A7 r.l.length c7] 46)); have HOA := Lib.hid (HO6.out.next HBA.out HL6.out); have HVA : Hid (OwnV (w6.alloc (.cells #[.slice A7 r.l.length c7] 46)) w3.heap.size (cellR ⟨A7, c7, r.l⟩) r.l) := (HV1.out.next HBA.out).low HW3.out; have HLC := Lib.hid (lit1 cellR 46 w6 ⟨A7, c7, r.l⟩); have HOX : Hid (World.ownsRow (w6.alloc (.cells #[.slice A7 r.l.length c7] 46)) w3.heap.size 46 1 (.slice A6 acc.length c6) acc.length (acc.map cellR)) := HOA.out.r.o; have HZA : Hid (w3.heap.size ≤ (w6.alloc (.cells #[.slice A7 r.l.length c7] 46)).heap.size) := Nat.le_trans HW3.out (Nat.le_trans HB6.out.size HBA.out.size); clear hown hgrow hv1 tok1)
        | (at_builtin; have _t := tok2; refine wpList_append_any rfl _ _ 32 rfl w3.heap.size 46 i0 (.slice none 0 0) 1 24 Try.underlying32 hi hz0 hz1 hz2 rfl (by decide) _ _ _ rfl HOX.out (some ⟨w6.heap.size, 0, none⟩) 1 1 ([(⟨A7, c7, r.l⟩ : Rw)].map cellR) rfl rfl (fun h => by cases h) HLC.out (HONE.out _) (by rw [HAL.out]; omega) (by rw [HAL.out]; omega) HZA.out ?_; intro v2 w7 hown hgrow; have hr7 : OwnR w7 w3.heap.size v2 (acc ++ [⟨A7, c7, r.l⟩]) := HOA.out.r.snoc HVA.out HRZ.out hown hgrow; have hb7 : Below w3.heap.size _ w7 := below_owns HOX.out hgrow HZA.out; obtain ⟨A8, c8, rfl, _⟩ := hr7.form; have HR7 := Lib.hid hr7; have HB7 := Lib.hid hb7; have HC7 : Hid (OwnC w7 w3.heap.size (.slice A5 cols.length c5) cols) := owns_other HOA.out.c HOX.out (by decide) hgrow; have x0 := (HB7.out.cell (p := ⟨w2.heap.size, 0, none⟩) HZ3.out.1).trans HOA.out.c0; have x1 := (HB7.out.cell (p := ⟨w2.heap.size, 1, none⟩) HZ3.out.1).trans HOA.out.c1; have y0 := (HB7.out.frozen (p := ⟨w2.heap.size, 0, none⟩) HZ3.out.1).trans HOA.out.f0; have y1 := (HB7.out.frozen (p := ⟨w2.heap.size, 1, none⟩) HZ3.out.1).trans HOA.out.f1; have HXY := Lib.hid (show _ ∧ _ ∧ _ ∧ _ from ⟨x0, x1, y0, y1⟩); have HBB := Lib.hid (((HB.out.trans (HB6.out.mono (Nat.le_of_lt HLT2.out))).trans (HBA.out.mono (Nat.le_of_lt HL6.out))).trans (HB7.out.mono (Nat.le_of_lt HZ3.out.1))); clear hown hgrow hr7 hb7 tok2))
      go_roundg g
      case measure => omega
      case rel =>
        have HR8 : Hid (OwnR w7 w3.heap.size (.slice A8 (acc.length + 1) c8) (acc ++ [⟨A7, c7, r.l⟩])) := by
          have h := HR7.out
          rw [List.length_append] at h
          exact h
        refine ⟨j + 1, by go_num, by omega, .slice A8 (acc.length + 1) c8, acc ++ [⟨A7, c7, r.l⟩], by rw [List.length_append, HAL.out]; rfl, ⟨?_, ?_, ?_, ?_, ?_, ?_⟩, ?_, HBB.out.setCell (p := ⟨w2.heap.size, 1, none⟩) (Nat.le_refl _) _⟩
        · rw [World.cell?_setCell_other _ _ _ _ (by intro h; injection h with _ h; omega)]; exact HXY.out.1
        · rw [World.cell?_setCell_same _ _ _ HXY.out.2.1]
        · simpa using HXY.out.2.2.1
        · simpa using HXY.out.2.2.2
        · exact owns_set HC7.out HZ3.out.1 _ _
        · exact HR8.out.set HZ3.out.1 _ _
        · show _ = _
          have h := HT.out
          unfold txR at h ⊢
          rw [List.map_append, h]
          exact HTK.out.symm
end Go.Proofs.Ytofmfainhflmmaa
