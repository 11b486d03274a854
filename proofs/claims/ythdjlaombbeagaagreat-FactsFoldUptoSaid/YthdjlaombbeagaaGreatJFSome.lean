import Derived.Test.YthdjlaombbeagaaGreatJFOrderL
import Derived.Test.YthdjlaombbeagaaGreatJFRun
import Derived.Test.YthdjlaombbeagaaGreatJFInstP
import Derived.BigQuiet
import Derived.Test.YthdjlaombbeagaaGreatJFAlike
import Derived.Test.YthdjlaombbeagaaGreatJDRefS
/-
  CONTRACTS: isMark, facts.Datoms, facts.Of (with no instant asked).
-/
namespace Go.Proofs.YthdjlaombbeagaaGreat
open Go.RowKit Go.Shelf

def markB (n : Int) : Bool := decide (0 ≤ n ∧ n ≤ 1099511627776)
set_option maxHeartbeats 400000 in
theorem isMark_any (n : Int) (w : World) : Calls Tryz.prog 28 #[.int .i64 n] w fun e w' => e = .returned (.bool (markB n)) ∧ w = w' := by
  by_cases h0 : 0 ≤ n
  · by_cases h1 : n ≤ 1099511627776
    · have e : Hid (markB n = true) := by show _ = _; unfold markB; simp [h0, h1]
      go_enter Tryz.func28, Tryz.ntmps28
      go_wp2
      go_ret
      exact ⟨by rw [e.out]; rfl, rfl⟩
    · have e : Hid (markB n = false) := by show _ = _; unfold markB; simp [h1]
      go_enter Tryz.func28, Tryz.ntmps28
      go_wp2
      go_ret
      exact ⟨by rw [e.out]; rfl, rfl⟩
  · have e : Hid (markB n = false) := by show _ = _; unfold markB; simp; omega
    have h0' : decide (0 ≤ n) = false := decide_eq_false h0
    go_enter Tryz.func28, Tryz.ntmps28
    go_wp2
    go_ret
    exact ⟨by rw [e.out]; rfl, rfl⟩
/-- a view has a datom -/
def seesB (a s : Int) (d : Dat) : Bool := decide (s < d.t) && (decide (a = 0) || decide (d.t ≤ a))
/-- a view in a box -/
def VwAt (W : World) (b : Nat) (a s v : Int) (at_ hist : Bool) : Prop := W.heap[b]? = some (.cells #[.int .i64 a, .int .i64 s, .int .i64 v, .bool at_, .bool hist] 24 (0, 0))
theorem VwAt.cell {W : World} {b : Nat} {a s v : Int} {at_ hist : Bool} (h : VwAt W b a s v at_ hist) (j : Nat) : W.cell? ⟨b, j, none⟩ = (#[Value.int .i64 a, .int .i64 s, .int .i64 v, .bool at_, .bool hist])[j]? := by unfold VwAt at h; simp [World.cell?, h]
theorem VwAt.k0 {W : World} {b : Nat} {a s v : Int} {at_ hist : Bool} (h : VwAt W b a s v at_ hist) : W.cell? ⟨b, 0, none⟩ = some (.int .i64 a) := h.cell 0
theorem VwAt.k1 {W : World} {b : Nat} {a s v : Int} {at_ hist : Bool} (h : VwAt W b a s v at_ hist) : W.cell? ⟨b, 1, none⟩ = some (.int .i64 s) := h.cell 1
theorem VwAt.k2 {W : World} {b : Nat} {a s v : Int} {at_ hist : Bool} (h : VwAt W b a s v at_ hist) : W.cell? ⟨b, 2, none⟩ = some (.int .i64 v) := h.cell 2
theorem VwAt.k3 {W : World} {b : Nat} {a s v : Int} {at_ hist : Bool} (h : VwAt W b a s v at_ hist) : W.cell? ⟨b, 3, none⟩ = some (.bool at_) := h.cell 3
theorem VwAt.k4 {W : World} {b : Nat} {a s v : Int} {at_ hist : Bool} (h : VwAt W b a s v at_ hist) : W.cell? ⟨b, 4, none⟩ = some (.bool hist) := h.cell 4
theorem VwAt.lt {W : World} {b : Nat} {a s v : Int} {at_ hist : Bool} (h : VwAt W b a s v at_ hist) : b < W.heap.size := (Array.getElem?_eq_some_iff.1 h).1
theorem VwAt.next {W W' : World} {b B : Nat} {a s v : Int} {at_ hist : Bool} (h : VwAt W b a s v at_ hist) (hb : Below B W W') (hB : b < B) : VwAt W' b a s v at_ hist := (hb.block b hB).trans h
/-- What facts.Datoms answers. -/
def DtsEnd (w : World) (a s : Int) (l : List Dat) (e : Ending) (w' : World) : Prop :=
  (∃ A c n ec, e = .returned (.tuple #[.slice A n c, .int .i64 ec]) ∧ ((markB a = true ∧ markB s = true ∧ ec = 0 ∧ n = (sortsD 1 (l.filter (seesB a s))).length ∧ SlD w' w'.heap.size A (sortsD 1 (l.filter (seesB a s)))) ∨ ((markB a && markB s) = false ∧ ec = 2 ∧ A = none ∧ n = 0 ∧ c = 0))) ∧ Below w.heap.size w w'
set_option maxRecDepth 100000 in
set_option maxHeartbeats 4000000 in
theorem datomsF_any (a s v : Int) (at_ hist : Bool) (A : Option Addr) (c : Nat) (l : List Dat) (w : World) (hs : SlD w w.heap.size A l) (hl : l.length ≤ 1000000) :
    Calls Tryz.prog 7 #[.slice A l.length c, .agg #[.int .i64 a, .int .i64 s, .int .i64 v, .bool at_, .bool hist]] w (DtsEnd w a s l) := by
  obtain ⟨i0, hi, hz0, hz1, hz2⟩ := info_parts infoD
  have hmx : 2000000000000 ≤ maxLen := by decide
  have HS := Lib.hid hs
  clear hs
  obtain ⟨w0, hw0⟩ : ∃ w0, w.alloc (.cells #[.int .i64 a, .int .i64 s, .int .i64 v, .bool at_, .bool hist] 24) = w0 := ⟨_, rfl⟩
  have HZ0 : Hid (w0.heap.size = w.heap.size + 1) := by rw [← hw0]; show _ = _; simp
  have HB0 : Hid (Below w.heap.size w w0) := by rw [← hw0]; exact (Below.refl _ _).alloc (Nat.le_refl _) _
  have HVW : Hid (VwAt w0 w.heap.size a s v at_ hist) := by rw [← hw0]; exact heap_alloc_new w _
  have k0 := HVW.out.k0
  have k1 := HVW.out.k1
  go_enter Tryz.func7, Tryz.ntmps7
  go_upto_region 1 with (fail)
  try rw [hw0]
  clear hw0
  go_wp2_with fail
  refine (isMark_any a _).mono ?_
  rintro e w' ⟨rfl, rfl⟩
  obtain ⟨ma, hma⟩ : ∃ m, markB a = m := ⟨_, rfl⟩
  rw [hma]
  have HMA := Lib.hid hma
  clear hma
  cases ma
  · go_wp2
    go_ret2
    exact ⟨⟨_, _, _, _, rfl, .inr ⟨by rw [HMA.out]; rfl, rfl, rfl, rfl, rfl⟩⟩, HB0.out⟩
  go_wp2_with fail
  refine (isMark_any s _).mono ?_
  rintro e w' ⟨rfl, rfl⟩
  obtain ⟨ms, hms⟩ : ∃ m, markB s = m := ⟨_, rfl⟩
  rw [hms]
  have HMS := Lib.hid hms
  clear hms
  cases ms
  · go_wp2
    go_ret2
    exact ⟨⟨_, _, _, _, rfl, .inr ⟨by rw [HMS.out]; simp, rfl, rfl, rfl, rfl⟩⟩, HB0.out⟩
  clear k0 k1
  go_wp2
  go_loopg [6, 8, 21] l.length (fun g x6 _ x21 wr => ∃ j : Nat, OwnD wr (w.heap.size + 1) x6 ((l.take j).filter (seesB a s)) ∧ x21 = .int .i64 j ∧ j + g = l.length ∧ Hid (Below (w.heap.size + 1) w0 wr) ∧ w.heap.size + 1 ≤ wr.heap.size)
  case atStart => exact ⟨0, World.ownsRow_nil _ _ _ _, rfl, by omega, Below.refl _ _, by have := HZ0.out; omega⟩
  case round =>
    obtain ⟨j, ho, rfl, hj, HB, hsz⟩ := hrel
    have hfl : ((l.take j).filter (seesB a s)).length ≤ j := Nat.le_trans (List.length_filter_le _ _) (List.length_take_le _ _)
    cases gk with
    | zero =>
      obtain rfl : j = l.length := by omega
      have hji : ¬ ((l.length : Int) < (l.length : Int)) := by omega
      rw [List.take_length] at ho hfl
      have HBW : Hid (Below w.heap.size w wr) := HB0.out.trans (HB.out.mono (Nat.le_succ _))
      obtain ⟨A1, c1, rfl, hs1, _, _, _, _⟩ := ho.form
      have HSD := Lib.hid (sortedD_any 1 A1 c1 (l.filter (seesB a s)) wr hs1 (by omega))
      clear ho hs1
      go_wp2_with fail
      refine HSD.out.mono ?_
      rintro e w2 ⟨A2, c2, rfl, h2, hb2⟩
      have HS2 := Lib.hid h2
      have HB2 := Lib.hid (HBW.out.trans (hb2.mono HBW.out.size))
      clear h2 hb2
      go_wp2
      go_ret2
      exact ⟨⟨_, _, _, _, rfl, .inl ⟨HMA.out, HMS.out, rfl, rfl, HS2.out⟩⟩, HB2.out⟩
    | succ g =>
      have hji : (j : Int) < (l.length : Int) := by omega
      have hjn : j < l.length := by omega
      have HBW : Hid (Below w.heap.size w wr) := HB0.out.trans (HB.out.mono (Nat.le_succ _))
      obtain ⟨b, q, rfl, hbl, hp⟩ := (HS.out.next HBW.out (Nat.le_refl _)).at_ hjn
      have hft := filter_take (seesB a s) hjn
      obtain ⟨x, hpe⟩ : ∃ p, l[j] = p := ⟨_, rfl⟩
      rw [hpe] at hp hft
      obtain ⟨L, hL⟩ : ∃ L, (l.take j).filter (seesB a s) = L := ⟨_, rfl⟩
      rw [hL] at ho hfl hft
      obtain ⟨A1, c1, rfl, _, _, _, _, _⟩ := ho.form
      have HO := Lib.hid ho
      have HFT := Lib.hid hft
      have m0 := hp.c0
      have m1 := hp.c1
      have m2 := hp.c2
      have m3 := hp.c3
      have m4 := hp.c4
      have m5 := hp.c5
      have m6 := hp.c6
      have m7 := hp.c7
      have m8 := hp.c8
      have HD : Hid (DatAt (wr.alloc (.cells #[.int .i64 x.e, .int .i64 x.a, .int .i64 x.k, .int .i64 x.m, .string x.s, .int .i64 x.t, .bool x.add, .int .i64 x.fr, .int .i64 x.til] 44)) wr.heap.size x) := datAt_new wr x
      have HBZ : Hid (Below wr.heap.size wr (wr.alloc (.cells #[.int .i64 x.e, .int .i64 x.a, .int .i64 x.k, .int .i64 x.m, .string x.s, .int .i64 x.t, .bool x.add, .int .i64 x.fr, .int .i64 x.til] 44))) := (Below.refl wr.heap.size wr).alloc (Nat.le_refl _) _
      have HVR := Lib.hid (HVW.out.next HB.out (Nat.lt_succ_self _))
      clear ho hft hL hp hpe
      go_upto_region 7 with (fail)
      obtain ⟨wz, hwz⟩ : ∃ wz, (wr.alloc (.cells #[.int .i64 x.e, .int .i64 x.a, .int .i64 x.k, .int .i64 x.m, .string x.s, .int .i64 x.t, .bool x.add, .int .i64 x.fr, .int .i64 x.til] 44)) = wz := ⟨_, rfl⟩
      rw [hwz] at HD HBZ ⊢
      clear hwz m0 m1 m2 m3 m4 m5 m6 m7 m8
      have hvz := HVR.out.next HBZ.out HVR.out.lt
      have k0 := hvz.k0
      have k1 := hvz.k1
      have HO1 := Lib.hid (HO.out.next HBZ.out)
      have HB1 := Lib.hid (HB.out.trans (HBZ.out.mono hsz))
      have HS2 : Hid (w.heap.size + 1 ≤ wz.heap.size) := Nat.le_trans hsz HBZ.out.size
      have z0 := HD.out.c0
      have z1 := HD.out.c1
      have z2 := HD.out.c2
      have z3 := HD.out.c3
      have z4 := HD.out.c4
      have z5 := HD.out.c5
      have z6 := HD.out.c6
      have z7 := HD.out.c7
      have z8 := HD.out.c8
      have HOA : Hid (OwnD (wz.alloc (.cells #[.int .i64 x.e, .int .i64 x.a, .int .i64 x.k, .int .i64 x.m, .string x.s, .int .i64 x.t, .bool x.add, .int .i64 x.fr, .int .i64 x.til] 44)) (w.heap.size + 1) (.slice A1 L.length c1) L) := World.ownsRow.alloc HO1.out _
      have HBA := Lib.hid (HB1.out.alloc HS2.out (.cells #[.int .i64 x.e, .int .i64 x.a, .int .i64 x.k, .int .i64 x.m, .string x.s, .int .i64 x.t, .bool x.add, .int .i64 x.fr, .int .i64 x.til] 44))
      have HLC := Lib.hid (litD wz x)
      have hbs : (w.heap.size + 1 ≤ (wz.alloc (.cells #[.int .i64 x.e, .int .i64 x.a, .int .i64 x.k, .int .i64 x.m, .string x.s, .int .i64 x.t, .bool x.add, .int .i64 x.fr, .int .i64 x.til] 44)).heap.size) := by simp; have := HS2.out; omega
      have HBS := Lib.hid hbs
      clear hbs hvz
      by_cases g1 : s < x.t
      · have e1 : decide (s < x.t) = true := decide_eq_true g1
        by_cases g2 : a = 0
        · have HF : Hid ((l.take (j + 1)).filter (seesB a s) = L ++ [x]) := by show _ = _; rw [HFT.out]; unfold seesB; simp [g1, g2]
          subst g2
          go_wp2_with (at_builtin; refine wpList_append_any rfl _ _ 22 rfl (w.heap.size + 1) 44 i0 (.agg #[.int .i64 0, .int .i64 0, .int .i64 0, .int .i64 0, .string ⟨#[]⟩, .int .i64 0, .bool false, .int .i64 0, .int .i64 0]) 9 80 Tryz.underlying22 hi hz0 hz1 hz2 rfl (by decide) _ _ _ rfl HOA.out (some ⟨wz.heap.size, 0, none⟩) 1 1 ([x].flatMap cellsD) rfl rfl (fun h => by cases h) HLC.out (cellsD_all _) (by omega) (by omega) HBS.out ?_; intro v1 w3 hown hgrow; have HV1 : Hid (OwnD w3 (w.heap.size + 1) v1 (L ++ [x])) := ownD_of hown; have HB3 := Lib.hid (HBA.out.trans (below_ownD HOA.out hgrow HBS.out)); have HS3 : Hid (w.heap.size + 1 ≤ w3.heap.size) := (by have := HB3.out.size; have := HZ0.out; show _ ≤ _; omega); clear hown hgrow z0 z1 z2 z3 z4 z5 z6 z7 z8 k0 k1)
          go_roundg g
          case measure => omega
          case rel => exact ⟨j + 1, by rw [HF.out]; exact HV1.out, by go_num, by omega, HB3.out, HS3.out⟩
        · have e2 : (a == 0) = false := by rw [beq_eq_false_iff_ne]; exact g2
          by_cases g3 : x.t ≤ a
          · have e3 : decide (x.t ≤ a) = true := decide_eq_true g3
            have HF : Hid ((l.take (j + 1)).filter (seesB a s) = L ++ [x]) := by show _ = _; rw [HFT.out]; unfold seesB; simp [g1, g3]
            clear g1 g2 g3
            go_wp2_with (at_builtin; refine wpList_append_any rfl _ _ 22 rfl (w.heap.size + 1) 44 i0 (.agg #[.int .i64 0, .int .i64 0, .int .i64 0, .int .i64 0, .string ⟨#[]⟩, .int .i64 0, .bool false, .int .i64 0, .int .i64 0]) 9 80 Tryz.underlying22 hi hz0 hz1 hz2 rfl (by decide) _ _ _ rfl HOA.out (some ⟨wz.heap.size, 0, none⟩) 1 1 ([x].flatMap cellsD) rfl rfl (fun h => by cases h) HLC.out (cellsD_all _) (by omega) (by omega) HBS.out ?_; intro v1 w3 hown hgrow; have HV1 : Hid (OwnD w3 (w.heap.size + 1) v1 (L ++ [x])) := ownD_of hown; have HB3 := Lib.hid (HBA.out.trans (below_ownD HOA.out hgrow HBS.out)); have HS3 : Hid (w.heap.size + 1 ≤ w3.heap.size) := (by have := HB3.out.size; have := HZ0.out; show _ ≤ _; omega); clear hown hgrow z0 z1 z2 z3 z4 z5 z6 z7 z8 k0 k1)
            go_roundg g
            case measure => omega
            case rel => exact ⟨j + 1, by rw [HF.out]; exact HV1.out, by go_num, by omega, HB3.out, HS3.out⟩
          · have e3 : decide (x.t ≤ a) = false := decide_eq_false g3
            have HF : Hid ((l.take (j + 1)).filter (seesB a s) = L) := by show _ = _; rw [HFT.out]; unfold seesB; simp [g2, g3]
            clear g1 g2 g3
            go_wp2
            go_roundg g
            case measure => omega
            case rel => exact ⟨j + 1, by rw [HF.out]; exact HO1.out, by go_num, by omega, HB1.out, HS2.out⟩
      · have e1 : decide (s < x.t) = false := decide_eq_false g1
        have HF : Hid ((l.take (j + 1)).filter (seesB a s) = L) := by show _ = _; rw [HFT.out]; unfold seesB; simp [g1]
        clear g1
        go_wp2
        go_roundg g
        case measure => omega
        case rel => exact ⟨j + 1, by rw [HF.out]; exact HO1.out, by go_num, by omega, HB1.out, HS2.out⟩

/-- what Of answers of a view that asks no instant -/
def OfU (l : List Dat) (a s : Int) (W : World) (v : Value) (ec : Int) : Prop := (markB a = true ∧ markB s = true ∧ FoldU (l.filter (seesB a s)) W v ec) ∨ ((markB a && markB s) = false ∧ ec = 2 ∧ v = .slice none 0 0)
set_option maxRecDepth 100000 in
set_option maxHeartbeats 2000000 in
theorem of_any (a s v : Int) (A : Option Addr) (c : Nat) (l : List Dat) (w : World) (hs : SlD w w.heap.size A l) (hl : l.length ≤ 5000) (hz : ∀ d ∈ l, d.s.size ≤ maxLen) (hk : ∀ d ∈ l, SpOk (spD d)) (hfew : (l.filter (seesB a s)).length ≤ 3000 ∨ notMay (l.filter (seesB a s)) = true) :
    Calls Tryz.prog 9 #[.slice A l.length c, .agg #[.int .i64 a, .int .i64 s, .int .i64 v, .bool false, .bool false]] w fun e w' => ∃ u ec, e = .returned (.tuple #[u, .int .i64 ec]) ∧ OfU l a s w' u ec ∧ Below w.heap.size w w' := by
  obtain ⟨w0, hw0⟩ : ∃ w0, w.alloc (.cells #[.int .i64 a, .int .i64 s, .int .i64 v, .bool false, .bool false] 24) = w0 := ⟨_, rfl⟩
  have hb0 : Below w.heap.size w w0 := by rw [← hw0]; exact (Below.refl _ _).alloc (Nat.le_refl _) _
  have HB0 := Lib.hid hb0
  have HVW : Hid (VwAt w0 w.heap.size a s v false false) := by rw [← hw0]; exact heap_alloc_new w _
  have HDT := Lib.hid (datomsF_any a s v false false A c l w0 ((hs.next hb0 (Nat.le_refl _)).more hb0.size) (by omega))
  have HZ := Lib.hid hz
  have HK := Lib.hid hk
  have HW := Lib.hid hfew
  have k0 := HVW.out.k0
  have k1 := HVW.out.k1
  have k2 := HVW.out.k2
  have k3 := HVW.out.k3
  have k4 := HVW.out.k4
  clear hs hz hk hfew hb0
  go_enter Tryz.func9, Tryz.ntmps9
  go_upto_region 1 with (fail)
  try rw [hw0]
  clear hw0
  go_wp2_with fail
  refine HDT.out.mono ?_
  rintro e w1 ⟨⟨A1, c1, n1, ec1, rfl, ⟨hma, hms, rfl, rfl, h1⟩ | ⟨hno, rfl, rfl, rfl, rfl⟩⟩, hb1⟩
  · have HM := Lib.hid (And.intro hma hms)
    have HB1 := Lib.hid (HB0.out.trans (hb1.mono HB0.out.size))
    have hvz := HVW.out.next hb1 HVW.out.lt
    have HBX := Lib.hid hb1.size
    have HS1 := Lib.hid h1
    obtain ⟨S, hS⟩ : ∃ S, sortsD 1 (l.filter (seesB a s)) = S := ⟨_, rfl⟩
    have hmem : ∀ x, x ∈ S ↔ x ∈ l.filter (seesB a s) := fun x => by rw [← hS]; exact (sorts_ups _).2 x
    have hml : ∀ x ∈ S, x ∈ l := fun x hx => (List.mem_filter.1 ((hmem x).1 hx)).1
    have hfs := sorts_few (l.filter (seesB a s))
    have hfl := List.length_filter_le (seesB a s) l
    have hSS : (sortsD 1 S).length ≤ S.length := sorts_few S
    have HFU := Lib.hid (fold_u A1 c1 S w1 (by rw [← hS]; exact h1) (by rw [← hS]; omega) (fun d hd => HZ.out d (hml d hd)) (fun d hd => HK.out d (hml d hd)) (fun h => by
      rw [hS] at hfs
      rcases HW.out with h2 | h2
      · exact ⟨by omega, by omega⟩
      · rw [same_may hmem, h2] at h; cases h))
    have HME := Lib.hid hmem
    rw [hS] at HS1
    rw [hS]
    have k3' := hvz.k3
    clear h1 hma hms hb1 hvz hS hmem hml hfs hfl hSS k0 k1 k2 k3 k4
    go_wp2_with fail
    refine HFU.out.mono ?_
    rintro e w2 ⟨u, ec, rfl, hfu, hb2⟩
    have HB2 := Lib.hid (HB1.out.trans (hb2.mono HB1.out.size))
    have k3 := (hb2.cell (p := ⟨w.heap.size, 3, none⟩) (Nat.lt_of_lt_of_le HVW.out.lt (Nat.le_trans (Nat.le_refl _) (by have h1 := HVW.out.lt; have h2 := HB0.out.size; have h3 := HBX.out; omega)))).trans k3'
    have HU : Hid (FoldU (l.filter (seesB a s)) w2 u ec) := by
      have := hfu
      unfold FoldU at this ⊢
      rwa [same_may HME.out, same_sorts HME.out] at this
    clear hb2 k3' HFU
    rcases hfu with ⟨rfl, rfl, _⟩ | ⟨rfl, _, _, fs, _, ⟨A5, c5, rfl, _⟩, _⟩
    · go_wp2
      go_ret2
      exact ⟨_, _, rfl, .inl ⟨HM.out.1, HM.out.2, HU.out⟩, HB2.out⟩
    · go_wp2
      go_ret2
      exact ⟨_, _, rfl, .inl ⟨HM.out.1, HM.out.2, HU.out⟩, HB2.out⟩
  · have HN := Lib.hid hno
    have HB1 := Lib.hid (HB0.out.trans (hb1.mono HB0.out.size))
    clear hb1 hno
    go_wp2
    go_ret2
    exact ⟨_, _, rfl, .inr ⟨HN.out, rfl, rfl⟩, HB1.out⟩
end Go.Proofs.YthdjlaombbeagaaGreat

/-
  CONTRACT: the document's some (layer 6): a view's datoms, in order.
-/
namespace Go.Proofs.YthdjlaombbeagaaGreat
open Go.RowKit

theorem take_filter {p : Dat → Bool} {l : List Dat} {j : Nat} {x : Dat} (hp : l[j]? = some x) : (l.take (j + 1)).filter p = (l.take j).filter p ++ (if p x then [x] else []) := by
  rw [List.take_add_one, hp, List.filter_append]
  congr 1
  show List.filter p [x] = _
  rw [List.filter_cons]
  split <;> rfl
theorem ownD_step {w3 : World} {B m : Nat} {M : List Dat} {x : Dat} {v' : Value} (hm : M.length = m) (hown : w3.ownsRow B 44 9 v' (m + 1) (M.flatMap cellsD ++ cellsD x)) : OwnD w3 B v' (M ++ [x]) := by
  subst hm
  have : w3.ownsRow B 44 9 v' (M.length + 1) (M.flatMap cellsD ++ [x].flatMap cellsD) := by simpa using hown
  exact ownD_of this
set_option maxRecDepth 100000 in
set_option maxHeartbeats 4000000 in
theorem some_any (a s v : Int) (at_ hist : Bool) (A : Option Addr) (c : Nat) (l : List Dat) (w : World) (hs : SlD w w.heap.size A l) (hl : l.length ≤ 1000000) (hsz : ∀ d ∈ l, d.s.size ≤ maxLen) :
    Calls Tryz.prog 30 #[.slice A l.length c, .agg #[.int .i64 a, .int .i64 s, .int .i64 v, .bool at_, .bool hist]] w fun e w' => ∃ v', e = .returned v' ∧ OwnD w' w.heap.size v' (putsG (ordD 1) ((l.filter (seesB a s)).filter (hasD 1))) ∧ Below w.heap.size w w' := by
  obtain ⟨i0, hi, hz0, hz1, hz2⟩ := info_parts infoD
  obtain ⟨w1, hw1⟩ : ∃ X, w.alloc (.cells #[.int .i64 a, .int .i64 s, .int .i64 v, .bool at_, .bool hist] 24) = X := ⟨_, rfl⟩
  have HB1 : Hid (Below w.heap.size w w1) := by show Below _ _ _; rw [← hw1]; exact (Below.refl _ _).alloc (Nat.le_refl _) _
  have hx : w1.heap[w.heap.size]? = some (.cells #[.int .i64 a, .int .i64 s, .int .i64 v, .bool at_, .bool hist] 24 (0, 0)) := by rw [← hw1]; exact heap_alloc_new w _
  have HVC : Hid (∀ X, Below w1.heap.size w1 X → X.cell? ⟨w.heap.size, 0, none⟩ = some (.int .i64 a) ∧ X.cell? ⟨w.heap.size, 1, none⟩ = some (.int .i64 s)) := fun X hX => by
    have hlt := (Array.getElem?_eq_some_iff.1 hx).1
    rw [hX.cell (p := ⟨w.heap.size, 0, none⟩) hlt, hX.cell (p := ⟨w.heap.size, 1, none⟩) hlt]
    constructor <;> simp [World.cell?, hx]
  have HS := Lib.hid hs
  have HSZ := Lib.hid hsz
  clear hs hx hsz
  go_enter Tryz.func30, Tryz.ntmps30
  go_wp2_with fail
  try rw [hw1]
  clear hw1
  go_loopg [5, 6] l.length (fun gk y z wr => ∃ (j m co : Nat) (Ao : Option Addr) (M : List Dat), z = .int .i64 (j : Nat) ∧ y = .slice Ao m co ∧ j + gk = l.length ∧ Hid (M = (l.take j).filter (seesB a s)) ∧ Hid (M.length = m) ∧ Hid (OwnD wr w1.heap.size (.slice Ao m co) M) ∧ Hid (Below w1.heap.size w1 wr))
  case atStart => exact ⟨0, 0, 0, none, [], rfl, rfl, by omega, rfl, rfl, World.ownsRow_nil _ _ _ _, Below.refl _ _⟩
  case round =>
    obtain ⟨j, m, co, Ao, M, rfl, rfl, hj, HM, HML, HO, HB⟩ := hrel
    cases gk with
    | zero =>
      have hjz : ¬ ((j : Int) < (l.length : Int)) := by omega
      have hjz' : decide ((j : Int) < (l.length : Int)) = false := decide_eq_false hjz
      have hMl : M = l.filter (seesB a s) := by rw [HM.out, List.take_of_length_le (by omega)]
      have hMn : M.length ≤ 1000000 := by rw [hMl]; exact Nat.le_trans (List.length_filter_le _ _) hl
      obtain ⟨A2, c2, e2, hsl, _⟩ := HO.out.form
      rw [HML.out] at e2
      injection e2 with e3 e4 e5
      subst e3
      have HSO := Lib.hid (refSortD_yes 1 rfl Ao co M wr hsl (by omega) (fun x hx => HSZ.out x (by rw [hMl] at hx; exact (List.mem_filter.1 hx).1)))
      rw [HML.out] at HSO
      have HMM := Lib.hid hMl
      clear hMl hMn hsl e4 e5
      go_wp2_with fail
      refine HSO.out.mono ?_
      rintro e w5 ⟨v5, rfl, ho5, hb5⟩
      have HF : Hid (OwnD w5 w.heap.size v5 (putsG (ordD 1) ((l.filter (seesB a s)).filter (hasD 1))) ∧ Below w.heap.size w w5) := by
        have hbw := HB1.out.trans (HB.out.mono HB1.out.size)
        rw [← HMM.out]
        exact ⟨ho5.low hbw.size, hbw.trans (hb5.mono hbw.size)⟩
      obtain ⟨A9, c9, e9, _⟩ := ho5.form
      subst e9
      clear ho5 hb5
      go_wp2
      go_ret
      exact ⟨_, rfl, HF.out⟩
    | succ gk =>
      have hjz : ((j : Int) < (l.length : Int)) := by omega
      have hjz' : decide ((j : Int) < (l.length : Int)) = true := decide_eq_true hjz
      have hj0 : (0 : Int) ≤ (j : Int) := by omega
      have hjn : j < l.length := by omega
      obtain ⟨ob, oo, rfl, hob, hat⟩ := HS.out.at_ hjn
      obtain ⟨x, hx⟩ : ∃ x, l[j] = x := ⟨_, rfl⟩
      have hp : l[j]? = some x := by rw [List.getElem?_eq_getElem hjn, hx]
      rw [hx] at hat
      have hq := hat.next (HB1.out.trans (HB.out.mono HB1.out.size)) hob
      have q0 := hq.c0
      have q1 := hq.c1
      have q2 := hq.c2
      have q3 := hq.c3
      have q4 := hq.c4
      have q5 := hq.c5
      have q6 := hq.c6
      have q7 := hq.c7
      have q8 := hq.c8
      have p0 := (HVC.out wr HB.out).1
      have p1 := (HVC.out wr HB.out).2
      have HTK := Lib.hid (take_filter (p := seesB a s) hp)
      rw [← HM.out] at HTK
      have HLN : Hid (m ≤ 1000000) := by show _ ≤ _; rw [← HML.out, HM.out]; have := List.length_filter_le (seesB a s) (l.take j); rw [List.length_take] at this; omega
      clear hat hob hx hp hq
      have NO : seesB a s x = false → Hid (M = (l.take (j + 1)).filter (seesB a s)) := fun h => by
        show _ = _
        rw [HTK.out, h]
        simp
      have YES : seesB a s x = true → Hid (M ++ [x] = (l.take (j + 1)).filter (seesB a s)) := fun h => by
        show _ = _
        rw [HTK.out, h]
        rfl
      have HNO := Lib.hid NO
      have HYES := Lib.hid YES
      clear NO YES
      by_cases g1 : s < x.t
      · have g1' : decide (s < x.t) = true := decide_eq_true g1
        by_cases g2 : a = 0
        · have g2' : (a == 0) = true := beq_iff_eq.2 g2
          have HE := HYES.out (by unfold seesB; rw [g1', decide_eq_true g2]; rfl)
          clear g1 g2 HNO HYES
          go_wp2_with fail
          go_quiet (fail)
          have hor := HO.out.next (qd_dn (Below.refl wr.heap.size wr) nq)
          have hbr := qd_dn HB.out nq
          obtain ⟨wq, hwq⟩ : ∃ X, wr.drewN nq = X := ⟨_, rfl⟩
          have r0 : wq.cell? ⟨ob, oo + j * 9, none⟩ = some (.int .i64 x.e) := by rw [← hwq]; exact q0
          have r1 : wq.cell? ⟨ob, oo + j * 9 + 1, none⟩ = some (.int .i64 x.a) := by rw [← hwq]; exact q1
          have r2 : wq.cell? ⟨ob, oo + j * 9 + 2, none⟩ = some (.int .i64 x.k) := by rw [← hwq]; exact q2
          have r3 : wq.cell? ⟨ob, oo + j * 9 + 3, none⟩ = some (.int .i64 x.m) := by rw [← hwq]; exact q3
          have r4 : wq.cell? ⟨ob, oo + j * 9 + 4, none⟩ = some (.string x.s) := by rw [← hwq]; exact q4
          have r5 : wq.cell? ⟨ob, oo + j * 9 + 5, none⟩ = some (.int .i64 x.t) := by rw [← hwq]; exact q5
          have r6 : wq.cell? ⟨ob, oo + j * 9 + 6, none⟩ = some (.bool x.add) := by rw [← hwq]; exact q6
          have r7 : wq.cell? ⟨ob, oo + j * 9 + 7, none⟩ = some (.int .i64 x.fr) := by rw [← hwq]; exact q7
          have r8 : wq.cell? ⟨ob, oo + j * 9 + 8, none⟩ = some (.int .i64 x.til) := by rw [← hwq]; exact q8
          rw [hwq] at hor hbr
          have HBQ := Lib.hid hbr
          have hoa : (wq.alloc (.cells #[.int .i64 x.e, .int .i64 x.a, .int .i64 x.k, .int .i64 x.m, .string x.s, .int .i64 x.t, .bool x.add, .int .i64 x.fr, .int .i64 x.til] 44)).ownsRow w1.heap.size 44 9 (.slice Ao m co) m (M.flatMap cellsD) := by
            have h9 := World.ownsRow.alloc (show wq.ownsRow w1.heap.size 44 9 (.slice Ao m co) M.length (M.flatMap cellsD) from hor) (.cells #[.int .i64 x.e, .int .i64 x.a, .int .i64 x.k, .int .i64 x.m, .string x.s, .int .i64 x.t, .bool x.add, .int .i64 x.fr, .int .i64 x.til] 44)
            rw [HML.out] at h9
            exact h9
          have HOA := Lib.hid hoa
          have HBS : Hid (w1.heap.size ≤ (wq.alloc (.cells #[.int .i64 x.e, .int .i64 x.a, .int .i64 x.k, .int .i64 x.m, .string x.s, .int .i64 x.t, .bool x.add, .int .i64 x.fr, .int .i64 x.til] 44)).heap.size) := by show _ ≤ _; have := hbr.size; simp; omega
          have HBN1 : Hid (m + 1 ≤ maxLen) := by show _ ≤ _; have := HLN.out; have : 2000000 ≤ maxLen := (by decide); omega
          have HBN2 : Hid ((m + 1) * 80 ≤ 140737488355328) := by show _ ≤ _; have := HLN.out; omega
          clear hoa hor hbr q0 q1 q2 q3 q4 q5 q6 q7 q8 p0 p1
          rw [hwq]
          clear hwq
          go_wp2_with (at_builtin; refine wpList_append_own _ rfl _ _ 22 rfl w1.heap.size 44 i0 (.agg #[.int .i64 0, .int .i64 0, .int .i64 0, .int .i64 0, .string ⟨#[]⟩, .int .i64 0, .bool false, .int .i64 0, .int .i64 0]) 9 80 Tryz.underlying22 hi hz0 hz1 hz2 rfl (by decide) _ _ _ rfl HOA.out ⟨wq.heap.size, 0, none⟩ 1 1 (cellsD x) rfl rfl (fun j u h => cell_lit wq #[.int .i64 x.e, .int .i64 x.a, .int .i64 x.k, .int .i64 x.m, .string x.s, .int .i64 x.t, .bool x.add, .int .i64 x.fr, .int .i64 x.til] 44 j u h) (cellsD_one _) HBN1.out HBN2.out HBS.out ?_; intro v3 w3 hown hgrow _; have HO3 := Lib.hid (ownD_step HML.out hown); have HB3 := Lib.hid ((HBQ.out.trans (((Below.refl wq.heap.size wq).alloc (Nat.le_refl _) (.cells #[.int .i64 x.e, .int .i64 x.a, .int .i64 x.k, .int .i64 x.m, .string x.s, .int .i64 x.t, .bool x.add, .int .i64 x.fr, .int .i64 x.til] 44)).mono HBQ.out.size)).grown hgrow HBS.out (fun k hk => (World.ownsRow.lt HOA.out k hk).1)); obtain ⟨A9, c9, hv9⟩ : ∃ A9 c9, v3 = .slice A9 (m + 1) c9 := (by obtain ⟨A9, c9, e9, _⟩ := HO3.out.form; rw [List.length_append, HML.out] at e9; exact ⟨A9, c9, e9⟩); subst hv9; clear hown hgrow)
          have HML9 : Hid ((M ++ [x]).length = m + 1) := by show _ = _; rw [List.length_append, HML.out]; rfl
          go_roundg gk
          case measure => omega
          case rel => exact ⟨j + 1, m + 1, c9, A9, M ++ [x], by go_num, rfl, by omega, HE.out, HML9.out, HO3.out, HB3.out⟩
        · have g2' : (a == 0) = false := beq_eq_false_iff_ne.2 g2
          by_cases g3 : x.t ≤ a
          · have g3' : decide (x.t ≤ a) = true := decide_eq_true g3
            have HE := HYES.out (by unfold seesB; rw [g1', decide_eq_false g2, g3']; rfl)
            clear g1 g2 g3 HNO HYES
            go_wp2_with fail
            go_quiet (fail)
            have hor := HO.out.next (qd_dn (Below.refl wr.heap.size wr) nq)
            have hbr := qd_dn HB.out nq
            obtain ⟨wq, hwq⟩ : ∃ X, wr.drewN nq = X := ⟨_, rfl⟩
            have r0 : wq.cell? ⟨ob, oo + j * 9, none⟩ = some (.int .i64 x.e) := by rw [← hwq]; exact q0
            have r1 : wq.cell? ⟨ob, oo + j * 9 + 1, none⟩ = some (.int .i64 x.a) := by rw [← hwq]; exact q1
            have r2 : wq.cell? ⟨ob, oo + j * 9 + 2, none⟩ = some (.int .i64 x.k) := by rw [← hwq]; exact q2
            have r3 : wq.cell? ⟨ob, oo + j * 9 + 3, none⟩ = some (.int .i64 x.m) := by rw [← hwq]; exact q3
            have r4 : wq.cell? ⟨ob, oo + j * 9 + 4, none⟩ = some (.string x.s) := by rw [← hwq]; exact q4
            have r5 : wq.cell? ⟨ob, oo + j * 9 + 5, none⟩ = some (.int .i64 x.t) := by rw [← hwq]; exact q5
            have r6 : wq.cell? ⟨ob, oo + j * 9 + 6, none⟩ = some (.bool x.add) := by rw [← hwq]; exact q6
            have r7 : wq.cell? ⟨ob, oo + j * 9 + 7, none⟩ = some (.int .i64 x.fr) := by rw [← hwq]; exact q7
            have r8 : wq.cell? ⟨ob, oo + j * 9 + 8, none⟩ = some (.int .i64 x.til) := by rw [← hwq]; exact q8
            rw [hwq] at hor hbr
            have HBQ := Lib.hid hbr
            have hoa : (wq.alloc (.cells #[.int .i64 x.e, .int .i64 x.a, .int .i64 x.k, .int .i64 x.m, .string x.s, .int .i64 x.t, .bool x.add, .int .i64 x.fr, .int .i64 x.til] 44)).ownsRow w1.heap.size 44 9 (.slice Ao m co) m (M.flatMap cellsD) := by
              have h9 := World.ownsRow.alloc (show wq.ownsRow w1.heap.size 44 9 (.slice Ao m co) M.length (M.flatMap cellsD) from hor) (.cells #[.int .i64 x.e, .int .i64 x.a, .int .i64 x.k, .int .i64 x.m, .string x.s, .int .i64 x.t, .bool x.add, .int .i64 x.fr, .int .i64 x.til] 44)
              rw [HML.out] at h9
              exact h9
            have HOA := Lib.hid hoa
            have HBS : Hid (w1.heap.size ≤ (wq.alloc (.cells #[.int .i64 x.e, .int .i64 x.a, .int .i64 x.k, .int .i64 x.m, .string x.s, .int .i64 x.t, .bool x.add, .int .i64 x.fr, .int .i64 x.til] 44)).heap.size) := by show _ ≤ _; have := hbr.size; simp; omega
            have HBN1 : Hid (m + 1 ≤ maxLen) := by show _ ≤ _; have := HLN.out; have : 2000000 ≤ maxLen := (by decide); omega
            have HBN2 : Hid ((m + 1) * 80 ≤ 140737488355328) := by show _ ≤ _; have := HLN.out; omega
            clear hoa hor hbr q0 q1 q2 q3 q4 q5 q6 q7 q8 p0 p1
            rw [hwq]
            clear hwq
            go_wp2_with (at_builtin; refine wpList_append_own _ rfl _ _ 22 rfl w1.heap.size 44 i0 (.agg #[.int .i64 0, .int .i64 0, .int .i64 0, .int .i64 0, .string ⟨#[]⟩, .int .i64 0, .bool false, .int .i64 0, .int .i64 0]) 9 80 Tryz.underlying22 hi hz0 hz1 hz2 rfl (by decide) _ _ _ rfl HOA.out ⟨wq.heap.size, 0, none⟩ 1 1 (cellsD x) rfl rfl (fun j u h => cell_lit wq #[.int .i64 x.e, .int .i64 x.a, .int .i64 x.k, .int .i64 x.m, .string x.s, .int .i64 x.t, .bool x.add, .int .i64 x.fr, .int .i64 x.til] 44 j u h) (cellsD_one _) HBN1.out HBN2.out HBS.out ?_; intro v3 w3 hown hgrow _; have HO3 := Lib.hid (ownD_step HML.out hown); have HB3 := Lib.hid ((HBQ.out.trans (((Below.refl wq.heap.size wq).alloc (Nat.le_refl _) (.cells #[.int .i64 x.e, .int .i64 x.a, .int .i64 x.k, .int .i64 x.m, .string x.s, .int .i64 x.t, .bool x.add, .int .i64 x.fr, .int .i64 x.til] 44)).mono HBQ.out.size)).grown hgrow HBS.out (fun k hk => (World.ownsRow.lt HOA.out k hk).1)); obtain ⟨A9, c9, hv9⟩ : ∃ A9 c9, v3 = .slice A9 (m + 1) c9 := (by obtain ⟨A9, c9, e9, _⟩ := HO3.out.form; rw [List.length_append, HML.out] at e9; exact ⟨A9, c9, e9⟩); subst hv9; clear hown hgrow)
            have HML9 : Hid ((M ++ [x]).length = m + 1) := by show _ = _; rw [List.length_append, HML.out]; rfl
            go_roundg gk
            case measure => omega
            case rel => exact ⟨j + 1, m + 1, c9, A9, M ++ [x], by go_num, rfl, by omega, HE.out, HML9.out, HO3.out, HB3.out⟩
          · have g3' : decide (x.t ≤ a) = false := decide_eq_false g3
            have HE := HNO.out (by unfold seesB; rw [g1', decide_eq_false g2, g3']; rfl)
            clear g1 g2 g3 HNO HYES
            go_wp2_with fail
            go_quiet (fail)
            have HOR := Lib.hid (HO.out.next (qd_dn (Below.refl wr.heap.size wr) nq))
            have HBR := Lib.hid (qd_dn HB.out nq)
            clear q0 q1 q2 q3 q4 q5 q6 q7 q8 p0 p1
            go_wp2
            go_roundg gk
            case measure => omega
            case rel => exact ⟨j + 1, m, co, Ao, M, by go_num, rfl, by omega, HE.out, HML.out, HOR.out, HBR.out⟩
      · have g1' : decide (s < x.t) = false := decide_eq_false g1
        have HE := HNO.out (by unfold seesB; rw [g1']; rfl)
        clear g1 HNO HYES
        go_wp2_with fail
        go_quiet (fail)
        have HOR := Lib.hid (HO.out.next (qd_dn (Below.refl wr.heap.size wr) nq))
        have HBR := Lib.hid (qd_dn HB.out nq)
        clear q0 q1 q2 q3 q4 q5 q6 q7 q8 p0 p1
        go_wp2
        go_roundg gk
        case measure => omega
        case rel => exact ⟨j + 1, m, co, Ao, M, by go_num, rfl, by omega, HE.out, HML.out, HOR.out, HBR.out⟩
end Go.Proofs.YthdjlaombbeagaaGreat
