import Derived.Test.YthhkabbgghepbaaGreatJFOrderL
import Derived.Test.YthhkabbgghepbaaGreatJDSorted
import Derived.Test.YthhkabbgghepbaaGreatJFSpans
import Derived.Test.YthhkabbgghepbaaGreatJFTurn
/-
  CONTRACTS: isMark, facts.Datoms, facts.Of (with no instant asked).
-/
namespace Go.Proofs.YthhkabbgghepbaaGreat
open Go.RowKit Go.Shelf

def markB (n : Int) : Bool := decide (0 ≤ n ∧ n ≤ 1099511627776)
set_option maxHeartbeats 400000 in
theorem isMark_any (n : Int) (w : World) : Calls Tryz.prog 42 #[.int .i64 n] w fun e w' => e = .returned (.bool (markB n)) ∧ w = w' := by
  by_cases h0 : 0 ≤ n
  · by_cases h1 : n ≤ 1099511627776
    · have e : Hid (markB n = true) := by show _ = _; unfold markB; simp [h0, h1]
      go_enter Tryz.func42, Tryz.ntmps42
      go_wp2
      go_ret
      exact ⟨by rw [e.out]; rfl, rfl⟩
    · have e : Hid (markB n = false) := by show _ = _; unfold markB; simp [h1]
      go_enter Tryz.func42, Tryz.ntmps42
      go_wp2
      go_ret
      exact ⟨by rw [e.out]; rfl, rfl⟩
  · have e : Hid (markB n = false) := by show _ = _; unfold markB; simp; omega
    have h0' : decide (0 ≤ n) = false := decide_eq_false h0
    go_enter Tryz.func42, Tryz.ntmps42
    go_wp2
    go_ret
    exact ⟨by rw [e.out]; rfl, rfl⟩
/-- a view has a datom -/
def seesB (a s : Int) (d : Dat) : Bool := decide (s < d.t) && (decide (a = 0) || decide (d.t ≤ a))
/-- a view in a box -/
def VwAt (W : World) (b : Nat) (a s v : Int) (at_ hist : Bool) : Prop := W.heap[b]? = some (.cells #[.int .i64 a, .int .i64 s, .int .i64 v, .bool at_, .bool hist] 24 (0, 0))
theorem VwAt.cell {W : World} {b : Nat} {a s v : Int} {at_ hist : Bool} (h : VwAt W b a s v at_ hist) (j : Nat) : W.cell? ⟨b, j, none⟩ = (#[Value.int .i64 a, .int .i64 s, .int .i64 v, .bool at_, .bool hist])[j]? := by unfold VwAt at h; simp [World.cell?, h]
theorem VwAt.k0 {W : World} {b : Nat} {a s v : Int} {at_ hist : Bool} (h : VwAt W b a s v at_ hist) : W.cell? ⟨b, 0, none⟩ = some (.int .i64 a) := h.cell 0
theorem VwAt.k1 {W : World} {b : Nat} {a s v : Int} {at_ hist : Bool} (h : VwAt W b a s v at_ hist) : W.cell? ⟨b, 1, none⟩ = some (.int .i64 s) := h.cell 1
theorem VwAt.k2 {W : World} {b : Nat} {a s v : Int} {at_ hist : Bool} (h : VwAt W b a s v at_ hist) : W.cell? ⟨b, 2, none⟩ = some (.int .i64 v) := h.cell 2
theorem VwAt.k3 {W : World} {b : Nat} {a s v : Int} {at_ hist : Bool} (h : VwAt W b a s v at_ hist) : W.cell? ⟨b, 3, none⟩ = some (.bool at_) := h.cell 3
theorem VwAt.k4 {W : World} {b : Nat} {a s v : Int} {at_ hist : Bool} (h : VwAt W b a s v at_ hist) : W.cell? ⟨b, 4, none⟩ = some (.bool hist) := h.cell 4
theorem VwAt.lt {W : World} {b : Nat} {a s v : Int} {at_ hist : Bool} (h : VwAt W b a s v at_ hist) : b < W.heap.size := (Array.getElem?_eq_some_iff.1 h).1
theorem VwAt.next {W W' : World} {b B : Nat} {a s v : Int} {at_ hist : Bool} (h : VwAt W b a s v at_ hist) (hb : Below B W W') (hB : b < B) : VwAt W' b a s v at_ hist := (hb.block b hB).trans h
/-- What facts.Datoms answers. -/
def DtsEnd (w : World) (a s : Int) (l : List Dat) (e : Ending) (w' : World) : Prop :=
  (∃ A c n ec, e = .returned (.tuple #[.slice A n c, .int .i64 ec]) ∧ ((markB a = true ∧ markB s = true ∧ ec = 0 ∧ n = (sortsD 1 (l.filter (seesB a s))).length ∧ SlD w' w'.heap.size A (sortsD 1 (l.filter (seesB a s)))) ∨ ((markB a && markB s) = false ∧ ec = 2 ∧ A = none ∧ n = 0 ∧ c = 0))) ∧ Below w.heap.size w w'
set_option maxRecDepth 100000 in
set_option maxHeartbeats 4000000 in
theorem datomsF_any (a s v : Int) (at_ hist : Bool) (A : Option Addr) (c : Nat) (l : List Dat) (w : World) (hs : SlD w w.heap.size A l) (hl : l.length ≤ 1000000) :
    Calls Tryz.prog 12 #[.slice A l.length c, .agg #[.int .i64 a, .int .i64 s, .int .i64 v, .bool at_, .bool hist]] w (DtsEnd w a s l) := by
  obtain ⟨i0, hi, hz0, hz1, hz2⟩ := info_parts infoD
  have hmx : 2000000000000 ≤ maxLen := by decide
  have HS := Lib.hid hs
  clear hs
  obtain ⟨w0, hw0⟩ : ∃ w0, w.alloc (.cells #[.int .i64 a, .int .i64 s, .int .i64 v, .bool at_, .bool hist] 24) = w0 := ⟨_, rfl⟩
  have HZ0 : Hid (w0.heap.size = w.heap.size + 1) := by rw [← hw0]; show _ = _; simp
  have HB0 : Hid (Below w.heap.size w w0) := by rw [← hw0]; exact (Below.refl _ _).alloc (Nat.le_refl _) _
  have HVW : Hid (VwAt w0 w.heap.size a s v at_ hist) := by rw [← hw0]; exact heap_alloc_new w _
  have k0 := HVW.out.k0
  have k1 := HVW.out.k1
  go_enter Tryz.func12, Tryz.ntmps12
  go_upto_region 1 with (fail)
  try rw [hw0]
  clear hw0
  go_wp2_with fail
  refine (isMark_any a _).mono ?_
  rintro e w' ⟨rfl, rfl⟩
  obtain ⟨ma, hma⟩ : ∃ m, markB a = m := ⟨_, rfl⟩
  rw [hma]
  have HMA := Lib.hid hma
  clear hma
  cases ma
  · go_wp2
    go_ret2
    exact ⟨⟨_, _, _, _, rfl, .inr ⟨by rw [HMA.out]; rfl, rfl, rfl, rfl, rfl⟩⟩, HB0.out⟩
  go_wp2_with fail
  refine (isMark_any s _).mono ?_
  rintro e w' ⟨rfl, rfl⟩
  obtain ⟨ms, hms⟩ : ∃ m, markB s = m := ⟨_, rfl⟩
  rw [hms]
  have HMS := Lib.hid hms
  clear hms
  cases ms
  · go_wp2
    go_ret2
    exact ⟨⟨_, _, _, _, rfl, .inr ⟨by rw [HMS.out]; simp, rfl, rfl, rfl, rfl⟩⟩, HB0.out⟩
  clear k0 k1
  go_wp2
  go_loopg [6, 8, 21] l.length (fun g x6 _ x21 wr => ∃ j : Nat, OwnD wr (w.heap.size + 1) x6 ((l.take j).filter (seesB a s)) ∧ x21 = .int .i64 j ∧ j + g = l.length ∧ Hid (Below (w.heap.size + 1) w0 wr) ∧ w.heap.size + 1 ≤ wr.heap.size)
  case atStart => exact ⟨0, World.ownsRow_nil _ _ _ _, rfl, by omega, Below.refl _ _, by have := HZ0.out; omega⟩
  case round =>
    obtain ⟨j, ho, rfl, hj, HB, hsz⟩ := hrel
    have hfl : ((l.take j).filter (seesB a s)).length ≤ j := Nat.le_trans (List.length_filter_le _ _) (List.length_take_le _ _)
    cases gk with
    | zero =>
      obtain rfl : j = l.length := by omega
      have hji : ¬ ((l.length : Int) < (l.length : Int)) := by omega
      rw [List.take_length] at ho hfl
      have HBW : Hid (Below w.heap.size w wr) := HB0.out.trans (HB.out.mono (Nat.le_succ _))
      obtain ⟨A1, c1, rfl, hs1, _, _, _, _⟩ := ho.form
      have HSD := Lib.hid (sortedD_any 1 A1 c1 (l.filter (seesB a s)) wr hs1 (by omega))
      clear ho hs1
      go_wp2_with fail
      refine HSD.out.mono ?_
      rintro e w2 ⟨A2, c2, rfl, h2, hb2⟩
      have HS2 := Lib.hid h2
      have HB2 := Lib.hid (HBW.out.trans (hb2.mono HBW.out.size))
      clear h2 hb2
      go_wp2
      go_ret2
      exact ⟨⟨_, _, _, _, rfl, .inl ⟨HMA.out, HMS.out, rfl, rfl, HS2.out⟩⟩, HB2.out⟩
    | succ g =>
      have hji : (j : Int) < (l.length : Int) := by omega
      have hjn : j < l.length := by omega
      have HBW : Hid (Below w.heap.size w wr) := HB0.out.trans (HB.out.mono (Nat.le_succ _))
      obtain ⟨b, q, rfl, hbl, hp⟩ := (HS.out.next HBW.out (Nat.le_refl _)).at_ hjn
      have hft := filter_take (seesB a s) hjn
      obtain ⟨x, hpe⟩ : ∃ p, l[j] = p := ⟨_, rfl⟩
      rw [hpe] at hp hft
      obtain ⟨L, hL⟩ : ∃ L, (l.take j).filter (seesB a s) = L := ⟨_, rfl⟩
      rw [hL] at ho hfl hft
      obtain ⟨A1, c1, rfl, _, _, _, _, _⟩ := ho.form
      have HO := Lib.hid ho
      have HFT := Lib.hid hft
      have m0 := hp.c0
      have m1 := hp.c1
      have m2 := hp.c2
      have m3 := hp.c3
      have m4 := hp.c4
      have m5 := hp.c5
      have m6 := hp.c6
      have m7 := hp.c7
      have m8 := hp.c8
      have HD : Hid (DatAt (wr.alloc (.cells #[.int .i64 x.e, .int .i64 x.a, .int .i64 x.k, .int .i64 x.m, .string x.s, .int .i64 x.t, .bool x.add, .int .i64 x.fr, .int .i64 x.til] 46)) wr.heap.size x) := datAt_new wr x
      have HBZ : Hid (Below wr.heap.size wr (wr.alloc (.cells #[.int .i64 x.e, .int .i64 x.a, .int .i64 x.k, .int .i64 x.m, .string x.s, .int .i64 x.t, .bool x.add, .int .i64 x.fr, .int .i64 x.til] 46))) := (Below.refl wr.heap.size wr).alloc (Nat.le_refl _) _
      have HVR := Lib.hid (HVW.out.next HB.out (Nat.lt_succ_self _))
      clear ho hft hL hp hpe
      go_upto_region 7 with (fail)
      obtain ⟨wz, hwz⟩ : ∃ wz, (wr.alloc (.cells #[.int .i64 x.e, .int .i64 x.a, .int .i64 x.k, .int .i64 x.m, .string x.s, .int .i64 x.t, .bool x.add, .int .i64 x.fr, .int .i64 x.til] 46)) = wz := ⟨_, rfl⟩
      rw [hwz] at HD HBZ ⊢
      clear hwz m0 m1 m2 m3 m4 m5 m6 m7 m8
      have hvz := HVR.out.next HBZ.out HVR.out.lt
      have k0 := hvz.k0
      have k1 := hvz.k1
      have HO1 := Lib.hid (HO.out.next HBZ.out)
      have HB1 := Lib.hid (HB.out.trans (HBZ.out.mono hsz))
      have HS2 : Hid (w.heap.size + 1 ≤ wz.heap.size) := Nat.le_trans hsz HBZ.out.size
      have z0 := HD.out.c0
      have z1 := HD.out.c1
      have z2 := HD.out.c2
      have z3 := HD.out.c3
      have z4 := HD.out.c4
      have z5 := HD.out.c5
      have z6 := HD.out.c6
      have z7 := HD.out.c7
      have z8 := HD.out.c8
      have HOA : Hid (OwnD (wz.alloc (.cells #[.int .i64 x.e, .int .i64 x.a, .int .i64 x.k, .int .i64 x.m, .string x.s, .int .i64 x.t, .bool x.add, .int .i64 x.fr, .int .i64 x.til] 46)) (w.heap.size + 1) (.slice A1 L.length c1) L) := World.ownsRow.alloc HO1.out _
      have HBA := Lib.hid (HB1.out.alloc HS2.out (.cells #[.int .i64 x.e, .int .i64 x.a, .int .i64 x.k, .int .i64 x.m, .string x.s, .int .i64 x.t, .bool x.add, .int .i64 x.fr, .int .i64 x.til] 46))
      have HLC := Lib.hid (litD wz x)
      have hbs : (w.heap.size + 1 ≤ (wz.alloc (.cells #[.int .i64 x.e, .int .i64 x.a, .int .i64 x.k, .int .i64 x.m, .string x.s, .int .i64 x.t, .bool x.add, .int .i64 x.fr, .int .i64 x.til] 46)).heap.size) := by simp; have := HS2.out; omega
      have HBS := Lib.hid hbs
      clear hbs hvz
      by_cases g1 : s < x.t
      · have e1 : decide (s < x.t) = true := decide_eq_true g1
        by_cases g2 : a = 0
        · have HF : Hid ((l.take (j + 1)).filter (seesB a s) = L ++ [x]) := by show _ = _; rw [HFT.out]; unfold seesB; simp [g1, g2]
          subst g2
          go_wp2_with (at_builtin; refine wpList_append_any rfl _ _ 22 rfl (w.heap.size + 1) 46 i0 (.agg #[.int .i64 0, .int .i64 0, .int .i64 0, .int .i64 0, .string ⟨#[]⟩, .int .i64 0, .bool false, .int .i64 0, .int .i64 0]) 9 80 Tryz.underlying22 hi hz0 hz1 hz2 rfl (by decide) _ _ _ rfl HOA.out (some ⟨wz.heap.size, 0, none⟩) 1 1 ([x].flatMap cellsD) rfl rfl (fun h => by cases h) HLC.out (cellsD_all _) (by omega) (by omega) HBS.out ?_; intro v1 w3 hown hgrow; have HV1 : Hid (OwnD w3 (w.heap.size + 1) v1 (L ++ [x])) := ownD_of hown; have HB3 := Lib.hid (HBA.out.trans (below_ownD HOA.out hgrow HBS.out)); have HS3 : Hid (w.heap.size + 1 ≤ w3.heap.size) := (by have := HB3.out.size; have := HZ0.out; show _ ≤ _; omega); clear hown hgrow z0 z1 z2 z3 z4 z5 z6 z7 z8 k0 k1)
          go_roundg g
          case measure => omega
          case rel => exact ⟨j + 1, by rw [HF.out]; exact HV1.out, by go_num, by omega, HB3.out, HS3.out⟩
        · have e2 : (a == 0) = false := by rw [beq_eq_false_iff_ne]; exact g2
          by_cases g3 : x.t ≤ a
          · have e3 : decide (x.t ≤ a) = true := decide_eq_true g3
            have HF : Hid ((l.take (j + 1)).filter (seesB a s) = L ++ [x]) := by show _ = _; rw [HFT.out]; unfold seesB; simp [g1, g3]
            clear g1 g2 g3
            go_wp2_with (at_builtin; refine wpList_append_any rfl _ _ 22 rfl (w.heap.size + 1) 46 i0 (.agg #[.int .i64 0, .int .i64 0, .int .i64 0, .int .i64 0, .string ⟨#[]⟩, .int .i64 0, .bool false, .int .i64 0, .int .i64 0]) 9 80 Tryz.underlying22 hi hz0 hz1 hz2 rfl (by decide) _ _ _ rfl HOA.out (some ⟨wz.heap.size, 0, none⟩) 1 1 ([x].flatMap cellsD) rfl rfl (fun h => by cases h) HLC.out (cellsD_all _) (by omega) (by omega) HBS.out ?_; intro v1 w3 hown hgrow; have HV1 : Hid (OwnD w3 (w.heap.size + 1) v1 (L ++ [x])) := ownD_of hown; have HB3 := Lib.hid (HBA.out.trans (below_ownD HOA.out hgrow HBS.out)); have HS3 : Hid (w.heap.size + 1 ≤ w3.heap.size) := (by have := HB3.out.size; have := HZ0.out; show _ ≤ _; omega); clear hown hgrow z0 z1 z2 z3 z4 z5 z6 z7 z8 k0 k1)
            go_roundg g
            case measure => omega
            case rel => exact ⟨j + 1, by rw [HF.out]; exact HV1.out, by go_num, by omega, HB3.out, HS3.out⟩
          · have e3 : decide (x.t ≤ a) = false := decide_eq_false g3
            have HF : Hid ((l.take (j + 1)).filter (seesB a s) = L) := by show _ = _; rw [HFT.out]; unfold seesB; simp [g2, g3]
            clear g1 g2 g3
            go_wp2
            go_roundg g
            case measure => omega
            case rel => exact ⟨j + 1, by rw [HF.out]; exact HO1.out, by go_num, by omega, HB1.out, HS2.out⟩
      · have e1 : decide (s < x.t) = false := decide_eq_false g1
        have HF : Hid ((l.take (j + 1)).filter (seesB a s) = L) := by show _ = _; rw [HFT.out]; unfold seesB; simp [g1]
        clear g1
        go_wp2
        go_roundg g
        case measure => omega
        case rel => exact ⟨j + 1, by rw [HF.out]; exact HO1.out, by go_num, by omega, HB1.out, HS2.out⟩

/-- what Of answers of a view that asks no instant -/
def OfU (l : List Dat) (a s : Int) (W : World) (v : Value) (ec : Int) : Prop := (markB a = true ∧ markB s = true ∧ FoldU (l.filter (seesB a s)) W v ec) ∨ ((markB a && markB s) = false ∧ ec = 2 ∧ v = .slice none 0 0)
set_option maxRecDepth 100000 in
set_option maxHeartbeats 2000000 in
theorem of_any (a s v : Int) (A : Option Addr) (c : Nat) (l : List Dat) (w : World) (hs : SlD w w.heap.size A l) (hl : l.length ≤ 5000) (hz : ∀ d ∈ l, d.s.size ≤ maxLen) (hk : ∀ d ∈ l, SpOk (spD d)) (hfew : (l.filter (seesB a s)).length ≤ 3000 ∨ notMay (l.filter (seesB a s)) = true) :
    Calls Tryz.prog 14 #[.slice A l.length c, .agg #[.int .i64 a, .int .i64 s, .int .i64 v, .bool false, .bool false]] w fun e w' => ∃ u ec, e = .returned (.tuple #[u, .int .i64 ec]) ∧ OfU l a s w' u ec ∧ Below w.heap.size w w' := by
  obtain ⟨w0, hw0⟩ : ∃ w0, w.alloc (.cells #[.int .i64 a, .int .i64 s, .int .i64 v, .bool false, .bool false] 24) = w0 := ⟨_, rfl⟩
  have hb0 : Below w.heap.size w w0 := by rw [← hw0]; exact (Below.refl _ _).alloc (Nat.le_refl _) _
  have HB0 := Lib.hid hb0
  have HVW : Hid (VwAt w0 w.heap.size a s v false false) := by rw [← hw0]; exact heap_alloc_new w _
  have HDT := Lib.hid (datomsF_any a s v false false A c l w0 ((hs.next hb0 (Nat.le_refl _)).more hb0.size) (by omega))
  have HZ := Lib.hid hz
  have HK := Lib.hid hk
  have HW := Lib.hid hfew
  have k0 := HVW.out.k0
  have k1 := HVW.out.k1
  have k2 := HVW.out.k2
  have k3 := HVW.out.k3
  have k4 := HVW.out.k4
  clear hs hz hk hfew hb0
  go_enter Tryz.func14, Tryz.ntmps14
  go_upto_region 1 with (fail)
  try rw [hw0]
  clear hw0
  go_wp2_with fail
  refine HDT.out.mono ?_
  rintro e w1 ⟨⟨A1, c1, n1, ec1, rfl, ⟨hma, hms, rfl, rfl, h1⟩ | ⟨hno, rfl, rfl, rfl, rfl⟩⟩, hb1⟩
  · have HM := Lib.hid (And.intro hma hms)
    have HB1 := Lib.hid (HB0.out.trans (hb1.mono HB0.out.size))
    have hvz := HVW.out.next hb1 HVW.out.lt
    have HBX := Lib.hid hb1.size
    have HS1 := Lib.hid h1
    obtain ⟨S, hS⟩ : ∃ S, sortsD 1 (l.filter (seesB a s)) = S := ⟨_, rfl⟩
    have hmem : ∀ x, x ∈ S ↔ x ∈ l.filter (seesB a s) := fun x => by rw [← hS]; exact (sorts_ups _).2 x
    have hml : ∀ x ∈ S, x ∈ l := fun x hx => (List.mem_filter.1 ((hmem x).1 hx)).1
    have hfs := sorts_few (l.filter (seesB a s))
    have hfl := List.length_filter_le (seesB a s) l
    have hSS : (sortsD 1 S).length ≤ S.length := sorts_few S
    have HFU := Lib.hid (fold_u A1 c1 S w1 (by rw [← hS]; exact h1) (by rw [← hS]; omega) (fun d hd => HZ.out d (hml d hd)) (fun d hd => HK.out d (hml d hd)) (fun h => by
      rw [hS] at hfs
      rcases HW.out with h2 | h2
      · exact ⟨by omega, by omega⟩
      · rw [same_may hmem, h2] at h; cases h))
    have HME := Lib.hid hmem
    rw [hS] at HS1
    rw [hS]
    have k3' := hvz.k3
    clear h1 hma hms hb1 hvz hS hmem hml hfs hfl hSS k0 k1 k2 k3 k4
    go_wp2_with fail
    refine HFU.out.mono ?_
    rintro e w2 ⟨u, ec, rfl, hfu, hb2⟩
    have HB2 := Lib.hid (HB1.out.trans (hb2.mono HB1.out.size))
    have k3 := (hb2.cell (p := ⟨w.heap.size, 3, none⟩) (Nat.lt_of_lt_of_le HVW.out.lt (Nat.le_trans (Nat.le_refl _) (by have h1 := HVW.out.lt; have h2 := HB0.out.size; have h3 := HBX.out; omega)))).trans k3'
    have HU : Hid (FoldU (l.filter (seesB a s)) w2 u ec) := by
      have := hfu
      unfold FoldU at this ⊢
      rwa [same_may HME.out, same_sorts HME.out] at this
    clear hb2 k3' HFU
    rcases hfu with ⟨rfl, rfl, _⟩ | ⟨rfl, _, _, fs, _, ⟨A5, c5, rfl, _⟩, _⟩
    · go_wp2
      go_ret2
      exact ⟨_, _, rfl, .inl ⟨HM.out.1, HM.out.2, HU.out⟩, HB2.out⟩
    · go_wp2
      go_ret2
      exact ⟨_, _, rfl, .inl ⟨HM.out.1, HM.out.2, HU.out⟩, HB2.out⟩
  · have HN := Lib.hid hno
    have HB1 := Lib.hid (HB0.out.trans (hb1.mono HB0.out.size))
    clear hb1 hno
    go_wp2
    go_ret2
    exact ⟨_, _, rfl, .inr ⟨HN.out, rfl, rfl⟩, HB1.out⟩
end Go.Proofs.YthhkabbgghepbaaGreat

/-
  THE LAW FactsStay: its walk.
-/
namespace Go.Proofs.YthhkabbgghepbaaGreat
open Go.RowKit Go.Shelf

theorem costD_leU (l : List Dat) (hs : ∀ p ∈ l, p.s.size ≤ 1048576) : costD l ≤ l.length * 1048596 ∧ (l.length : Int) * 20 ≤ costD l := by
  induction l with
  | nil => simp [costD]
  | cons p r ih =>
    have h1 := ih (fun q hq => hs q (by simp [hq]))
    have h2 := hs p (by simp)
    unfold costD at h1 ⊢
    simp only [List.map_cons, List.sum_cons, List.length_cons]
    omega
set_option maxRecDepth 100000 in
set_option maxHeartbeats 2000000 in
theorem greatD_upto (A : Option Addr) (c : Nat) (l : List Dat) (w : World) (B : Nat) (hs : SlD w B A l) (hl : l.length ≤ 1048576) (hz : ∀ d ∈ l, d.s.size ≤ 1048576) :
    Calls Tryz.prog 9 #[.slice A l.length c] w fun e w' => ((e = .returned (.int .i64 0) ∧ l.length ≤ 200) ∨ e = .returned (.int .i64 1)) ∧ w = w' := by
  have HS := Lib.hid hs
  have HZ := Lib.hid hz
  clear hs hz
  go_enter Tryz.func9, Tryz.ntmps9
  go_wp2
  go_loopg [3, 4] l.length (fun g x y wr => ∃ j : Nat, x = .int .i64 (costD (l.take j)) ∧ y = .int .i64 j ∧ j + g = l.length ∧ wr = w)
  case atStart => exact ⟨0, rfl, rfl, by omega, rfl⟩
  case round =>
    obtain ⟨j, rfl, rfl, hj, rfl⟩ := hrel
    cases gk with
    | succ g =>
      have hji : (j : Int) < (l.length : Int) := by omega
      have hjn : j < l.length := by omega
      obtain ⟨b, o, rfl, _, hp⟩ := HS.out.at_ hjn
      have c4 : wr.cell? ⟨b, o + j * 9 + 2 + 2, none⟩ = some (.string l[j].s) := hp.c4
      have hcs := Lib.hid (costD_take hjn)
      have hcl := costD_leU (l.take j) (fun p hp => HZ.out p (List.mem_of_mem_take hp))
      have htl : (l.take j).length ≤ 1048576 := by rw [List.length_take]; omega
      obtain ⟨T, hT⟩ : ∃ T, costD (l.take j) = T := ⟨_, rfl⟩
      rw [hT] at hcl
      rw [hT]
      have hTT : T ≤ 2040000000000000 := by omega
      have hT0 : 0 ≤ T := by omega
      have hsz := HZ.out _ (List.getElem_mem hjn)
      have HT := Lib.hid hT
      clear hp hT hcl htl
      go_wp2
      go_roundg g
      case measure => omega
      case rel => exact ⟨j + 1, by rw [hcs.out, HT.out], by go_num, by omega, rfl⟩
    | zero =>
      have hji : ¬ (j : Int) < (l.length : Int) := by omega
      have ht : l.take j = l := List.take_of_length_le (by omega)
      have hcl := costD_leU l HZ.out
      rw [ht]
      obtain ⟨T, hT⟩ : ∃ T, costD l = T := ⟨_, rfl⟩
      rw [hT] at hcl ⊢
      clear ht hT
      by_cases hn : 4000 < T
      · go_wp2
        go_ret
        exact ⟨.inr rfl, rfl⟩
      · have hl2 : l.length ≤ 200 := by omega
        clear hcl
        go_wp2
        go_ret
        first | exact ⟨.inl ⟨rfl, hl2⟩, rfl⟩ | exact ⟨.inl rfl, rfl⟩
theorem FoldU.next {l : List Dat} {W W' : World} {v : Value} {ec : Int} (h : FoldU l W v ec) (hb : Below W.heap.size W W') : FoldU l W' v ec := by
  rcases h with h | ⟨h1, h2, h3, fs, h4, h5, h6⟩
  · exact .inl h
  · exact .inr ⟨h1, h2, h3, fs, h4, h5.next hb, h6⟩
theorem FoldU.form {l : List Dat} {W : World} {v : Value} {ec : Int} (h : FoldU l W v ec) : ∃ A n c, v = .slice A n c := by
  rcases h with ⟨_, rfl, _⟩ | ⟨_, _, _, fs, _, ⟨A, c, rfl, _⟩, _⟩
  · exact ⟨_, _, _, rfl⟩
  · exact ⟨_, _, _, rfl⟩
theorem sameU_any {l m : List Dat} (h : ∀ x, x ∈ m ↔ x ∈ l) {w : World} {v v' : Value} {ec ec' : Int} (h1 : FoldU l w v ec) (h2 : FoldU m w v' ec') : ec = ec' ∧
    Calls Tryz.prog 16 #[v, v'] w fun e w' => e = .returned (.bool true) ∧ Below w.heap.size w w' := by
  obtain ⟨rfl, hsame⟩ := foldU_same h h1 h2
  refine ⟨rfl, ?_⟩
  rcases hsame with ⟨rfl, rfl⟩ | ⟨fs, q1, q2, q3, q4⟩
  · exact sameF_any none none 0 0 [] w ⟨none, 0, rfl, (fun h => absurd rfl h), Nat.le_refl _, Nat.zero_le _⟩ ⟨none, 0, rfl, (fun h => absurd rfl h), Nat.le_refl _, Nat.zero_le _⟩ (by decide) (fun f hf => by cases hf)
  · obtain ⟨A5, c5, rfl, _⟩ := id q1
    obtain ⟨A6, c6, rfl, _⟩ := id q2
    exact sameF_any A5 A6 c5 c6 fs w q1 q2 (by omega) (fun f hf => by have := q3 f hf; omega)
theorem OfU.fold {l : List Dat} {a s : Int} {W : World} {v : Value} {ec : Int} (h : OfU l a s W v ec) (ha : markB a = true) (hs : markB s = true) : FoldU (l.filter (seesB a s)) W v ec := by
  rcases h with ⟨_, _, h⟩ | ⟨h, _⟩
  · exact h
  · rw [ha, hs] at h; cases h
/-- behind a transaction -/
def lateB (t : Int) (d : Dat) : Bool := decide (t < d.t)
/-- a row kept beside another one that grows -/
theorem OwnD.beside {W w3 : World} {B : Nat} {v u : Value} {l : List Dat} (h : OwnD W B v l) (hg : W.grownBy w3 u.ownBlock) (ha : Ap u v) : OwnD w3 B v l := World.ownsRow.kept h hg (ap_kept ha)

set_option maxRecDepth 100000 in
set_option maxHeartbeats 8000000 in
theorem fStay_any (t : Int) (A A' : Option Addr) (c c' : Nat) (l m : List Dat) (w : World) (hs : SlD w w.heap.size A l) (hs' : SlD w w.heap.size A' m) (hA : A = none → l.length = 0 ∧ c = 0) (hl : l.length ≤ 1048576) (hl' : m.length ≤ 1048576)
    (hz : ∀ d, (d ∈ l ∨ d ∈ m) → d.s.size ≤ 1048576) (hk : ∀ d, (d ∈ l ∨ d ∈ m) → SpOk (spD d)) :
    Calls Tryz.prog 7 #[.slice A l.length c, .slice A' m.length c', .int .i64 t] w fun e w' => e = .returned (.bool true) ∧ Below w.heap.size w w' := by
  obtain ⟨i0, hi, hz0, hz1, hz2⟩ := info_parts infoD
  have hmx : 2000000000000 ≤ maxLen := by decide
  have HS := Lib.hid (And.intro hs hs')
  have HZ := Lib.hid hz
  have HK := Lib.hid hk
  have HA := Lib.hid hA
  clear hs hs' hz hk hA
  go_enter Tryz.func7, Tryz.ntmps7
  go_wp2_with fail
  refine (fAlive_any _).mono ?_
  rintro e w1 ⟨rfl, hb1⟩
  have HB1 := Lib.hid hb1
  have HSL := Lib.hid ((HS.out.1.next hb1 (Nat.le_refl _)).more hb1.size)
  have HSM := Lib.hid ((HS.out.2.next hb1 (Nat.le_refl _)).more hb1.size)
  clear hb1 HS
  have HGL := Lib.hid (greatD_upto A c l w1 _ HSL.out hl (fun d hd => HZ.out d (.inl hd)))
  have HGM := Lib.hid (greatD_upto A' c' m w1 _ HSM.out hl' (fun d hd => HZ.out d (.inr hd)))
  go_wp2_with fail
  refine HGL.out.mono ?_
  rintro e w' ⟨hgr, rfl⟩
  rcases hgr.symm with rfl | ⟨rfl, hlf⟩
  · go_wp2
    go_ret
    exact ⟨rfl, HB1.out⟩
  go_wp2_with fail
  refine HGM.out.mono ?_
  rintro e w' ⟨hgr, rfl⟩
  rcases hgr.symm with rfl | ⟨rfl, hmf⟩
  · go_wp2
    go_ret
    exact ⟨rfl, HB1.out⟩
  by_cases ht1 : t < 1
  · have e1 : decide (t < 1) = true := decide_eq_true ht1
    go_wp2
    go_ret
    exact ⟨rfl, HB1.out⟩
  have e1 : decide (t < 1) = false := decide_eq_false ht1
  by_cases ht2 : 1099511627776 < t
  · have e2 : decide (1099511627776 < t) = true := decide_eq_true ht2
    go_wp2
    go_ret
    exact ⟨rfl, HB1.out⟩
  have e2 : decide (1099511627776 < t) = false := decide_eq_false ht2
  have HMK : Hid (markB t = true) := by show _ = _; unfold markB; simp; omega
  have HMZ : Hid (markB 0 = true) := by show _ = _; decide
  have HNL := Lib.hid (HSL.out.news)
  have HO0 : Hid (OwnD w1 w1.heap.size (.slice none 0 0) []) := World.ownsRow_nil _ _ _ _
  have HT1 : Hid (1 ≤ t) := by show _ ≤ _; omega
  clear ht1 ht2 HGL HGM
  go_wp2_with (at_builtin; refine wpList_append_any rfl _ _ 22 rfl w1.heap.size 46 i0 (.agg #[.int .i64 0, .int .i64 0, .int .i64 0, .int .i64 0, .string ⟨#[]⟩, .int .i64 0, .bool false, .int .i64 0, .int .i64 0]) 9 80 Tryz.underlying22 hi hz0 hz1 hz2 rfl (by decide) _ _ _ rfl HO0.out A l.length c (l.flatMap cellsD) rfl (flatD_len l) HA.out HNL.out (cellsD_all l) (by rw [List.length_nil]; omega) (by rw [List.length_nil]; omega) (Nat.le_refl _) ?_; intro v8 w2 hown' hgrow; have HO8 : Hid (OwnD w2 w1.heap.size v8 l) := ownD_of (a := []) hown'; have HB2 := Lib.hid (below_ownD HO0.out hgrow (Nat.le_refl _)); clear hown' hgrow)
  obtain ⟨lm, hlm⟩ : ∃ q, m.filter (lateB t) = q := ⟨_, rfl⟩
  obtain ⟨ll, hll⟩ : ∃ q, l.filter (lateB t) = q := ⟨_, rfl⟩
  go_loopg [8, 9, 10] m.length (fun g x8 x9 x10 wr => ∃ j : Nat, OwnD wr w1.heap.size x8 (l ++ (m.take j).filter (lateB t)) ∧ OwnD wr w1.heap.size x9 ((m.take j).filter (lateB t)) ∧ Ap x8 x9 ∧ x10 = .int .i64 j ∧ j + g = m.length ∧ Hid (Below w1.heap.size w1 wr))
  case atStart => exact ⟨0, by rw [List.take_zero, List.filter_nil, List.append_nil]; exact HO8.out, World.ownsRow_nil _ _ _ _, (fun g h1 h2 => by cases h2), rfl, by omega, HB2.out⟩
  case round =>
    obtain ⟨j, ho8, ho9, hap, rfl, hj, HB⟩ := hrel
    have hsz := HB.out.size
    have hf9 : ((m.take j).filter (lateB t)).length ≤ j := Nat.le_trans (List.length_filter_le _ _) (List.length_take_le _ _)
    cases gk with
    | succ g =>
      have hji : (j : Int) < (m.length : Int) := by omega
      have hjn : j < m.length := by omega
      obtain ⟨b, q, rfl, hbl, hp⟩ := (HSM.out.next HB.out (Nat.le_refl _)).at_ hjn
      have hft := filter_take (lateB t) hjn
      obtain ⟨x, hpe⟩ : ∃ p, m[j] = p := ⟨_, rfl⟩
      rw [hpe] at hp hft
      obtain ⟨L, hL⟩ : ∃ L, (m.take j).filter (lateB t) = L := ⟨_, rfl⟩
      rw [hL] at ho8 ho9 hf9 hft
      have HO8 := Lib.hid ho8
      have HO9 := Lib.hid ho9
      have HAP := Lib.hid hap
      have HFT := Lib.hid hft
      have hbl' : b < w1.heap.size := hbl
      have HP := Lib.hid hp
      have c0 := hp.c0
      have c1 := hp.c1
      have c2 := hp.c2
      have c3 := hp.c3
      have c4 := hp.c4
      have c5 := hp.c5
      have c6 := hp.c6
      have c7 := hp.c7
      have c8 := hp.c8
      have h80 : (l ++ L).length ≤ 400 := by rw [List.length_append]; omega
      clear ho8 ho9 hap hft hL hp hpe
      by_cases hg : t < x.t
      · have eg : decide (t < x.t) = true := decide_eq_true hg
        have HF : Hid ((m.take (j + 1)).filter (lateB t) = L ++ [x]) := by show _ = _; rw [HFT.out]; unfold lateB; simp [hg]
        clear hg
        go_upto_region 12 with (at_builtin; refine wpList_append_own_at _ rfl _ _ 22 rfl w1.heap.size 46 i0 (.agg #[.int .i64 0, .int .i64 0, .int .i64 0, .int .i64 0, .string ⟨#[]⟩, .int .i64 0, .bool false, .int .i64 0, .int .i64 0]) 9 80 Tryz.underlying22 hi hz0 hz1 hz2 rfl (by decide) _ _ _ rfl (World.ownsRow.alloc HO8.out (.cells #[.int .i64 x.e, .int .i64 x.a, .int .i64 x.k, .int .i64 x.m, .string x.s, .int .i64 x.t, .bool x.add, .int .i64 x.fr, .int .i64 x.til] 46)) ⟨wr.heap.size, 0, none⟩ 1 1 (cellsD x) rfl rfl (fun j u h => cell_lit wr #[.int .i64 x.e, .int .i64 x.a, .int .i64 x.k, .int .i64 x.m, .string x.s, .int .i64 x.t, .bool x.add, .int .i64 x.fr, .int .i64 x.til] 46 j u h) (cellsD_one x) (by omega) (by omega) (by simp; omega) ?_; intro v3 w3 hown' hgrow _ hat)
        have ho3 : OwnD w3 w1.heap.size v3 (l ++ L ++ [x]) := ownD_of (b := [x]) (by simpa using hown')
        have hoY := World.ownsRow.alloc HO9.out (.cells #[.int .i64 x.e, .int .i64 x.a, .int .i64 x.k, .int .i64 x.m, .string x.s, .int .i64 x.t, .bool x.add, .int .i64 x.fr, .int .i64 x.til] 46)
        have ho9' := OwnD.beside hoY hgrow HAP.out
        have hap' := ap_next HAP.out hoY hat
        have hb3 : Below w1.heap.size wr w3 := ((Below.refl _ wr).alloc hsz (.cells #[.int .i64 x.e, .int .i64 x.a, .int .i64 x.k, .int .i64 x.m, .string x.s, .int .i64 x.t, .bool x.add, .int .i64 x.fr, .int .i64 x.til] 46)).trans (below_ownD (World.ownsRow.alloc HO8.out _) hgrow (by simp; omega))
        have HO83 := Lib.hid ho3
        have HO93 := Lib.hid ho9'
        have HAP3 := Lib.hid hap'
        have HB3 := Lib.hid (HB.out.trans hb3)
        have hsz3 := HB3.out.size
        have hp3 := HP.out.next hb3 hbl'
        clear c0 c1 c2 c3 c4 c5 c6 c7 c8 hown' hgrow hat ho3 hoY ho9' hap' hb3
        have c0 := hp3.c0
        have c1 := hp3.c1
        have c2 := hp3.c2
        have c3 := hp3.c3
        have c4 := hp3.c4
        have c5 := hp3.c5
        have c6 := hp3.c6
        have c7 := hp3.c7
        have c8 := hp3.c8
        clear hp3
        go_wp2_with (at_builtin; refine wpList_append_own_at _ rfl _ _ 22 rfl w1.heap.size 46 i0 (.agg #[.int .i64 0, .int .i64 0, .int .i64 0, .int .i64 0, .string ⟨#[]⟩, .int .i64 0, .bool false, .int .i64 0, .int .i64 0]) 9 80 Tryz.underlying22 hi hz0 hz1 hz2 rfl (by decide) _ _ _ rfl (World.ownsRow.alloc HO93.out (.cells #[.int .i64 x.e, .int .i64 x.a, .int .i64 x.k, .int .i64 x.m, .string x.s, .int .i64 x.t, .bool x.add, .int .i64 x.fr, .int .i64 x.til] 46)) ⟨w3.heap.size, 0, none⟩ 1 1 (cellsD x) rfl rfl (fun j u h => cell_lit w3 #[.int .i64 x.e, .int .i64 x.a, .int .i64 x.k, .int .i64 x.m, .string x.s, .int .i64 x.t, .bool x.add, .int .i64 x.fr, .int .i64 x.til] 46 j u h) (cellsD_one x) (by omega) (by omega) (by simp; omega) ?_; intro v4 w4 hown' hgrow _ hat)
        have ho4 : OwnD w4 w1.heap.size v4 (L ++ [x]) := ownD_of (b := [x]) (by simpa using hown')
        have hoY := World.ownsRow.alloc HO83.out (.cells #[.int .i64 x.e, .int .i64 x.a, .int .i64 x.k, .int .i64 x.m, .string x.s, .int .i64 x.t, .bool x.add, .int .i64 x.fr, .int .i64 x.til] 46)
        have ho8' := OwnD.beside hoY hgrow HAP3.out.symm
        have hap' := (ap_next HAP3.out.symm hoY hat).symm
        have hb4 : Below w1.heap.size w3 w4 := ((Below.refl _ w3).alloc hsz3 (.cells #[.int .i64 x.e, .int .i64 x.a, .int .i64 x.k, .int .i64 x.m, .string x.s, .int .i64 x.t, .bool x.add, .int .i64 x.fr, .int .i64 x.til] 46)).trans (below_ownD (World.ownsRow.alloc HO93.out _) hgrow (by simp; omega))
        have HO84 := Lib.hid ho8'
        have HO94 := Lib.hid ho4
        have HAP4 := Lib.hid hap'
        have HB4 := Lib.hid (HB3.out.trans hb4)
        clear hown' hgrow hat ho4 hoY ho8' hap' hb4
        go_roundg g
        case measure => omega
        case rel => exact ⟨j + 1, by rw [HF.out, ← List.append_assoc]; exact HO84.out, by rw [HF.out]; exact HO94.out, HAP4.out, by go_num, by omega, HB4.out⟩
      · have eg : decide (t < x.t) = false := decide_eq_false hg
        have HF : Hid ((m.take (j + 1)).filter (lateB t) = L) := by show _ = _; rw [HFT.out]; unfold lateB; simp [hg]
        clear hg
        go_wp2
        go_roundg g
        case measure => omega
        case rel => exact ⟨j + 1, by rw [HF.out]; exact HO8.out, by rw [HF.out]; exact HO9.out, HAP.out, by go_num, by omega, HB.out⟩
    | zero =>
      have hji : ¬ (j : Int) < (m.length : Int) := by omega
      rw [List.take_of_length_le (by omega), hlm] at ho8 ho9 hf9
      have hlmf : lm.length ≤ 200 := by omega
      obtain ⟨bl, hbq⟩ : ∃ q, l ++ lm = q := ⟨_, rfl⟩
      have h400 : bl.length ≤ 400 := by rw [← hbq, List.length_append]; omega
      rw [hbq] at ho8
      have HBQ := Lib.hid hbq
      clear hbq
      have HO8 := Lib.hid ho8
      have HO9 := Lib.hid ho9
      have HAP := Lib.hid hap
      clear ho8 ho9 hap
      obtain ⟨A8, c8, rfl, hs8, hlc8, hcm8, hn8, _⟩ := HO8.out.form
      clear hs8 hlc8 hcm8 hn8
      rename_i wq
      go_wp2
      go_loopg [9, 11] l.length (fun g y9 y11 wr => ∃ j : Nat, OwnD wr w1.heap.size y9 (lm ++ (l.take j).filter (lateB t)) ∧ OwnD wr w1.heap.size (.slice A8 bl.length c8) bl ∧ Ap (.slice A8 bl.length c8) y9 ∧ y11 = .int .i64 j ∧ j + g = l.length ∧ Hid (Below w1.heap.size w1 wr))
      case atStart => exact ⟨0, by rw [List.take_zero, List.filter_nil, List.append_nil]; exact HO9.out, HO8.out, HAP.out, rfl, by omega, HB.out⟩
      case round =>
        obtain ⟨k, hq9, hq8, hqp, rfl, hk, HC⟩ := hrel
        have hszc := HC.out.size
        have hg9 : ((l.take k).filter (lateB t)).length ≤ k := Nat.le_trans (List.length_filter_le _ _) (List.length_take_le _ _)
        cases gk with
        | succ g =>
          have hki : (k : Int) < (l.length : Int) := by omega
          have hkn : k < l.length := by omega
          obtain ⟨b, q, rfl, hbl, hp⟩ := (HSL.out.next HC.out (Nat.le_refl _)).at_ hkn
          have hft := filter_take (lateB t) hkn
          obtain ⟨x, hpe⟩ : ∃ p, l[k] = p := ⟨_, rfl⟩
          rw [hpe] at hp hft
          obtain ⟨L, hL⟩ : ∃ L, (l.take k).filter (lateB t) = L := ⟨_, rfl⟩
          rw [hL] at hq9 hg9 hft
          have HQ8 := Lib.hid hq8
          have HQ9 := Lib.hid hq9
          have HQP := Lib.hid hqp
          have HFT := Lib.hid hft
          have c0 := hp.c0
          have c1 := hp.c1
          have c2 := hp.c2
          have c3 := hp.c3
          have c4 := hp.c4
          have c5 := hp.c5
          have c6 := hp.c6
          have c7 := hp.c7
          have c8' := hp.c8
          have h81 : (lm ++ L).length ≤ 400 := by rw [List.length_append]; omega
          clear hq8 hq9 hqp hft hL hp hpe
          by_cases hg : t < x.t
          · have eg : decide (t < x.t) = true := decide_eq_true hg
            have HF : Hid ((l.take (k + 1)).filter (lateB t) = L ++ [x]) := by show _ = _; rw [HFT.out]; unfold lateB; simp [hg]
            clear hg
            go_wp2_with (at_builtin; refine wpList_append_own_at _ rfl _ _ 22 rfl w1.heap.size 46 i0 (.agg #[.int .i64 0, .int .i64 0, .int .i64 0, .int .i64 0, .string ⟨#[]⟩, .int .i64 0, .bool false, .int .i64 0, .int .i64 0]) 9 80 Tryz.underlying22 hi hz0 hz1 hz2 rfl (by decide) _ _ _ rfl (World.ownsRow.alloc HQ9.out (.cells #[.int .i64 x.e, .int .i64 x.a, .int .i64 x.k, .int .i64 x.m, .string x.s, .int .i64 x.t, .bool x.add, .int .i64 x.fr, .int .i64 x.til] 46)) ⟨wr.heap.size, 0, none⟩ 1 1 (cellsD x) rfl rfl (fun j u h => cell_lit wr #[.int .i64 x.e, .int .i64 x.a, .int .i64 x.k, .int .i64 x.m, .string x.s, .int .i64 x.t, .bool x.add, .int .i64 x.fr, .int .i64 x.til] 46 j u h) (cellsD_one x) (by omega) (by omega) (by simp; omega) ?_; intro v4 w4 hown' hgrow _ hat)
            have ho4 : OwnD w4 w1.heap.size v4 (lm ++ L ++ [x]) := ownD_of (b := [x]) (by simpa using hown')
            have hoY := World.ownsRow.alloc HQ8.out (.cells #[.int .i64 x.e, .int .i64 x.a, .int .i64 x.k, .int .i64 x.m, .string x.s, .int .i64 x.t, .bool x.add, .int .i64 x.fr, .int .i64 x.til] 46)
            have ho8' := OwnD.beside hoY hgrow HQP.out.symm
            have hap' := (ap_next HQP.out.symm hoY hat).symm
            have hb4 : Below w1.heap.size wr w4 := ((Below.refl _ wr).alloc hszc (.cells #[.int .i64 x.e, .int .i64 x.a, .int .i64 x.k, .int .i64 x.m, .string x.s, .int .i64 x.t, .bool x.add, .int .i64 x.fr, .int .i64 x.til] 46)).trans (below_ownD (World.ownsRow.alloc HQ9.out _) hgrow (by simp; omega))
            have HO84 := Lib.hid ho8'
            have HO94 := Lib.hid ho4
            have HAP4 := Lib.hid hap'
            have HB4 := Lib.hid (HC.out.trans hb4)
            clear hown' hgrow hat ho4 hoY ho8' hap' hb4
            go_roundg g
            case measure => omega
            case rel => exact ⟨k + 1, by rw [HF.out, ← List.append_assoc]; exact HO94.out, HO84.out, HAP4.out, by go_num, by omega, HB4.out⟩
          · have eg : decide (t < x.t) = false := decide_eq_false hg
            have HF : Hid ((l.take (k + 1)).filter (lateB t) = L) := by show _ = _; rw [HFT.out]; unfold lateB; simp [hg]
            clear hg
            go_wp2
            go_roundg g
            case measure => omega
            case rel => exact ⟨k + 1, by rw [HF.out]; exact HQ9.out, HQ8.out, HQP.out, by go_num, by omega, HC.out⟩
        | zero =>
          have hki : ¬ (k : Int) < (l.length : Int) := by omega
          rw [List.take_of_length_le (by omega), hll] at hq9 hg9
          have hllf : ll.length ≤ 200 := by omega
          have hmz : ∀ d, (d ∈ l ∨ d ∈ m) → d.s.size ≤ maxLen := fun d hd => Nat.le_trans (HZ.out d hd) (by decide)
          have hlm9 : ∀ d ∈ lm, d ∈ m := fun d hd => by rw [← hlm] at hd; exact (List.mem_filter.1 hd).1
          have hll9 : ∀ d ∈ ll, d ∈ l := fun d hd => by rw [← hll] at hd; exact (List.mem_filter.1 hd).1
          obtain ⟨lt, hlt⟩ : ∃ q, lm ++ ll = q := ⟨_, rfl⟩
          have HLT := Lib.hid hlt
          have h9l : lt.length ≤ 400 := by rw [← hlt, List.length_append]; omega
          rw [hlt] at hq9
          clear hlt
          have hbz : ∀ d ∈ bl, d ∈ l ∨ d ∈ m := fun d hd => (List.mem_append.1 (show d ∈ l ++ lm by rw [HBQ.out]; exact hd)).imp id (hlm9 d)
          have hlz : ∀ d ∈ lt, d ∈ l ∨ d ∈ m := fun d hd => (List.mem_append.1 (show d ∈ lm ++ ll by rw [HLT.out]; exact hd)).elim (fun h => .inr (hlm9 d h)) (fun h => .inl (hll9 d h))
          obtain ⟨A9, c9, rfl, hs9, _, _, _, _⟩ := hq9.form
          obtain ⟨A8', c8', e8, hs8, _, _, _, _⟩ := hq8.form
          cases e8
          have HS9 := Lib.hid hs9
          have HS8 := Lib.hid hs8
          have HSLc := Lib.hid ((HSL.out.next HC.out (Nat.le_refl _)).more hszc)
          have hfl1 : ∀ p, (l.filter p).length ≤ 3000 := fun p => Nat.le_trans (List.length_filter_le p l) (by omega)
          have hfl2 : ∀ p, (bl.filter p).length ≤ 3000 := fun p => Nat.le_trans (List.length_filter_le p bl) (by omega)
          have HO1 := Lib.hid (of_any t 0 0 A c l wr HSLc.out (by omega) (fun d hd => hmz d (.inl hd)) (fun d hd => HK.out d (.inl hd)) (.inl (hfl1 _)))
          have HO2 := Lib.hid (fun W (h : SlD W W.heap.size A8 bl) => of_any t 0 0 A8 c8 bl W h (by omega) (fun d hd => hmz d (hbz d hd)) (fun d hd => HK.out d (hbz d hd)) (.inl (hfl2 _)))
          have HO3 := Lib.hid (fun W (h : SlD W W.heap.size A8 bl) => of_any 0 t 0 A8 c8 bl W h (by omega) (fun d hd => hmz d (hbz d hd)) (fun d hd => HK.out d (hbz d hd)) (.inl (hfl2 _)))
          have HO4 := Lib.hid (fun W (h : SlD W W.heap.size A9 lt) => fold_u A9 c9 lt W h (by omega) (fun d hd => hmz d (hlz d hd)) (fun d hd => HK.out d (hlz d hd)) (fun _ => ⟨by omega, by have := sorts_few lt; omega⟩))
          have HE1 : Hid (∀ x, x ∈ bl.filter (seesB t 0) ↔ x ∈ l.filter (seesB t 0)) := fun x => by
            rw [← HBQ.out, List.mem_filter, List.mem_filter, List.mem_append]
            constructor
            · rintro ⟨h | h, h2⟩
              · exact ⟨h, h2⟩
              · rw [← hlm] at h
                have h3 := (List.mem_filter.1 h).2
                unfold lateB at h3
                unfold seesB at h2
                have h4 := HT1.out
                simp at h2 h3
                omega
            · rintro ⟨h, h2⟩
              exact ⟨.inl h, h2⟩
          have HE2 : Hid (∀ x, x ∈ lt ↔ x ∈ bl.filter (seesB 0 t)) := fun x => by
            rw [← HLT.out, ← HBQ.out]
            have hsl : seesB 0 t x = lateB t x := by unfold seesB lateB; simp
            rw [List.mem_filter, List.mem_append, List.mem_append, hsl, ← hlm, ← hll, List.mem_filter, List.mem_filter]
            constructor
            · rintro (⟨h1, h2⟩ | ⟨h1, h2⟩)
              · exact ⟨.inr ⟨h1, h2⟩, h2⟩
              · exact ⟨.inl h1, h2⟩
            · rintro ⟨h1 | ⟨h1, _⟩, h2⟩
              · exact .inr ⟨h1, h2⟩
              · exact .inl ⟨h1, h2⟩
          have HBW := Lib.hid (HB1.out.trans (HC.out.mono HB1.out.size))
          clear hq9 hq8 hqp hg9 hmz hlm9 hll9 hbz hlz hs9 hs8 hfl1 hfl2
          go_wp2_with fail
          refine HO1.out.mono ?_
          rintro e y1 ⟨u1, ec1, rfl, ho1, hy1⟩
          have HU1 := Lib.hid (ho1.fold HMK.out HMZ.out)
          have HY1 := Lib.hid (HBW.out.trans (hy1.mono HBW.out.size))
          have HT8 := Lib.hid ((HS8.out.next hy1 (Nat.le_refl _)).more hy1.size)
          have HT9 := Lib.hid ((HS9.out.next hy1 (Nat.le_refl _)).more hy1.size)
          have HO2' := Lib.hid (HO2.out y1 HT8.out)
          obtain ⟨F1, n1, d1, rfl⟩ := HU1.out.form
          clear ho1 hy1 HO1 HO2
          go_wp2_with fail
          refine HO2'.out.mono ?_
          rintro e y2 ⟨u2, ec2, rfl, ho2, hy2⟩
          have HU2 := Lib.hid (ho2.fold HMK.out HMZ.out)
          have HU12 := Lib.hid (HU1.out.next hy2)
          have HY2 := Lib.hid (HY1.out.trans (hy2.mono HY1.out.size))
          have HR8 := Lib.hid ((HT8.out.next hy2 (Nat.le_refl _)).more hy2.size)
          have HR9 := Lib.hid ((HT9.out.next hy2 (Nat.le_refl _)).more hy2.size)
          have HO3' := Lib.hid (HO3.out y2 HR8.out)
          obtain ⟨F2, n2, d2, rfl⟩ := HU2.out.form
          clear ho2 hy2 HO2' HO3 HU1
          go_wp2_with fail
          refine HO3'.out.mono ?_
          rintro e y3 ⟨u3, ec3, rfl, ho3, hy3⟩
          have HU3 := Lib.hid (ho3.fold HMZ.out HMK.out)
          have HU13 := Lib.hid (HU12.out.next hy3)
          have HU23 := Lib.hid (HU2.out.next hy3)
          have HY3 := Lib.hid (HY2.out.trans (hy3.mono HY2.out.size))
          have HQ9 := Lib.hid ((HR9.out.next hy3 (Nat.le_refl _)).more hy3.size)
          have HO4' := Lib.hid (HO4.out y3 HQ9.out)
          obtain ⟨F3, n3, d3, rfl⟩ := HU3.out.form
          clear ho3 hy3 HO3' HO4 HU12 HU2
          go_wp2_with fail
          refine HO4'.out.mono ?_
          rintro e y4 ⟨u4, ec4, rfl, ho4, hy4⟩
          have HU14 := Lib.hid (HU13.out.next hy4)
          have HU24 := Lib.hid (HU23.out.next hy4)
          have HU34 := Lib.hid (HU3.out.next hy4)
          have HU44 := Lib.hid ho4
          have HY4 := Lib.hid (HY3.out.trans (hy4.mono HY3.out.size))
          obtain ⟨F4, n4, d4, rfl⟩ := HU44.out.form
          obtain ⟨rfl, hsm⟩ := sameU_any HE1.out HU14.out HU24.out
          have HSM := Lib.hid hsm
          have HSM2 := Lib.hid (fun W (hb : Below y4.heap.size y4 W) => sameU_any HE2.out (HU34.out.next hb) (HU44.out.next hb))
          obtain ⟨rfl, _⟩ := sameU_any HE2.out HU34.out HU44.out
          clear ho4 hy4 HO4' HU13 HU23 HU3 hsm
          go_wp2_with fail
          refine HSM.out.mono ?_
          rintro e y5 ⟨rfl, hy5⟩
          have HY5 := Lib.hid (HY4.out.trans (hy5.mono HY4.out.size))
          have HSM3 := Lib.hid (HSM2.out y5 hy5).2
          clear hy5 HSM HSM2
          go_wp2_with fail
          refine HSM3.out.mono ?_
          rintro e y6 ⟨rfl, hy6⟩
          have HY6 := Lib.hid (HY5.out.trans (hy6.mono HY5.out.size))
          clear hy6
          go_wp2
          go_ret
          exact ⟨rfl, HY6.out⟩
end Go.Proofs.YthhkabbgghepbaaGreat
