/-
  CONTRACTS: the program's ByName and ByID: a closure, slices.IndexFunc, first.
-/
import Derived.RangeFuncBox
import Derived.Deep.Cut
import Derived.Test.YtoidkhojkekjeaaJAValR
namespace Go.Proofs.Ytoidkhojkekjeaa
open Go.RowKit

set_option maxHeartbeats 1000000 in
theorem closByName_any (y : Att) (s : ByteArray) (Bt : Nat) (w : World) (v : Bool) (hv : nmP s y = v) (hb : w.cell? ⟨Bt, 0, none⟩ = some (.string s)) (hlt : Bt < w.heap.size) :
    Calls Try.prog 31 #[.agg #[.int .i64 y.id, .string y.nm, .int .i64 y.ty, .bool y.many, .int .i64 y.un, .bool y.part, .bool y.ix], .pointer (some ⟨Bt, 0, none⟩)] w fun e w' => e = .returned (.bool v) ∧ Below w.heap.size w w' := by
  have b0 : (w.alloc (.cells #[.int .i64 y.id, .string y.nm, .int .i64 y.ty, .bool y.many, .int .i64 y.un, .bool y.part, .bool y.ix] 33)).cell? ⟨Bt, 0, none⟩ = some (.string s) := (World.cell?_alloc_lt _ _ ⟨Bt, 0, none⟩ hlt).trans hb
  subst hv
  clear hb
  by_cases e0 : y.nm = s
  · have q0 : (y.nm.toList == s.toList) = true := by rw [e0, beq_self_eq_true]
    have HE : Hid (nmP s y = true) := decide_eq_true e0
    clear e0
    go_enter Try.func31, Try.ntmps31
    go_wp2
    go_ret
    exact ⟨by rw [HE.out]; rfl, (Below.refl _ _).alloc (Nat.le_refl _) _⟩
  · have q0 : (y.nm.toList == s.toList) = false := by
          rw [beq_eq_false_iff_ne, ByteArray.toList_eq, ByteArray.toList_eq]
          exact fun h => e0 (ByteArray.ext (Array.toList_inj.1 h))
    have HE : Hid (nmP s y = false) := decide_eq_false e0
    clear e0
    go_enter Try.func31, Try.ntmps31
    go_wp2
    go_ret
    exact ⟨by rw [HE.out]; rfl, (Below.refl _ _).alloc (Nat.le_refl _) _⟩

set_option maxRecDepth 100000 in
set_option maxHeartbeats 1000000 in
theorem indexByName_any (A : Option Addr) (c : Nat) (l : List Att) (s : ByteArray) (Bt : Nat) (w : World) (hs : SlA w w.heap.size A l) (hl : l.length ≤ 2000000000000) (hb : w.cell? ⟨Bt, 0, none⟩ = some (.string s)) (hlt : Bt < w.heap.size) :
    Calls Try.prog 44 #[.slice A l.length c, .func (.func 31) #[] #[.pointer (some ⟨Bt, 0, none⟩)]] w fun e w' => ((l.find? (nmP s) = none ∧ e = .returned (.int .i64 (-1))) ∨ ∃ (j : Nat) (y : Att), e = .returned (.int .i64 j) ∧ l[j]? = some y ∧ l.find? (nmP s) = some y) ∧ Below w.heap.size w w' := by
  have HS := Lib.hid hs
  have HT := Lib.hid hb
  clear hs hb
  go_enter Try.func44, Try.ntmps44
  go_wp2
  go_loopg [5, 8] l.length (fun g _ y wr => ∃ j : Nat, y = .int .i64 j ∧ j + g = l.length ∧ Hid ((l.drop j).find? (nmP s) = l.find? (nmP s)) ∧ Hid (Below w.heap.size w wr))
  case atStart => exact ⟨0, rfl, by omega, rfl, Below.refl _ _⟩
  case round =>
    obtain ⟨j, rfl, hj, HN, HB⟩ := hrel
    cases gk with
    | zero =>
      have hjz : ¬ ((j : Int) < (l.length : Int)) := by omega
      have HE : Hid (l.find? (nmP s) = none) := by
        show _ = _
        rw [← HN.out, List.drop_eq_nil_of_le (by omega)]
        rfl
      go_wp2
      go_ret
      exact ⟨.inl ⟨by first | exact HE.out | simpa using HE.out, rfl⟩, HB.out⟩
    | succ g =>
      have hjz : (j : Int) < (l.length : Int) := by omega
      have hjn : j < l.length := by omega
      obtain ⟨b, o, rfl, _, hp⟩ := (HS.out.next HB.out (Nat.le_refl _)).at_ hjn
      have hd := find_step (p := nmP s) hjn
      have hg := List.getElem?_eq_getElem hjn
      obtain ⟨y, hy⟩ : ∃ y, l[j] = y := ⟨_, rfl⟩
      rw [hy] at hp hd hg
      rw [HN.out] at hd
      have HD := Lib.hid hd
      have HG := Lib.hid hg
      have y0 := hp.c0
      have y1 := hp.c1
      have y2 := hp.c2
      have y3 := hp.c3
      have y4 := hp.c4
      have y5 := hp.c5
      have y6 := hp.c6
      have hbz := HB.out.size
      have HBT := Lib.hid ((HB.out.cell (p := ⟨Bt, 0, none⟩) hlt).trans HT.out)
      clear hp hy hd hg
      cases hv : nmP s y
      · have HW := Lib.hid (fun X h1 h2 => closByName_any y s Bt X false hv h1 h2)
        have HN2 : Hid ((l.drop (j + 1)).find? (nmP s) = l.find? (nmP s)) := by
          show _ = _
          rw [HD.out, hv]
          rfl
        clear hv
        go_wp2_with fail
        refine (HW.out _ HBT.out (by omega)).mono ?_
        rintro e w9 ⟨rfl, hb9⟩
        have HB9 := Lib.hid (HB.out.trans (hb9.mono hbz))
        clear hb9 y0 y1 y2 y3 y4 y5 y6
        go_wp2
        go_roundg g
        case measure => omega
        case rel => exact ⟨j + 1, by go_num, by omega, HN2.out, HB9.out⟩
      · have HW := Lib.hid (fun X h1 h2 => closByName_any y s Bt X true hv h1 h2)
        have HE : Hid (l.find? (nmP s) = some y) := by show _ = _; rw [HD.out, hv]; rfl
        clear hv
        go_wp2_with fail
        refine (HW.out _ HBT.out (by omega)).mono ?_
        rintro e w9 ⟨rfl, hb9⟩
        have HB9 := Lib.hid (HB.out.trans (hb9.mono hbz))
        clear hb9 y0 y1 y2 y3 y4 y5 y6
        go_wp2
        go_ret
        exact ⟨.inr ⟨j, y, rfl, HG.out, HE.out⟩, HB9.out⟩

set_option maxRecDepth 100000 in
set_option maxHeartbeats 1000000 in
theorem firstByName_any (A : Option Addr) (c : Nat) (l : List Att) (s : ByteArray) (Bt : Nat) (w : World) (hs : SlA w w.heap.size A l) (hl : l.length ≤ 2000000000000) (hb : w.cell? ⟨Bt, 0, none⟩ = some (.string s)) (hlt : Bt < w.heap.size) :
    Calls Try.prog 30 #[.slice A l.length c, .func (.func 31) #[] #[.pointer (some ⟨Bt, 0, none⟩)]] w fun e w' => e = .returned (fndV (l.find? (nmP s))) ∧ Below w.heap.size w w' := by
  obtain ⟨w0, hw0⟩ : ∃ w0, w.alloc (.cells #[.int .i64 0, .string ⟨#[]⟩, .int .i64 0, .bool false, .int .i64 0, .bool false, .bool false] 33) = w0 := ⟨_, rfl⟩
  have hb0 : Below w.heap.size w w0 := by rw [← hw0]; exact (Below.refl _ _).alloc (Nat.le_refl _) _
  have hx0 : w0.heap[w.heap.size]? = some (.cells #[.int .i64 0, .string ⟨#[]⟩, .int .i64 0, .bool false, .int .i64 0, .bool false, .bool false] 33) := by rw [← hw0]; exact heap_alloc_new w _
  have hz0 : w0.heap.size = w.heap.size + 1 := by rw [← hw0]; simp
  have HI := Lib.hid (indexByName_any A c l s Bt w0 ((hs.next hb0 (Nat.le_refl _)).more (by omega)) hl ((hb0.cell (p := ⟨Bt, 0, none⟩) hlt).trans hb) (by omega))
  have HS := Lib.hid (hs.next hb0 (Nat.le_refl _))
  have HB0 := Lib.hid hb0
  have HX0 := Lib.hid hx0
  clear hs hb hb0 hx0
  go_enter Try.func30, Try.ntmps30
  go_upto_region 1 with (fail)
  try rw [hw0]
  clear hw0
  go_wp2_with fail
  refine HI.out.mono ?_
  rintro e w1 ⟨hf, hb1⟩
  have HB1 := Lib.hid (HB0.out.trans (hb1.mono HB0.out.size))
  have HX1 := Lib.hid ((hb1.block w.heap.size (by omega)).trans HX0.out)
  have HS1 := Lib.hid (HS.out.next hb1 HB0.out.size)
  clear hb1 HI
  rcases hf with ⟨hf, rfl⟩ | ⟨j, y, rfl, hj, hf⟩
  · have HE := Lib.hid hf
    clear hf
    have HXB : Hid (BxA w1 w.heap.size zA) := HX1.out
    have x0 := HXB.out.cell 0
    have x1 := HXB.out.cell 1
    have x2 := HXB.out.cell 2
    have x3 := HXB.out.cell 3
    have x4 := HXB.out.cell 4
    have x5 := HXB.out.cell 5
    have x6 := HXB.out.cell 6
    have f0 := HXB.out.fz 0
    have f1 := HXB.out.fz 1
    have f2 := HXB.out.fz 2
    have f3 := HXB.out.fz 3
    have f4 := HXB.out.fz 4
    have f5 := HXB.out.fz 5
    have f6 := HXB.out.fz 6
    have HQ := Lib.hid (HXB.out.set7 zA)
    have HBQ := Lib.hid (HB1.out.trans (below_set7 (W := w1) (B := w.heap.size) (b := w.heap.size) (Nat.le_refl _) (.int .i64 zA.id) (.string zA.nm) (.int .i64 zA.ty) (.bool zA.many) (.int .i64 zA.un) (.bool zA.part) (.bool zA.ix)))
    go_wp2
    have c0 := HQ.out.cell 0
    have c1 := HQ.out.cell 1
    have c2 := HQ.out.cell 2
    have c3 := HQ.out.cell 3
    have c4 := HQ.out.cell 4
    have c5 := HQ.out.cell 5
    have c6 := HQ.out.cell 6
    simp only [zA] at c0 c1 c2 c3 c4 c5 c6
    clear x0 x1 x2 x3 x4 x5 x6 f0 f1 f2 f3 f4 f5 f6
    refine bodyPost_ret (v := .tuple #[.agg #[.int .i64 0, .string ⟨#[]⟩, .int .i64 0, .bool false, .int .i64 0, .bool false, .bool false], .bool false]) ?_ rfl ⟨by rw [HE.out]; rfl, HBQ.out⟩
    rw [results_cell_tmp rfl]
    go_simp
  · have HE := Lib.hid hf
    have hjn : j < l.length := (List.getElem?_eq_some_iff.1 hj).1
    have hy : l[j] = y := (List.getElem?_eq_some_iff.1 hj).2
    have hji : (j : Int) < (l.length : Int) := by omega
    have hj0 : decide ((0 : Int) ≤ j) = true := decide_eq_true (by omega)
    obtain ⟨b, o, rfl, hlt2, hp⟩ := HS1.out.at_ hjn
    rw [hy] at hp
    have y0 := hp.c0
    have y1 := hp.c1
    have y2 := hp.c2
    have y3 := hp.c3
    have y4 := hp.c4
    have y5 := hp.c5
    have y6 := hp.c6
    clear hp hy hf hj
    have HXB : Hid (BxA w1 w.heap.size zA) := HX1.out
    have x0 := HXB.out.cell 0
    have x1 := HXB.out.cell 1
    have x2 := HXB.out.cell 2
    have x3 := HXB.out.cell 3
    have x4 := HXB.out.cell 4
    have x5 := HXB.out.cell 5
    have x6 := HXB.out.cell 6
    have f0 := HXB.out.fz 0
    have f1 := HXB.out.fz 1
    have f2 := HXB.out.fz 2
    have f3 := HXB.out.fz 3
    have f4 := HXB.out.fz 4
    have f5 := HXB.out.fz 5
    have f6 := HXB.out.fz 6
    have HQ := Lib.hid (HXB.out.set7 y)
    have HBQ := Lib.hid (HB1.out.trans (below_set7 (W := w1) (B := w.heap.size) (b := w.heap.size) (Nat.le_refl _) (.int .i64 y.id) (.string y.nm) (.int .i64 y.ty) (.bool y.many) (.int .i64 y.un) (.bool y.part) (.bool y.ix)))
    go_wp2
    have c0 := HQ.out.cell 0
    have c1 := HQ.out.cell 1
    have c2 := HQ.out.cell 2
    have c3 := HQ.out.cell 3
    have c4 := HQ.out.cell 4
    have c5 := HQ.out.cell 5
    have c6 := HQ.out.cell 6
    clear x0 x1 x2 x3 x4 x5 x6 f0 f1 f2 f3 f4 f5 f6
    refine bodyPost_ret (v := .tuple #[.agg #[.int .i64 y.id, .string y.nm, .int .i64 y.ty, .bool y.many, .int .i64 y.un, .bool y.part, .bool y.ix], .bool true]) ?_ rfl ⟨by rw [HE.out]; rfl, HBQ.out⟩
    rw [results_cell_tmp rfl]
    go_simp

set_option maxRecDepth 100000 in
set_option maxHeartbeats 1000000 in
theorem byName_any (A : Option Addr) (c : Nat) (l : List Att) (s : ByteArray) (w : World) (hs : SlA w w.heap.size A l) (hl : l.length ≤ 2000000000000) :
    Calls Try.prog 13 #[.slice A l.length c, .string s] w fun e w' => e = .returned (fndV (l.find? (nmP s))) ∧ Below w.heap.size w w' := by
  obtain ⟨w0, hw0⟩ : ∃ w0, (w.alloc (.cells #[.string s] 9)).alloc (.cells #[.int .i64 0, .string ⟨#[]⟩, .int .i64 0, .bool false, .int .i64 0, .bool false, .bool false] 33) = w0 := ⟨_, rfl⟩
  have hb0 : Below w.heap.size w w0 := by rw [← hw0]; exact ((Below.refl _ _).alloc (Nat.le_refl _) _).alloc (by simp) _
  have hx0 : w0.heap[w.heap.size + 1]? = some (.cells #[.int .i64 0, .string ⟨#[]⟩, .int .i64 0, .bool false, .int .i64 0, .bool false, .bool false] 33) := by rw [← hw0]; exact heap_alloc2_new w _ _
  have hs0 : w0.cell? ⟨w.heap.size, 0, none⟩ = some (.string s) := by
    rw [← hw0]
    exact (World.cell?_alloc_lt _ _ ⟨w.heap.size, 0, none⟩ (by simp)).trans (by have h := heap_alloc_new w (.cells #[.string s] 9); unfold World.cell?; rw [h]; rfl)
  have hz0 : w0.heap.size = w.heap.size + 2 := by rw [← hw0]; simp
  have HI := Lib.hid (firstByName_any A c l s w.heap.size w0 ((hs.next hb0 (Nat.le_refl _)).more (by omega)) hl hs0 (by omega))
  have HB0 := Lib.hid hb0
  have HX0 := Lib.hid hx0
  clear hs hs0 hb0 hx0
  go_enter Try.func13, Try.ntmps13
  go_upto_region 1 with (fail)
  try rw [hw0]
  clear hw0
  go_wp2_with fail
  refine HI.out.mono ?_
  rintro e w1 ⟨rfl, hb1⟩
  have HB1 := Lib.hid (HB0.out.trans (hb1.mono HB0.out.size))
  have HXB : Hid (BxA w1 (w.heap.size + 1) zA) := (hb1.block (w.heap.size + 1) (by omega)).trans HX0.out
  clear hb1 HI
  obtain ⟨o, ho⟩ : ∃ o, l.find? (nmP s) = o := ⟨_, rfl⟩
  obtain ⟨q, hq⟩ : ∃ q, o.getD zA = q := ⟨_, rfl⟩
  have HV : Hid (fndV (l.find? (nmP s)) = .tuple #[.agg #[.int .i64 q.id, .string q.nm, .int .i64 q.ty, .bool q.many, .int .i64 q.un, .bool q.part, .bool q.ix], .bool o.isSome]) := by
    show _ = _
    rw [ho, ← hq]
    rfl
  clear hq ho
  rw [HV.out]
  have x0 := HXB.out.cell 0
  have x1 := HXB.out.cell 1
  have x2 := HXB.out.cell 2
  have x3 := HXB.out.cell 3
  have x4 := HXB.out.cell 4
  have x5 := HXB.out.cell 5
  have x6 := HXB.out.cell 6
  have f0 := HXB.out.fz 0
  have f1 := HXB.out.fz 1
  have f2 := HXB.out.fz 2
  have f3 := HXB.out.fz 3
  have f4 := HXB.out.fz 4
  have f5 := HXB.out.fz 5
  have f6 := HXB.out.fz 6
  have HQ := Lib.hid (HXB.out.set7 q)
  have HBQ := Lib.hid (HB1.out.trans (below_set7 (W := w1) (B := w.heap.size) (b := w.heap.size + 1) (Nat.le_succ _) (.int .i64 q.id) (.string q.nm) (.int .i64 q.ty) (.bool q.many) (.int .i64 q.un) (.bool q.part) (.bool q.ix)))
  go_wp2
  have c0 := HQ.out.cell 0
  have c1 := HQ.out.cell 1
  have c2 := HQ.out.cell 2
  have c3 := HQ.out.cell 3
  have c4 := HQ.out.cell 4
  have c5 := HQ.out.cell 5
  have c6 := HQ.out.cell 6
  clear x0 x1 x2 x3 x4 x5 x6 f0 f1 f2 f3 f4 f5 f6
  refine bodyPost_ret (v := .tuple #[.agg #[.int .i64 q.id, .string q.nm, .int .i64 q.ty, .bool q.many, .int .i64 q.un, .bool q.part, .bool q.ix], .bool o.isSome]) ?_ rfl ⟨by rw [HV.out], HBQ.out⟩
  rw [results_cell_tmp rfl]
  go_simp

set_option maxHeartbeats 1000000 in
theorem closByID_any (y : Att) (s : Int) (Bt : Nat) (w : World) (v : Bool) (hv : idP s y = v) (hb : w.cell? ⟨Bt, 0, none⟩ = some (.int .i64 s)) (hlt : Bt < w.heap.size) :
    Calls Try.prog 32 #[.agg #[.int .i64 y.id, .string y.nm, .int .i64 y.ty, .bool y.many, .int .i64 y.un, .bool y.part, .bool y.ix], .pointer (some ⟨Bt, 0, none⟩)] w fun e w' => e = .returned (.bool v) ∧ Below w.heap.size w w' := by
  have b0 : (w.alloc (.cells #[.int .i64 y.id, .string y.nm, .int .i64 y.ty, .bool y.many, .int .i64 y.un, .bool y.part, .bool y.ix] 33)).cell? ⟨Bt, 0, none⟩ = some (.int .i64 s) := (World.cell?_alloc_lt _ _ ⟨Bt, 0, none⟩ hlt).trans hb
  subst hv
  clear hb
  by_cases e0 : y.id = s
  · have q0 : (y.id == s) = true := by rw [e0, beq_self_eq_true]
    have HE : Hid (idP s y = true) := decide_eq_true e0
    clear e0
    go_enter Try.func32, Try.ntmps32
    go_wp2
    go_ret
    exact ⟨by rw [HE.out]; rfl, (Below.refl _ _).alloc (Nat.le_refl _) _⟩
  · have q0 : (y.id == s) = false := beq_eq_false_iff_ne.2 e0
    have HE : Hid (idP s y = false) := decide_eq_false e0
    clear e0
    go_enter Try.func32, Try.ntmps32
    go_wp2
    go_ret
    exact ⟨by rw [HE.out]; rfl, (Below.refl _ _).alloc (Nat.le_refl _) _⟩

set_option maxRecDepth 100000 in
set_option maxHeartbeats 1000000 in
theorem indexByID_any (A : Option Addr) (c : Nat) (l : List Att) (s : Int) (Bt : Nat) (w : World) (hs : SlA w w.heap.size A l) (hl : l.length ≤ 2000000000000) (hb : w.cell? ⟨Bt, 0, none⟩ = some (.int .i64 s)) (hlt : Bt < w.heap.size) :
    Calls Try.prog 44 #[.slice A l.length c, .func (.func 32) #[] #[.pointer (some ⟨Bt, 0, none⟩)]] w fun e w' => ((l.find? (idP s) = none ∧ e = .returned (.int .i64 (-1))) ∨ ∃ (j : Nat) (y : Att), e = .returned (.int .i64 j) ∧ l[j]? = some y ∧ l.find? (idP s) = some y) ∧ Below w.heap.size w w' := by
  have HS := Lib.hid hs
  have HT := Lib.hid hb
  clear hs hb
  go_enter Try.func44, Try.ntmps44
  go_wp2
  go_loopg [5, 8] l.length (fun g _ y wr => ∃ j : Nat, y = .int .i64 j ∧ j + g = l.length ∧ Hid ((l.drop j).find? (idP s) = l.find? (idP s)) ∧ Hid (Below w.heap.size w wr))
  case atStart => exact ⟨0, rfl, by omega, rfl, Below.refl _ _⟩
  case round =>
    obtain ⟨j, rfl, hj, HN, HB⟩ := hrel
    cases gk with
    | zero =>
      have hjz : ¬ ((j : Int) < (l.length : Int)) := by omega
      have HE : Hid (l.find? (idP s) = none) := by
        show _ = _
        rw [← HN.out, List.drop_eq_nil_of_le (by omega)]
        rfl
      go_wp2
      go_ret
      exact ⟨.inl ⟨by first | exact HE.out | simpa using HE.out, rfl⟩, HB.out⟩
    | succ g =>
      have hjz : (j : Int) < (l.length : Int) := by omega
      have hjn : j < l.length := by omega
      obtain ⟨b, o, rfl, _, hp⟩ := (HS.out.next HB.out (Nat.le_refl _)).at_ hjn
      have hd := find_step (p := idP s) hjn
      have hg := List.getElem?_eq_getElem hjn
      obtain ⟨y, hy⟩ : ∃ y, l[j] = y := ⟨_, rfl⟩
      rw [hy] at hp hd hg
      rw [HN.out] at hd
      have HD := Lib.hid hd
      have HG := Lib.hid hg
      have y0 := hp.c0
      have y1 := hp.c1
      have y2 := hp.c2
      have y3 := hp.c3
      have y4 := hp.c4
      have y5 := hp.c5
      have y6 := hp.c6
      have hbz := HB.out.size
      have HBT := Lib.hid ((HB.out.cell (p := ⟨Bt, 0, none⟩) hlt).trans HT.out)
      clear hp hy hd hg
      cases hv : idP s y
      · have HW := Lib.hid (fun X h1 h2 => closByID_any y s Bt X false hv h1 h2)
        have HN2 : Hid ((l.drop (j + 1)).find? (idP s) = l.find? (idP s)) := by
          show _ = _
          rw [HD.out, hv]
          rfl
        clear hv
        go_wp2_with fail
        refine (HW.out _ HBT.out (by omega)).mono ?_
        rintro e w9 ⟨rfl, hb9⟩
        have HB9 := Lib.hid (HB.out.trans (hb9.mono hbz))
        clear hb9 y0 y1 y2 y3 y4 y5 y6
        go_wp2
        go_roundg g
        case measure => omega
        case rel => exact ⟨j + 1, by go_num, by omega, HN2.out, HB9.out⟩
      · have HW := Lib.hid (fun X h1 h2 => closByID_any y s Bt X true hv h1 h2)
        have HE : Hid (l.find? (idP s) = some y) := by show _ = _; rw [HD.out, hv]; rfl
        clear hv
        go_wp2_with fail
        refine (HW.out _ HBT.out (by omega)).mono ?_
        rintro e w9 ⟨rfl, hb9⟩
        have HB9 := Lib.hid (HB.out.trans (hb9.mono hbz))
        clear hb9 y0 y1 y2 y3 y4 y5 y6
        go_wp2
        go_ret
        exact ⟨.inr ⟨j, y, rfl, HG.out, HE.out⟩, HB9.out⟩

set_option maxRecDepth 100000 in
set_option maxHeartbeats 1000000 in
theorem firstByID_any (A : Option Addr) (c : Nat) (l : List Att) (s : Int) (Bt : Nat) (w : World) (hs : SlA w w.heap.size A l) (hl : l.length ≤ 2000000000000) (hb : w.cell? ⟨Bt, 0, none⟩ = some (.int .i64 s)) (hlt : Bt < w.heap.size) :
    Calls Try.prog 30 #[.slice A l.length c, .func (.func 32) #[] #[.pointer (some ⟨Bt, 0, none⟩)]] w fun e w' => e = .returned (fndV (l.find? (idP s))) ∧ Below w.heap.size w w' := by
  obtain ⟨w0, hw0⟩ : ∃ w0, w.alloc (.cells #[.int .i64 0, .string ⟨#[]⟩, .int .i64 0, .bool false, .int .i64 0, .bool false, .bool false] 33) = w0 := ⟨_, rfl⟩
  have hb0 : Below w.heap.size w w0 := by rw [← hw0]; exact (Below.refl _ _).alloc (Nat.le_refl _) _
  have hx0 : w0.heap[w.heap.size]? = some (.cells #[.int .i64 0, .string ⟨#[]⟩, .int .i64 0, .bool false, .int .i64 0, .bool false, .bool false] 33) := by rw [← hw0]; exact heap_alloc_new w _
  have hz0 : w0.heap.size = w.heap.size + 1 := by rw [← hw0]; simp
  have HI := Lib.hid (indexByID_any A c l s Bt w0 ((hs.next hb0 (Nat.le_refl _)).more (by omega)) hl ((hb0.cell (p := ⟨Bt, 0, none⟩) hlt).trans hb) (by omega))
  have HS := Lib.hid (hs.next hb0 (Nat.le_refl _))
  have HB0 := Lib.hid hb0
  have HX0 := Lib.hid hx0
  clear hs hb hb0 hx0
  go_enter Try.func30, Try.ntmps30
  go_upto_region 1 with (fail)
  try rw [hw0]
  clear hw0
  go_wp2_with fail
  refine HI.out.mono ?_
  rintro e w1 ⟨hf, hb1⟩
  have HB1 := Lib.hid (HB0.out.trans (hb1.mono HB0.out.size))
  have HX1 := Lib.hid ((hb1.block w.heap.size (by omega)).trans HX0.out)
  have HS1 := Lib.hid (HS.out.next hb1 HB0.out.size)
  clear hb1 HI
  rcases hf with ⟨hf, rfl⟩ | ⟨j, y, rfl, hj, hf⟩
  · have HE := Lib.hid hf
    clear hf
    have HXB : Hid (BxA w1 w.heap.size zA) := HX1.out
    have x0 := HXB.out.cell 0
    have x1 := HXB.out.cell 1
    have x2 := HXB.out.cell 2
    have x3 := HXB.out.cell 3
    have x4 := HXB.out.cell 4
    have x5 := HXB.out.cell 5
    have x6 := HXB.out.cell 6
    have f0 := HXB.out.fz 0
    have f1 := HXB.out.fz 1
    have f2 := HXB.out.fz 2
    have f3 := HXB.out.fz 3
    have f4 := HXB.out.fz 4
    have f5 := HXB.out.fz 5
    have f6 := HXB.out.fz 6
    have HQ := Lib.hid (HXB.out.set7 zA)
    have HBQ := Lib.hid (HB1.out.trans (below_set7 (W := w1) (B := w.heap.size) (b := w.heap.size) (Nat.le_refl _) (.int .i64 zA.id) (.string zA.nm) (.int .i64 zA.ty) (.bool zA.many) (.int .i64 zA.un) (.bool zA.part) (.bool zA.ix)))
    go_wp2
    have c0 := HQ.out.cell 0
    have c1 := HQ.out.cell 1
    have c2 := HQ.out.cell 2
    have c3 := HQ.out.cell 3
    have c4 := HQ.out.cell 4
    have c5 := HQ.out.cell 5
    have c6 := HQ.out.cell 6
    simp only [zA] at c0 c1 c2 c3 c4 c5 c6
    clear x0 x1 x2 x3 x4 x5 x6 f0 f1 f2 f3 f4 f5 f6
    refine bodyPost_ret (v := .tuple #[.agg #[.int .i64 0, .string ⟨#[]⟩, .int .i64 0, .bool false, .int .i64 0, .bool false, .bool false], .bool false]) ?_ rfl ⟨by rw [HE.out]; rfl, HBQ.out⟩
    rw [results_cell_tmp rfl]
    go_simp
  · have HE := Lib.hid hf
    have hjn : j < l.length := (List.getElem?_eq_some_iff.1 hj).1
    have hy : l[j] = y := (List.getElem?_eq_some_iff.1 hj).2
    have hji : (j : Int) < (l.length : Int) := by omega
    have hj0 : decide ((0 : Int) ≤ j) = true := decide_eq_true (by omega)
    obtain ⟨b, o, rfl, hlt2, hp⟩ := HS1.out.at_ hjn
    rw [hy] at hp
    have y0 := hp.c0
    have y1 := hp.c1
    have y2 := hp.c2
    have y3 := hp.c3
    have y4 := hp.c4
    have y5 := hp.c5
    have y6 := hp.c6
    clear hp hy hf hj
    have HXB : Hid (BxA w1 w.heap.size zA) := HX1.out
    have x0 := HXB.out.cell 0
    have x1 := HXB.out.cell 1
    have x2 := HXB.out.cell 2
    have x3 := HXB.out.cell 3
    have x4 := HXB.out.cell 4
    have x5 := HXB.out.cell 5
    have x6 := HXB.out.cell 6
    have f0 := HXB.out.fz 0
    have f1 := HXB.out.fz 1
    have f2 := HXB.out.fz 2
    have f3 := HXB.out.fz 3
    have f4 := HXB.out.fz 4
    have f5 := HXB.out.fz 5
    have f6 := HXB.out.fz 6
    have HQ := Lib.hid (HXB.out.set7 y)
    have HBQ := Lib.hid (HB1.out.trans (below_set7 (W := w1) (B := w.heap.size) (b := w.heap.size) (Nat.le_refl _) (.int .i64 y.id) (.string y.nm) (.int .i64 y.ty) (.bool y.many) (.int .i64 y.un) (.bool y.part) (.bool y.ix)))
    go_wp2
    have c0 := HQ.out.cell 0
    have c1 := HQ.out.cell 1
    have c2 := HQ.out.cell 2
    have c3 := HQ.out.cell 3
    have c4 := HQ.out.cell 4
    have c5 := HQ.out.cell 5
    have c6 := HQ.out.cell 6
    clear x0 x1 x2 x3 x4 x5 x6 f0 f1 f2 f3 f4 f5 f6
    refine bodyPost_ret (v := .tuple #[.agg #[.int .i64 y.id, .string y.nm, .int .i64 y.ty, .bool y.many, .int .i64 y.un, .bool y.part, .bool y.ix], .bool true]) ?_ rfl ⟨by rw [HE.out]; rfl, HBQ.out⟩
    rw [results_cell_tmp rfl]
    go_simp

set_option maxRecDepth 100000 in
set_option maxHeartbeats 1000000 in
theorem byID_any (A : Option Addr) (c : Nat) (l : List Att) (s : Int) (w : World) (hs : SlA w w.heap.size A l) (hl : l.length ≤ 2000000000000) :
    Calls Try.prog 15 #[.slice A l.length c, .int .i64 s] w fun e w' => e = .returned (fndV (l.find? (idP s))) ∧ Below w.heap.size w w' := by
  obtain ⟨w0, hw0⟩ : ∃ w0, (w.alloc (.cells #[.int .i64 s] 2)).alloc (.cells #[.int .i64 0, .string ⟨#[]⟩, .int .i64 0, .bool false, .int .i64 0, .bool false, .bool false] 33) = w0 := ⟨_, rfl⟩
  have hb0 : Below w.heap.size w w0 := by rw [← hw0]; exact ((Below.refl _ _).alloc (Nat.le_refl _) _).alloc (by simp) _
  have hx0 : w0.heap[w.heap.size + 1]? = some (.cells #[.int .i64 0, .string ⟨#[]⟩, .int .i64 0, .bool false, .int .i64 0, .bool false, .bool false] 33) := by rw [← hw0]; exact heap_alloc2_new w _ _
  have hs0 : w0.cell? ⟨w.heap.size, 0, none⟩ = some (.int .i64 s) := by
    rw [← hw0]
    exact (World.cell?_alloc_lt _ _ ⟨w.heap.size, 0, none⟩ (by simp)).trans (by have h := heap_alloc_new w (.cells #[.int .i64 s] 2); unfold World.cell?; rw [h]; rfl)
  have hz0 : w0.heap.size = w.heap.size + 2 := by rw [← hw0]; simp
  have HI := Lib.hid (firstByID_any A c l s w.heap.size w0 ((hs.next hb0 (Nat.le_refl _)).more (by omega)) hl hs0 (by omega))
  have HB0 := Lib.hid hb0
  have HX0 := Lib.hid hx0
  clear hs hs0 hb0 hx0
  go_enter Try.func15, Try.ntmps15
  go_upto_region 1 with (fail)
  try rw [hw0]
  clear hw0
  go_wp2_with fail
  refine HI.out.mono ?_
  rintro e w1 ⟨rfl, hb1⟩
  have HB1 := Lib.hid (HB0.out.trans (hb1.mono HB0.out.size))
  have HXB : Hid (BxA w1 (w.heap.size + 1) zA) := (hb1.block (w.heap.size + 1) (by omega)).trans HX0.out
  clear hb1 HI
  obtain ⟨o, ho⟩ : ∃ o, l.find? (idP s) = o := ⟨_, rfl⟩
  obtain ⟨q, hq⟩ : ∃ q, o.getD zA = q := ⟨_, rfl⟩
  have HV : Hid (fndV (l.find? (idP s)) = .tuple #[.agg #[.int .i64 q.id, .string q.nm, .int .i64 q.ty, .bool q.many, .int .i64 q.un, .bool q.part, .bool q.ix], .bool o.isSome]) := by
    show _ = _
    rw [ho, ← hq]
    rfl
  clear hq ho
  rw [HV.out]
  have x0 := HXB.out.cell 0
  have x1 := HXB.out.cell 1
  have x2 := HXB.out.cell 2
  have x3 := HXB.out.cell 3
  have x4 := HXB.out.cell 4
  have x5 := HXB.out.cell 5
  have x6 := HXB.out.cell 6
  have f0 := HXB.out.fz 0
  have f1 := HXB.out.fz 1
  have f2 := HXB.out.fz 2
  have f3 := HXB.out.fz 3
  have f4 := HXB.out.fz 4
  have f5 := HXB.out.fz 5
  have f6 := HXB.out.fz 6
  have HQ := Lib.hid (HXB.out.set7 q)
  have HBQ := Lib.hid (HB1.out.trans (below_set7 (W := w1) (B := w.heap.size) (b := w.heap.size + 1) (Nat.le_succ _) (.int .i64 q.id) (.string q.nm) (.int .i64 q.ty) (.bool q.many) (.int .i64 q.un) (.bool q.part) (.bool q.ix)))
  go_wp2
  have c0 := HQ.out.cell 0
  have c1 := HQ.out.cell 1
  have c2 := HQ.out.cell 2
  have c3 := HQ.out.cell 3
  have c4 := HQ.out.cell 4
  have c5 := HQ.out.cell 5
  have c6 := HQ.out.cell 6
  clear x0 x1 x2 x3 x4 x5 x6 f0 f1 f2 f3 f4 f5 f6
  refine bodyPost_ret (v := .tuple #[.agg #[.int .i64 q.id, .string q.nm, .int .i64 q.ty, .bool q.many, .int .i64 q.un, .bool q.part, .bool q.ix], .bool o.isSome]) ?_ rfl ⟨by rw [HV.out], HBQ.out⟩
  rw [results_cell_tmp rfl]
  go_simp
end Go.Proofs.Ytoidkhojkekjeaa
