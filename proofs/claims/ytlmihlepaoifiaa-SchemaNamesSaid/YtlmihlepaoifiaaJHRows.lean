import Derived.Test.YtlmihlepaoifiaaJHTwo
/-
  CONTRACTS: what each row asks.
-/
namespace Go.Proofs.Ytlmihlepaoifiaa
open Go.RowKit Go.Shelf Go.Maps

/-- what rows lays -/
structure RowsE (W : World) (A : Option Addr) (c0 : Nat) (fs : List FactP) (A2 : Option Addr) (c2 : Nat) (T : List Att) (bX bT bM bB bI bS : Nat) : Prop where
  f : FVa W (.slice A fs.length c0) fs
  a : SlA W W.heap.size A2 T
  x : Boxed W bX 24 (.slice A fs.length c0)
  t : Boxed W bT 35 (.slice A2 T.length c2)
  e : RwE W bB bM bI T
  s : Boxed W bS 66 (.func (.func 20) #[] #[.pointer (some ⟨bX, 0, none⟩)])
theorem RowsE.next {W W' : World} {A : Option Addr} {c0 : Nat} {fs : List FactP} {A2 : Option Addr} {c2 : Nat} {T : List Att} {bX bT bM bB bI bS : Nat} (h : RowsE W A c0 fs A2 c2 T bX bT bM bB bI bS) (hb : Below W.heap.size W W') : RowsE W' A c0 fs A2 c2 T bX bT bM bB bI bS :=
  ⟨h.f.next hb, (h.a.next hb (Nat.le_refl _)).more hb.size, (hb.block _ h.x.lt).trans h.x, (hb.block _ h.t.lt).trans h.t, h.e.next hb, (hb.block _ h.s.lt).trans h.s⟩
/-- what is asked of the facts -/
structure HoldA (fs : List FactP) : Prop where
  l : fs.length ≤ 10000
  S : sumS fs ≤ 100000
  O : ∀ f ∈ fs, f.l.length ≤ 1400
  wf : ∀ f ∈ fs, WfF f
  pos : ∀ f ∈ fs, ∀ s ∈ f.l, s.1 < s.2
  ok : ∀ f ∈ fs, ∀ s ∈ f.l, SpOk s
set_option maxRecDepth 100000 in
set_option maxHeartbeats 1000000 in
theorem sayF1_any (A : Option Addr) (c0 : Nat) (fs : List FactP) (A2 : Option Addr) (c2 : Nat) (T : List Att) (bX bT bM bB bI bS : Nat) (w : World) (hE : RowsE w A c0 fs A2 c2 T bX bT bM bB bI bS) (hH : HoldA fs) :
    Calls Try.prog 20 #[.func (.func 23) #[] #[.pointer (some ⟨bI, 0, none⟩)], .pointer (some ⟨bX, 0, none⟩)] w fun e w' => e = .returned (.bool (fs.any (a1B T))) ∧ Below w.heap.size w w' := by
  have HC := Lib.hid (someF1_any bI (a1B T) A c0 fs w hE.f (by have := hH.l; omega) (fun f hf A3 c3 W hss hlc hcm hb => ask1_any T bB bM bI f A3 f.l.length c3 W (hE.e.next hb) (hH.wf f hf)))
  have x0 := hE.x.cell
  clear hE hH
  go_enter Try.func20, Try.ntmps20
  go_wp2_with fail
  refine HC.out.mono ?_
  rintro e w1 ⟨rfl, hb⟩
  have HB := Lib.hid hb
  clear hb HC x0
  go_wp2
  go_ret
  exact ⟨rfl, HB.out⟩
set_option maxRecDepth 100000 in
set_option maxHeartbeats 1000000 in
theorem sayF2_any (A : Option Addr) (c0 : Nat) (fs : List FactP) (A2 : Option Addr) (c2 : Nat) (T : List Att) (bX bT bM bB bI bS : Nat) (w : World) (hE : RowsE w A c0 fs A2 c2 T bX bT bM bB bI bS) (hH : HoldA fs) :
    Calls Try.prog 20 #[.func (.func 25) #[] #[.pointer (some ⟨bB, 0, none⟩), .pointer (some ⟨bI, 0, none⟩)], .pointer (some ⟨bX, 0, none⟩)] w fun e w' => e = .returned (.bool (fs.any (a2B T))) ∧ Below w.heap.size w w' := by
  have HC := Lib.hid (someF2_any bB bI (a2B T) A c0 fs w hE.f (by have := hH.l; omega) (fun f hf A3 c3 W hss hlc hcm hb => ask2_any T bB bM bI f A3 f.l.length c3 W (hE.e.next hb) (hH.wf f hf)))
  have x0 := hE.x.cell
  clear hE hH
  go_enter Try.func20, Try.ntmps20
  go_wp2_with fail
  refine HC.out.mono ?_
  rintro e w1 ⟨rfl, hb⟩
  have HB := Lib.hid hb
  clear hb HC x0
  go_wp2
  go_ret
  exact ⟨rfl, HB.out⟩
set_option maxRecDepth 100000 in
set_option maxHeartbeats 1000000 in
theorem sayF5_any (A : Option Addr) (c0 : Nat) (fs : List FactP) (A2 : Option Addr) (c2 : Nat) (T : List Att) (bX bT bM bB bI bS : Nat) (w : World) (hE : RowsE w A c0 fs A2 c2 T bX bT bM bB bI bS) (hH : HoldA fs) :
    Calls Try.prog 20 #[.func (.func 38) #[] #[], .pointer (some ⟨bX, 0, none⟩)] w fun e w' => e = .returned (.bool (fs.any (a5B))) ∧ Below w.heap.size w w' := by
  have HC := Lib.hid (someF5_any  (a5B) A c0 fs w hE.f (by have := hH.l; omega) (fun f hf A3 c3 W hss hlc hcm hb => ask5_any f A3 c3 W hss hlc hcm (by have := hH.O f hf; omega) (hH.ok f hf)))
  have x0 := hE.x.cell
  clear hE hH
  go_enter Try.func20, Try.ntmps20
  go_wp2_with fail
  refine HC.out.mono ?_
  rintro e w1 ⟨rfl, hb⟩
  have HB := Lib.hid hb
  clear hb HC x0
  go_wp2
  go_ret
  exact ⟨rfl, HB.out⟩
set_option maxRecDepth 100000 in
set_option maxHeartbeats 1000000 in
theorem row1_any (A : Option Addr) (c0 : Nat) (fs : List FactP) (A2 : Option Addr) (c2 : Nat) (T : List Att) (bX bT bM bB bI bS : Nat) (w : World) (hE : RowsE w A c0 fs A2 c2 T bX bT bM bB bI bS) (hH : HoldA fs) :
    Calls Try.prog 22 #[.pointer (some ⟨bS, 0, none⟩), .pointer (some ⟨bI, 0, none⟩)] w fun e w' => e = .returned (.bool (fs.any (a1B T))) ∧ Below w.heap.size w w' := by
  have HC := Lib.hid (sayF1_any A c0 fs A2 c2 T bX bT bM bB bI bS w hE hH)
  have s0 := hE.s.cell
  clear hE hH
  go_enter Try.func22, Try.ntmps22
  go_wp2_with fail
  refine HC.out.mono ?_
  rintro e w1 ⟨rfl, hb⟩
  have HB := Lib.hid hb
  clear hb HC s0
  go_wp2
  go_ret
  exact ⟨rfl, HB.out⟩
set_option maxRecDepth 100000 in
set_option maxHeartbeats 1000000 in
theorem row2_any (A : Option Addr) (c0 : Nat) (fs : List FactP) (A2 : Option Addr) (c2 : Nat) (T : List Att) (bX bT bM bB bI bS : Nat) (w : World) (hE : RowsE w A c0 fs A2 c2 T bX bT bM bB bI bS) (hH : HoldA fs) :
    Calls Try.prog 24 #[.pointer (some ⟨bS, 0, none⟩), .pointer (some ⟨bB, 0, none⟩), .pointer (some ⟨bI, 0, none⟩)] w fun e w' => e = .returned (.bool (fs.any (a2B T))) ∧ Below w.heap.size w w' := by
  have HC := Lib.hid (sayF2_any A c0 fs A2 c2 T bX bT bM bB bI bS w hE hH)
  have s0 := hE.s.cell
  clear hE hH
  go_enter Try.func24, Try.ntmps24
  go_wp2_with fail
  refine HC.out.mono ?_
  rintro e w1 ⟨rfl, hb⟩
  have HB := Lib.hid hb
  clear hb HC s0
  go_wp2
  go_ret
  exact ⟨rfl, HB.out⟩
set_option maxRecDepth 100000 in
set_option maxHeartbeats 1000000 in
theorem row5_any (A : Option Addr) (c0 : Nat) (fs : List FactP) (A2 : Option Addr) (c2 : Nat) (T : List Att) (bX bT bM bB bI bS : Nat) (w : World) (hE : RowsE w A c0 fs A2 c2 T bX bT bM bB bI bS) (hH : HoldA fs) :
    Calls Try.prog 37 #[.pointer (some ⟨bS, 0, none⟩)] w fun e w' => e = .returned (.bool (fs.any (a5B))) ∧ Below w.heap.size w w' := by
  have HC := Lib.hid (sayF5_any A c0 fs A2 c2 T bX bT bM bB bI bS w hE hH)
  have s0 := hE.s.cell
  clear hE hH
  go_enter Try.func37, Try.ntmps37
  go_wp2_with fail
  refine HC.out.mono ?_
  rintro e w1 ⟨rfl, hb⟩
  have HB := Lib.hid hb
  clear hb HC s0
  go_wp2
  go_ret
  exact ⟨rfl, HB.out⟩
set_option maxRecDepth 100000 in
set_option maxHeartbeats 1000000 in
theorem row6_any (A : Option Addr) (c0 : Nat) (fs : List FactP) (A2 : Option Addr) (c2 : Nat) (T : List Att) (bX bT bM bB bI bS : Nat) (w : World) (hE : RowsE w A c0 fs A2 c2 T bX bT bM bB bI bS) (hT : T.length ≤ 1000000) :
    Calls Try.prog 40 #[.pointer (some ⟨bT, 0, none⟩)] w fun e w' => e = .returned (.bool (T.any a6B)) ∧ Below w.heap.size w w' := by
  have HC := Lib.hid (someA6_any A2 c2 T w hE.a hT)
  have x0 := hE.t.cell
  clear hE
  go_enter Try.func40, Try.ntmps40
  go_wp2_with fail
  refine HC.out.mono ?_
  rintro e w1 ⟨rfl, hb⟩
  have HB := Lib.hid hb
  clear hb HC x0
  go_wp2
  go_ret
  exact ⟨rfl, HB.out⟩
open Classical in
/-- do two stretches meet? -/
noncomputable def metB (k1 k2 : StrP → StrP → Int) (l : List StrP) : Bool := decide (¬ l.Pairwise (Apart k1 k2))
open Classical in
theorem metB_is {k1 k2 : StrP → StrP → Int} {l : List StrP} {r : Bool} (h : r = true ↔ ¬ l.Pairwise (Apart k1 k2)) : r = metB k1 k2 l := by
  unfold metB
  cases r
  · symm
    exact decide_eq_false fun hn => by have := h.2 hn; cases this
  · symm
    exact decide_eq_true (h.1 rfl)
theorem row3_any (A : Option Addr) (c0 : Nat) (fs : List FactP) (A2 : Option Addr) (c2 : Nat) (T : List Att) (bX bT bM bB bI bS : Nat) (w : World) (hE : RowsE w A c0 fs A2 c2 T bX bT bM bB bI bS) (hH : HoldA fs) :
    Calls Try.prog 28 #[.pointer (some ⟨bB, 0, none⟩), .pointer (some ⟨bX, 0, none⟩)] w fun e w' => e = .returned (.bool (metB kE kA (strF (a3B T) 0 fs))) ∧ Below w.heap.size w w' :=
  (twoT_any T bB bM bX A c0 fs w hE.f hH.l (by have := hH.S; omega) hH.wf hH.pos hE.e.mp hE.e.map hE.x).mono fun e w' ⟨⟨r, h1, h2⟩, h3⟩ => ⟨by rw [h1, metB_is h2], h3⟩
theorem row4_any (A : Option Addr) (c0 : Nat) (fs : List FactP) (A2 : Option Addr) (c2 : Nat) (T : List Att) (bX bT bM bB bI bS : Nat) (w : World) (hE : RowsE w A c0 fs A2 c2 T bX bT bM bB bI bS) (hH : HoldA fs) :
    Calls Try.prog 34 #[.pointer (some ⟨bB, 0, none⟩), .pointer (some ⟨bX, 0, none⟩)] w fun e w' => e = .returned (.bool (metB kA kV (strF (a4B T) 0 fs))) ∧ Below w.heap.size w w' :=
  (twoU_any T bB bM bX A c0 fs w hE.f hH.l (by have := hH.S; omega) hH.wf hH.pos hE.e.mp hE.e.map hE.x).mono fun e w' ⟨⟨r, h1, h2⟩, h3⟩ => ⟨by rw [h1, metB_is h2], h3⟩
end Go.Proofs.Ytlmihlepaoifiaa

/-
  CONTRACT: rows.
-/
namespace Go.Proofs.Ytlmihlepaoifiaa
open Go.RowKit Go.Shelf Go.Maps

/-- the six rows, laid -/
def SixAt (W : World) (bR bX bT bB bI bS : Nat) : Prop := W.heap[bR]? = some (.cells #[.int .i64 71, .func (.func 22) #[] #[.pointer (some ⟨bS, 0, none⟩), .pointer (some ⟨bI, 0, none⟩)], .int .i64 72, .func (.func 24) #[] #[.pointer (some ⟨bS, 0, none⟩), .pointer (some ⟨bB, 0, none⟩), .pointer (some ⟨bI, 0, none⟩)], .int .i64 73, .func (.func 28) #[] #[.pointer (some ⟨bB, 0, none⟩), .pointer (some ⟨bX, 0, none⟩)], .int .i64 74, .func (.func 34) #[] #[.pointer (some ⟨bB, 0, none⟩), .pointer (some ⟨bX, 0, none⟩)], .int .i64 75, .func (.func 37) #[] #[.pointer (some ⟨bS, 0, none⟩)], .int .i64 76, .func (.func 40) #[] #[.pointer (some ⟨bT, 0, none⟩)]] 48 (0, 0))
theorem SixAt.lt {W : World} {bR bX bT bB bI bS : Nat} (h : SixAt W bR bX bT bB bI bS) : bR < W.heap.size := (Array.getElem?_eq_some_iff.1 h).1
theorem SixAt.next {W W' : World} {bR bX bT bB bI bS : Nat} (h : SixAt W bR bX bT bB bI bS) (hb : Below W.heap.size W W') : SixAt W' bR bX bT bB bI bS := (hb.block _ h.lt).trans h
theorem SixAt.cell {W : World} {bR bX bT bB bI bS : Nat} (h : SixAt W bR bX bT bB bI bS) (j : Nat) : W.cell? ⟨bR, j, none⟩ = (#[Value.int .i64 71, .func (.func 22) #[] #[.pointer (some ⟨bS, 0, none⟩), .pointer (some ⟨bI, 0, none⟩)], .int .i64 72, .func (.func 24) #[] #[.pointer (some ⟨bS, 0, none⟩), .pointer (some ⟨bB, 0, none⟩), .pointer (some ⟨bI, 0, none⟩)], .int .i64 73, .func (.func 28) #[] #[.pointer (some ⟨bB, 0, none⟩), .pointer (some ⟨bX, 0, none⟩)], .int .i64 74, .func (.func 34) #[] #[.pointer (some ⟨bB, 0, none⟩), .pointer (some ⟨bX, 0, none⟩)], .int .i64 75, .func (.func 37) #[] #[.pointer (some ⟨bS, 0, none⟩)], .int .i64 76, .func (.func 40) #[] #[.pointer (some ⟨bT, 0, none⟩)]])[j]? := by unfold SixAt at h; simp [World.cell?, h]
/-- what rows answers -/
def RowsEnd (A : Option Addr) (c0 : Nat) (fs : List FactP) (A2 : Option Addr) (c2 : Nat) (T : List Att) (e : Ending) (w' : World) : Prop := ∃ bR bX bT bM bB bI bS, e = .returned (.slice (some ⟨bR, 0, none⟩) 6 6) ∧ SixAt w' bR bX bT bB bI bS ∧ RowsE w' A c0 fs A2 c2 T bX bT bM bB bI bS
set_option maxRecDepth 100000 in
set_option maxHeartbeats 4000000 in
theorem rows_any (A : Option Addr) (c0 : Nat) (fs : List FactP) (A2 : Option Addr) (c2 : Nat) (T : List Att) (w : World) (hs : FVa w (.slice A fs.length c0) fs) (ha : SlA w w.heap.size A2 T) (hT : T.length ≤ 1000000) (hid : ∀ a ∈ T, (Lit.int .i64 a.id).wf = true) :
    Calls Try.prog 13 #[.slice A fs.length c0, .slice A2 T.length c2] w fun e w' => RowsEnd A c0 fs A2 c2 T e w' ∧ Below w.heap.size w w' := by
  have hmm := @run_makeMap Try.prog
  have hmx : 2000000 ≤ maxLen := by decide
  have HS := Lib.hid hs
  have HA := Lib.hid ha
  have HI := Lib.hid hid
  clear hs ha hid
  obtain ⟨w1, hw1⟩ : ∃ w1, (w.alloc (.cells #[.slice A fs.length c0] 24)).alloc (.cells #[.slice A2 T.length c2] 35) = w1 := ⟨_, rfl⟩
  obtain ⟨w3, hw3⟩ : ∃ w3, (w1.alloc (.map #[] 0)).alloc (.cells #[.map (some w1.heap.size)] 62) = w3 := ⟨_, rfl⟩
  have hz1 : w1.heap.size = w.heap.size + 2 := by rw [← hw1]; simp
  have hz3 : w3.heap.size = w1.heap.size + 2 := by rw [← hw3]; simp
  have hb1 : Below w.heap.size w w1 := by rw [← hw1]; exact ((Below.refl _ _).alloc (Nat.le_refl _) _).alloc (by simp) _
  have hb3 : Below w1.heap.size w1 w3 := by rw [← hw3]; exact ((Below.refl _ _).alloc (Nat.le_refl _) _).alloc (by simp) _
  have hx1 : Boxed w1 w.heap.size 24 (.slice A fs.length c0) := by rw [← hw1]; exact (Boxed.new _ _ _).alloc _
  have ht1 : Boxed w1 (w.heap.size + 1) 35 (.slice A2 T.length c2) := by
    rw [← hw1]
    have := Boxed.new (w.alloc (.cells #[.slice A fs.length c0] 24)) 35 (.slice A2 T.length c2)
    rwa [World.size_alloc] at this
  have hm3 : w3.ownsMap (H := Unit) Try.prog 2 attE w1.heap.size 0 (mapA []) := by
    rw [← hw3]
    exact (World.ownsMap_made w1 _ _ _).alloc _
  have hp3 : Boxed w3 (w1.heap.size + 1) 62 (.map (some w1.heap.size)) := by
    rw [← hw3]
    have := Boxed.new (w1.alloc (.map #[] 0)) 62 (.map (some w1.heap.size))
    rwa [World.size_alloc] at this
  have HX3 : Hid (Boxed w3 w.heap.size 24 (.slice A fs.length c0)) := (hb3.block _ hx1.lt).trans hx1
  have HT3 : Hid (Boxed w3 (w.heap.size + 1) 35 (.slice A2 T.length c2)) := (hb3.block _ ht1.lt).trans ht1
  have HB3 := Lib.hid (hb1.trans (hb3.mono hb1.size))
  have HM3 := Lib.hid hm3
  have HP3 := Lib.hid hp3
  have HZ1 := Lib.hid hz1
  have HZ3 := Lib.hid hz3
  clear hb1 hb3 hx1 ht1 hm3 hp3 hz1 hz3
  have t0 := HT3.out.cell
  go_enter Try.func13, Try.ntmps13
  go_wp2
  clear t0 hw1 hw3 hmm
  go_loopg [13] T.length (fun g i wr => ∃ j : Nat, i = .int .i64 j ∧ j + g = T.length ∧ Hid (wr.ownsMap (H := Unit) Try.prog 2 attE w1.heap.size j (mapA (T.take j))) ∧ Hid (Below w.heap.size w wr) ∧ Hid (Kq w3.heap.size w1.heap.size w3 wr))
  case atStart => exact ⟨0, rfl, by omega, by rw [List.take_zero]; exact HM3.out, HB3.out, Kq.refl _ _ _⟩
  case round =>
    obtain ⟨j, rfl, hj, HM, HB, HK⟩ := hrel
    cases gk with
    | zero =>
      have hji : ¬ (j : Int) < (T.length : Int) := by omega
      have hm := HM.out
      rw [List.take_of_length_le (by omega)] at hm
      have HMM : Hid (MapAt wr w1.heap.size T) := ⟨j, by omega, hm⟩
      clear hm
      have HSZ := Lib.hid HK.out.1
      go_wp2
      obtain ⟨wf, hwf⟩ : ∃ wf, ((wr.alloc (.cells #[.func (.func 19) #[] #[.pointer (some ⟨w1.heap.size + 1, 0, none⟩)]] 63)).alloc (.cells #[.func (.func 20) #[] #[.pointer (some ⟨w.heap.size, 0, none⟩)]] 66)).alloc (.cells #[.int .i64 71, .func (.func 22) #[] #[.pointer (some ⟨wr.heap.size + 1, 0, none⟩), .pointer (some ⟨wr.heap.size, 0, none⟩)], .int .i64 72, .func (.func 24) #[] #[.pointer (some ⟨wr.heap.size + 1, 0, none⟩), .pointer (some ⟨w1.heap.size + 1, 0, none⟩), .pointer (some ⟨wr.heap.size, 0, none⟩)], .int .i64 73, .func (.func 28) #[] #[.pointer (some ⟨w1.heap.size + 1, 0, none⟩), .pointer (some ⟨w.heap.size, 0, none⟩)], .int .i64 74, .func (.func 34) #[] #[.pointer (some ⟨w1.heap.size + 1, 0, none⟩), .pointer (some ⟨w.heap.size, 0, none⟩)], .int .i64 75, .func (.func 37) #[] #[.pointer (some ⟨wr.heap.size + 1, 0, none⟩)], .int .i64 76, .func (.func 40) #[] #[.pointer (some ⟨w.heap.size + 1, 0, none⟩)]] 48) = wf := ⟨_, rfl⟩
      have hbf : Below wr.heap.size wr wf := by rw [← hwf]; exact (((Below.refl _ _).alloc (Nat.le_refl _) _).alloc (by simp) _).alloc (by simp; omega) _
      have hI : Boxed wf wr.heap.size 63 (.func (.func 19) #[] #[.pointer (some ⟨w1.heap.size + 1, 0, none⟩)]) := by rw [← hwf]; exact ((Boxed.new _ _ _).alloc _).alloc _
      have hS : Boxed wf (wr.heap.size + 1) 66 (.func (.func 20) #[] #[.pointer (some ⟨w.heap.size, 0, none⟩)]) := by
        rw [← hwf]
        have := Boxed.new (wr.alloc (.cells #[.func (.func 19) #[] #[.pointer (some ⟨w1.heap.size + 1, 0, none⟩)]] 63)) 66 (.func (.func 20) #[] #[.pointer (some ⟨w.heap.size, 0, none⟩)])
        rw [World.size_alloc] at this
        exact this.alloc _
      have hR : SixAt wf (wr.heap.size + 1 + 1) w.heap.size (w.heap.size + 1) (w1.heap.size + 1) wr.heap.size (wr.heap.size + 1) := by
        rw [← hwf]
        have := heap_alloc_new ((wr.alloc (.cells #[.func (.func 19) #[] #[.pointer (some ⟨w1.heap.size + 1, 0, none⟩)]] 63)).alloc (.cells #[.func (.func 20) #[] #[.pointer (some ⟨w.heap.size, 0, none⟩)]] 66)) (.cells #[.int .i64 71, .func (.func 22) #[] #[.pointer (some ⟨wr.heap.size + 1, 0, none⟩), .pointer (some ⟨wr.heap.size, 0, none⟩)], .int .i64 72, .func (.func 24) #[] #[.pointer (some ⟨wr.heap.size + 1, 0, none⟩), .pointer (some ⟨w1.heap.size + 1, 0, none⟩), .pointer (some ⟨wr.heap.size, 0, none⟩)], .int .i64 73, .func (.func 28) #[] #[.pointer (some ⟨w1.heap.size + 1, 0, none⟩), .pointer (some ⟨w.heap.size, 0, none⟩)], .int .i64 74, .func (.func 34) #[] #[.pointer (some ⟨w1.heap.size + 1, 0, none⟩), .pointer (some ⟨w.heap.size, 0, none⟩)], .int .i64 75, .func (.func 37) #[] #[.pointer (some ⟨wr.heap.size + 1, 0, none⟩)], .int .i64 76, .func (.func 40) #[] #[.pointer (some ⟨w.heap.size + 1, 0, none⟩)]] 48)
        rwa [World.size_alloc, World.size_alloc] at this
      have hbw := HB.out.trans (hbf.mono HB.out.size)
      have hz1 := HZ1.out
      have hz3 := HZ3.out
      have hk := HK.out
      have hmm2 := HMM.out.next hbf
      have hB : Boxed wf (w1.heap.size + 1) 62 (.map (some w1.heap.size)) := (hbf.block _ (by have := hk.1; omega)).trans ((hk.2 _ (by omega) (by omega)).trans HP3.out)
      have hX : Boxed wf w.heap.size 24 (.slice A fs.length c0) := (hbf.block _ (by have := hk.1; omega)).trans ((hk.2 _ (by omega) (by omega)).trans HX3.out)
      have hTB : Boxed wf (w.heap.size + 1) 35 (.slice A2 T.length c2) := (hbf.block _ (by have := hk.1; omega)).trans ((hk.2 _ (by omega) (by omega)).trans HT3.out)
      have HF : Hid (RowsEnd A c0 fs A2 c2 T (.returned (.slice (some ⟨wr.heap.size + 1 + 1, 0, none⟩) 6 6)) wf ∧ Below w.heap.size w wf) := ⟨⟨_, _, _, _, _, _, _, rfl, hR, HS.out.next hbw, (HA.out.next hbw (Nat.le_refl _)).more hbw.size, hX, hTB, ⟨hB, hmm2, hI⟩, hS⟩, hbw⟩
      rw [hwf]
      clear hwf hbf hI hS hR hbw hz1 hz3 hk hmm2 hB hX hTB
      go_ret
      exact HF.out
    | succ g =>
      have hji : (j : Int) < (T.length : Int) := by omega
      have hjn : j < T.length := by omega
      obtain ⟨b, o, rfl, hlt, hp⟩ := (HA.out.next HB.out (Nat.le_refl _)).at_ hjn
      have hwf := HI.out _ (List.getElem_mem hjn)
      have htk : T.take (j + 1) = T.take j ++ [T[j]] := by rw [List.take_add_one, List.getElem?_eq_getElem hjn]; rfl
      obtain ⟨y, hy⟩ : ∃ y, T[j] = y := ⟨_, rfl⟩
      rw [hy] at hp hwf htk
      have HWF := Lib.hid hwf
      have HTK := Lib.hid htk
      have y0 := hp.c0
      have y1 := hp.c1
      have y2 := hp.c2
      have y3 := hp.c3
      have y4 := hp.c4
      have y5 := hp.c5
      have y6 := hp.c6
      have p0 := Boxed.cell (show Boxed (wr.alloc (.cells #[.int .i64 y.id, .string y.nm, .int .i64 y.ty, .bool y.many, .int .i64 y.un, .bool y.part, .bool y.ix] 39)) (w1.heap.size + 1) _ _ from Boxed.alloc ((HK.out.2 _ (by have := HZ3.out; omega) (by omega)).trans HP3.out) _)
      clear hp hwf htk hy
      go_wp2_with (first
        | (at_mapUpdate; refine wpList_mapUpdate_own _ rfl _ _ _ 62 rfl 2 39 lawI6 Try.underlying62 (attE (H := Unit)) w1.heap.size j _ rfl (HM.out.alloc _) (by omega) _ _ _ rfl rfl (keyOf_int_mk Try.underlying2 HWF.out) (encA y) [] (attE_mk y) ?_; intro w5 hown5 hgrow5; have HO5 := Lib.hid hown5; have HG5 := Lib.hid hgrow5; clear hown5 hgrow5)
        | go_in)
      go_roundg g
      case measure => omega
      case rel =>
        have hs5 := HG5.out.size
        rw [World.size_alloc] at hs5
        have hK5 := HK.out.1
        have hz3 := HZ3.out
        have hbw := HB3.out.size
        refine ⟨j + 1, by go_num, by omega, by show World.ownsMap _ _ _ _ _ _ _; rw [HTK.out, mapA_snoc]; exact HO5.out, ((HB.out.alloc HB.out.size _).grown HG5.out (by rw [World.size_alloc]; omega) (fun q e => by cases e; have := HZ1.out; omega)), HK.out.trans ⟨by omega, fun q hq hne => ?_⟩⟩
        exact (HG5.out.block q (by rw [World.size_alloc]; omega) (fun e => by injection e with e; exact hne e)).trans (Below.heap_alloc _ _ _ (by omega))
end Go.Proofs.Ytlmihlepaoifiaa
