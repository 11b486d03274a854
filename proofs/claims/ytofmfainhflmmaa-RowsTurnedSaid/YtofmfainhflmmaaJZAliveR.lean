import Derived.Test.YtofmfainhflmmaaJZMarks
import Derived.BigGuard
import Derived.Sort.LoopGhostIn
import Derived.Test.YtofmfainhflmmaaJZJoinA
import Derived.Test.YtofmfainhflmmaaJZOne
import Derived.Test.YtofmfainhflmmaaJZRws
import Derived.Test.YtofmfainhflmmaaJZTold
/-
  THE FRAME of Join's loop: 73 slots, of which seven are wanted.
-/
namespace Go.Proofs.Ytofmfainhflmmaa
open Go.RowKit

/-- a slot that is not wanted -/
def uu (t : Array Value) (i : Nat) : Value := t.getD i undef
/-- the loop's invariant: how many rounds are left; its frame; what its world holds -/
def LoopI (v4 v6 v7 v8 v40 v41 : Value) (N : Nat) (G : Nat → List Nat → World → Prop) (k : Nat) (a : Act) (W : World) : Prop :=
  ∃ (t : Array Value) (j : Nat) (Ds : List Nat), j + k = N ∧ a = { tmps := #[uu t 0, uu t 1, uu t 2, uu t 3, v4, uu t 5, v6, v7, v8, uu t 9, uu t 10, uu t 11, uu t 12, uu t 13, uu t 14, uu t 15, uu t 16, uu t 17, uu t 18, uu t 19, uu t 20, uu t 21, uu t 22, uu t 23, uu t 24, uu t 25, uu t 26, uu t 27, uu t 28, uu t 29, uu t 30, uu t 31, uu t 32, uu t 33, uu t 34, uu t 35, uu t 36, uu t 37, uu t 38, uu t 39, v40, v41, (.int .i64 (j : Int)), uu t 43, uu t 44, uu t 45, uu t 46, uu t 47, uu t 48, uu t 49, uu t 50, uu t 51, uu t 52, uu t 53, uu t 54, uu t 55, uu t 56, uu t 57, uu t 58, uu t 59, uu t 60, uu t 61, uu t 62, uu t 63, uu t 64, uu t 65, uu t 66, uu t 67, uu t 68, uu t 69, uu t 70, uu t 71, uu t 72], defers := Ds.map markD } ∧ G j Ds W
set_option maxRecDepth 10000 in
theorem loopI_of {u0 u1 u2 u3 u5 u9 u10 u11 u12 u13 u14 u15 u16 u17 u18 u19 u20 u21 u22 u23 u24 u25 u26 u27 u28 u29 u30 u31 u32 u33 u34 u35 u36 u37 u38 u39 u43 u44 u45 u46 u47 u48 u49 u50 u51 u52 u53 u54 u55 u56 u57 u58 u59 u60 u61 u62 u63 u64 u65 u66 u67 u68 u69 u70 u71 u72 v4 v6 v7 v8 v40 v41 : Value} {ds : List Deferred} {N k : Nat} {G : Nat → List Nat → World → Prop} {W : World} (j : Nat) (Ds : List Nat) (hds : ds = Ds.map markD) (hk : j + k = N) (hG : G j Ds W) :
    LoopI v4 v6 v7 v8 v40 v41 N G k { tmps := #[u0, u1, u2, u3, v4, u5, v6, v7, v8, u9, u10, u11, u12, u13, u14, u15, u16, u17, u18, u19, u20, u21, u22, u23, u24, u25, u26, u27, u28, u29, u30, u31, u32, u33, u34, u35, u36, u37, u38, u39, v40, v41, (.int .i64 (j : Int)), u43, u44, u45, u46, u47, u48, u49, u50, u51, u52, u53, u54, u55, u56, u57, u58, u59, u60, u61, u62, u63, u64, u65, u66, u67, u68, u69, u70, u71, u72], defers := ds } W := by
  subst hds
  exact ⟨#[u0, u1, u2, u3, undef, u5, undef, undef, undef, u9, u10, u11, u12, u13, u14, u15, u16, u17, u18, u19, u20, u21, u22, u23, u24, u25, u26, u27, u28, u29, u30, u31, u32, u33, u34, u35, u36, u37, u38, u39, undef, undef, undef, u43, u44, u45, u46, u47, u48, u49, u50, u51, u52, u53, u54, u55, u56, u57, u58, u59, u60, u61, u62, u63, u64, u65, u66, u67, u68, u69, u70, u71, u72], j, Ds, hk, rfl, hG⟩
end Go.Proofs.Ytofmfainhflmmaa

/-
  CONTRACT: rows.Join.
-/
namespace Go.Proofs.Ytofmfainhflmmaa
open Go.RowKit Go.Shelf
attribute [local go_sem] Oper.semAt_some

set_option maxRecDepth 100000 in
set_option maxHeartbeats 4000000 in
theorem join_no (A : Option Addr) (c : Nat) (ca : List ByteArray) (A1 : Option Addr) (c1 : Nat) (RA : List Rw) (A2 : Option Addr) (c2 : Nat) (cb : List ByteArray) (A3 : Option Addr) (c3 : Nat) (RB : List Rw) (w : World) (hA : SlC w w.heap.size A ca) (hRA : SlR w w.heap.size A1 RA) (hB : SlC w w.heap.size A2 cb) (hRB : SlR w w.heap.size A3 RB)
    (hca : ca.length ≤ c) (hcb : cb.length ≤ c2) (hla : ca.length ≤ 1000000000) (hra : RA.length ≤ 1000000000) (hlb : cb.length ≤ 1000000000) (hrb : RB.length ≤ 1000000000) (hno : ¬ (mayRel ca RA = true ∧ mayRel cb RB = true)) (cols : List ByteArray) (T : List (List Vl)) :
    Calls Try.prog 21 #[.agg #[.slice A ca.length c, .slice A1 RA.length c1], .agg #[.slice A2 cb.length c2, .slice A3 RB.length c3]] w (RelEnd w cols T 2) := by
  obtain ⟨w0, hw0⟩ : ∃ w0, ((w.alloc (.cells #[.slice A ca.length c, .slice A1 RA.length c1] 34)).alloc (.cells #[.slice A2 cb.length c2, .slice A3 RB.length c3] 34)).alloc (.cells #[.slice none 0 0, .slice none 0 0] 34) = w0 := ⟨_, rfl⟩
  have hs1 : (w.alloc (.cells #[.slice A ca.length c, .slice A1 RA.length c1] 34)).heap.size = w.heap.size + 1 := by simp
  have hs2 : ((w.alloc (.cells #[.slice A ca.length c, .slice A1 RA.length c1] 34)).alloc (.cells #[.slice A2 cb.length c2, .slice A3 RB.length c3] 34)).heap.size = w.heap.size + 2 := by simp
  have hj0 : Jn3 w.heap.size (.slice A ca.length c) (.slice A1 RA.length c1) (.slice A2 cb.length c2) (.slice A3 RB.length c3) w0 := by rw [← hw0]; exact jn3_new w _ _ _ _
  have hb0 : Below w.heap.size w w0 := by rw [← hw0]; exact (((Below.refl _ _).alloc (Nat.le_refl _) _).alloc (by simp) _).alloc (by simp; omega) _
  have HM := Lib.hid (may_any A c ca A1 c1 RA w0 (Sl1.up hA hb0 (Nat.le_refl _)) (hRA.up hb0 (Nat.le_refl _)) hca hla hra)
  obtain ⟨y0, y1, y2, y3⟩ := hj0.c
  have HJ := Lib.hid hj0
  have HB0 := Lib.hid hb0
  have HB := Lib.hid hB
  have HRB := Lib.hid hRB
  clear hA hRA hB hRB hj0 hb0 hs1 hs2
  by_cases q1 : mayRel ca RA = true
  · have q2 : mayRel cb RB = false := by
      cases h : mayRel cb RB
      · rfl
      · exact absurd ⟨q1, h⟩ hno
    rw [q1] at HM
    clear q1 hno
    go_enter Try.func21, Try.ntmps21
    go_wp2_with fail
    go_step3
    go_wp2_with fail
    refine HM.out.mono ?_
    rintro e w1 ⟨rfl, hb1⟩
    have HJ1 := Lib.hid (HJ.out.up hb1)
    have HB1 := Lib.hid (HB0.out.trans (hb1.mono HB0.out.size))
    clear hb1 HM hw0 y0 y1 y2 y3 HJ HB0
    have HM2 := Lib.hid (may_any A2 c2 cb A3 c3 RB w1 (Sl1.up HB.out HB1.out (Nat.le_refl _)) (HRB.out.up HB1.out (Nat.le_refl _)) hcb hlb hrb)
    rw [q2] at HM2
    clear q2
    obtain ⟨y0, y1, y2, y3⟩ := HJ1.out.c
    go_wp2_with fail
    refine HM2.out.mono ?_
    rintro e w2 ⟨rfl, hb2⟩
    have HJ2 := Lib.hid (HJ1.out.up hb2)
    have HB2 := Lib.hid (HB1.out.trans (hb2.mono HB1.out.size))
    clear hb2 HM2 y0 y1 y2 y3 HJ1
    obtain ⟨x0, x1, x2, x3⟩ := HJ2.out.e
    have HC2 := Lib.hid (cells_two (v0 := .slice none 0 0) (v1 := .slice none 0 0) x0 x1)
    go_wp2
    refine bodyPost_ret (v := .tuple #[.agg #[.slice none 0 0, .slice none 0 0], .int .i64 2]) (by rw [results_ct rfl]; obtain ⟨z0, z1⟩ := HC2.out; clear x0 x1 x2 x3; go_simp) rfl ?_
    exact relEnd_no (by decide) ((HB2.out.setCell (p := ⟨w.heap.size + 2, 0, none⟩) (Nat.le_add_right _ _) _).setCell (p := ⟨w.heap.size + 2, 1, none⟩) (Nat.le_add_right _ _) _)
  · have q1 : mayRel ca RA = false := by
      cases h : mayRel ca RA
      · rfl
      · exact absurd h q1
    rw [q1] at HM
    clear q1 hno
    go_enter Try.func21, Try.ntmps21
    go_wp2_with fail
    go_step3
    go_wp2_with fail
    refine HM.out.mono ?_
    rintro e w2 ⟨rfl, hb2⟩
    have HJ2 := Lib.hid (HJ.out.up hb2)
    have HB2 := Lib.hid (HB0.out.trans (hb2.mono HB0.out.size))
    clear hb2 HM y0 y1 y2 y3 HJ hw0
    obtain ⟨x0, x1, x2, x3⟩ := HJ2.out.e
    have HC2 := Lib.hid (cells_two (v0 := .slice none 0 0) (v1 := .slice none 0 0) x0 x1)
    go_wp2
    refine bodyPost_ret (v := .tuple #[.agg #[.slice none 0 0, .slice none 0 0], .int .i64 2]) (by rw [results_ct rfl]; obtain ⟨z0, z1⟩ := HC2.out; clear x0 x1 x2 x3; go_simp) rfl ?_
    exact relEnd_no (by decide) ((HB2.out.setCell (p := ⟨w.heap.size + 2, 0, none⟩) (Nat.le_add_right _ _) _).setCell (p := ⟨w.heap.size + 2, 1, none⟩) (Nat.le_add_right _ _) _)
set_option maxRecDepth 100000 in
set_option maxHeartbeats 4000000 in
theorem join_in (m : Nat) (hm3 : Hid (3 ≤ m)) (A : Option Addr) (c : Nat) (ca : List ByteArray) (A1 : Option Addr) (c1 : Nat) (RA : List Rw) (A2 : Option Addr) (c2 : Nat) (cb : List ByteArray) (A3 : Option Addr) (c3 : Nat) (RB : List Rw) (w : World) (hA : SlC w w.heap.size A ca) (hRA : SlR w w.heap.size A1 RA) (hB : SlC w w.heap.size A2 cb) (hRB : SlR w w.heap.size A3 RB)
    (hca : ca.length ≤ c) (hcb : cb.length ≤ c2) (hla : ca.length ≤ 1000000000) (hra : RA.length ≤ 1000000000) (hlb : cb.length ≤ 1000000000) (hrb : RB.length ≤ 1000000000) (hn0 : A = none → ca.length = 0 ∧ c = 0) (hn3 : A3 = none → RB.length = 0 ∧ c3 = 0) (q1 : mayRel ca RA = true) (q2 : mayRel cb RB = true) (hp : RA.length * RB.length ≤ 100000) (cd : Int) (hcd : Hid (cd = if 32 < (colsJ ca cb).length then 140 else 0)) :
    CallsIn Fence.wide m Try.prog 21 #[.agg #[.slice A ca.length c, .slice A1 RA.length c1], .agg #[.slice A2 cb.length c2, .slice A3 RB.length c3]] w (RelEnd w (colsJ ca cb) (putsG ordR (joinD ca cb (txR RA) (txR RB))) cd) := by
  obtain ⟨w0, hw0⟩ : ∃ w0, ((w.alloc (.cells #[.slice A ca.length c, .slice A1 RA.length c1] 34)).alloc (.cells #[.slice A2 cb.length c2, .slice A3 RB.length c3] 34)).alloc (.cells #[.slice none 0 0, .slice none 0 0] 34) = w0 := ⟨_, rfl⟩
  have hj0 : Jn3 w.heap.size (.slice A ca.length c) (.slice A1 RA.length c1) (.slice A2 cb.length c2) (.slice A3 RB.length c3) w0 := by rw [← hw0]; exact jn3_new w _ _ _ _
  have hb0 : Below w.heap.size w w0 := by rw [← hw0]; exact (((Below.refl _ _).alloc (Nat.le_refl _) _).alloc (by simp) _).alloc (by simp; omega) _
  have HM := Lib.hid (may_any A c ca A1 c1 RA w0 (Sl1.up hA hb0 (Nat.le_refl _)) (hRA.up hb0 (Nat.le_refl _)) hca hla hra)
  obtain ⟨y0, y1, y2, y3⟩ := hj0.c
  have HJ := Lib.hid hj0
  have HB0 := Lib.hid hb0
  have HA := Lib.hid hA
  have HRA := Lib.hid hRA
  have HB := Lib.hid hB
  have HRB := Lib.hid hRB
  have HN3 := Lib.hid hn3
  have HN0 := Lib.hid hn0
  have HQ1 := Lib.hid q1
  have HQ2 := Lib.hid q2
  have HP := Lib.hid hp
  rw [q1] at HM
  clear hA hRA hB hRB hj0 hb0 hn3 hn0 q1 q2 hp
  refine callsIn_of_wp_marks Try.func21 rfl trivial ?_ rfl
  simp only [Try.ntmps21, List.size_toArray, List.length_cons, List.length_nil, Nat.reduceAdd, Nat.reduceSub, Array.replicate_succ, Array.replicate_zero, List.push_toArray, List.append_toArray, List.nil_append, List.cons_append]
  gi_wp2_with fail
  refine wpIn_wide.2 ?_
  go_step3
  refine (wpIn_wide (n := m)).1 ?_
  gi_wp2_with fail
  refine ⟨trivial, wide_deepJ _, ?_⟩
  refine (callsIn_wide.2 HM.out).mono ?_
  rintro e w1 ⟨rfl, hb1⟩
  have HJ1 := Lib.hid (HJ.out.up hb1)
  have HB1 := Lib.hid (HB0.out.trans (hb1.mono HB0.out.size))
  clear hb1 HM hw0 y0 y1 y2 y3 HJ HB0
  have HM2 := Lib.hid (may_any A2 c2 cb A3 c3 RB w1 (Sl1.up HB.out HB1.out (Nat.le_refl _)) (HRB.out.up HB1.out (Nat.le_refl _)) hcb hlb hrb)
  rw [HQ2.out] at HM2
  obtain ⟨y0, y1, y2, y3⟩ := HJ1.out.c
  gi_wp2_with fail
  refine ⟨trivial, wide_deepJ _, ?_⟩
  refine (callsIn_wide.2 HM2.out).mono ?_
  rintro e w2 ⟨rfl, hb2⟩
  have HJ2 := Lib.hid (HJ1.out.up hb2)
  have HB2 := Lib.hid (HB1.out.trans (hb2.mono HB1.out.size))
  clear hb2 HM2 y0 y1 y2 y3 HJ1 HB1
  obtain ⟨y0, y1, y2, y3⟩ := HJ2.out.c
  have HME := Lib.hid (meet_any A c ca A1 RA.length c1 A2 c2 cb A3 c3 RB w2 (Sl1.up HA.out HB2.out (Nat.le_refl _)) (Sl1.up HB.out HB2.out (Nat.le_refl _)) (HRB.out.up HB2.out (Nat.le_refl _)) hla hlb hrb HN3.out (longB_all (mayRel_long HQ2.out)))
  gi_wp2_with fail
  refine ⟨trivial, wide_deepJ _, ?_⟩
  refine (callsIn_wide.2 HME.out).mono ?_
  rintro e w3 ⟨bm, A5, A6, A7, A8, c5, c6, c7, c8, M, rfl, hmt⟩
  have HMT := Lib.hid hmt
  have HMP : Hid (M.Perm RB ∧ M.Pairwise (fun y z => ordM (shN true ca cb) y.l z.l ≤ 0) ∧ True) := ⟨hmt.p, hmt.u, trivial⟩
  have HJ3 := Lib.hid (HJ2.out.up hmt.b)
  have HB3 := Lib.hid (HB2.out.trans (hmt.b.mono HB2.out.size))
  clear hmt HME y0 y1 y2 y3 HJ2
  gi_wp2_with fail
  obtain ⟨wM, hwM⟩ : ∃ wM, w3.alloc (.cells #[.pointer (some ⟨bm, 0, none⟩)] 81) = wM := ⟨_, rfl⟩
  have hbM : Below w3.heap.size w3 wM := by rw [← hwM]; exact (Below.refl _ _).alloc (Nat.le_refl _) _
  have HS : Hid (JnS w.heap.size (.slice A ca.length c) (.slice A1 RA.length c1) (.slice A2 cb.length c2) (.slice A3 RB.length c3) w2 ca cb RB bm A5 A6 A7 A8 c5 c6 c7 c8 M w3.heap.size wM) :=
    ⟨HJ3.out.up hbM, HMT.out.next hbM, by rw [← hwM]; exact World.alloc_heap_new _ _⟩
  have HBM := Lib.hid (HB3.out.trans (hbM.mono HB3.out.size))
  have HZM : Hid (w3.heap.size < wM.heap.size) := by show _ < _; rw [← hwM]; simp
  clear hbM HJ3 HMT HB3
  rw [hwM]
  clear hwM
  refine wpIn_mono (Q := onlyN _) ?_ (onlyN_to fun _ _ h => h)
  refine wpIn_wide.2 ?_
  obtain ⟨wd, hwd⟩ : ∃ wd, wM.drew = wd := ⟨_, rfl⟩
  have hbD : Below wM.heap.size wM wd := by rw [← hwd]; exact (Below.refl _ _).drew
  have HSD := Lib.hid (HS.out.up hbD)
  have HBD := Lib.hid (HBM.out.trans (hbD.mono HBM.out.size))
  have HZD : Hid (w3.heap.size < wd.heap.size) := Nat.lt_of_lt_of_le HZM.out hbD.size
  refine wp_region_held_drew (S := fun X => JnS w.heap.size (.slice A ca.length c) (.slice A1 RA.length c1) (.slice A2 cb.length c2) (.slice A3 RB.length c3) w2 ca cb RB bm A5 A6 A7 A8 c5 c6 c7 c8 M w3.heap.size X) (by kernel_rfl) (by rw [hwd]; exact HSD.out) (fun hHeld => ?_)
  rw [hwd] at hHeld ⊢
  clear hwd hbD HS HBM HZM
  refine takeV 0 (some 24) ((.pointer (some ⟨w.heap.size, 0, none⟩))) rfl rfl (by kernel_rfl) (by kernel_rfl) (by kernel_rfl) (fun _ _ _ h => h) (by rfl) (by (intro _w _hSw; (try dsimp only at _hSw); go_simp)) (by assumption) ?_
  simp only [Act.put, List.setIfInBounds_toArray, List.set_cons_zero, List.set_cons_succ]
  refine takeV 1 (some 25) ((.slice A ca.length c)) rfl rfl (by kernel_rfl) (by kernel_rfl) (by kernel_rfl) (fun _ _ _ h => h) (by rfl) (by (intro _w hSw; obtain ⟨k0, k1, k2, k3⟩ := hSw.j.c; clear hSw; go_simp)) (by assumption) ?_
  simp only [Act.put, List.setIfInBounds_toArray, List.set_cons_zero, List.set_cons_succ]
  refine takeV 2 (some 26) ((.pointer (some ⟨w.heap.size + 1, 0, none⟩))) rfl rfl (by kernel_rfl) (by kernel_rfl) (by kernel_rfl) (fun _ _ _ h => h) (by rfl) (by (intro _w _hSw; (try dsimp only at _hSw); go_simp)) (by assumption) ?_
  simp only [Act.put, List.setIfInBounds_toArray, List.set_cons_zero, List.set_cons_succ]
  refine takeV 3 (some 27) ((.slice A2 cb.length c2)) rfl rfl (by kernel_rfl) (by kernel_rfl) (by kernel_rfl) (fun _ _ _ h => h) (by rfl) (by (intro _w hSw; obtain ⟨k0, k1, k2, k3⟩ := hSw.j.c; clear hSw; go_simp)) (by assumption) ?_
  simp only [Act.put, List.setIfInBounds_toArray, List.set_cons_zero, List.set_cons_succ]
  refine takeV 4 (some 28) ((.pointer (some ⟨bm, 0, none⟩))) rfl rfl (by kernel_rfl) (by kernel_rfl) (by kernel_rfl) (fun _ _ _ h => h) (by rfl) (by (intro _w hSw; have k0 := hSw.c.1; clear hSw; go_simp)) (by assumption) ?_
  simp only [Act.put, List.setIfInBounds_toArray, List.set_cons_zero, List.set_cons_succ]
  refine takeV 5 (some 29) ((.pointer (some ⟨bm, 0, none⟩))) rfl rfl (by kernel_rfl) (by kernel_rfl) (by kernel_rfl) (fun _ _ _ h => h) (by rfl) (by (intro _w _hSw; (try dsimp only at _hSw); go_simp)) (by assumption) ?_
  simp only [Act.put, List.setIfInBounds_toArray, List.set_cons_zero, List.set_cons_succ]
  refine takeV 6 (some 30) ((.pointer (some ⟨bm, 2, none⟩))) rfl rfl (by kernel_rfl) (by kernel_rfl) (by kernel_rfl) (fun _ _ _ h => h) (by rfl) (by (intro _w _hSw; (try dsimp only at _hSw); go_simp)) (by assumption) ?_
  simp only [Act.put, List.setIfInBounds_toArray, List.set_cons_zero, List.set_cons_succ]
  refine takeV 7 (some 31) ((.slice A7 (shN false ca cb).length c7)) rfl rfl (by kernel_rfl) (by kernel_rfl) (by kernel_rfl) (fun _ _ _ h => h) (by rfl) (by (intro _w hSw; have k0 := hSw.c.2; clear hSw; go_simp)) (by assumption) ?_
  simp only [Act.put, List.setIfInBounds_toArray, List.set_cons_zero, List.set_cons_succ]
  have HPC := Lib.hid (pickedC_any A2 c2 cb A7 c7 (shN false ca cb) wd (Sl1.up HB.out HBD.out (Nat.le_refl _)) (own_sl HSD.out.m.o2) (Nat.le_trans (shN_len _ _ _) hlb) shN_lt)
  rw [pick_rest] at HPC
  refine callV 8 rfl (by kernel_rfl) (by rfl) (fun K hK => ?_)
  go_simp
  refine HPC.out.mono ?_
  rintro e w4 ⟨⟨v4, rfl, ho4⟩, hb4⟩
  obtain ⟨A9, c9, rfl, hs9, hl9, hm9, hz9, _⟩ := ho4.form
  have HO4 := Lib.hid ho4
  have HB4 := Lib.hid (HBD.out.trans (hb4.mono HBD.out.size))
  have HX4 : Hid (Sl1 strV w4 w4.heap.size A9 (restC ca cb) ∧ (A9 = none → (restC ca cb).length = 0 ∧ c9 = 0)) := ⟨hs9, hz9⟩
  refine hK.out _ _ (hHeld.up hb4) (fun hHeld4 => ?_)
  clear hK K hHeld hb4 ho4 hs9 hl9 hm9 hz9 HPC
  try simp only [Act.put, List.setIfInBounds_toArray, List.set_cons_zero, List.set_cons_succ]
  obtain ⟨w5, hw5⟩ : ∃ w5, w4.alloc (.cells #[.slice A ca.length c, .slice A9 (restC ca cb).length c9] 31) = w5 := ⟨_, rfl⟩
  have hb5 : Below w4.heap.size w4 w5 := by rw [← hw5]; exact (Below.refl _ _).alloc (Nat.le_refl _) _
  have HCT := Lib.hid (concatS_any (some ⟨w4.heap.size, 0, none⟩) 2 [⟨A, c, ca⟩, ⟨A9, c9, restC ca cb⟩] w5 (by rw [← hw5]; exact sl1_two cellC _ w4 ⟨A, c, ca⟩ ⟨A9, c9, restC ca cb⟩) (fun r hr => by
    rcases List.mem_cons.1 hr with rfl | hr
    · exact ⟨Sl1.up HA.out (HB4.out.trans (hb5.mono HB4.out.size)) (Nat.le_refl _), HN0.out⟩
    · rw [List.mem_singleton.1 hr]
      exact ⟨Sl1.up HX4.out.1 hb5 (Nat.le_refl _), HX4.out.2⟩) (by simp) (fun r hr => by
    rcases List.mem_cons.1 hr with rfl | hr
    · exact hla
    · rw [List.mem_singleton.1 hr]
      exact Nat.le_trans (restC_le _ _) hlb))
  rw [show ([⟨A, c, ca⟩, ⟨A9, c9, restC ca cb⟩] : List Cw).flatMap (·.l) = colsJ ca cb by unfold colsJ; simp] at HCT
  have hu5 := hHeld4.up hb5
  have HZ5 : Hid (w.heap.size + 3 ≤ w5.heap.size) := hu5.j.lt
  have HB5 := Lib.hid (HB4.out.trans (hb5.mono HB4.out.size))
  refine callV 9 rfl (by kernel_rfl) (by rfl) (fun K hK => ?_)
  go_simp
  try rw [hw5]
  refine hK.out _ _ hu5 (fun hHeld5 => ?_)
  clear hK K hHeld4 hb5 hw5 hu5
  try simp only [Act.put, List.setIfInBounds_toArray, List.set_cons_zero, List.set_cons_succ]
  refine callV 10 rfl (by kernel_rfl) (by rfl) (fun K hK => ?_)
  go_simp
  refine HCT.out.mono ?_
  rintro e w6 ⟨⟨v6, rfl, ho6⟩, hb6⟩
  obtain ⟨A10, c10, rfl, _, _, _, _, _⟩ := ho6.form
  have HB6 := Lib.hid (HB5.out.trans (hb6.mono HB5.out.size))
  have HS6 := Lib.hid (hHeld5.up hb6)
  have HO6x := Lib.hid ho6
  refine hK.out _ _ (hHeld5.up hb6) (fun hHeld6 => ?_)
  clear hK K hHeld5 hb6 ho6 HCT HB5 HB4 HSD HBD HO4 HX4
  try simp only [Act.put, List.setIfInBounds_toArray, List.set_cons_zero, List.set_cons_succ]
  refine takeV 11 (some 7) ((.slice A10 (colsJ ca cb).length c10)) rfl rfl (by kernel_rfl) (by kernel_rfl) (by kernel_rfl) (fun _ _ _ h => h) (by rfl) (by (intro _w _hSw; (try dsimp only at _hSw); go_simp)) (by assumption) ?_
  simp only [Act.put, List.setIfInBounds_toArray, List.set_cons_zero, List.set_cons_succ]
  refine wpAnyH_done (by kernel_rfl) ?_ _
  clear hHeld6
  unfold onlyN
  have hj6 := HS6.out.j
  by_cases q32 : 32 < (colsJ ca cb).length
  · have hq32 : (32 : Int) < ((colsJ ca cb).length : Int) := by omega
    have hc140 : cd = 140 := by rw [hcd.out, if_pos q32]
    subst hc140
    obtain ⟨x0, x1, x2, x3⟩ := hj6.e
    have HC2 := Lib.hid (cells_two (v0 := .slice none 0 0) (v1 := .slice none 0 0) x0 x1)
    clear hj6 q32 hcd
    gi_wp2
    refine ⟨.tuple #[.agg #[.slice none 0 0, .slice none 0 0], .int .i64 140], (by rw [results_ct rfl]; obtain ⟨z0, z1⟩ := HC2.out; clear x0 x1 x2 x3; go_simp), ?_⟩
    exact relEnd_no (by decide) ((HB6.out.setCell (p := ⟨w.heap.size + 2, 0, none⟩) (Nat.le_add_right _ _) _).setCell (p := ⟨w.heap.size + 2, 1, none⟩) (Nat.le_add_right _ _) _)
  · have hq32 : ((colsJ ca cb).length : Int) ≤ 32 := by omega
    have hc0 : cd = 0 := by rw [hcd.out, if_neg q32]
    subst hc0
    obtain ⟨x0, x1, x2, x3⟩ := hj6.c
    clear hcd q32 hj6
    gi_wp2_with fail
    refine wpIn_label ?_
    obtain ⟨wL, hwL⟩ : ∃ wL, w6.alloc (.cells #[.slice none 0 0] 32) = wL := ⟨_, rfl⟩
    have hbL : Below w6.heap.size w6 wL := by rw [← hwL]; exact (Below.refl _ _).alloc (Nat.le_refl _) _
    have HJL : Hid (JLv w6.heap.size w6 (.slice none 0 0) [] (joinT (shA ca cb) (shN true ca cb) (shN false ca cb) (txR M) ((txR RA).take 0)) [] wL) := ⟨hbL, by rw [← hwL]; exact Boxed.new w6 _ _, ownR_nil _ _, rfl, MarksAt.nil _ _⟩
    obtain ⟨x0, x1, x2, x3⟩ := (HS6.out.j.next hbL HS6.out.j.lt).c
    rw [hwL]
    clear hbL hwL
    gi_wp2_with fail
    refine wpIn_loop_ghost_k (LoopI (.pointer (some ⟨w.heap.size + 1 + 1, 0, none⟩)) (.pointer (some ⟨w3.heap.size, 0, none⟩)) (.slice A10 (colsJ ca cb).length c10) (.pointer (some ⟨w6.heap.size, 0, none⟩)) (.slice A1 RA.length c1) (.int .i64 (RA.length : Int)) RA.length (fun j Ds W => ∃ v R, Hid (JLv w6.heap.size w6 v R (joinT (shA ca cb) (shN true ca cb) (shN false ca cb) (txR M) ((txR RA).take j)) Ds W))) RA.length (loopI_of 0 [] rfl (Nat.zero_add _) ⟨_, _, HJL.out⟩) ?_
    clear x0 x1 x2 x3 HJL
    rintro k a wr ⟨t, j, Ds, hjk, rfl, v, R, HJV⟩ J K hJ hK
    have HRW := Lib.hid (HJV.out.b)
    have HSW := Lib.hid (HS6.out.up HRW.out)
    by_cases hk0 : j < RA.length
    · have hji : (j : Int) < (RA.length : Int) := by omega
      obtain ⟨x, hx⟩ : ∃ x, RA[j] = x := ⟨_, rfl⟩
      have hxm : x ∈ RA := by rw [← hx]; exact List.getElem_mem _
      obtain ⟨b1, o1, hA1, hb1, hc1⟩ := HRA.out.s.at_ hk0
      subst hA1
      have hrc : wr.cell? ⟨b1, o1 + j, none⟩ = some (cellR x) := by rw [← hx]; exact ((HB6.out.trans (HRW.out.mono HB6.out.size)).cell (p := ⟨b1, o1 + j, none⟩) hb1).trans hc1
      obtain ⟨xA, xn, xc, hcx⟩ : ∃ a n c, cellR x = .slice a n c := ⟨_, _, _, rfl⟩
      rw [hcx] at hrc
      obtain ⟨wx, hwx⟩ : ∃ wx, wr.alloc (.cells #[.slice xA xn xc] 46) = wx := ⟨_, rfl⟩
      have hbx : Below wr.heap.size wr wx := by rw [← hwx]; exact (Below.refl _ _).alloc (Nat.le_refl _) _
      have hzx : wx.heap.size = wr.heap.size + 1 := by rw [← hwx]; simp
      have hkx : Boxed wx wr.heap.size 46 (.slice xA xn xc) := by rw [← hwx]; exact Boxed.new wr _ _
      have hpb := (HSW.out.up hbx).c.1
      have hcx0 := hkx.cell
      have HAG := Lib.hid (agreeing_any ⟨bm, 0, none⟩ x wx)
      rw [hcx, hzx] at HAG
      have hxq : RA[j]? = some x := by rw [List.getElem?_eq_getElem hk0, hx]
      have HX := Lib.hid (And.intro hxq (And.intro hxm hcx))
      have HKX := Lib.hid (And.intro hbx (And.intro hzx hkx))
      have HK0 := Lib.hid hk0
      clear hx hxm hcx hbx hzx hkx hc1 hk0 hxq
      gi_wp2_with fail
      refine ⟨trivial, wide_deepJ _, ?_⟩
      refine (callsIn_wide.2 HAG.out).mono ?_
      rintro e w9 ⟨rfl, hpm, hpx, hb9⟩
      have hn9 : wr.heap.size + 3 ≤ w9.heap.size := by have := (Array.getElem?_eq_some_iff.1 hpx).1; omega
      have hbr : Below wr.heap.size wr w9 := HKX.out.1.trans (hb9.mono (Nat.le_succ _))
      have hk9 : Boxed w9 wr.heap.size 46 (.slice xA xn xc) := (hb9.block _ (Nat.lt_succ_self _)).trans HKX.out.2.2
      have hn0 : w6.heap.size < wr.heap.size := HJV.out.bx.lt
      have hb69 : Below w6.heap.size w6 w9 := HRW.out.trans (hbr.mono (Nat.le_of_lt hn0))
      have HAF := Lib.hid (HS6.out.agf (x := x) hb69 ((HRA.out.r x HX.out.2.1).up HB6.out (Nat.le_refl _)) (fun y hy => (HRB.out.r y (HMP.out.1.mem_iff.1 hy)).up HB6.out (Nat.le_refl _)) (p := wr.heap.size) hpm (by rw [HX.out.2.2]; exact hpx))
      have HAP := Lib.hid (HS6.out.apart ((HRA.out.r x HX.out.2.1).more HB2.out.size) (fun y hy => (HRB.out.r y (HMP.out.1.mem_iff.1 hy)).more HB2.out.size))
      have hds9 : ∀ D ∈ Ds, D < w9.heap.size := fun D hD => Nat.lt_of_lt_of_le (marks_lt HJV.out.ma D hD) hbr.size
      have HM0 : Hid (JMid w6.heap.size w6 w9.heap.size wr.heap.size Ds (joinT (shA ca cb) (shN true ca cb) (shN false ca cb) (txR M) ((txR RA).take j)) x (shN false ca cb) M [] w9) :=
        ⟨Nat.le_refl _, ⟨v, R, by rw [List.map_nil, List.append_nil]; exact HJV.out.up hbr, fun g hg => .inl (own1_block HJV.out.o.o g hg).2⟩, by rw [HX.out.2.2]; exact hk9⟩
      have HG9 := Lib.hid (And.intro hn9 (And.intro hn0 (And.intro hb69 (And.intro hds9 hbr))))
      have hxl : x.l.length = ca.length := longB_all (mayRel_long HQ1.out) x HX.out.2.1
      clear hn9 hbr hk9 hn0 hb69 hds9 hpm hpx hb9 hrc hpb hcx0 HAG HKX
      gi_wp2_with fail
      have hro : Fence.wide.round = none := rfl
      refine wpIn_rangeFunc_ownH hro (by have := hm3.out; omega) (gf := 96) (lb := #[.pointer (some ⟨wr.heap.size + 1, 0, none⟩), .pointer (some ⟨wr.heap.size + 1 + 1, 0, none⟩)]) rfl trivial (enters_of Try.func96 (by kernel_rfl) rfl)
        (agree_stops w6.heap.size (wr.heap.size + 1) (wr.heap.size + 1 + 1) bm w2.heap.size M.length A6 A5 A8 c6 c5 c8 (shN true ca cb) (shA ca cb) M x (m - 1) w9 HAF.out (by have := HG9.out.2.1; omega) HAP.out.1 HAP.out.2 HMP.out.2.1 (sh_len ca cb).symm (fun r hr i hi => by rw [longB_all (mayRel_long HQ2.out) r (HMP.out.1.mem_iff.1 hr)]; exact shN_lt i hi) (fun i hi => by rw [hxl]; exact shA_lt i hi) (Nat.le_trans (shN_len _ _ _) hlb) (by rw [HMP.out.1.length_eq]; exact hrb) (Nat.le_refl _))
        (fun h k => h.trans k) (keepJ_b (by have := HG9.out; omega) (by have := HG9.out.1; omega)) (Below.refl _ _) (fun _ => rfl)
        (JMid w6.heap.size w6 w9.heap.size wr.heap.size Ds (joinT (shA ca cb) (shN true ca cb) (shN false ca cb) (txR M) ((txR RA).take j)) x (shN false ca cb) M) (fun _ _ _ => False) (jMid_own (by have := HG9.out; omega) (by have := HG9.out.1; omega) HG9.out.2.2.2.1) (fun cd pre X Y row h _ _ => h.elim)
        HM0.out
        (fun y a' W => a' = { tmps := #[uu t 0, uu t 1, uu t 2, uu t 3, .pointer (some ⟨w.heap.size + 1 + 1, 0, none⟩), uu t 5, .pointer (some ⟨w3.heap.size, 0, none⟩), .slice A10 (colsJ ca cb).length c10, .pointer (some ⟨w6.heap.size, 0, none⟩), uu t 9, .pointer (some ⟨wr.heap.size, 0, none⟩), cellR y.1, uu t 12, uu t 13, uu t 14, uu t 15, uu t 16, uu t 17, uu t 18, uu t 19, uu t 20, uu t 21, uu t 22, uu t 23, uu t 24, uu t 25, uu t 26, uu t 27, uu t 28, uu t 29, uu t 30, uu t 31, uu t 32, uu t 33, uu t 34, uu t 35, uu t 36, uu t 37, uu t 38, uu t 39, .slice (some ⟨b1, o1, none⟩) RA.length c1, .int .i64 (RA.length : Int), .int .i64 (j : Int), .bool true, .pointer (some ⟨b1, o1 + j, none⟩), .slice xA xn xc, .pointer (some ⟨bm, 0, none⟩), .slice xA xn xc, .func (.func 96) #[] #[.pointer (some ⟨wr.heap.size + 1, 0, none⟩), .pointer (some ⟨wr.heap.size + 1 + 1, 0, none⟩)], cellR y.1, uu t 50, uu t 51, uu t 52, uu t 53, uu t 54, uu t 55, uu t 56, uu t 57, uu t 58, uu t 59, uu t 60, uu t 61, uu t 62, uu t 63, uu t 64, uu t 65, uu t 66, uu t 67, uu t 68, uu t 69, uu t 70, uu t 71, uu t 72], defers := [] })
        (fun x a' _ X Y row e hgr hr => e) ?assign ?body ?done ?stop
      case assign =>
        rintro lp pre y W K2 h hK2
        gi_wp2
        exact hK2 _ _ (KeepsFrom.refl _ _) (KeepJ.refl _ _ _ _) h rfl
      case body =>
        rintro l pre y a' W hwl hpx hMid rfl hlt
        obtain ⟨v2, R2, hJ2, hv2⟩ := hMid.rows
        obtain ⟨A11, c11, rfl, _⟩ := hJ2.o.form
        have z8 : W.cell? _ = _ := hJ2.bx.cell
        have hRl : R2.length + 1 ≤ 100000 := by
          have h1 := congrArg List.length hJ2.t
          rw [txR_len, List.length_append, List.length_map] at h1
          have h2 := joinT_len (IA := shA ca cb) (IB := shN true ca cb) (IR := shN false ca cb) (M := txR M) (R := (txR RA).take j)
          rw [List.length_take, txR_len, txR_len] at h2
          have h3 := HP.out
          rw [← HMP.out.1.length_eq] at h3
          have h4 : (j + 1) * M.length ≤ RA.length * M.length := Nat.mul_le_mul_right _ HK0.out
          rw [Nat.succ_mul] at h4
          rw [Nat.min_eq_left (Nat.le_of_lt HK0.out)] at h2
          omega
        have hRi : (R2.length : Int) ≤ 100000 := by omega
        have hkx : Boxed W wr.heap.size 46 (.slice xA xn xc) := by rw [← HX.out.2.2]; exact hMid.kx
        have HRL := Lib.hid hRl
        have HV2 := Lib.hid hv2
        have HJ2 := Lib.hid hJ2
        have HKX2 := Lib.hid hkx
        have HMI := Lib.hid hMid
        clear hRl hv2 hJ2 hkx hMid hpx hlt hwl
        gi_wp2_with fail
        have HUP : Hid (∀ X, Below W.heap.size W X → (JnS w.heap.size (.slice A ca.length c) (.slice (some ⟨b1, o1, none⟩) RA.length c1) (.slice A2 cb.length c2) (.slice A3 RB.length c3) w2 ca cb RB bm A5 A6 A7 A8 c5 c6 c7 c8 M w3.heap.size X ∧ Boxed X wr.heap.size 46 (.slice xA xn xc)) ∧ Boxed X w6.heap.size 32 (.slice A11 R2.length c11)) := fun X hX =>
          ⟨⟨(HS6.out.up HJ2.out.b).up hX, (hX.block _ HKX2.out.lt).trans HKX2.out⟩, (HJ2.out.up hX).bx⟩
        have HB6W := Lib.hid (HB6.out.trans (HJ2.out.b.mono HB6.out.size))
        have HRX : Hid (RwOk W W.heap.size x) := (HRA.out.r x HX.out.2.1).up HB6W.out (Nat.le_refl _)
        have HRY : Hid (RwOk W W.heap.size y.1 ∧ y.1.l.length = cb.length) := ⟨(HRB.out.r y.1 (HMP.out.1.mem_iff.1 y.2)).up HB6W.out (Nat.le_refl _), longB_all (mayRel_long HQ2.out) y.1 (HMP.out.1.mem_iff.1 y.2)⟩
        have HPZ : Hid (zOk (pickV (shN false ca cb) y.1.l)) := zOk_pick HRY.out.1.z (fun i hi => by rw [HRY.out.2]; exact shN_lt i hi)
        obtain ⟨wd, hwd⟩ : ∃ wd, W.drew = wd := ⟨_, rfl⟩
        have HBD : Hid (Below W.heap.size W wd) := by show Below _ _ _; rw [← hwd]; exact (Below.refl _ _).drew
        have hUT := HUP.out wd HBD.out
        refine wpIn_region_roundG (U := fun X => JnS w.heap.size (.slice A ca.length c) (.slice (some ⟨b1, o1, none⟩) RA.length c1) (.slice A2 cb.length c2) (.slice A3 RB.length c3) w2 ca cb RB bm A5 A6 A7 A8 c5 c6 c7 c8 M w3.heap.size X ∧ Boxed X wr.heap.size 46 (.slice xA xn xc)) (T := fun X => Boxed X w6.heap.size 32 (.slice A11 R2.length c11)) (f := 12) (by kernel_rfl) (by kernel_rfl) ?_
        rw [hwd]
        clear hwd z8
        refine takeT 0 (some 53) ((.slice A11 R2.length c11)) rfl rfl (by kernel_rfl) (by kernel_rfl) (by kernel_rfl) rfl rfl (by kernel_rfl) rfl (fun _ _ _ h => h) (by rfl) (by (intro _w hSw; have k0 := hSw.2.cell; clear hSw; go_simp)) (stU_of hUT) ?_
        simp only [Act.put, List.setIfInBounds_toArray, List.set_cons_zero, List.set_cons_succ]
        refine takeU 1 (some 54) ((.slice xA xn xc)) rfl rfl (by kernel_rfl) (by kernel_rfl) (by kernel_rfl) rfl (fun _ _ _ h => h) (by rfl) (by (intro _w hSw; have k0 := hSw.2.cell; clear hSw; go_simp)) (stU_of hUT) ?_
        simp only [Act.put, List.setIfInBounds_toArray, List.set_cons_zero, List.set_cons_succ]
        refine takeU 2 (some 55) ((cellR y.1)) rfl rfl (by kernel_rfl) (by kernel_rfl) (by kernel_rfl) rfl (fun _ _ _ h => h) (by rfl) (by (intro _w _hSw; (try dsimp only at _hSw); go_simp)) (stU_of hUT) ?_
        simp only [Act.put, List.setIfInBounds_toArray, List.set_cons_zero, List.set_cons_succ]
        refine takeU 3 (some 56) ((.pointer (some ⟨bm, 0, none⟩))) rfl rfl (by kernel_rfl) (by kernel_rfl) (by kernel_rfl) rfl (fun _ _ _ h => h) (by rfl) (by (intro _w hSw; have k0 := hSw.1.c.1; clear hSw; go_simp)) (stU_of hUT) ?_
        simp only [Act.put, List.setIfInBounds_toArray, List.set_cons_zero, List.set_cons_succ]
        refine takeU 4 (some 57) ((.pointer (some ⟨bm, 0, none⟩))) rfl rfl (by kernel_rfl) (by kernel_rfl) (by kernel_rfl) rfl (fun _ _ _ h => h) (by rfl) (by (intro _w _hSw; (try dsimp only at _hSw); go_simp)) (stU_of hUT) ?_
        simp only [Act.put, List.setIfInBounds_toArray, List.set_cons_zero, List.set_cons_succ]
        refine takeU 5 (some 58) ((.pointer (some ⟨bm, 2, none⟩))) rfl rfl (by kernel_rfl) (by kernel_rfl) (by kernel_rfl) rfl (fun _ _ _ h => h) (by rfl) (by (intro _w _hSw; (try dsimp only at _hSw); go_simp)) (stU_of hUT) ?_
        simp only [Act.put, List.setIfInBounds_toArray, List.set_cons_zero, List.set_cons_succ]
        refine takeU 6 (some 59) ((.slice A7 (shN false ca cb).length c7)) rfl rfl (by kernel_rfl) (by kernel_rfl) (by kernel_rfl) rfl (fun _ _ _ h => h) (by rfl) (by (intro _w hSw; have k0 := hSw.1.c.2; clear hSw; go_simp)) (stU_of hUT) ?_
        simp only [Act.put, List.setIfInBounds_toArray, List.set_cons_zero, List.set_cons_succ]
        have HPV := Lib.hid (pickedV_any y.1 A7 c7 (shN false ca cb) wd (HRY.out.1.up HBD.out (Nat.le_refl _)) (own_sl hUT.1.1.m.o2) (Nat.le_trans (shN_len _ _ _) hlb) (fun i hi => by rw [HRY.out.2]; exact shN_lt i hi))
        refine callG 7 rfl (by kernel_rfl) (by rfl) (fun K hK => ?_)
        go_simp
        refine HPV.out.mono ?_
        rintro e w4' ⟨⟨vP, rfl, hoP⟩, hb4⟩
        obtain ⟨Ap, cp, rfl, _⟩ := hoP.form
        have HB4 := Lib.hid (HBD.out.trans (hb4.mono HBD.out.size))
        have HOP := Lib.hid hoP
        refine hK.out _ _ (stU_of (HUP.out w4' HB4.out)) ?_
        clear hK K hUT hoP HPV hb4
        try simp only [Act.put, List.setIfInBounds_toArray, List.set_cons_zero, List.set_cons_succ]
        obtain ⟨w5', hw5⟩ : ∃ X, w4'.alloc (.cells #[.slice xA xn xc, .slice Ap (pickV (shN false ca cb) y.1.l).length cp] 46) = X := ⟨_, rfl⟩
        have hb5 : Below w4'.heap.size w4' w5' := by rw [← hw5]; exact (Below.refl _ _).alloc (Nat.le_refl _) _
        have HB5 := Lib.hid (HB4.out.trans (hb5.mono HB4.out.size))
        have hs5 : Sl1 cellR w5' w5'.heap.size (some ⟨w4'.heap.size, 0, none⟩) [x, ⟨Ap, cp, pickV (shN false ca cb) y.1.l⟩] := by
          have h9 := sl1_two cellR 46 w4' x ⟨Ap, cp, pickV (shN false ca cb) y.1.l⟩
          rw [HX.out.2.2] at h9
          rw [← hw5]
          exact h9
        have HCV := Lib.hid (concatV_any (some ⟨w4'.heap.size, 0, none⟩) 2 [x, ⟨Ap, cp, pickV (shN false ca cb) y.1.l⟩] w5' hs5 (fun r hr => by
          rcases List.mem_cons.1 hr with rfl | hr
          · exact HRX.out.up HB5.out (Nat.le_refl _)
          · rw [List.mem_singleton.1 hr]
            exact (OwnV.rwOk (r := ⟨Ap, cp, pickV (shN false ca cb) y.1.l⟩) HOP.out HPZ.out).up hb5 (Nat.le_refl _)) (by simp) (fun r hr => by
          rcases List.mem_cons.1 hr with rfl | hr
          · rw [hxl]; exact hla
          · rw [List.mem_singleton.1 hr]
            show (pickV _ _).length ≤ _
            unfold pickV
            rw [List.length_map]
            exact Nat.le_trans (shN_len _ _ _) hlb))
        rw [show ([x, ⟨Ap, cp, pickV (shN false ca cb) y.1.l⟩] : List Rw).flatMap (·.l) = x.l ++ pickV (shN false ca cb) y.1.l by simp] at HCV
        refine callG 8 rfl (by kernel_rfl) (by rfl) (fun K hK => ?_)
        go_simp
        try rw [hw5]
        refine hK.out _ _ (stU_of (HUP.out w5' HB5.out)) ?_
        clear hK K hw5 hb5 hs5
        try simp only [Act.put, List.setIfInBounds_toArray, List.set_cons_zero, List.set_cons_succ]
        refine callG 9 rfl (by kernel_rfl) (by rfl) (fun K hK => ?_)
        go_simp
        refine HCV.out.mono ?_
        rintro e w6' ⟨⟨vC, rfl, hoC⟩, hb6⟩
        obtain ⟨Ac, cc, rfl, _⟩ := hoC.form
        have HB6' := Lib.hid (HB5.out.trans (hb6.mono HB5.out.size))
        have HOC := Lib.hid hoC
        refine hK.out _ _ (stU_of (HUP.out w6' HB6'.out)) ?_
        clear hK K HCV hoC hb6
        try simp only [Act.put, List.setIfInBounds_toArray, List.set_cons_zero, List.set_cons_succ]
        obtain ⟨w7, hw7⟩ : ∃ X, w6'.alloc (.cells #[.slice Ac (x.l ++ pickV (shN false ca cb) y.1.l).length cc] 46) = X := ⟨_, rfl⟩
        have hb7 : Below w6'.heap.size w6' w7 := by rw [← hw7]; exact (Below.refl _ _).alloc (Nat.le_refl _) _
        have HB7 := Lib.hid (HB6'.out.trans (hb7.mono HB6'.out.size))
        have HC7 : Hid (w7.cell? ⟨w6'.heap.size, 0, none⟩ = some (cellR ⟨Ac, cc, x.l ++ pickV (shN false ca cb) y.1.l⟩)) := by show _ = _; rw [← hw7, World.cell?_alloc_new]; rfl
        have HO7 : Hid (OwnV w7 (w6.heap.size + 1) (cellR ⟨Ac, cc, x.l ++ pickV (shN false ca cb) y.1.l⟩) (x.l ++ pickV (shN false ca cb) y.1.l)) := (HOC.out.next hb7).low (Nat.le_trans HJ2.out.bx.lt HB5.out.size)
        have HJ7 := Lib.hid (HJ2.out.up HB7.out)
        obtain ⟨rl, hrl⟩ : ∃ rl, x.l ++ pickV (shN false ca cb) y.1.l = rl := ⟨_, rfl⟩
        rw [hrl] at HC7 HO7 hw7
        have HRE := Lib.hid hrl
        rw [hrl]
        clear hrl
        refine callG 10 rfl (by kernel_rfl) (by rfl) (fun K hK => ?_)
        go_simp
        try rw [hw7]
        refine hK.out _ _ (stU_of (HUP.out w7 HB7.out)) ?_
        clear hK K hw7 hb7
        try simp only [Act.put, List.setIfInBounds_toArray, List.set_cons_zero, List.set_cons_succ]
        refine callG 11 rfl (by kernel_rfl) (by rfl) (fun K hK => ?_)
        refine wp_append_row (some 64) rfl _ _ rfl (w6.heap.size + 1) (.slice A11 R2.length c11) R2 rfl HJ7.out.o.o ⟨Ac, cc, rl⟩ w6'.heap.size rfl HC7.out (by have := HRL.out; omega) (Nat.le_trans HJ2.out.bx.lt HB7.out.size) ?_
        intro v8 w8 ho8 hg8 hob8
        obtain ⟨A12, c12, rfl, _⟩ := ho8.form
        obtain ⟨n12, hn12⟩ : ∃ n, (R2 ++ [(⟨Ac, cc, rl⟩ : Rw)]).length = n := ⟨_, rfl⟩
        rw [hn12] at ho8 hob8 ⊢
        clear hn12
        have hah := jn_ahead HJ2.out HV2.out HKX2.out HB7.out hg8
        have HST := Lib.hid (jn_step HJ2.out HV2.out (by rw [HX.out.2.2]; exact HKX2.out) HG9.out.1 HG9.out.2.1 HMI.out.size HB7.out y ⟨Ac, cc, rl⟩ HO7.out (by show zOk rl; rw [← HRE.out]; exact zOk_app HRX.out.z HPZ.out) HRE.out.symm ho8 hg8 hob8)
        have hU8 : JnS w.heap.size (.slice A ca.length c) (.slice (some ⟨b1, o1, none⟩) RA.length c1) (.slice A2 cb.length c2) (.slice A3 RB.length c3) w2 ca cb RB bm A5 A6 A7 A8 c5 c6 c7 c8 M w3.heap.size w8 ∧ Boxed w8 wr.heap.size 46 (.slice xA xn xc) := ⟨HS6.out.up hah.2.1, hah.2.2⟩
        refine hK.out _ _ (stU_of ⟨hU8, hah.1⟩) ?_
        clear hK K hg8 hob8 hU8 ho8
        simp only [Act.put, List.setIfInBounds_toArray, List.set_cons_zero, List.set_cons_succ]
        have z8 := hah.1.cell
        have z9 := hah.1.frozen
        have HAH := Lib.hid hah
        clear hah
        refine callG 12 rfl (by kernel_rfl) (by rfl) (fun K hK => ?_)
        go_simp
        obtain ⟨v10, R10, hj10, _⟩ := HST.out.2.2.rows
        refine hK.out _ _ (stU_late ⟨HS6.out.up hj10.b, by rw [← HX.out.2.2]; exact HST.out.2.2.kx⟩ (by kernel_rfl)) ?_
        clear hK K hj10 z8 z9
        refine wpAnyG_done (by kernel_rfl) ?_ _
        exact HST.out
      case done =>
        rintro D ys W hD hys hMid hKD
        obtain ⟨v2, R2, hJ2, hv2⟩ := hMid.rows
        have hac : (joinT (shA ca cb) (shN true ca cb) (shN false ca cb) (txR M) ((txR RA).take j) ++ ys.map fun y => x.l ++ pickV (shN false ca cb) y.1.l) = joinT (shA ca cb) (shN true ca cb) (shN false ca cb) (txR M) ((txR RA).take (j + 1)) := by
          rw [take_snoc HX.out.1, joinT_snoc, ← agR_tx]
          have h9 : (ys.map fun y => x.l ++ pickV (shN false ca cb) y.1.l) = (ys.map (·.1)).map fun y => x.l ++ pickV (shN false ca cb) y.l := by rw [List.map_map]; rfl
          rw [h9, hys]
          unfold txR
          rw [List.map_map]
          rfl
        have HJN : Hid (JLv w6.heap.size w6 v2 R2 (joinT (shA ca cb) (shN true ca cb) (shN false ca cb) (txR M) ((txR RA).take (j + 1))) (D :: Ds) W) := by
          rw [hac] at hJ2
          exact ⟨hJ2.b, hJ2.bx, hJ2.o, hJ2.t, List.nodup_cons.2 ⟨fun hm => by have := HG9.out.2.2.2.1 D hm; omega, hJ2.ma.1⟩, fun E hE => by
            rcases List.mem_cons.1 hE with rfl | hE
            · exact ⟨by have := HG9.out; omega, hKD⟩
            · exact hJ2.ma.2 E hE⟩
        clear hys hMid hJ2 hv2 hKD hac
        gi_wp2
        have hk1 : j + 1 + (k - 1) = RA.length := by have := HK0.out; omega
        have e1 : ((j : Int) + 1) = ((j + 1 : Nat) : Int) := by omega
        rw [e1]
        exact Handed.intro (k - 1) (by have := HK0.out; omega) (hJ _ _ _ (loopI_of (j + 1) (D :: Ds) rfl hk1 ⟨_, _, HJN.out⟩))
      case stop =>
        rintro D cd pre W hD _ h hK
        exact h.elim
    · have hji : ¬ (j : Int) < (RA.length : Int) := by omega
      have htk : (txR RA).take j = txR RA := List.take_of_length_le (by rw [txR_len]; omega)
      rw [htk] at HJV
      obtain ⟨A11, c11, rfl, _⟩ := HJV.out.o.form
      have z8 : wr.cell? _ = _ := HJV.out.bx.cell
      have hRl : R.length ≤ 100000 := by
        have h1 := congrArg List.length HJV.out.t
        rw [txR_len] at h1
        have h2 := joinT_len (IA := shA ca cb) (IB := shN true ca cb) (IR := shN false ca cb) (M := txR M) (R := txR RA)
        rw [txR_len, txR_len, HMP.out.1.length_eq] at h2
        have h3 := HP.out
        omega
      have hRi : (R.length : Int) ≤ 100000 := by omega
      obtain ⟨x0, x1, x2, x3⟩ := HSW.out.j.e
      have HJV2 := Lib.hid HJV.out
      have HT : Hid (txR R = putsG ordR (joinD ca cb (txR RA) (txR RB))) := HJV.out.t.trans (join_puts (mayRel_ups HQ1.out) (fun z hz => by
          obtain ⟨r, hr, rfl⟩ := List.mem_map.1 hz
          exact longB_all (mayRel_long HQ1.out) r hr) (by unfold txR; rw [List.pairwise_map]; exact HMP.out.2.1) (HMP.out.1.map _) (mayRel_ups HQ2.out) (fun z hz => by
          obtain ⟨r, hr, rfl⟩ := List.mem_map.1 hz
          exact longB_all (mayRel_long HQ2.out) r hr) (mayRel_nodup HQ1.out) (mayRel_nodup HQ2.out) (fun z => by rw [joinD_mem, plN_rest (mayRel_nodup HQ2.out)]; exact Iff.rfl))
      clear htk hRl
      have hn6 : w.heap.size + 3 ≤ w6.heap.size := HS6.out.j.lt
      have hoc : OwnC wr w5.heap.size (.slice A10 (colsJ ca cb).length c10) (colsJ ca cb) := HO6x.out.next HRW.out
      obtain ⟨ww, hww⟩ : ∃ ww, (wr.setCell ⟨w.heap.size + 2, 0, none⟩ (.slice A10 (colsJ ca cb).length c10)).setCell ⟨w.heap.size + 2, 1, none⟩ (.slice A11 R.length c11) = ww := ⟨_, rfl⟩
      have HWW : Hid (ww.cell? ⟨w.heap.size + 2, 0, none⟩ = some (.slice A10 (colsJ ca cb).length c10) ∧ ww.cell? ⟨w.heap.size + 2, 1, none⟩ = some (.slice A11 R.length c11)) := by show _ ∧ _; rw [← hww]; exact cells_two x0 x1
      have HMW : Hid (MarksAt w6.heap.size Ds ww) := by show MarksAt _ _ _; rw [← hww]; exact (HJV.out.ma.set (p := ⟨w.heap.size + 2, 0, none⟩) (by show _ + 2 < _; omega) _).set (p := ⟨w.heap.size + 2, 1, none⟩) (by show _ + 2 < _; omega) _
      have HBW : Hid (Below w.heap.size w ww) := by
        show Below _ _ _
        rw [← hww]
        exact ((HB6.out.trans (HRW.out.mono HB6.out.size)).setCell (p := ⟨w.heap.size + 2, 0, none⟩) (Nat.le_add_right _ _) _).setCell (p := ⟨w.heap.size + 2, 1, none⟩) (Nat.le_add_right _ _) _
      have HOW : Hid (OwnC ww w.heap.size (.slice A10 (colsJ ca cb).length c10) (colsJ ca cb) ∧ OwnR ww w.heap.size (.slice A11 R.length c11) R) := by
        have h5 := HZ5.out
        show _ ∧ _
        rw [← hww]
        exact ⟨Own1.low (owns_set (owns_set hoc (by omega) 0 _) (by omega) 1 _) (by omega), ((HJV.out.o.set (by omega) 0 _).set (by omega) 1 _).low (by omega)⟩
      clear hoc hn6
      gi_wp2
      try rw [hww]
      refine leaves_marks (lo := w6.heap.size) Ds ww HMW.out (fun W' hW' => ?_)
      obtain ⟨z0, z1⟩ : W'.cell? ⟨w.heap.size + 2, 0, none⟩ = some (.slice A10 (colsJ ca cb).length c10) ∧ W'.cell? ⟨w.heap.size + 2, 1, none⟩ = some (.slice A11 R.length c11) := ⟨hW'.cell HMW.out HWW.out.1, hW'.cell HMW.out HWW.out.2⟩
      have hbW : Below w.heap.size w W' := HBW.out.trans (hW'.below (W := ww) (lo := w.heap.size) ⟨HMW.out.1, fun D hD => ⟨Nat.le_trans (Nat.le_trans HB6.out.size (Nat.le_refl _)) (HMW.out.2 D hD).1, (HMW.out.2 D hD).2⟩⟩ (Below.refl _ _))
      refine ⟨.tuple #[.agg #[.slice A10 (colsJ ca cb).length c10, .slice A11 R.length c11], .int .i64 0], (by rw [results_ct rfl]; clear x0 x1 x2 x3 hww; go_simp), ?_⟩
      exact rel_of_own hbW (hW'.owns HMW.out HOW.out.1) (hW'.ownR HMW.out HOW.out.2) HT.out
/-- the program's Join, whole -/
theorem join_any (A : Option Addr) (c : Nat) (ca : List ByteArray) (A1 : Option Addr) (c1 : Nat) (RA : List Rw) (A2 : Option Addr) (c2 : Nat) (cb : List ByteArray) (A3 : Option Addr) (c3 : Nat) (RB : List Rw) (w : World) (hA : SlC w w.heap.size A ca) (hRA : SlR w w.heap.size A1 RA) (hB : SlC w w.heap.size A2 cb) (hRB : SlR w w.heap.size A3 RB)
    (hca : ca.length ≤ c) (hcb : cb.length ≤ c2) (hla : ca.length ≤ 1000000000) (hra : RA.length ≤ 1000000000) (hlb : cb.length ≤ 1000000000) (hrb : RB.length ≤ 1000000000) (hn0 : A = none → ca.length = 0 ∧ c = 0) (hn3 : A3 = none → RB.length = 0 ∧ c3 = 0) (hp : RA.length * RB.length ≤ 100000) :
    Calls Try.prog 21 #[.agg #[.slice A ca.length c, .slice A1 RA.length c1], .agg #[.slice A2 cb.length c2, .slice A3 RB.length c3]] w (RelEnd w (colsJ ca cb) (putsG ordR (joinD ca cb (txR RA) (txR RB))) (joinC ca cb RA RB)) := by
  by_cases q : mayRel ca RA = true ∧ mayRel cb RB = true
  · have h1 := (callsIn_wide (n := 9)).1 (join_in 9 (show 3 ≤ 9 by decide) A c ca A1 c1 RA A2 c2 cb A3 c3 RB w hA hRA hB hRB hca hcb hla hra hlb hrb hn0 hn3 q.1 q.2 hp _ rfl)
    have e : joinC ca cb RA RB = if 32 < (colsJ ca cb).length then 140 else 0 := by
      unfold joinC madeC
      rw [if_pos q]
      have h2 := putsG_len (o := ordR) (joinD ca cb (txR RA) (txR RB))
      have h3 := joinD_len (ca := ca) (cb := cb) (T := txR RB) (S := txR RA)
      rw [txR_len, txR_len] at h3
      rw [if_neg (show ¬ 100000 < (putsG ordR (joinD ca cb (txR RA) (txR RB))).length by omega)]
    rw [e]
    exact h1
  · have e : joinC ca cb RA RB = 2 := by unfold joinC; rw [if_neg q]
    rw [e]
    exact join_no A c ca A1 c1 RA A2 c2 cb A3 c3 RB w hA hRA hB hRB hca hcb hla hra hlb hrb q _ _
end Go.Proofs.Ytofmfainhflmmaa

/-
  PLAIN FACTS: the chapter's relations, joined.
-/
namespace Go.Proofs.Ytofmfainhflmmaa
open Go.RowKit

def t1A : List (List Vl) := [[vOf 1, vOf 2], [vOf 1, vOf 3], [vOf 2, vOf 2]]
def t2A : List (List Vl) := [[vOf 2, vOf 100], [vOf 4, vOf 101]]
def t3A : List (List Vl) := [[vOf 1, vOf 2, vOf 100], [vOf 2, vOf 2, vOf 100]]
def c1A : List ByteArray := [⟨#[120]⟩, ⟨#[121]⟩]
def c2A : List ByteArray := [⟨#[121]⟩, ⟨#[122]⟩]
def c3A : List ByteArray := [⟨#[120]⟩, ⟨#[121]⟩, ⟨#[122]⟩]
theorem one_puts : putsG ordR [[vOf 1, vOf 3], [vOf 2, vOf 2], [vOf 1, vOf 2]] = t1A := by decide +kernel
theorem two_puts : putsG ordR [[vOf 4, vOf 101], [vOf 2, vOf 100]] = t2A := by decide +kernel
theorem colsA : colsJ c1A c2A = c3A := by decide +kernel
theorem joinA : putsG ordR (joinD c1A c2A t1A t2A) = t3A := by
  have h : joinT (shA c1A c2A) (shN true c1A c2A) (shN false c1A c2A) t2A t1A = t3A := by decide +kernel
  rw [← h]
  refine (join_puts (R := t1A) (B := t2A) ?_ (by decide +kernel) ?_ (List.Perm.refl _) ?_ (by decide +kernel) (by decide +kernel) (by decide +kernel) (fun z => by rw [joinD_mem, plN_rest (by decide +kernel)])).symm
  · unfold Ups; decide +kernel
  · decide +kernel
  · unfold Ups; decide +kernel
theorem mayRel_few {cols : List ByteArray} {R : List Rw} {T : List (List Vl)} (ht : txR R = T) (h1 : cols.Nodup) (h2 : cols.length ≤ 32) (h3 : ∀ x ∈ T, x.length = cols.length) (h4 : T.length ≤ 100000) (h5 : Ups ordR T) : mayRel cols R = true := by
  have a : colsB cols = true := by unfold colsB onceB; simp [h1, h2]
  have b : longB cols.length R = true := by
    unfold longB
    simp only [List.all_eq_true, decide_eq_true_eq]
    intro r hr
    exact h3 r.l (by rw [← ht]; exact List.mem_map_of_mem hr)
  have l : R.length ≤ 100000 := by rw [← txR_len, ht]; exact h4
  unfold mayRel upsB
  rw [a, b, ht]
  simp [l, h5]
theorem mayTA {R : List Rw} (h : txR R = t1A) : mayRel c1A R = true := mayRel_few h (by decide +kernel) (by decide) (by decide +kernel) (by decide) (by unfold Ups; decide +kernel)
theorem mayTB {R : List Rw} (h : txR R = t2A) : mayRel c2A R = true := mayRel_few h (by decide +kernel) (by decide) (by decide +kernel) (by decide) (by unfold Ups; decide +kernel)
theorem codeA {R1 R2 : List Rw} (h1 : txR R1 = t1A) (h2 : txR R2 = t2A) : joinC c1A c2A R1 R2 = 0 := by
  unfold joinC madeC
  rw [if_pos ⟨mayTA h1, mayTB h2⟩, h1, h2, joinA, colsA, if_neg (by decide), if_neg (by decide)]
theorem oneA (w : World) : Calls Try.prog 30 #[] w (RelN w c1A t1A) := one_any t1A one_puts w
theorem twoA (w : World) : Calls Try.prog 31 #[] w (RelN w c2A t2A) := two_any t2A two_puts w
theorem lensA : c1A.length = 2 ∧ c2A.length = 2 ∧ c3A.length = 3 ∧ t1A.length = 3 ∧ t2A.length = 2 ∧ t3A.length = 2 := ⟨rfl, rfl, rfl, rfl, rfl, rfl⟩
theorem joinEA {w w' : World} {e : Ending} {R1 R2 : List Rw} (h1 : txR R1 = t1A) (h2 : txR R2 = t2A) (h : RelEnd w (colsJ c1A c2A) (putsG ordR (joinD c1A c2A (txR R1) (txR R2))) (joinC c1A c2A R1 R2) e w') : RelEnd w c3A t3A 0 e w' := by
  rw [codeA h1 h2, h1, h2, joinA, colsA] at h
  exact h
end Go.Proofs.Ytofmfainhflmmaa

/-
  THE LAST REGION of the law's alive: what holds in each of its orders.
-/
namespace Go.Proofs.Ytofmfainhflmmaa
open Go.RowKit

/-- which have come up: `k` names what of the rows' operations has -/
def upA : Fin 12 → List Nat
  | 0 => []
  | 1 => [5]
  | 2 => [7]
  | 3 => [5, 7]
  | 4 => [5, 6]
  | 5 => [5, 6, 7]
  | 6 => [5, 6, 7, 8]
  | 7 => [5, 6, 7, 8, 9]
  | 8 => [5, 6, 7, 8, 9, 10]
  | 9 => [5, 6, 7, 8, 9, 10, 11]
  | 10 => [5, 6, 7, 8, 9, 10, 11, 12]
  | 11 => [5, 6, 7, 8, 9, 10, 11, 12, 13]
def LofA (b : Bool) (k : Fin 12) : Array Bool := ((List.range 14).map fun i => decide (i < 4) || (i == 4 && b) || (upA k).contains i).toArray
def isA (b : Bool) (k : Fin 12) (i : Nat) : Bool := (i == 4 && b) || (upA k).contains i
def r1A : List Vl := [vOf 1, vOf 2, vOf 100]
def r2A : List Vl := [vOf 2, vOf 2, vOf 100]
/-- what the slots hold -/
structure RFA (b : Bool) (k : Fin 12) (s0 v13 v14 v15 v16 v17 v18 v19 v20 v21 : Value) (w : World) : Prop where
  h13 : isA b k 4 = true → ∃ A, v13 = .slice A 3 3 ∧ SlC w w.heap.size A c3A
  h14 : isA b k 5 = true → ∃ A, v14 = .slice A 3 3 ∧ Sl1 i64V w w.heap.size A [1, 2, 100]
  h15 : isA b k 6 = true → ∃ A c, v15 = .slice A 3 c ∧ RwOk w w.heap.size ⟨A, c, r1A⟩
  h16 : isA b k 7 = true → ∃ A, v16 = .slice A 3 3 ∧ Sl1 i64V w w.heap.size A [2, 2, 100]
  h17 : isA b k 8 = true → ∃ A c, v17 = .slice A 3 c ∧ RwOk w w.heap.size ⟨A, c, r2A⟩
  h18 : isA b k 9 = true → ∃ A R, v18 = .slice A 2 2 ∧ SlR w w.heap.size A R ∧ txR R = t3A
  h19 : isA b k 10 = true → v19 = .agg #[v13, v18]
  h20 : isA b k 11 = true → v20 = .bool true
  h21 : isA b k 12 = true → v21 = .bool true
  h0 : isA b k 13 = true → s0 = .bool true
theorem RFA.up {b : Bool} {k : Fin 12} {s0 v13 v14 v15 v16 v17 v18 v19 v20 v21 : Value} {w w' : World} (h : RFA b k s0 v13 v14 v15 v16 v17 v18 v19 v20 v21 w) (hb : Below w.heap.size w w') : RFA b k s0 v13 v14 v15 v16 v17 v18 v19 v20 v21 w' where
  h13 := fun e => by obtain ⟨A, h1, h2⟩ := h.h13 e; exact ⟨A, h1, Sl1.up h2 hb (Nat.le_refl _)⟩
  h14 := fun e => by obtain ⟨A, h1, h2⟩ := h.h14 e; exact ⟨A, h1, Sl1.up h2 hb (Nat.le_refl _)⟩
  h15 := fun e => by obtain ⟨A, c, h1, h2⟩ := h.h15 e; exact ⟨A, c, h1, h2.up hb (Nat.le_refl _)⟩
  h16 := fun e => by obtain ⟨A, h1, h2⟩ := h.h16 e; exact ⟨A, h1, Sl1.up h2 hb (Nat.le_refl _)⟩
  h17 := fun e => by obtain ⟨A, c, h1, h2⟩ := h.h17 e; exact ⟨A, c, h1, h2.up hb (Nat.le_refl _)⟩
  h18 := fun e => by obtain ⟨A, R, h1, h2, h3⟩ := h.h18 e; exact ⟨A, R, h1, h2.up hb (Nat.le_refl _), h3⟩
  h19 := h.h19
  h20 := h.h20
  h21 := h.h21
  h0 := h.h0
/-- another set of what has come up, of which the slots hold the same -/
theorem rfa_zero {s0 v13 v14 v15 v16 v17 v18 v19 v20 v21 : Value} {w : World} : RFA false 0 s0 v13 v14 v15 v16 v17 v18 v19 v20 v21 w :=
  ⟨fun h => absurd h (by decide), fun h => absurd h (by decide), fun h => absurd h (by decide), fun h => absurd h (by decide), fun h => absurd h (by decide), fun h => absurd h (by decide), fun h => absurd h (by decide), fun h => absurd h (by decide), fun h => absurd h (by decide), fun h => absurd h (by decide)⟩
theorem isA_four : ∀ {b : Bool} {k : Fin 12}, isA b k 4 = b := by decide +kernel
theorem isA_more {b b' : Bool} {k : Fin 12} {i : Nat} (h : i ≠ 4) : isA b k i = isA b' k i := by
  unfold isA
  have e : (i == 4) = false := by simpa using h
  rw [e]
  simp
theorem isA_late : ∀ {b : Bool} {k : Fin 12}, isA b k 10 = true → 8 ≤ k.val := by decide +kernel
theorem lofA_four : ∀ (k : Fin 12), k.val < 8 → (LofA false k).setIfInBounds 4 true = LofA true k := by decide +kernel
theorem namesA (X : World) : SlC (X.alloc (.cells #[.string ⟨#[120]⟩, .string ⟨#[121]⟩, .string ⟨#[122]⟩] 9)) (X.alloc (.cells #[.string ⟨#[120]⟩, .string ⟨#[121]⟩, .string ⟨#[122]⟩] 9)).heap.size (some ⟨X.heap.size, 0, none⟩) c3A := sl1_lit strV 9 X c3A
theorem rowsA (A7 A8 : Option Addr) (c7 c8 : Nat) : txR [⟨A7, c7, r1A⟩, ⟨A8, c8, r2A⟩] = t3A := rfl
/-- which one may come up -/
def okA (b : Bool) (k : Fin 12) (i : Nat) : Bool :=
  (i == 4 && (b == false && decide (k.val < 8))) || ((i == 5 && (k == 0 || k == 2)) || ((i == 7 && (k == 0 || (k == 1 || k == 4))) || ((i == 6 && (k == 1 || k == 3)) || ((i == 8 && k == 5) || ((i == 9 && k == 6) || ((i == 10 && (k == 7 && b == true)) || ((i == 11 && k == 8) || ((i == 12 && k == 9) || (i == 13 && k == 10)))))))))
theorem okA_cases {b : Bool} {k : Fin 12} {i : Nat} (h : okA b k i = true) : (i = 4 ∧ b = false ∧ k.val < 8) ∨ (i = 5 ∧ (k = 0 ∨ k = 2)) ∨ (i = 7 ∧ (k = 0 ∨ k = 1 ∨ k = 4)) ∨ (i = 6 ∧ (k = 1 ∨ k = 3)) ∨ (i = 8 ∧ k = 5) ∨ (i = 9 ∧ k = 6) ∨ (i = 10 ∧ k = 7 ∧ b = true) ∨ (i = 11 ∧ k = 8) ∨ (i = 12 ∧ k = 9) ∨ (i = 13 ∧ k = 10) := by
  unfold okA at h
  simp only [Bool.or_eq_true, Bool.and_eq_true, beq_iff_eq, decide_eq_true_eq] at h
  exact h
end Go.Proofs.Ytofmfainhflmmaa
