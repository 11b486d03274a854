import Derived.Test.YthdjlaombbeagaaGreatJFSome
import Derived.Test.YthdjlaombbeagaaGreatJFTurn
import Derived.Test.YthdjlaombbeagaaGreatJFSameA
import Derived.Test.YthdjlaombbeagaaGreatJFOrderL
/-
  THE LAW FactsStay: its walk.
-/
namespace Go.Proofs.YthdjlaombbeagaaGreat
open Go.RowKit Go.Shelf

theorem costD_leU (l : List Dat) (hs : ∀ p ∈ l, p.s.size ≤ 1048576) : costD l ≤ l.length * 1048596 ∧ (l.length : Int) * 20 ≤ costD l := by
  induction l with
  | nil => simp [costD]
  | cons p r ih =>
    have h1 := ih (fun q hq => hs q (by simp [hq]))
    have h2 := hs p (by simp)
    unfold costD at h1 ⊢
    simp only [List.map_cons, List.sum_cons, List.length_cons]
    omega
set_option maxRecDepth 100000 in
set_option maxHeartbeats 2000000 in
theorem greatD_upto (A : Option Addr) (c : Nat) (l : List Dat) (w : World) (B : Nat) (hs : SlD w B A l) (hl : l.length ≤ 1048576) (hz : ∀ d ∈ l, d.s.size ≤ 1048576) :
    Calls Tryz.prog 4 #[.slice A l.length c] w fun e w' => ((e = .returned (.int .i64 0) ∧ l.length ≤ 200) ∨ e = .returned (.int .i64 1)) ∧ w = w' := by
  have HS := Lib.hid hs
  have HZ := Lib.hid hz
  clear hs hz
  go_enter Tryz.func4, Tryz.ntmps4
  go_wp2
  go_loopg [3, 4] l.length (fun g x y wr => ∃ j : Nat, x = .int .i64 (costD (l.take j)) ∧ y = .int .i64 j ∧ j + g = l.length ∧ wr = w)
  case atStart => exact ⟨0, rfl, rfl, by omega, rfl⟩
  case round =>
    obtain ⟨j, rfl, rfl, hj, rfl⟩ := hrel
    cases gk with
    | succ g =>
      have hji : (j : Int) < (l.length : Int) := by omega
      have hjn : j < l.length := by omega
      obtain ⟨b, o, rfl, _, hp⟩ := HS.out.at_ hjn
      have c4 : wr.cell? ⟨b, o + j * 9 + 2 + 2, none⟩ = some (.string l[j].s) := hp.c4
      have hcs := Lib.hid (costD_take hjn)
      have hcl := costD_leU (l.take j) (fun p hp => HZ.out p (List.mem_of_mem_take hp))
      have htl : (l.take j).length ≤ 1048576 := by rw [List.length_take]; omega
      obtain ⟨T, hT⟩ : ∃ T, costD (l.take j) = T := ⟨_, rfl⟩
      rw [hT] at hcl
      rw [hT]
      have hTT : T ≤ 2040000000000000 := by omega
      have hT0 : 0 ≤ T := by omega
      have hsz := HZ.out _ (List.getElem_mem hjn)
      have HT := Lib.hid hT
      clear hp hT hcl htl
      go_wp2
      go_roundg g
      case measure => omega
      case rel => exact ⟨j + 1, by rw [hcs.out, HT.out], by go_num, by omega, rfl⟩
    | zero =>
      have hji : ¬ (j : Int) < (l.length : Int) := by omega
      have ht : l.take j = l := List.take_of_length_le (by omega)
      have hcl := costD_leU l HZ.out
      rw [ht]
      obtain ⟨T, hT⟩ : ∃ T, costD l = T := ⟨_, rfl⟩
      rw [hT] at hcl ⊢
      clear ht hT
      by_cases hn : 4000 < T
      · go_wp2
        go_ret
        exact ⟨.inr rfl, rfl⟩
      · have hl2 : l.length ≤ 200 := by omega
        clear hcl
        go_wp2
        go_ret
        first | exact ⟨.inl ⟨rfl, hl2⟩, rfl⟩ | exact ⟨.inl rfl, rfl⟩
theorem FoldU.next {l : List Dat} {W W' : World} {v : Value} {ec : Int} (h : FoldU l W v ec) (hb : Below W.heap.size W W') : FoldU l W' v ec := by
  rcases h with h | ⟨h1, h2, h3, fs, h4, h5, h6⟩
  · exact .inl h
  · exact .inr ⟨h1, h2, h3, fs, h4, h5.next hb, h6⟩
theorem FoldU.form {l : List Dat} {W : World} {v : Value} {ec : Int} (h : FoldU l W v ec) : ∃ A n c, v = .slice A n c := by
  rcases h with ⟨_, rfl, _⟩ | ⟨_, _, _, fs, _, ⟨A, c, rfl, _⟩, _⟩
  · exact ⟨_, _, _, rfl⟩
  · exact ⟨_, _, _, rfl⟩
end Go.Proofs.YthdjlaombbeagaaGreat

/-
  THE LAW FactsFold: its walk.
-/
namespace Go.Proofs.YthdjlaombbeagaaGreat
open Go.RowKit Go.Shelf

/-- what the program's Of answers of any view -/
def OfP (l : List Dat) (a s v : Int) (at_ hist : Bool) (W : World) (u : Value) (ec : Int) : Prop :=
  ((hist = true ∨ (markB a && markB s) = false) ∧ ec = 2 ∧ u = .slice none 0 0) ∨ (hist = false ∧ (markB a && markB s) = true ∧ ((ec = 60 ∧ u = .slice none 0 0 ∧ ¬ GoodL (l.filter (seesB a s))) ∨
    (ec = 0 ∧ GoodL (l.filter (seesB a s)) ∧ ∃ fs, FoldsTo (runsL triD (sortsD 1 (l.filter (seesB a s)))) fs ∧ FVa W u (atIf at_ v fs))))
theorem bad_of {L : List Dat} (h : notMay L = true ∨ ¬ Goes (sortsD 1 L)) : ¬ GoodL L := fun g => h.elim (fun e => by rw [g.1] at e; cases e) (fun e => e g.2)
theorem ofP_any (a s v : Int) (at_ hist : Bool) (A : Option Addr) (c : Nat) (l : List Dat) (w : World) (hs : SlD w w.heap.size A l) (hl : l.length ≤ 3000) (hz : ∀ d ∈ l, d.s.size ≤ maxLen) (hk : ∀ d ∈ l, SpOk (spD d)) :
    Calls Tryz.prog 9 #[.slice A l.length c, .agg #[.int .i64 a, .int .i64 s, .int .i64 v, .bool at_, .bool hist]] w fun e w' => (∃ u ec, e = .returned (.tuple #[u, .int .i64 ec]) ∧ OfP l a s v at_ hist w' u ec) ∧ Below w.heap.size w w' := by
  have hfew : (l.filter (seesB a s)).length ≤ 3000 ∨ notMay (l.filter (seesB a s)) = true := .inl (Nat.le_trans (List.length_filter_le _ _) hl)
  cases hist with
  | true =>
    refine (ofHist_any a s v at_ A l.length c w).mono ?_
    rintro e w' ⟨rfl, hb⟩
    exact ⟨⟨_, _, rfl, .inl ⟨.inl rfl, rfl, rfl⟩⟩, hb⟩
  | false =>
    cases at_ with
    | false =>
      refine (of_any a s v A c l w hs (by omega) hz hk hfew).mono ?_
      rintro e w' ⟨u, ec, rfl, ho, hb⟩
      refine ⟨⟨u, ec, rfl, ?_⟩, hb⟩
      rcases ho with ⟨h1, h2, h3⟩ | ⟨h1, h2, h3⟩
      · refine .inr ⟨rfl, by rw [h1, h2]; rfl, ?_⟩
        rcases h3 with ⟨k1, k2, k3⟩ | ⟨k1, k2, k3, fs, k4, k5, _⟩
        · exact .inl ⟨k1, k2, bad_of k3⟩
        · exact .inr ⟨k1, ⟨k2, k3⟩, fs, k4, k5.a⟩
      · exact .inl ⟨.inr h1, h2, h3⟩
    | true =>
      refine (ofAt_any a s v A c l w hs (by omega) hz hk hfew).mono ?_
      rintro e w' ⟨u, ec, rfl, ho, hb⟩
      refine ⟨⟨u, ec, rfl, ?_⟩, hb⟩
      rcases ho with ⟨h1, h2, h3⟩ | ⟨h1, h2, h3⟩
      · refine .inr ⟨rfl, by rw [h1, h2]; rfl, ?_⟩
        rcases h3 with ⟨k1, k2, k3⟩ | ⟨k1, k2, k3, fs, k4, k5⟩
        · exact .inl ⟨k1, k2, bad_of k3⟩
        · exact .inr ⟨k1, ⟨k2, k3⟩, fs, k4, k5.a⟩
      · exact .inl ⟨.inr h1, h2, h3⟩
/-- two values that read as the same facts -/
def TwoF (W W' : World) (u y : Value) : Prop := ∃ fs A A' c c', u = .slice A fs.length c ∧ y = .slice A' fs.length c' ∧ FVa W u fs ∧ FVa W' y fs ∧ fs.length ≤ 400 ∧ ∀ f ∈ fs, f.l.length ≤ 400
theorem twoF_of {W W' : World} {u y : Value} {fs : List FactP} (h : FVa W u fs) (k : FVa W' y fs) (hl : fs.length ≤ 400) (hm : ∀ f ∈ fs, f.l.length ≤ 400) : TwoF W W' u y := by
  obtain ⟨A, c, e, _⟩ := id h
  obtain ⟨A', c', e', _⟩ := id k
  exact ⟨fs, A, A', c, c', e, e', h, k, hl, hm⟩
theorem fva_nil (W : World) : FVa W (.slice none 0 0) [] := ⟨none, 0, rfl, fun h => absurd rfl h, Nat.le_refl _, Nat.zero_le _⟩
theorem twoF_nil (W W' : World) : TwoF W W' (.slice none 0 0) (.slice none 0 0) := twoF_of (fva_nil W) (fva_nil W') (Nat.zero_le _) (fun _ h => by cases h)
theorem atIf_few {at_ : Bool} {v : Int} {fs : List FactP} (h1 : fs.length ≤ 400) (h2 : ∀ f ∈ fs, f.l.length ≤ 400) : (atIf at_ v fs).length ≤ 400 ∧ ∀ f ∈ atIf at_ v fs, f.l.length ≤ 400 := by
  unfold atIf
  split
  · unfold atL
    exact ⟨Nat.le_trans (List.length_filter_le _ _) h1, fun f hf => h2 f (List.mem_filter.1 hf).1⟩
  · exact ⟨h1, h2⟩
theorem of_meet {l : List Dat} {a s v : Int} {at_ hist : Bool} {W W' : World} {u y : Value} {ec ec' : Int} (h : OfP l a s v at_ hist W u ec) (k : OfD l a s v at_ hist W' y ec') : ec = ec' ∧ TwoF W W' u y := by
  rcases h with ⟨h1, h2, h3⟩ | ⟨h1, h2, h3⟩
  · rcases k with ⟨k1, k2, k3⟩ | ⟨k1, k2, k3⟩
    · exact ⟨h2.trans k2.symm, by rw [h3, k3]; exact twoF_nil _ _⟩
    · rcases h1 with h1 | h1
      · rw [k1] at h1; cases h1
      · rw [k2] at h1; cases h1
  · rcases k with ⟨k1, k2, k3⟩ | ⟨k1, k2, k3⟩
    · rcases k1 with k1 | k1
      · rw [h1] at k1; cases k1
      · rw [h2] at k1; cases k1
    · rcases h3 with ⟨h3, h4, h5⟩ | ⟨h3, h4, fs, h5, h6⟩
      · rcases k3 with ⟨k3, k4, k5⟩ | ⟨k3, k4, _⟩
        · exact ⟨h3.trans k3.symm, by rw [h4, k4]; exact twoF_nil _ _⟩
        · exact absurd k4 h5
      · rcases k3 with ⟨k3, k4, k5⟩ | ⟨k3, k4, k5⟩
        · exact absurd h4 k5
        · obtain ⟨m1, m2, m3⟩ := k5 fs h5
          obtain ⟨m4, m5⟩ := atIf_few (at_ := at_) (v := v) m2 m3
          exact ⟨h3.trans k3.symm, twoF_of h6 m1 m4 m5⟩
theorem fold_meet {l : List Dat} {W W' w0 : World} {u : Value} {ec : Int} {e : Ending} (hl : l.length ≤ 400) (h : FoldU l W u ec) (k : FoldRE w0 l e W') : Below w0.heap.size w0 W' ∧ ∃ y, e = .returned (.tuple #[y, .int .i64 ec]) ∧ TwoF W W' u y := by
  obtain ⟨⟨y, ec', rfl, k⟩, hb⟩ := k
  refine ⟨hb, y, ?_⟩
  rcases h with ⟨h1, h2, h3⟩ | ⟨h1, h2, h3, fs, h4, h5, _⟩
  · rcases k with ⟨k1, k2, k3⟩ | ⟨k1, k2, _⟩
    · exact ⟨by rw [h1, k1], by rw [h2, k2]; exact twoF_nil _ _⟩
    · rw [togL_is] at k2
      exact absurd k2 (bad_of h3)
  · rcases k with ⟨k1, k2, k3⟩ | ⟨k1, k2, ps, k3, k4⟩
    · exact absurd (togL_is.2 ⟨h2, h3⟩) k3
    · have e := fold_same h2 h3 h4
      rw [e] at k4
      have hv := k3.fv
      rw [k4] at hv
      refine ⟨by rw [h1, k1], twoF_of h5.a hv.a ?_ (fun f hf => ?_)⟩
      · rw [← e]; exact Nat.le_trans (foldRs_few l l) hl
      · rw [← e] at hf
        obtain ⟨_, d, hd, rfl, _⟩ := foldRs_mem hf
        exact Nat.le_trans (spR_few d (fun y hy => may_t (notMay_all h2 hy))) hl
/-- two rows of the same datoms, or both none, with one error -/
theorem dts_meet {a s : Int} {l : List Dat} {w w' W W' : World} {e e' : Ending} (h : DtsEnd w a s l e W) (k : DtsEnd w' a s l e' W') : Below w.heap.size w W ∧ Below w'.heap.size w' W' ∧ ∃ (L : List Dat) (A A' : Option Addr) (c c' : Nat) (ec : Int), e = .returned (.tuple #[.slice A L.length c, .int .i64 ec]) ∧ e' = .returned (.tuple #[.slice A' L.length c', .int .i64 ec]) ∧ SlD W W.heap.size A L ∧ SlD W' W'.heap.size A' L ∧ L.length ≤ l.length := by
  obtain ⟨⟨A, c, n, ec, rfl, h⟩, hb⟩ := h
  obtain ⟨⟨A', c', n', ec', rfl, k⟩, hb'⟩ := k
  refine ⟨hb, hb', ?_⟩
  rcases h with ⟨h1, h2, h3, h4, h5⟩ | ⟨h1, h2, h3, h4, h5⟩
  · rcases k with ⟨k1, k2, k3, k4, k5⟩ | ⟨k1, _⟩
    · refine ⟨_, A, A', c, c', 0, by rw [h3, h4], by rw [k3, k4], h5, k5, Nat.le_trans (sorts_few _) (List.length_filter_le _ _)⟩
    · rw [h1, h2] at k1; cases k1
  · rcases k with ⟨k1, k2, _⟩ | ⟨k1, k2, k3, k4, k5⟩
    · rw [k1, k2] at h1; cases h1
    · exact ⟨[], A, A', c, c', 2, by rw [h2, h4]; rfl, by rw [k2, k4]; rfl, (fun h => absurd rfl h), (fun h => absurd rfl h), Nat.zero_le _⟩
set_option maxRecDepth 100000 in
set_option maxHeartbeats 4000000 in
theorem fFold_any (a s v : Int) (at_ hist : Bool) (A : Option Addr) (c : Nat) (l : List Dat) (w : World) (hs : SlD w w.heap.size A l) (hA : A = none → l.length = 0 ∧ c = 0) (hl : l.length ≤ 1048576) (hz : ∀ d ∈ l, d.s.size ≤ 1048576) (hk : ∀ d ∈ l, SpOk (spD d)) :
    Calls Tryz.prog 3 #[.slice A l.length c, .agg #[.int .i64 a, .int .i64 s, .int .i64 v, .bool at_, .bool hist]] w fun e w' => e = .returned (.bool true) ∧ Below w.heap.size w w' := by
  obtain ⟨i0, hi, hz0, hz1, hz2⟩ := info_parts infoD
  have hmx : 2000000000000 ≤ maxLen := by decide
  obtain ⟨w1, hw1⟩ : ∃ X, w.alloc (.cells #[.int .i64 a, .int .i64 s, .int .i64 v, .bool at_, .bool hist] 24) = X := ⟨_, rfl⟩
  have HV1 : Hid (VwAt w1 w.heap.size a s v at_ hist) := by rw [← hw1]; exact heap_alloc_new w _
  have HB1 : Hid (Below w.heap.size w w1) := by rw [← hw1]; exact (Below.refl _ _).alloc (Nat.le_refl _) _
  have HS := Lib.hid (fun X (hX : Below w.heap.size w X) => (hs.next hX (Nat.le_refl _)).more hX.size)
  have HZ := Lib.hid (fun d hd => Nat.le_trans (hz d hd) (by decide : 1048576 ≤ maxLen))
  have HK := Lib.hid hk
  have HA := Lib.hid hA
  have HGL := Lib.hid (greatD_upto A c l w1 w1.heap.size (HS.out w1 HB1.out) hl hz)
  clear hs hz hk hA
  go_enter Tryz.func3, Tryz.ntmps3
  go_wp2_with fail
  try rw [hw1]
  clear hw1
  refine HGL.out.mono ?_
  rintro e w' ⟨hgr, rfl⟩
  rcases hgr.symm with rfl | ⟨rfl, hlf⟩
  · go_wp2
    go_ret
    exact ⟨rfl, HB1.out⟩
  obtain ⟨w2, hw2⟩ : ∃ X, w1.alloc (.cells #[] 44) = X := ⟨_, rfl⟩
  have HB2 : Hid (Below w1.heap.size w1 w2) := by rw [← hw2]; exact (Below.refl _ _).alloc (Nat.le_refl _) _
  have HO0 : Hid (OwnD w2 w1.heap.size (.slice (some ⟨w1.heap.size, 0, none⟩) 0 0) []) := by
    rw [← hw2]
    exact ⟨rfl, .inr ⟨w1.heap.size, 0, #[], rfl, Nat.le_refl _, heap_alloc_new w1 _, Nat.le_refl _, Nat.zero_le _, rfl, rfl⟩⟩
  have HBW2 := Lib.hid (HB1.out.trans (HB2.out.mono HB1.out.size))
  have HS2 := Lib.hid (HS.out w2 HBW2.out)
  have HNL := Lib.hid (HS2.out.news)
  have HLL : Hid (l.length ≤ 200) := hlf
  clear HGL
  go_wp2_with (at_builtin; (try rw [hw2]); refine wpList_append_any rfl _ _ 22 rfl w1.heap.size 44 i0 (.agg #[.int .i64 0, .int .i64 0, .int .i64 0, .int .i64 0, .string ⟨#[]⟩, .int .i64 0, .bool false, .int .i64 0, .int .i64 0]) 9 80 Tryz.underlying22 hi hz0 hz1 hz2 rfl (by decide) _ _ _ rfl HO0.out A l.length c (l.flatMap cellsD) rfl (flatD_len l) HA.out HNL.out (cellsD_all l) (by rw [List.length_nil]; omega) (by rw [List.length_nil]; omega) HB2.out.size ?_; intro v8 w3 hown' hgrow; have HO8 : Hid (OwnD w3 w1.heap.size v8 l) := ownD_of (a := []) hown'; have HB3 := Lib.hid (HB2.out.trans (below_ownD HO0.out hgrow HB2.out.size)); clear hown' hgrow)
  obtain ⟨A8, c8, rfl, hs8, _⟩ := HO8.out.form
  have HW3 := Lib.hid (HB1.out.trans (HB3.out.mono HB1.out.size))
  -- everything below holds in later worlds, too
  have HSO := Lib.hid (fun X (hX : Below w3.heap.size w3 X) => (hs8.next hX (Nat.le_refl _)).more hX.size)
  have HSA := Lib.hid (fun X (hX : Below w3.heap.size w3 X) => HS.out X (HW3.out.trans (hX.mono HW3.out.size)))
  have HVV := Lib.hid (fun X (hX : Below w3.heap.size w3 X) => HV1.out.next (HB3.out.trans (hX.mono HB3.out.size)) HV1.out.lt)
  have B3 : Hid (Below w3.heap.size w3 w3) := Below.refl _ _
  clear hs8
  have HC1 := Lib.hid (fold_u A8 c8 l w3 (HSO.out w3 B3.out) (by have := HLL.out; omega) HZ.out HK.out (fun _ => ⟨by have := HLL.out; omega, by have := HLL.out; have := sorts_few l; omega⟩))
  go_wp2_with fail
  refine HC1.out.mono ?_
  rintro e w4 ⟨u1, ec1, rfl, hu1, hb4⟩
  have HU1 := Lib.hid hu1
  have B4 := Lib.hid hb4
  clear hu1 hb4 HC1
  have HC2 := Lib.hid (foldRd_any A c w4.heap.size l w4 (HSA.out w4 B4.out) (Nat.le_refl _) (by have := HLL.out; omega) HZ.out)
  go_wp2_with fail
  refine HC2.out.mono ?_
  intro e w5 hfe
  obtain ⟨hb5, y1, rfl, fs1, X1, Y1, x1, z1, rfl, rfl, hx1, hy1, hl1, hm1⟩ := fold_meet (by have := HLL.out; omega) HU1.out hfe
  have B5 := Lib.hid (B4.out.trans (hb5.mono B4.out.size))
  have HX5 := Lib.hid (hx1.next hb5)
  have HY5 := Lib.hid hy1
  have HL1 := Lib.hid hl1
  have HM1 := Lib.hid hm1
  clear hfe hb5 hx1 hy1 hl1 hm1 HC2 HU1
  have HC3 := Lib.hid (datomsF_any a s v at_ hist A8 c8 l w5 (HSO.out w5 B5.out) (by have := HLL.out; omega))
  have c0 := (HVV.out w5 B5.out).k0
  have c1 := (HVV.out w5 B5.out).k1
  have c2 := (HVV.out w5 B5.out).k2
  have c3 := (HVV.out w5 B5.out).k3
  have c4 := (HVV.out w5 B5.out).k4
  go_wp2_with fail
  refine HC3.out.mono ?_
  intro e w6 hd6
  have HD6 := Lib.hid hd6
  obtain ⟨⟨A6, c6, n6, ec6, rfl, _⟩, hb6⟩ := hd6
  have B6 := Lib.hid (B5.out.trans (hb6.mono B5.out.size))
  have HX6 := Lib.hid (HX5.out.next hb6)
  have HY6 := Lib.hid (HY5.out.next hb6)
  clear hb6 HC3 HX5 HY5 c0 c1 c2 c3 c4
  have HC4 := Lib.hid (dtsR_any a s v at_ hist A c l w6 (HSA.out w6 B6.out) (by have := HLL.out; omega) HZ.out)
  have c0 := (HVV.out w6 B6.out).k0
  have c1 := (HVV.out w6 B6.out).k1
  have c2 := (HVV.out w6 B6.out).k2
  have c3 := (HVV.out w6 B6.out).k3
  have c4 := (HVV.out w6 B6.out).k4
  go_wp2_with fail
  refine HC4.out.mono ?_
  intro e w7 hd7
  obtain ⟨_, hb7, L, P1, P2, d1, d2, ec2, he6, rfl, hp1, hp2, hpl⟩ := dts_meet HD6.out hd7
  injection he6 with he6
  simp only [Value.tuple.injEq, Array.mk.injEq, List.cons.injEq, Value.slice.injEq, Value.int.injEq, and_true, true_and] at he6
  obtain ⟨⟨rfl, rfl, rfl⟩, rfl⟩ := he6
  have B7 := Lib.hid (B6.out.trans (hb7.mono B6.out.size))
  have HX7 := Lib.hid (HX6.out.next hb7)
  have HY7 := Lib.hid (HY6.out.next hb7)
  have HP7 := Lib.hid ((hp1.next hb7 (Nat.le_refl _)).more hb7.size)
  have HQ7 := Lib.hid hp2
  have HPL := Lib.hid hpl
  clear hd7 hb7 hp1 hp2 hpl HC4 HD6 HX6 HY6 c0 c1 c2 c3 c4
  have HC5 := Lib.hid (ofP_any a s v at_ hist A8 c8 l w7 (HSO.out w7 B7.out) (by have := HLL.out; omega) HZ.out HK.out)
  have c0 := (HVV.out w7 B7.out).k0
  have c1 := (HVV.out w7 B7.out).k1
  have c2 := (HVV.out w7 B7.out).k2
  have c3 := (HVV.out w7 B7.out).k3
  have c4 := (HVV.out w7 B7.out).k4
  go_wp2_with fail
  refine HC5.out.mono ?_
  rintro e w8 ⟨⟨u3, ec3, rfl, ho8⟩, hb8⟩
  have HO9 := Lib.hid ho8
  have B8 := Lib.hid (B7.out.trans (hb8.mono B7.out.size))
  have HX8 := Lib.hid (HX7.out.next hb8)
  have HY8 := Lib.hid (HY7.out.next hb8)
  have HP8 := Lib.hid ((HP7.out.next hb8 (Nat.le_refl _)).more hb8.size)
  have HQ8 := Lib.hid ((HQ7.out.next hb8 (Nat.le_refl _)).more hb8.size)
  clear ho8 hb8 HC5 HX7 HY7 HP7 HQ7 c0 c1 c2 c3 c4
  have HC6 := Lib.hid (refOf_any a s v at_ hist A c l w8 (HSA.out w8 B8.out) (by have := HLL.out; omega) HZ.out)
  have c0 := (HVV.out w8 B8.out).k0
  have c1 := (HVV.out w8 B8.out).k1
  have c2 := (HVV.out w8 B8.out).k2
  have c3 := (HVV.out w8 B8.out).k3
  have c4 := (HVV.out w8 B8.out).k4
  go_wp2_with fail
  refine HC6.out.mono ?_
  rintro e w9 ⟨⟨u4, ec4, rfl, ho9⟩, hb9⟩
  obtain ⟨he, fs3, X3, Y3, x3, z3, rfl, rfl, hx3, hy3, hl3, hm3⟩ := of_meet HO9.out ho9
  subst he
  have B9 := Lib.hid (B8.out.trans (hb9.mono B8.out.size))
  have HX9 := Lib.hid (HX8.out.next hb9)
  have HY9 := Lib.hid (HY8.out.next hb9)
  have HP9 := Lib.hid ((HP8.out.next hb9 (Nat.le_refl _)).more hb9.size)
  have HQ9 := Lib.hid ((HQ8.out.next hb9 (Nat.le_refl _)).more hb9.size)
  have HU9 := Lib.hid (hx3.next hb9)
  have HT9 := Lib.hid hy3
  have HL3 := Lib.hid hl3
  have HM3 := Lib.hid hm3
  clear ho9 hb9 hx3 hy3 hl3 hm3 HC6 HO9 HX8 HY8 HP8 HQ8 c0 c1 c2 c3 c4
  have HC7 := Lib.hid (sameFa_any X1 Y1 x1 z1 fs1 w9 HX9.out HY9.out (by have := HL1.out; omega) (fun f hf => by have := HM1.out f hf; omega))
  have e1 : (ec1 == ec1) = true := beq_self_eq_true ec1
  have e2 : (ec6 == ec6) = true := beq_self_eq_true ec6
  have e3 : (ec3 == ec3) = true := beq_self_eq_true ec3
  go_wp2_with fail
  refine HC7.out.mono ?_
  rintro e w10 ⟨rfl, hb10⟩
  have B10 := Lib.hid (B9.out.trans (hb10.mono B9.out.size))
  have HP10 := Lib.hid ((HP9.out.next hb10 (Nat.le_refl _)).more hb10.size)
  have HQ10 := Lib.hid ((HQ9.out.next hb10 (Nat.le_refl _)).more hb10.size)
  have HU10 := Lib.hid (HU9.out.next hb10)
  have HT10 := Lib.hid (HT9.out.next hb10)
  clear hb10 HC7
  have HC8 := Lib.hid (sameD_any A6 P2 c6 d2 L w10 w10.heap.size HP10.out HQ10.out (by have := HPL.out; have := HLL.out; omega))
  go_wp2_with fail
  refine HC8.out.mono ?_
  rintro e w11 ⟨rfl, n11, hn11⟩
  have hb11 : Below w10.heap.size w10 w11 := by rw [hn11]; exact qd_dn (Below.refl _ _) n11
  have B11 := Lib.hid (B10.out.trans (hb11.mono B10.out.size))
  have HU11 := Lib.hid (HU10.out.next hb11)
  have HT11 := Lib.hid (HT10.out.next hb11)
  clear hb11 hn11 HC8
  have HC9 := Lib.hid (sameFa_any X3 Y3 x3 z3 fs3 w11 HU11.out HT11.out (by have := HL3.out; omega) (fun f hf => by have := HM3.out f hf; omega))
  go_wp2_with fail
  refine HC9.out.mono ?_
  rintro e w12 ⟨rfl, hb12⟩
  have B12 := Lib.hid (B11.out.trans (hb12.mono B11.out.size))
  clear hb12 HC9
  have HC10 := Lib.hid (sameD_any A8 A c8 c l w12 w12.heap.size (HSO.out w12 B12.out) (HSA.out w12 B12.out) (by have := HLL.out; omega))
  go_wp2_with fail
  refine HC10.out.mono ?_
  rintro e w13 ⟨rfl, n13, hn13⟩
  have hb13 : Below w12.heap.size w12 w13 := by rw [hn13]; exact qd_dn (Below.refl _ _) n13
  have B13 := Lib.hid (HW3.out.trans ((B12.out.trans (hb13.mono B12.out.size)).mono HW3.out.size))
  clear hb13 hn13 HC10
  go_wp2
  go_ret
  exact ⟨rfl, B13.out⟩
end Go.Proofs.YthdjlaombbeagaaGreat
