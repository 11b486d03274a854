/-
  CONTRACT: the iterator of runs, at triples.
-/
import Derived.Shelf.RegionOpen
import Derived.Test.YthhkabbgghepbaaGreatJFRun
namespace Go.Proofs.YthhkabbgghepbaaGreat
open Go.RowKit Go.Shelf
attribute [local go_sem] Oper.semAt_some

def set5 (W : World) (bk : Nat) (x : Dat) : World := ((((W.setCell ⟨bk, 0, none⟩ (.int .i64 x.e)).setCell ⟨bk, 1, none⟩ (.int .i64 x.a)).setCell ⟨bk, 2, none⟩ (.int .i64 x.k)).setCell ⟨bk, 3, none⟩ (.int .i64 x.m)).setCell ⟨bk, 4, none⟩ (.string x.s)
theorem set5_below {W : World} {B bk : Nat} (h : B ≤ bk) (x : Dat) : Below B W (set5 W bk x) :=
  ((((((Below.refl B W).setCell (p := ⟨bk, 0, none⟩) h _).setCell (p := ⟨bk, 1, none⟩) h _).setCell (p := ⟨bk, 2, none⟩) h _).setCell (p := ⟨bk, 3, none⟩) h _).setCell (p := ⟨bk, 4, none⟩) h _)
/-- a new key box, ahead of the store -/
def ZBox (W : World) (bk : Nat) : Prop := W.heap[bk]? = some (.cells #[.int .i64 0, .int .i64 0, .int .i64 0, .int .i64 0, .string ⟨#[]⟩] 71 (0, 0))
theorem ZBox.cell {W : World} {bk : Nat} (h : ZBox W bk) (j : Nat) : W.cell? ⟨bk, j, none⟩ = (#[Value.int .i64 0, .int .i64 0, .int .i64 0, .int .i64 0, .string ⟨#[]⟩])[j]? := by unfold ZBox at h; simp [World.cell?, h]
theorem ZBox.frozen {W : World} {bk : Nat} (h : ZBox W bk) (j : Nat) : W.frozen? ⟨bk, j, none⟩ = false := by unfold ZBox at h; simp [World.frozen?, h]
theorem key_set {W : World} {bk : Nat} (x : Dat) (h : ZBox W bk) : KeyAt (set5 W bk x) bk x := by
  unfold KeyAt set5
  unfold ZBox at h
  exact (heap_setCell_same _ _ _ _ _ _ (heap_setCell_same _ _ _ _ _ _ (heap_setCell_same _ _ _ _ _ _ (heap_setCell_same _ _ _ _ _ _ (heap_setCell_same _ _ _ _ _ _ h))))).trans (by simp)
theorem ZBox.lt {W : World} {bk : Nat} (h : ZBox W bk) : bk < W.heap.size := (Array.getElem?_eq_some_iff.1 h).1
theorem ZBox.next {W W' : World} {bk : Nat} (h : ZBox W bk) (hb : Below W.heap.size W W') : ZBox W' bk := (hb.block bk h.lt).trans h
theorem ofDatom_agg (d : Dat) (w : World) : Calls Tryz.prog 32 #[.agg #[.int .i64 d.e, .int .i64 d.a, .int .i64 d.k, .int .i64 d.m, .string d.s, .int .i64 d.t, .bool d.add, .int .i64 d.fr, .int .i64 d.til]] w fun e w' => e = .returned (.agg #[.int .i64 d.e, .int .i64 d.a, .int .i64 d.k, .int .i64 d.m, .string d.s]) ∧ Below w.heap.size w w' := ofDatom_any d w
theorem two_ways {e : Ending} {a b c : Prop} (h : (e = .returned (.bool true) ∧ a ∧ b) ∨ (e = .returned (.bool false) ∧ c)) : ∃ bb : Bool, e = .returned (.bool bb) ∧ ((bb = true ∧ a ∧ b) ∨ (bb = false ∧ c)) := by
  rcases h with ⟨rfl, h1, h2⟩ | ⟨rfl, h1⟩
  · exact ⟨true, rfl, .inl ⟨rfl, h1, h2⟩⟩
  · exact ⟨false, rfl, .inr ⟨rfl, h1⟩⟩
/-- what stands while a stretch is measured, its key in a box -/
def RunK (w0 : World) (B : Nat) (A : Option Addr) (l : List Dat) (Bk : Nat) (t : TypeId) (fv : Value) (bk : Nat) (x : Dat) (W : World) : Prop := RunS w0 B A l Bk t fv W ∧ KeyAt W bk x
theorem RunK.next {w0 W W' : World} {B : Nat} {A : Option Addr} {l : List Dat} {Bk : Nat} {t : TypeId} {fv : Value} {bk : Nat} {x : Dat} (h : RunK w0 B A l Bk t fv bk x W) (hb : Below W.heap.size W W') : RunK w0 B A l Bk t fv bk x W' := ⟨h.1.next hb, h.2.next hb⟩
theorem RunK.drew {w0 W : World} {B : Nat} {A : Option Addr} {l : List Dat} {Bk : Nat} {t : TypeId} {fv : Value} {bk : Nat} {x : Dat} (h : RunK w0 B A l Bk t fv bk x W) : RunK w0 B A l Bk t fv bk x W.drew := h.next (below_ind (Below.refl _ W) 1)
theorem callV2 {P : Program} {ops : Array Oper} {Q : Exit → Act → World → Prop} {md : Region.Mode} {S : World → Prop} {fuel : Nat} {listed : Array Bool} {a : Act} {w : World} (i j : Nat) {oi oj : Oper} (hi : ops[i]? = some oi) (hj : ops[j]? = some oj) (hr : Region.ready md ops listed = [i, j]) (hwi : Region.wanted oi (yielded ops a.tmps) = true) (hwj : Region.wanted oj (yielded ops a.tmps) = true)
    (h1 : ∀ K' : Act → World → Prop, Shut (∀ a w, S w → (S w → wpAnyH P md ops Q S fuel (listed.setIfInBounds i true) a w) → K' a w) → Oper.wp P oi a w K' Q)
    (h2 : ∀ K' : Act → World → Prop, Shut (∀ a w, S w → (S w → wpAnyH P md ops Q S fuel (listed.setIfInBounds j true) a w) → K' a w) → Oper.wp P oj a w K' Q) : wpAnyH P md ops Q S (fuel + 1) listed a w :=
  wpAnyH_ready hr (by simp) (AllReadyH.cons hi (fun K' hK => by rw [if_pos hwi]; exact h1 K' hK) (AllReadyH.cons hj (fun K' hK => by rw [if_pos hwj]; exact h2 K' hK) AllReadyH.nil))

/-- One round of the loop that is handed stretches. -/
def HandsRT (l : List Dat) (A : Option Addr) (c : Nat) (B Bk lp N : Nat) (J Jx : List (Fin (runsL triD l).length) → World → Prop) : Prop :=
  ∀ m pre (x : Fin (runsL triD l).length) W, J pre W → pre.length < N → YieldAt Fence.wide m Tryz.prog lp (encT l A c x) W fun e W' =>
    (e = .returned (.bool true) ∧ J (pre ++ [x]) W' ∧ KpR B A l Bk 73 (.func (.func 32) #[] #[]) W W') ∨ (e = .returned (.bool false) ∧ Jx (pre ++ [x]) W')
set_option maxRecDepth 100000 in
set_option maxHeartbeats 4000000 in
theorem runT_in (lp B Bl Bk C : Nat) (A : Option Addr) (c : Nat) (l : List Dat) (J Jx : List (Fin (runsL triD l).length) → World → Prop) (hA : AbidesFrom C J) (hY : HandsRT l A c B Bk lp (runsL triD l).length J Jx) (n : Nat)
    (W : World) (hBW : B ≤ W.heap.size) (hlc : l.length ≤ c) (_hcm : c ≤ maxLen) (hl : l.length ≤ 100000) (hs : SlD W B A l) (hb : W.cell? ⟨Bl, 0, none⟩ = some (.slice A l.length c)) (hk : Boxed W Bk 73 (.func (.func 32) #[] #[])) (hJ : J [] W) :
    CallsIn Fence.wide n Tryz.prog 57 #[.func (.yield lp) #[] #[], .pointer (some ⟨Bl, 0, none⟩), .pointer (some ⟨Bk, 0, none⟩)] W fun e W' =>
      (∃ v, e = .returned v) ∧ (J (allN _) W' ∨ ∃ q, q <+: allN _ ∧ Jx q W') := by
  refine callsIn_of_wp Tryz.func57 rfl trivial ?_ rfl
  simp only [Tryz.ntmps57, List.size_toArray, List.length_cons, List.length_nil, Nat.reduceAdd, Nat.reduceSub, Array.replicate_succ, Array.replicate_zero, List.push_toArray, List.append_toArray, List.nil_append, List.cons_append]
  have HS := Lib.hid hs
  have HK := Lib.hid hk
  have HKL := Lib.hid hk.lt
  have HR0 : restR triD l 0 = l := by unfold restR; simp
  have HST0 : stR A c [] = (A, c) := rfl
  clear hs hk
  gi_wp2
  clear hb
  gi_loopw [4, 5, 6] (fun x _ _ wr => ∃ i : Nat, x = .slice (stR A c ((runsL triD l).take i)).1 (restR triD l i).length (stR A c ((runsL triD l).take i)).2 ∧ i ≤ (runsL triD l).length ∧ J ((allN _).take i) wr ∧ Hid (KpR B A l Bk 73 (.func (.func 32) #[] #[]) W wr) ) (fun x _ _ _ => lenV x)
  case atStart => exact ⟨0, by simp [HR0, stR], Nat.zero_le _, by rw [List.take_zero]; exact hJ, ⟨fun x => x, fun x => x, Nat.le_refl _⟩⟩
  case round =>
    obtain ⟨w1, rfl⟩ : ∃ w1, w1 = wr := ⟨wr, rfl⟩
    obtain ⟨i, rfl, hi, hJk, HKP⟩ := hrel
    have HSZ := Lib.hid HKP.out.2.2
    clear hJ HR0 HST0
    by_cases hil : i < (runsL triD l).length
    · obtain ⟨hne, hgi, hnx⟩ := restR_next triD hil
      have hlen := runs_each triD hil
      have hpos := List.length_pos_iff.2 hne
      have hrl := rest_len triD l i
      have hfl := flat_le triD l i
      have hrs : SlD w1 B (stR A c ((runsL triD l).take i)).1 (restR triD l i) := stR_sl ((runsL triD l).take i) (HKP.out.1 HS.out) hlc hfl
      have hcap := stR_cap ((runsL triD l).take i) A c
      have hsn := stR_snoc (runsL triD l)[i] ((runsL triD l).take i) A c
      rw [← List.take_succ_eq_append_getElem hil] at hsn
      obtain ⟨A1, hA1⟩ : ∃ A1, (stR A c ((runsL triD l).take i)).1 = A1 := ⟨_, rfl⟩
      obtain ⟨c1, hc1⟩ : ∃ c1, (stR A c ((runsL triD l).take i)).2 = c1 := ⟨_, rfl⟩
      obtain ⟨R, hR⟩ : ∃ R, restR triD l i = R := ⟨_, rfl⟩
      have hpre : ((allN (runsL triD l).length).take i).length < (runsL triD l).length := by rw [List.length_take, allN_len]; omega
      rw [hR, hA1] at hrs
      rw [hc1] at hcap
      rw [hR] at hne hgi hlen hrl hnx
      have hn1 := runN_pos triD hne
      have hnR := runN_le triD R
      rw [hA1, hc1, hR]
      have hR0 : 0 < R.length := List.length_pos_iff.2 hne
      obtain ⟨x, hx⟩ : ∃ x, R[0] = x := ⟨_, rfl⟩
      have HENC : Hid (encT l A c ⟨i, hil⟩ = #[triV x, .slice A1 (runN triD R) c1]) := by
        show _ = _
        unfold encT
        simp only [hA1, hc1, hlen]
        rw [show headD (runsL triD l)[i] = x by
          rw [hgi, headD_take hR0 hn1, hx]]
      have HNX : Hid (stR A c ((runsL triD l).take (i + 1)) = (cutD A1 c1 (runN triD R), c1 - runN triD R) ∧ restR triD l (i + 1) = R.drop (runN triD R)) := ⟨by rw [hsn, hA1, hc1, hlen], hnx⟩
      have HJK := Lib.hid hJk
      have HTK := Lib.hid (allN_take hil)
      have HPR := Lib.hid (List.take_prefix (i + 1) (allN (runsL triD l).length))
      have hlc1 : R.length ≤ c1 := by omega
      have hxz : R.length ≤ 100000 := by omega
      have HKW := Lib.hid (HKP.out.2.1 HK.out)
      obtain ⟨b, o, rfl, hbB, hat⟩ := hrs hne
      have HSR : Hid (SlD w1 B (some ⟨b, o, none⟩) R) := fun _ => ⟨b, o, rfl, hbB, hat⟩
      have hzz := HSZ.out
      have hkl := HKL.out
      have HRS : Hid (RunS w1 B (some ⟨b, o, none⟩) R Bk 73 (.func (.func 32) #[] #[]) w1) := ⟨HSR.out, HKW.out, by omega, by omega, Below.refl _ _⟩
      have h0l : (0 : Int) < (R.length : Int) := by omega
      have HX := Lib.hid hx
      clear hne hgi hlen hpos hrl hfl hrs hcap hsn hnx hA1 hc1 hR hJk hx hat
      gi_upto_region 2 with fail
      refine wpIn_mono (Q := fun e a' W4 => match e with | .normal => ∃ bk, a' = { tmps := #[.func (.yield lp) #[] #[], .pointer (some ⟨Bl, 0, none⟩), .pointer (some ⟨Bk, 0, none⟩), undef, .slice (some ⟨b, o, none⟩) R.length c1, .pointer (some ⟨bk, 0, none⟩), .int .i64 1, .slice A l.length c, .slice (some ⟨b, o, none⟩) R.length c1, .int .i64 (R.length : Int), .bool true, (.func (.func 32) #[] #[]), .slice (some ⟨b, o, none⟩) R.length c1, .pointer (some ⟨b, o, none⟩), .agg #[.int .i64 x.e, .int .i64 x.a, .int .i64 x.k, .int .i64 x.m, .string x.s, .int .i64 x.t, .bool x.add, .int .i64 x.fr, .int .i64 x.til], (.agg #[.int .i64 x.e, .int .i64 x.a, .int .i64 x.k, .int .i64 x.m, .string x.s]), u16, u17, u18, u19, u20, u21, u22, u23, u24, u25, u26, u27, u28, u29, u30, u31, u32, u33, u34, u35, u36, u37, u38, u39, u40, u41], defers := [] } ∧ RunK w1 B (some ⟨b, o, none⟩) R Bk 73 (.func (.func 32) #[] #[]) bk x W4 | _ => False) ?_ ?_
      · refine wpIn_wide.2 ?_
        refine wp_region_held_drew (S := RunS w1 B (some ⟨b, o, none⟩) R Bk 73 (.func (.func 32) #[] #[])) (by kernel_rfl) HRS.out.drew (fun hHeld => ?_)
        refine takeV 0 (some 11) (((.func (.func 32) #[] #[]))) rfl rfl (by kernel_rfl) (by kernel_rfl) (by kernel_rfl) (fun _ _ _ h => h) (by rfl) (by (intro _w hSw; have q0 := hSw.2.1.cell; clear hSw; go_simp)) (by assumption) ?_
        simp only [Act.put, List.setIfInBounds_toArray, List.set_cons_zero, List.set_cons_succ]
        refine takeV 1 (some 12) ((.slice (some ⟨b, o, none⟩) R.length c1)) rfl rfl (by kernel_rfl) (by kernel_rfl) (by kernel_rfl) (fun _ _ _ h => h) (by rfl) (by (intro _w _hSw; (try dsimp only at _hSw); go_simp)) (by assumption) ?_
        simp only [Act.put, List.setIfInBounds_toArray, List.set_cons_zero, List.set_cons_succ]
        refine takeV 2 (some 13) ((.pointer (some ⟨b, o, none⟩))) rfl rfl (by kernel_rfl) (by kernel_rfl) (by kernel_rfl) (fun _ _ _ h => h) (by rfl) (by (intro _w _hSw; (try dsimp only at _hSw); go_simp)) (by assumption) ?_
        simp only [Act.put, List.setIfInBounds_toArray, List.set_cons_zero, List.set_cons_succ]
        refine takeV 3 (some 14) ((.agg #[.int .i64 x.e, .int .i64 x.a, .int .i64 x.k, .int .i64 x.m, .string x.s, .int .i64 x.t, .bool x.add, .int .i64 x.fr, .int .i64 x.til])) rfl rfl (by kernel_rfl) (by kernel_rfl) (by kernel_rfl) (fun _ _ _ h => h) (by rfl) (by (intro _w hSw; obtain ⟨b', o', e', _, hp⟩ := hSw.1.at_ (j := 0) hR0; cases e'; rw [HX.out] at hp; simp only [Nat.zero_mul, Nat.add_zero] at hp; have q0 := hp.c0; have q1 := hp.c1; have q2 := hp.c2; have q3 := hp.c3; have q4 := hp.c4; have q5 := hp.c5; have q6 := hp.c6; have q7 := hp.c7; have q8 := hp.c8; clear hp; clear hSw; go_simp)) (by assumption) ?_
        simp only [Act.put, List.setIfInBounds_toArray, List.set_cons_zero, List.set_cons_succ]
        refine callV2 4 5 rfl rfl (by kernel_rfl) (by rfl) (by rfl) (fun K hK => ?_) (fun K hK => ?_)
        · go_simp
          go_at_call 32
          refine (ofDatom_agg x _).mono ?_
          rintro e w3 ⟨rfl, hb3⟩
          refine hK.out _ _ (hHeld.next hb3) (fun hHeld3 => ?_)
          clear hK K hHeld hb3
          try simp only [Act.put, List.setIfInBounds_toArray, List.set_cons_zero, List.set_cons_succ]
          refine callV 5 rfl (by kernel_rfl) (by rfl) (fun K hK => ?_)
          go_simp
          obtain ⟨W5, hW5⟩ : ∃ W5, (w3.alloc (.cells #[.int .i64 0, .int .i64 0, .int .i64 0, .int .i64 0, .string ⟨#[]⟩] 71)) = W5 := ⟨_, rfl⟩
          have HZ : Hid (ZBox W5 w3.heap.size) := by show ZBox _ _; rw [← hW5]; exact heap_alloc_new w3 _
          have hB5 : Below w3.heap.size w3 W5 := by rw [← hW5]; exact (Below.refl _ w3).alloc (Nat.le_refl _) _
          rw [hW5]
          refine hK.out _ _ (hHeld3.next hB5) (fun hHeld5 => ?_)
          have HBK := Lib.hid hHeld3.2.2.2.2.size
          clear hK K hHeld3 hW5 hB5
          try simp only [Act.put, List.setIfInBounds_toArray, List.set_cons_zero, List.set_cons_succ]
          obtain ⟨bk, hbk⟩ : ∃ bk, w3.heap.size = bk := ⟨_, rfl⟩
          rw [hbk] at HZ HBK ⊢
          clear hbk
          have z0 := HZ.out.cell 0
          have z1 := HZ.out.cell 1
          have z2 := HZ.out.cell 2
          have z3 := HZ.out.cell 3
          have z4 := HZ.out.cell 4
          have y0 := HZ.out.frozen 0
          have y1 := HZ.out.frozen 1
          have y2 := HZ.out.frozen 2
          have y3 := HZ.out.frozen 3
          have y4 := HZ.out.frozen 4
          simp at z0 z1 z2 z3 z4
          refine callV 6 rfl (by kernel_rfl) (by rfl) (fun K hK => ?_)
          go_simp
          refine hK.out _ _ (hHeld5.far (set5_below HBK.out x)) (fun hHeld9 => ?_)
          have hkey := key_set x HZ.out
          clear hK K hHeld5
          try simp only [Act.put, List.setIfInBounds_toArray, List.set_cons_zero, List.set_cons_succ]
          refine takeV 7 (some 6) ((.int .i64 1)) rfl rfl (by kernel_rfl) (by kernel_rfl) (by kernel_rfl) (fun _ _ _ h => h) (by rfl) (by (intro _w _hSw; (try dsimp only at _hSw); go_simp)) (by assumption) ?_
          simp only [Act.put, List.setIfInBounds_toArray, List.set_cons_zero, List.set_cons_succ]
          refine wpAnyH_done (by kernel_rfl) ?_ _
          exact ⟨bk, rfl, hHeld9, hkey⟩
        · go_simp
          obtain ⟨W5, hW5⟩ : ∃ W5, (w1.alloc (.cells #[.int .i64 0, .int .i64 0, .int .i64 0, .int .i64 0, .string ⟨#[]⟩] 71)).drew = W5 := ⟨_, rfl⟩
          have HZ0 : Hid (ZBox W5 w1.heap.size) := by show ZBox _ _; rw [← hW5]; exact heap_alloc_new w1 _
          have hB5 : Below w1.drew.heap.size w1.drew W5 := by rw [← hW5]; exact (Below.refl w1.drew.heap.size w1.drew).alloc (Nat.le_refl _) _
          rw [hW5]
          refine hK.out _ _ (hHeld.next hB5) (fun hHeld4 => ?_)
          clear hK K hHeld hW5 hB5
          try simp only [Act.put, List.setIfInBounds_toArray, List.set_cons_zero, List.set_cons_succ]
          refine callV 4 rfl (by kernel_rfl) (by rfl) (fun K hK => ?_)
          go_simp
          go_at_call 32
          refine (ofDatom_agg x _).mono ?_
          rintro e w6 ⟨rfl, hb3⟩
          refine hK.out _ _ (hHeld4.next hb3) (fun hHeld5 => ?_)
          have HZ := Lib.hid (HZ0.out.next hb3)
          clear hK K hHeld4 hb3
          try simp only [Act.put, List.setIfInBounds_toArray, List.set_cons_zero, List.set_cons_succ]
          obtain ⟨bk, hbk⟩ : ∃ bk, w1.heap.size = bk := ⟨_, rfl⟩
          rw [hbk] at HZ ⊢
          have HBK := Lib.hid (Nat.le_of_eq hbk)
          clear hbk
          have z0 := HZ.out.cell 0
          have z1 := HZ.out.cell 1
          have z2 := HZ.out.cell 2
          have z3 := HZ.out.cell 3
          have z4 := HZ.out.cell 4
          have y0 := HZ.out.frozen 0
          have y1 := HZ.out.frozen 1
          have y2 := HZ.out.frozen 2
          have y3 := HZ.out.frozen 3
          have y4 := HZ.out.frozen 4
          simp at z0 z1 z2 z3 z4
          refine callV 6 rfl (by kernel_rfl) (by rfl) (fun K hK => ?_)
          go_simp
          refine hK.out _ _ (hHeld5.far (set5_below HBK.out x)) (fun hHeld9 => ?_)
          have hkey := key_set x HZ.out
          clear hK K hHeld5
          try simp only [Act.put, List.setIfInBounds_toArray, List.set_cons_zero, List.set_cons_succ]
          refine takeV 7 (some 6) ((.int .i64 1)) rfl rfl (by kernel_rfl) (by kernel_rfl) (by kernel_rfl) (fun _ _ _ h => h) (by rfl) (by (intro _w _hSw; (try dsimp only at _hSw); go_simp)) (by assumption) ?_
          simp only [Act.put, List.setIfInBounds_toArray, List.set_cons_zero, List.set_cons_succ]
          refine wpAnyH_done (by kernel_rfl) ?_ _
          exact ⟨bk, rfl, hHeld9, hkey⟩
      intro e a' W4 h
      have he : e = .normal := by cases e <;> first | rfl | exact h.elim
      subst he
      obtain ⟨bk, rfl, hrk⟩ := h
      have HR3 := Lib.hid hrk
      clear hrk
      gi_wp2
      gi_loopw [6] (fun y wr => ∃ n : Nat, y = .int .i64 n ∧ n ≤ R.length ∧ 1 ≤ n ∧ Hid (∀ j (h : j < R.length), j < n → triD R[j] = triD R[0]) ∧ Hid (RunK w1 B (some ⟨b, o, none⟩) R Bk 73 (.func (.func 32) #[] #[]) bk x wr)) (fun y _ => R.length - (intOf y).toNat)
      case atStart => exact ⟨1, rfl, by omega, Nat.le_refl _, (fun j h hj => by obtain rfl : j = 0 := (by omega); rfl), HR3.out⟩
      case round =>
        obtain ⟨n1, rfl, hn, hn1', HSM, HR1⟩ := hrel
        by_cases hnl : n1 = R.length
        · have hnz : ¬ ((n1 : Int) < (R.length : Int)) := by omega
          obtain rfl : n1 = R.length := by omega
          have HRN : Hid (runN triD R = R.length) := runN_is triD hR0 hn1' (by omega) HSM.out (fun h => by omega)
          gi_upto_region 3 with fail
          refine wpIn_wide.2 ?_
          refine wp_region_held_drew (S := RunK w1 B (some ⟨b, o, none⟩) R Bk 73 (.func (.func 32) #[] #[]) bk x) (by kernel_rfl) HR1.out.drew (fun hHeld => ?_)
          refine takeV 0 (some 16) ((.int .i64 R.length)) rfl rfl (by kernel_rfl) (by kernel_rfl) (by kernel_rfl) (fun _ _ _ h => h) (by rfl) (by (intro _w _hSw; (try dsimp only at _hSw); go_simp)) (by assumption) ?_
          simp only [Act.put, List.setIfInBounds_toArray, List.set_cons_zero, List.set_cons_succ]
          refine takeV 1 (some 17) ((.slice (some ⟨b, o, none⟩) R.length c1)) rfl rfl (by kernel_rfl) (by kernel_rfl) (by kernel_rfl) (fun _ _ _ h => h) (by rfl) (by (intro _w _hSw; (try dsimp only at _hSw); go_simp)) (by assumption) ?_
          simp only [Act.put, List.setIfInBounds_toArray, List.set_cons_zero, List.set_cons_succ]
          refine takeV 2 (some 18) ((.int .i64 R.length)) rfl rfl (by kernel_rfl) (by kernel_rfl) (by kernel_rfl) (fun _ _ _ h => h) (by rfl) (by (intro _w _hSw; (try dsimp only at _hSw); go_simp)) (by assumption) ?_
          simp only [Act.put, List.setIfInBounds_toArray, List.set_cons_zero, List.set_cons_succ]
          refine takeV 3 (some 19) ((.bool false)) rfl rfl (by kernel_rfl) (by kernel_rfl) (by kernel_rfl) (fun _ _ _ h => h) (by rfl) (by (intro _w _hSw; (try dsimp only at _hSw); go_simp)) (by assumption) ?_
          simp only [Act.put, List.setIfInBounds_toArray, List.set_cons_zero, List.set_cons_succ]
          refine takeV 4 (some 20) ((.bool false)) rfl rfl (by kernel_rfl) (by kernel_rfl) (by kernel_rfl) (fun _ _ _ h => h) (by rfl) (by (intro _w _hSw; (try dsimp only at _hSw); go_simp)) (by assumption) ?_
          simp only [Act.put, List.setIfInBounds_toArray, List.set_cons_zero, List.set_cons_succ]
          refine skipV 5 (some 21) rfl rfl (by kernel_rfl) (by kernel_rfl) (by kernel_rfl) (fun _ _ _ h => h) (by rfl) (by assumption) ?_
          simp only [Act.put, List.setIfInBounds_toArray, List.set_cons_zero, List.set_cons_succ]
          refine skipV 6 (some 22) rfl rfl (by kernel_rfl) (by kernel_rfl) (by kernel_rfl) (fun _ _ _ h => h) (by rfl) (by assumption) ?_
          simp only [Act.put, List.setIfInBounds_toArray, List.set_cons_zero, List.set_cons_succ]
          refine skipV 7 (some 23) rfl rfl (by kernel_rfl) (by kernel_rfl) (by kernel_rfl) (fun _ _ _ h => h) (by rfl) (by assumption) ?_
          simp only [Act.put, List.setIfInBounds_toArray, List.set_cons_zero, List.set_cons_succ]
          refine skipV 8 (some 24) rfl rfl (by kernel_rfl) (by kernel_rfl) (by kernel_rfl) (fun _ _ _ h => h) (by rfl) (by assumption) ?_
          simp only [Act.put, List.setIfInBounds_toArray, List.set_cons_zero, List.set_cons_succ]
          refine skipV 9 (some 25) rfl rfl (by kernel_rfl) (by kernel_rfl) (by kernel_rfl) (fun _ _ _ h => h) (by rfl) (by assumption) ?_
          simp only [Act.put, List.setIfInBounds_toArray, List.set_cons_zero, List.set_cons_succ]
          refine skipV 10 (some 26) rfl rfl (by kernel_rfl) (by kernel_rfl) (by kernel_rfl) (fun _ _ _ h => h) (by rfl) (by assumption) ?_
          simp only [Act.put, List.setIfInBounds_toArray, List.set_cons_zero, List.set_cons_succ]
          refine skipV 11 (some 27) rfl rfl (by kernel_rfl) (by kernel_rfl) (by kernel_rfl) (fun _ _ _ h => h) (by rfl) (by assumption) ?_
          simp only [Act.put, List.setIfInBounds_toArray, List.set_cons_zero, List.set_cons_succ]
          refine skipV 12 (some 28) rfl rfl (by kernel_rfl) (by kernel_rfl) (by kernel_rfl) (fun _ _ _ h => h) (by rfl) (by assumption) ?_
          simp only [Act.put, List.setIfInBounds_toArray, List.set_cons_zero, List.set_cons_succ]
          refine takeV 13 (some 29) ((.bool false)) rfl rfl (by kernel_rfl) (by kernel_rfl) (by kernel_rfl) (fun _ _ _ h => h) (by rfl) (by (intro _w _hSw; (try dsimp only at _hSw); go_simp)) (by assumption) ?_
          simp only [Act.put, List.setIfInBounds_toArray, List.set_cons_zero, List.set_cons_succ]
          refine wpAnyH_done (by kernel_rfl) ?_ _
          have HR4 := Lib.hid hHeld
          clear hHeld
          gi_upto_region 5 with fail
          have hfol : Tryz.prog.follows .mixedOrders = true := by kernel_rfl
          have hJ4 : J ((allN _).take i) (World.drew _) := abides_to hA HJK.out (below_ind HR4.out.1.2.2.2.2 1)
          obtain ⟨fn, tmps, assign, body, hy, hR⟩ := hY (n - 1) _ ⟨i, hil⟩ _ hJ4 hpre
          rw [HENC.out, HRN.out] at hy
          have HK4 := Lib.hid (HKP.out.trans (kpR_below (below_ind HR4.out.1.2.2.2.2 1) (by omega)))
          have HRN1 := Lib.hid (show 1 ≤ R.length ∧ R.length ≤ R.length from ⟨hn1', by omega⟩)
          have hsl := fun w => sliceD_to (some ⟨b, o, none⟩) R.length c1 R.length (by omega) w
          have hsl2 := fun w => sliceD_from (some ⟨b, o, none⟩) R.length c1 R.length (by omega) hlc1 w
          have q0 := HR4.out.2.cell 0
          have q1 := HR4.out.2.cell 1
          have q2 := HR4.out.2.cell 2
          have q3 := HR4.out.2.cell 3
          have q4 := HR4.out.2.cell 4
          simp at q0 q1 q2 q3 q4
          unfold triV at hy
          have HRR := Lib.hid hR
          clear hR
          gi_region_with_o (refine ⟨wide_deep _, HRR.out.mono ?_⟩; rintro e W5 h8; obtain ⟨bb, rfl, h9⟩ := two_ways h8; clear h8)
          rcases h9 with ⟨rfl, hJ5, hk5⟩ | ⟨rfl, hJx5⟩
          · gi_wp2
            go_roundw
            case rel => exact ⟨i + 1, by rw [HNX.out.1, HNX.out.2, HRN.out, List.length_drop]; try simp, by omega, by rw [HTK.out]; exact hJ5, HK4.out.trans hk5⟩
            case measure => have := HRN1.out; simp [lenV]; omega
          · gi_wp2
            refine bodyPost_ret (results_none rfl _ _ _) rfl ?_
            exact ⟨⟨_, rfl⟩, .inr ⟨(allN _).take (i + 1), HPR.out, by rw [HTK.out]; exact hJx5⟩⟩
        · have hnz : (n1 : Int) < (R.length : Int) := by omega
          have hnn : n1 < R.length := by omega
          obtain ⟨y, hy⟩ : ∃ y, R[n1] = y := ⟨_, rfl⟩
          have HY1 := Lib.hid hy
          by_cases hky : triD y = triD x
          · have hkq := fun w => eqTri y x w
            unfold triV at hkq
            have hkd : decide (triD y = triD x) = true := decide_eq_true hky
            have HSM2 : Hid (∀ j (h : j < R.length), j < n1 + 1 → triD R[j] = triD R[0]) := fun j h hj => by
              by_cases h3 : j < n1
              · exact HSM.out j h h3
              · have : j = n1 := by omega
                subst this
                rw [HY1.out, HX.out]; exact hky
            clear hy hky
            gi_upto_region 3 with fail
            refine wpIn_wide.2 ?_
            refine wp_region_held_drew (S := RunK w1 B (some ⟨b, o, none⟩) R Bk 73 (.func (.func 32) #[] #[]) bk x) (by kernel_rfl) HR1.out.drew (fun hHeld => ?_)
            refine takeV 0 (some 16) ((.int .i64 n1)) rfl rfl (by kernel_rfl) (by kernel_rfl) (by kernel_rfl) (fun _ _ _ h => h) (by rfl) (by (intro _w _hSw; (try dsimp only at _hSw); go_simp)) (by assumption) ?_
            simp only [Act.put, List.setIfInBounds_toArray, List.set_cons_zero, List.set_cons_succ]
            refine takeV 1 (some 17) ((.slice (some ⟨b, o, none⟩) R.length c1)) rfl rfl (by kernel_rfl) (by kernel_rfl) (by kernel_rfl) (fun _ _ _ h => h) (by rfl) (by (intro _w _hSw; (try dsimp only at _hSw); go_simp)) (by assumption) ?_
            simp only [Act.put, List.setIfInBounds_toArray, List.set_cons_zero, List.set_cons_succ]
            refine takeV 2 (some 18) ((.int .i64 R.length)) rfl rfl (by kernel_rfl) (by kernel_rfl) (by kernel_rfl) (fun _ _ _ h => h) (by rfl) (by (intro _w _hSw; (try dsimp only at _hSw); go_simp)) (by assumption) ?_
            simp only [Act.put, List.setIfInBounds_toArray, List.set_cons_zero, List.set_cons_succ]
            refine takeV 3 (some 19) ((.bool true)) rfl rfl (by kernel_rfl) (by kernel_rfl) (by kernel_rfl) (fun _ _ _ h => h) (by rfl) (by (intro _w _hSw; (try dsimp only at _hSw); go_simp)) (by assumption) ?_
            simp only [Act.put, List.setIfInBounds_toArray, List.set_cons_zero, List.set_cons_succ]
            refine takeV 4 (some 20) ((.bool true)) rfl rfl (by kernel_rfl) (by kernel_rfl) (by kernel_rfl) (fun _ _ _ h => h) (by rfl) (by (intro _w _hSw; (try dsimp only at _hSw); go_simp)) (by assumption) ?_
            simp only [Act.put, List.setIfInBounds_toArray, List.set_cons_zero, List.set_cons_succ]
            refine takeV 5 (some 21) ((.func (.func 32) #[] #[])) rfl rfl (by kernel_rfl) (by kernel_rfl) (by kernel_rfl) (fun _ _ _ h => h) (by rfl) (by (intro _w hSw; have q0 := hSw.1.2.1.cell; clear hSw; go_simp)) (by assumption) ?_
            simp only [Act.put, List.setIfInBounds_toArray, List.set_cons_zero, List.set_cons_succ]
            refine takeV 6 (some 22) ((.slice (some ⟨b, o, none⟩) R.length c1)) rfl rfl (by kernel_rfl) (by kernel_rfl) (by kernel_rfl) (fun _ _ _ h => h) (by rfl) (by (intro _w _hSw; (try dsimp only at _hSw); go_simp)) (by assumption) ?_
            simp only [Act.put, List.setIfInBounds_toArray, List.set_cons_zero, List.set_cons_succ]
            refine takeV 7 (some 23) ((.int .i64 n1)) rfl rfl (by kernel_rfl) (by kernel_rfl) (by kernel_rfl) (fun _ _ _ h => h) (by rfl) (by (intro _w _hSw; (try dsimp only at _hSw); go_simp)) (by assumption) ?_
            simp only [Act.put, List.setIfInBounds_toArray, List.set_cons_zero, List.set_cons_succ]
            refine takeV 8 (some 24) ((.pointer (some ⟨b, o + n1 * 9, none⟩))) rfl rfl (by kernel_rfl) (by kernel_rfl) (by kernel_rfl) (fun _ _ _ h => h) (by rfl) (by (intro _w _hSw; (try dsimp only at _hSw); go_simp)) (by assumption) ?_
            simp only [Act.put, List.setIfInBounds_toArray, List.set_cons_zero, List.set_cons_succ]
            refine takeV 9 (some 25) ((.agg #[.int .i64 y.e, .int .i64 y.a, .int .i64 y.k, .int .i64 y.m, .string y.s, .int .i64 y.t, .bool y.add, .int .i64 y.fr, .int .i64 y.til])) rfl rfl (by kernel_rfl) (by kernel_rfl) (by kernel_rfl) (fun _ _ _ h => h) (by rfl) (by (intro _w hSw; obtain ⟨b', o', e', _, hp⟩ := hSw.1.1.at_ (j := n1) hnn; cases e'; rw [HY1.out] at hp; have q0 := hp.c0; have q1 := hp.c1; have q2 := hp.c2; have q3 := hp.c3; have q4 := hp.c4; have q5 := hp.c5; have q6 := hp.c6; have q7 := hp.c7; have q8 := hp.c8; clear hp; clear hSw; go_simp)) (by assumption) ?_
            simp only [Act.put, List.setIfInBounds_toArray, List.set_cons_zero, List.set_cons_succ]
            refine takeV 11 (some 27) ((.agg #[.int .i64 x.e, .int .i64 x.a, .int .i64 x.k, .int .i64 x.m, .string x.s])) rfl rfl (by kernel_rfl) (by kernel_rfl) (by kernel_rfl) (fun _ _ _ h => h) (by rfl) (by (intro _w hSw; have q0 := hSw.2.cell 0; have q1 := hSw.2.cell 1; have q2 := hSw.2.cell 2; have q3 := hSw.2.cell 3; have q4 := hSw.2.cell 4; simp at q0 q1 q2 q3 q4; clear hSw; go_simp)) (by assumption) ?_
            simp only [Act.put, List.setIfInBounds_toArray, List.set_cons_zero, List.set_cons_succ]
            refine callV 10 rfl (by kernel_rfl) (by rfl) (fun K hK => ?_)
            go_simp
            go_at_call 32
            refine (ofDatom_agg y _).mono ?_
            rintro e w3 ⟨rfl, hb3⟩
            have g3 := hHeld.next hb3
            refine hK.out _ _ g3 (fun hHeld3 => ?_)
            clear hK g3 K hHeld hb3
            try simp only [Act.put, List.setIfInBounds_toArray, List.set_cons_zero, List.set_cons_succ]
            refine takeV 12 (some 28) ((.bool true)) rfl rfl (by kernel_rfl) (by kernel_rfl) (by kernel_rfl) (fun _ _ _ h => h) (by rfl) (by (intro _w _hSw; (try dsimp only at _hSw); go_simp)) (by assumption) ?_
            simp only [Act.put, List.setIfInBounds_toArray, List.set_cons_zero, List.set_cons_succ]
            refine takeV 13 (some 29) ((.bool true)) rfl rfl (by kernel_rfl) (by kernel_rfl) (by kernel_rfl) (fun _ _ _ h => h) (by rfl) (by (intro _w _hSw; (try dsimp only at _hSw); go_simp)) (by assumption) ?_
            simp only [Act.put, List.setIfInBounds_toArray, List.set_cons_zero, List.set_cons_succ]
            refine wpAnyH_done (by kernel_rfl) ?_ _
            have HR4 := Lib.hid hHeld3
            clear hHeld3
            gi_wp2
            go_roundw
            case measure => simp [intOf]; omega
            case rel => exact ⟨n1 + 1, by go_num, by omega, by omega, HSM2.out, HR4.out⟩
          · have hkq := fun w => eqTri y x w
            unfold triV at hkq
            have hkd : decide (triD y = triD x) = false := decide_eq_false hky
            have HRN : Hid (runN triD R = n1) := runN_is triD hR0 hn1' (by omega) HSM.out (fun h => by rw [HY1.out, HX.out]; exact hky)
            clear hy hky
            gi_upto_region 3 with fail
            refine wpIn_wide.2 ?_
            refine wp_region_held_drew (S := RunK w1 B (some ⟨b, o, none⟩) R Bk 73 (.func (.func 32) #[] #[]) bk x) (by kernel_rfl) HR1.out.drew (fun hHeld => ?_)
            refine takeV 0 (some 16) ((.int .i64 n1)) rfl rfl (by kernel_rfl) (by kernel_rfl) (by kernel_rfl) (fun _ _ _ h => h) (by rfl) (by (intro _w _hSw; (try dsimp only at _hSw); go_simp)) (by assumption) ?_
            simp only [Act.put, List.setIfInBounds_toArray, List.set_cons_zero, List.set_cons_succ]
            refine takeV 1 (some 17) ((.slice (some ⟨b, o, none⟩) R.length c1)) rfl rfl (by kernel_rfl) (by kernel_rfl) (by kernel_rfl) (fun _ _ _ h => h) (by rfl) (by (intro _w _hSw; (try dsimp only at _hSw); go_simp)) (by assumption) ?_
            simp only [Act.put, List.setIfInBounds_toArray, List.set_cons_zero, List.set_cons_succ]
            refine takeV 2 (some 18) ((.int .i64 R.length)) rfl rfl (by kernel_rfl) (by kernel_rfl) (by kernel_rfl) (fun _ _ _ h => h) (by rfl) (by (intro _w _hSw; (try dsimp only at _hSw); go_simp)) (by assumption) ?_
            simp only [Act.put, List.setIfInBounds_toArray, List.set_cons_zero, List.set_cons_succ]
            refine takeV 3 (some 19) ((.bool true)) rfl rfl (by kernel_rfl) (by kernel_rfl) (by kernel_rfl) (fun _ _ _ h => h) (by rfl) (by (intro _w _hSw; (try dsimp only at _hSw); go_simp)) (by assumption) ?_
            simp only [Act.put, List.setIfInBounds_toArray, List.set_cons_zero, List.set_cons_succ]
            refine takeV 4 (some 20) ((.bool true)) rfl rfl (by kernel_rfl) (by kernel_rfl) (by kernel_rfl) (fun _ _ _ h => h) (by rfl) (by (intro _w _hSw; (try dsimp only at _hSw); go_simp)) (by assumption) ?_
            simp only [Act.put, List.setIfInBounds_toArray, List.set_cons_zero, List.set_cons_succ]
            refine takeV 5 (some 21) ((.func (.func 32) #[] #[])) rfl rfl (by kernel_rfl) (by kernel_rfl) (by kernel_rfl) (fun _ _ _ h => h) (by rfl) (by (intro _w hSw; have q0 := hSw.1.2.1.cell; clear hSw; go_simp)) (by assumption) ?_
            simp only [Act.put, List.setIfInBounds_toArray, List.set_cons_zero, List.set_cons_succ]
            refine takeV 6 (some 22) ((.slice (some ⟨b, o, none⟩) R.length c1)) rfl rfl (by kernel_rfl) (by kernel_rfl) (by kernel_rfl) (fun _ _ _ h => h) (by rfl) (by (intro _w _hSw; (try dsimp only at _hSw); go_simp)) (by assumption) ?_
            simp only [Act.put, List.setIfInBounds_toArray, List.set_cons_zero, List.set_cons_succ]
            refine takeV 7 (some 23) ((.int .i64 n1)) rfl rfl (by kernel_rfl) (by kernel_rfl) (by kernel_rfl) (fun _ _ _ h => h) (by rfl) (by (intro _w _hSw; (try dsimp only at _hSw); go_simp)) (by assumption) ?_
            simp only [Act.put, List.setIfInBounds_toArray, List.set_cons_zero, List.set_cons_succ]
            refine takeV 8 (some 24) ((.pointer (some ⟨b, o + n1 * 9, none⟩))) rfl rfl (by kernel_rfl) (by kernel_rfl) (by kernel_rfl) (fun _ _ _ h => h) (by rfl) (by (intro _w _hSw; (try dsimp only at _hSw); go_simp)) (by assumption) ?_
            simp only [Act.put, List.setIfInBounds_toArray, List.set_cons_zero, List.set_cons_succ]
            refine takeV 9 (some 25) ((.agg #[.int .i64 y.e, .int .i64 y.a, .int .i64 y.k, .int .i64 y.m, .string y.s, .int .i64 y.t, .bool y.add, .int .i64 y.fr, .int .i64 y.til])) rfl rfl (by kernel_rfl) (by kernel_rfl) (by kernel_rfl) (fun _ _ _ h => h) (by rfl) (by (intro _w hSw; obtain ⟨b', o', e', _, hp⟩ := hSw.1.1.at_ (j := n1) hnn; cases e'; rw [HY1.out] at hp; have q0 := hp.c0; have q1 := hp.c1; have q2 := hp.c2; have q3 := hp.c3; have q4 := hp.c4; have q5 := hp.c5; have q6 := hp.c6; have q7 := hp.c7; have q8 := hp.c8; clear hp; clear hSw; go_simp)) (by assumption) ?_
            simp only [Act.put, List.setIfInBounds_toArray, List.set_cons_zero, List.set_cons_succ]
            refine takeV 11 (some 27) ((.agg #[.int .i64 x.e, .int .i64 x.a, .int .i64 x.k, .int .i64 x.m, .string x.s])) rfl rfl (by kernel_rfl) (by kernel_rfl) (by kernel_rfl) (fun _ _ _ h => h) (by rfl) (by (intro _w hSw; have q0 := hSw.2.cell 0; have q1 := hSw.2.cell 1; have q2 := hSw.2.cell 2; have q3 := hSw.2.cell 3; have q4 := hSw.2.cell 4; simp at q0 q1 q2 q3 q4; clear hSw; go_simp)) (by assumption) ?_
            simp only [Act.put, List.setIfInBounds_toArray, List.set_cons_zero, List.set_cons_succ]
            refine callV 10 rfl (by kernel_rfl) (by rfl) (fun K hK => ?_)
            go_simp
            go_at_call 32
            refine (ofDatom_agg y _).mono ?_
            rintro e w3 ⟨rfl, hb3⟩
            have g3 := hHeld.next hb3
            refine hK.out _ _ g3 (fun hHeld3 => ?_)
            clear hK g3 K hHeld hb3
            try simp only [Act.put, List.setIfInBounds_toArray, List.set_cons_zero, List.set_cons_succ]
            refine takeV 12 (some 28) ((.bool false)) rfl rfl (by kernel_rfl) (by kernel_rfl) (by kernel_rfl) (fun _ _ _ h => h) (by rfl) (by (intro _w _hSw; (try dsimp only at _hSw); go_simp)) (by assumption) ?_
            simp only [Act.put, List.setIfInBounds_toArray, List.set_cons_zero, List.set_cons_succ]
            refine takeV 13 (some 29) ((.bool false)) rfl rfl (by kernel_rfl) (by kernel_rfl) (by kernel_rfl) (fun _ _ _ h => h) (by rfl) (by (intro _w _hSw; (try dsimp only at _hSw); go_simp)) (by assumption) ?_
            simp only [Act.put, List.setIfInBounds_toArray, List.set_cons_zero, List.set_cons_succ]
            refine wpAnyH_done (by kernel_rfl) ?_ _
            have HR4 := Lib.hid hHeld3
            clear hHeld3
            gi_upto_region 5 with fail
            have hfol : Tryz.prog.follows .mixedOrders = true := by kernel_rfl
            have hJ4 : J ((allN _).take i) (World.drew _) := abides_to hA HJK.out (below_ind HR4.out.1.2.2.2.2 1)
            obtain ⟨fn, tmps, assign, body, hy, hR⟩ := hY (n - 1) _ ⟨i, hil⟩ _ hJ4 hpre
            rw [HENC.out, HRN.out] at hy
            have HK4 := Lib.hid (HKP.out.trans (kpR_below (below_ind HR4.out.1.2.2.2.2 1) (by omega)))
            have HRN1 := Lib.hid (show 1 ≤ n1 ∧ n1 ≤ R.length from ⟨hn1', by omega⟩)
            have hsl := fun w => sliceD_to (some ⟨b, o, none⟩) R.length c1 n1 (by omega) w
            have hsl2 := fun w => sliceD_from (some ⟨b, o, none⟩) R.length c1 n1 (by omega) hlc1 w
            have q0 := HR4.out.2.cell 0
            have q1 := HR4.out.2.cell 1
            have q2 := HR4.out.2.cell 2
            have q3 := HR4.out.2.cell 3
            have q4 := HR4.out.2.cell 4
            simp at q0 q1 q2 q3 q4
            unfold triV at hy
            have HRR := Lib.hid hR
            clear hR
            gi_region_with_o (refine ⟨wide_deep _, HRR.out.mono ?_⟩; rintro e W5 h8; obtain ⟨bb, rfl, h9⟩ := two_ways h8; clear h8)
            rcases h9 with ⟨rfl, hJ5, hk5⟩ | ⟨rfl, hJx5⟩
            · gi_wp2
              go_roundw
              case rel => exact ⟨i + 1, by rw [HNX.out.1, HNX.out.2, HRN.out, List.length_drop]; try simp, by omega, by rw [HTK.out]; exact hJ5, HK4.out.trans hk5⟩
              case measure => have := HRN1.out; simp [lenV]; omega
            · gi_wp2
              refine bodyPost_ret (results_none rfl _ _ _) rfl ?_
              exact ⟨⟨_, rfl⟩, .inr ⟨(allN _).take (i + 1), HPR.out, by rw [HTK.out]; exact hJx5⟩⟩
    · have hre := restR_end triD (l := l) (i := i) (by omega)
      rw [hre]
      rw [List.take_of_length_le (by rw [allN_len]; omega)] at hJk
      gi_wp2
      go_end0
      exact ⟨⟨_, rfl⟩, .inl hJk⟩
end Go.Proofs.YthhkabbgghepbaaGreat
