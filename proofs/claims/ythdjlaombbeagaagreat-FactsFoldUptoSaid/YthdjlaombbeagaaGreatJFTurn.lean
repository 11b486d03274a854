import Derived.Shelf.RegionOpen
import Derived.Test.YthdjlaombbeagaaGreatJFRun
import Derived.RangeFuncBox
import Derived.Test.YthdjlaombbeagaaGreatJSSet
import Derived.Test.YthdjlaombbeagaaGreatJOArgs
import Derived.Test.YthdjlaombbeagaaGreatJFLastP
import Derived.Test.YthdjlaombbeagaaGreatJOWords
import Derived.Maps.AppendAt
import Derived.Test.YthdjlaombbeagaaGreatJFFoldR
import Derived.Test.YthdjlaombbeagaaGreatJDRefP
/-
  CONTRACT: the iterator of runs, at triples.
-/
namespace Go.Proofs.YthdjlaombbeagaaGreat
open Go.RowKit Go.Shelf
attribute [local go_sem] Oper.semAt_some

def set5 (W : World) (bk : Nat) (x : Dat) : World := ((((W.setCell ⟨bk, 0, none⟩ (.int .i64 x.e)).setCell ⟨bk, 1, none⟩ (.int .i64 x.a)).setCell ⟨bk, 2, none⟩ (.int .i64 x.k)).setCell ⟨bk, 3, none⟩ (.int .i64 x.m)).setCell ⟨bk, 4, none⟩ (.string x.s)
theorem set5_below {W : World} {B bk : Nat} (h : B ≤ bk) (x : Dat) : Below B W (set5 W bk x) :=
  ((((((Below.refl B W).setCell (p := ⟨bk, 0, none⟩) h _).setCell (p := ⟨bk, 1, none⟩) h _).setCell (p := ⟨bk, 2, none⟩) h _).setCell (p := ⟨bk, 3, none⟩) h _).setCell (p := ⟨bk, 4, none⟩) h _)
/-- a new key box, ahead of the store -/
def ZBox (W : World) (bk : Nat) : Prop := W.heap[bk]? = some (.cells #[.int .i64 0, .int .i64 0, .int .i64 0, .int .i64 0, .string ⟨#[]⟩] 52 (0, 0))
theorem ZBox.cell {W : World} {bk : Nat} (h : ZBox W bk) (j : Nat) : W.cell? ⟨bk, j, none⟩ = (#[Value.int .i64 0, .int .i64 0, .int .i64 0, .int .i64 0, .string ⟨#[]⟩])[j]? := by unfold ZBox at h; simp [World.cell?, h]
theorem ZBox.frozen {W : World} {bk : Nat} (h : ZBox W bk) (j : Nat) : W.frozen? ⟨bk, j, none⟩ = false := by unfold ZBox at h; simp [World.frozen?, h]
theorem key_set {W : World} {bk : Nat} (x : Dat) (h : ZBox W bk) : KeyAt (set5 W bk x) bk x := by
  unfold KeyAt set5
  unfold ZBox at h
  exact (heap_setCell_same _ _ _ _ _ _ (heap_setCell_same _ _ _ _ _ _ (heap_setCell_same _ _ _ _ _ _ (heap_setCell_same _ _ _ _ _ _ (heap_setCell_same _ _ _ _ _ _ h))))).trans (by simp)
theorem ZBox.lt {W : World} {bk : Nat} (h : ZBox W bk) : bk < W.heap.size := (Array.getElem?_eq_some_iff.1 h).1
theorem ZBox.next {W W' : World} {bk : Nat} (h : ZBox W bk) (hb : Below W.heap.size W W') : ZBox W' bk := (hb.block bk h.lt).trans h
theorem ofDatom_agg (d : Dat) (w : World) : Calls Tryz.prog 18 #[.agg #[.int .i64 d.e, .int .i64 d.a, .int .i64 d.k, .int .i64 d.m, .string d.s, .int .i64 d.t, .bool d.add, .int .i64 d.fr, .int .i64 d.til]] w fun e w' => e = .returned (.agg #[.int .i64 d.e, .int .i64 d.a, .int .i64 d.k, .int .i64 d.m, .string d.s]) ∧ Below w.heap.size w w' := ofDatom_any d w
theorem two_ways {e : Ending} {a b c : Prop} (h : (e = .returned (.bool true) ∧ a ∧ b) ∨ (e = .returned (.bool false) ∧ c)) : ∃ bb : Bool, e = .returned (.bool bb) ∧ ((bb = true ∧ a ∧ b) ∨ (bb = false ∧ c)) := by
  rcases h with ⟨rfl, h1, h2⟩ | ⟨rfl, h1⟩
  · exact ⟨true, rfl, .inl ⟨rfl, h1, h2⟩⟩
  · exact ⟨false, rfl, .inr ⟨rfl, h1⟩⟩
/-- what stands while a stretch is measured, its key in a box -/
def RunK (w0 : World) (B : Nat) (A : Option Addr) (l : List Dat) (Bk : Nat) (t : TypeId) (fv : Value) (bk : Nat) (x : Dat) (W : World) : Prop := RunS w0 B A l Bk t fv W ∧ KeyAt W bk x
theorem RunK.next {w0 W W' : World} {B : Nat} {A : Option Addr} {l : List Dat} {Bk : Nat} {t : TypeId} {fv : Value} {bk : Nat} {x : Dat} (h : RunK w0 B A l Bk t fv bk x W) (hb : Below W.heap.size W W') : RunK w0 B A l Bk t fv bk x W' := ⟨h.1.next hb, h.2.next hb⟩
theorem RunK.drew {w0 W : World} {B : Nat} {A : Option Addr} {l : List Dat} {Bk : Nat} {t : TypeId} {fv : Value} {bk : Nat} {x : Dat} (h : RunK w0 B A l Bk t fv bk x W) : RunK w0 B A l Bk t fv bk x W.drew := h.next (below_ind (Below.refl _ W) 1)
theorem callV2 {P : Program} {ops : Array Oper} {Q : Exit → Act → World → Prop} {md : Region.Mode} {S : World → Prop} {fuel : Nat} {listed : Array Bool} {a : Act} {w : World} (i j : Nat) {oi oj : Oper} (hi : ops[i]? = some oi) (hj : ops[j]? = some oj) (hr : Region.ready md ops listed = [i, j]) (hwi : Region.wanted oi (yielded ops a.tmps) = true) (hwj : Region.wanted oj (yielded ops a.tmps) = true)
    (h1 : ∀ K' : Act → World → Prop, Shut (∀ a w, S w → (S w → wpAnyH P md ops Q S fuel (listed.setIfInBounds i true) a w) → K' a w) → Oper.wp P oi a w K' Q)
    (h2 : ∀ K' : Act → World → Prop, Shut (∀ a w, S w → (S w → wpAnyH P md ops Q S fuel (listed.setIfInBounds j true) a w) → K' a w) → Oper.wp P oj a w K' Q) : wpAnyH P md ops Q S (fuel + 1) listed a w :=
  wpAnyH_ready hr (by simp) (AllReadyH.cons hi (fun K' hK => by rw [if_pos hwi]; exact h1 K' hK) (AllReadyH.cons hj (fun K' hK => by rw [if_pos hwj]; exact h2 K' hK) AllReadyH.nil))

/-- One round of the loop that is handed stretches. -/
def HandsRT (l : List Dat) (A : Option Addr) (c : Nat) (B Bk lp N : Nat) (J Jx : List (Fin (runsL triD l).length) → World → Prop) : Prop :=
  ∀ m pre (x : Fin (runsL triD l).length) W, J pre W → pre.length < N → YieldAt Fence.wide m Tryz.prog lp (encT l A c x) W fun e W' =>
    (e = .returned (.bool true) ∧ J (pre ++ [x]) W' ∧ KpR B A l Bk 54 (.func (.func 18) #[] #[]) W W') ∨ (e = .returned (.bool false) ∧ Jx (pre ++ [x]) W')
set_option maxRecDepth 100000 in
set_option maxHeartbeats 4000000 in
theorem runT_in (lp B Bl Bk C : Nat) (A : Option Addr) (c : Nat) (l : List Dat) (J Jx : List (Fin (runsL triD l).length) → World → Prop) (hA : AbidesFrom C J) (hY : HandsRT l A c B Bk lp (runsL triD l).length J Jx) (n : Nat)
    (W : World) (hBW : B ≤ W.heap.size) (hlc : l.length ≤ c) (_hcm : c ≤ maxLen) (hl : l.length ≤ 100000) (hs : SlD W B A l) (hb : W.cell? ⟨Bl, 0, none⟩ = some (.slice A l.length c)) (hk : Boxed W Bk 54 (.func (.func 18) #[] #[])) (hJ : J [] W) :
    CallsIn Fence.wide n Tryz.prog 36 #[.func (.yield lp) #[] #[], .pointer (some ⟨Bl, 0, none⟩), .pointer (some ⟨Bk, 0, none⟩)] W fun e W' =>
      (∃ v, e = .returned v) ∧ (J (allN _) W' ∨ ∃ q, q <+: allN _ ∧ Jx q W') := by
  refine callsIn_of_wp Tryz.func36 rfl trivial ?_ rfl
  simp only [Tryz.ntmps36, List.size_toArray, List.length_cons, List.length_nil, Nat.reduceAdd, Nat.reduceSub, Array.replicate_succ, Array.replicate_zero, List.push_toArray, List.append_toArray, List.nil_append, List.cons_append]
  have HS := Lib.hid hs
  have HK := Lib.hid hk
  have HKL := Lib.hid hk.lt
  have HR0 : restR triD l 0 = l := by unfold restR; simp
  have HST0 : stR A c [] = (A, c) := rfl
  clear hs hk
  gi_wp2
  clear hb
  gi_loopw [4, 5, 6] (fun x _ _ wr => ∃ i : Nat, x = .slice (stR A c ((runsL triD l).take i)).1 (restR triD l i).length (stR A c ((runsL triD l).take i)).2 ∧ i ≤ (runsL triD l).length ∧ J ((allN _).take i) wr ∧ Hid (KpR B A l Bk 54 (.func (.func 18) #[] #[]) W wr) ) (fun x _ _ _ => lenV x)
  case atStart => exact ⟨0, by simp [HR0, stR], Nat.zero_le _, by rw [List.take_zero]; exact hJ, ⟨fun x => x, fun x => x, Nat.le_refl _⟩⟩
  case round =>
    obtain ⟨w1, rfl⟩ : ∃ w1, w1 = wr := ⟨wr, rfl⟩
    obtain ⟨i, rfl, hi, hJk, HKP⟩ := hrel
    have HSZ := Lib.hid HKP.out.2.2
    clear hJ HR0 HST0
    by_cases hil : i < (runsL triD l).length
    · obtain ⟨hne, hgi, hnx⟩ := restR_next triD hil
      have hlen := runs_each triD hil
      have hpos := List.length_pos_iff.2 hne
      have hrl := rest_len triD l i
      have hfl := flat_le triD l i
      have hrs : SlD w1 B (stR A c ((runsL triD l).take i)).1 (restR triD l i) := stR_sl ((runsL triD l).take i) (HKP.out.1 HS.out) hlc hfl
      have hcap := stR_cap ((runsL triD l).take i) A c
      have hsn := stR_snoc (runsL triD l)[i] ((runsL triD l).take i) A c
      rw [← List.take_succ_eq_append_getElem hil] at hsn
      obtain ⟨A1, hA1⟩ : ∃ A1, (stR A c ((runsL triD l).take i)).1 = A1 := ⟨_, rfl⟩
      obtain ⟨c1, hc1⟩ : ∃ c1, (stR A c ((runsL triD l).take i)).2 = c1 := ⟨_, rfl⟩
      obtain ⟨R, hR⟩ : ∃ R, restR triD l i = R := ⟨_, rfl⟩
      have hpre : ((allN (runsL triD l).length).take i).length < (runsL triD l).length := by rw [List.length_take, allN_len]; omega
      rw [hR, hA1] at hrs
      rw [hc1] at hcap
      rw [hR] at hne hgi hlen hrl hnx
      have hn1 := runN_pos triD hne
      have hnR := runN_le triD R
      rw [hA1, hc1, hR]
      have hR0 : 0 < R.length := List.length_pos_iff.2 hne
      obtain ⟨x, hx⟩ : ∃ x, R[0] = x := ⟨_, rfl⟩
      have HENC : Hid (encT l A c ⟨i, hil⟩ = #[triV x, .slice A1 (runN triD R) c1]) := by
        show _ = _
        unfold encT
        simp only [hA1, hc1, hlen]
        rw [show headD (runsL triD l)[i] = x by
          rw [hgi, headD_take hR0 hn1, hx]]
      have HNX : Hid (stR A c ((runsL triD l).take (i + 1)) = (cutD A1 c1 (runN triD R), c1 - runN triD R) ∧ restR triD l (i + 1) = R.drop (runN triD R)) := ⟨by rw [hsn, hA1, hc1, hlen], hnx⟩
      have HJK := Lib.hid hJk
      have HTK := Lib.hid (allN_take hil)
      have HPR := Lib.hid (List.take_prefix (i + 1) (allN (runsL triD l).length))
      have hlc1 : R.length ≤ c1 := by omega
      have hxz : R.length ≤ 100000 := by omega
      have HKW := Lib.hid (HKP.out.2.1 HK.out)
      obtain ⟨b, o, rfl, hbB, hat⟩ := hrs hne
      have HSR : Hid (SlD w1 B (some ⟨b, o, none⟩) R) := fun _ => ⟨b, o, rfl, hbB, hat⟩
      have hzz := HSZ.out
      have hkl := HKL.out
      have HRS : Hid (RunS w1 B (some ⟨b, o, none⟩) R Bk 54 (.func (.func 18) #[] #[]) w1) := ⟨HSR.out, HKW.out, by omega, by omega, Below.refl _ _⟩
      have h0l : (0 : Int) < (R.length : Int) := by omega
      have HX := Lib.hid hx
      clear hne hgi hlen hpos hrl hfl hrs hcap hsn hnx hA1 hc1 hR hJk hx hat
      gi_upto_region 2 with fail
      refine wpIn_mono (Q := fun e a' W4 => match e with | .normal => ∃ bk, a' = { tmps := #[.func (.yield lp) #[] #[], .pointer (some ⟨Bl, 0, none⟩), .pointer (some ⟨Bk, 0, none⟩), undef, .slice (some ⟨b, o, none⟩) R.length c1, .pointer (some ⟨bk, 0, none⟩), .int .i64 1, .slice A l.length c, .slice (some ⟨b, o, none⟩) R.length c1, .int .i64 (R.length : Int), .bool true, (.func (.func 18) #[] #[]), .slice (some ⟨b, o, none⟩) R.length c1, .pointer (some ⟨b, o, none⟩), .agg #[.int .i64 x.e, .int .i64 x.a, .int .i64 x.k, .int .i64 x.m, .string x.s, .int .i64 x.t, .bool x.add, .int .i64 x.fr, .int .i64 x.til], (.agg #[.int .i64 x.e, .int .i64 x.a, .int .i64 x.k, .int .i64 x.m, .string x.s]), u16, u17, u18, u19, u20, u21, u22, u23, u24, u25, u26, u27, u28, u29, u30, u31, u32, u33, u34, u35, u36, u37, u38, u39, u40, u41], defers := [] } ∧ RunK w1 B (some ⟨b, o, none⟩) R Bk 54 (.func (.func 18) #[] #[]) bk x W4 | _ => False) ?_ ?_
      · refine wpIn_wide.2 ?_
        refine wp_region_held_drew (S := RunS w1 B (some ⟨b, o, none⟩) R Bk 54 (.func (.func 18) #[] #[])) (by kernel_rfl) HRS.out.drew (fun hHeld => ?_)
        refine takeQ 0 11 (((.func (.func 18) #[] #[]))) ?_ (hy := by (intro _w hSw; have q0 := hSw.2.1.cell; clear hSw; go_simp))
        simp only [Act.put, List.setIfInBounds_toArray, List.set_cons_zero, List.set_cons_succ]
        refine takeQ 1 12 ((.slice (some ⟨b, o, none⟩) R.length c1)) ?_
        simp only [Act.put, List.setIfInBounds_toArray, List.set_cons_zero, List.set_cons_succ]
        refine takeQ 2 13 ((.pointer (some ⟨b, o, none⟩))) ?_
        simp only [Act.put, List.setIfInBounds_toArray, List.set_cons_zero, List.set_cons_succ]
        refine takeQ 3 14 ((.agg #[.int .i64 x.e, .int .i64 x.a, .int .i64 x.k, .int .i64 x.m, .string x.s, .int .i64 x.t, .bool x.add, .int .i64 x.fr, .int .i64 x.til])) ?_ (hy := by (intro _w hSw; obtain ⟨b', o', e', _, hp⟩ := hSw.1.at_ (j := 0) hR0; cases e'; rw [HX.out] at hp; simp only [Nat.zero_mul, Nat.add_zero] at hp; have q0 := hp.c0; have q1 := hp.c1; have q2 := hp.c2; have q3 := hp.c3; have q4 := hp.c4; have q5 := hp.c5; have q6 := hp.c6; have q7 := hp.c7; have q8 := hp.c8; clear hp; clear hSw; go_simp))
        simp only [Act.put, List.setIfInBounds_toArray, List.set_cons_zero, List.set_cons_succ]
        refine callV2 4 5 rfl rfl (by kernel_rfl) (by rfl) (by rfl) (fun K hK => ?_) (fun K hK => ?_)
        · go_simp
          go_at_call 18
          refine (ofDatom_agg x _).mono ?_
          rintro e w3 ⟨rfl, hb3⟩
          refine hK.out _ _ (hHeld.next hb3) (fun hHeld3 => ?_)
          clear hK K hHeld hb3
          try simp only [Act.put, List.setIfInBounds_toArray, List.set_cons_zero, List.set_cons_succ]
          refine callV 5 rfl (by kernel_rfl) (by rfl) (fun K hK => ?_)
          go_simp
          obtain ⟨W5, hW5⟩ : ∃ W5, (w3.alloc (.cells #[.int .i64 0, .int .i64 0, .int .i64 0, .int .i64 0, .string ⟨#[]⟩] 52)) = W5 := ⟨_, rfl⟩
          have HZ : Hid (ZBox W5 w3.heap.size) := by show ZBox _ _; rw [← hW5]; exact heap_alloc_new w3 _
          have hB5 : Below w3.heap.size w3 W5 := by rw [← hW5]; exact (Below.refl _ w3).alloc (Nat.le_refl _) _
          rw [hW5]
          refine hK.out _ _ (hHeld3.next hB5) (fun hHeld5 => ?_)
          have HBK := Lib.hid hHeld3.2.2.2.2.size
          clear hK K hHeld3 hW5 hB5
          try simp only [Act.put, List.setIfInBounds_toArray, List.set_cons_zero, List.set_cons_succ]
          obtain ⟨bk, hbk⟩ : ∃ bk, w3.heap.size = bk := ⟨_, rfl⟩
          rw [hbk] at HZ HBK ⊢
          clear hbk
          have z0 := HZ.out.cell 0
          have z1 := HZ.out.cell 1
          have z2 := HZ.out.cell 2
          have z3 := HZ.out.cell 3
          have z4 := HZ.out.cell 4
          have y0 := HZ.out.frozen 0
          have y1 := HZ.out.frozen 1
          have y2 := HZ.out.frozen 2
          have y3 := HZ.out.frozen 3
          have y4 := HZ.out.frozen 4
          simp at z0 z1 z2 z3 z4
          refine callV 6 rfl (by kernel_rfl) (by rfl) (fun K hK => ?_)
          go_simp
          refine hK.out _ _ (hHeld5.far (set5_below HBK.out x)) (fun hHeld9 => ?_)
          have hkey := key_set x HZ.out
          clear hK K hHeld5
          try simp only [Act.put, List.setIfInBounds_toArray, List.set_cons_zero, List.set_cons_succ]
          refine takeQ 7 6 ((.int .i64 1)) ?_
          simp only [Act.put, List.setIfInBounds_toArray, List.set_cons_zero, List.set_cons_succ]
          refine wpAnyH_done (by kernel_rfl) ?_ _
          exact ⟨bk, rfl, hHeld9, hkey⟩
        · go_simp
          obtain ⟨W5, hW5⟩ : ∃ W5, (w1.alloc (.cells #[.int .i64 0, .int .i64 0, .int .i64 0, .int .i64 0, .string ⟨#[]⟩] 52)).drew = W5 := ⟨_, rfl⟩
          have HZ0 : Hid (ZBox W5 w1.heap.size) := by show ZBox _ _; rw [← hW5]; exact heap_alloc_new w1 _
          have hB5 : Below w1.drew.heap.size w1.drew W5 := by rw [← hW5]; exact (Below.refl w1.drew.heap.size w1.drew).alloc (Nat.le_refl _) _
          rw [hW5]
          refine hK.out _ _ (hHeld.next hB5) (fun hHeld4 => ?_)
          clear hK K hHeld hW5 hB5
          try simp only [Act.put, List.setIfInBounds_toArray, List.set_cons_zero, List.set_cons_succ]
          refine callV 4 rfl (by kernel_rfl) (by rfl) (fun K hK => ?_)
          go_simp
          go_at_call 18
          refine (ofDatom_agg x _).mono ?_
          rintro e w6 ⟨rfl, hb3⟩
          refine hK.out _ _ (hHeld4.next hb3) (fun hHeld5 => ?_)
          have HZ := Lib.hid (HZ0.out.next hb3)
          clear hK K hHeld4 hb3
          try simp only [Act.put, List.setIfInBounds_toArray, List.set_cons_zero, List.set_cons_succ]
          obtain ⟨bk, hbk⟩ : ∃ bk, w1.heap.size = bk := ⟨_, rfl⟩
          rw [hbk] at HZ ⊢
          have HBK := Lib.hid (Nat.le_of_eq hbk)
          clear hbk
          have z0 := HZ.out.cell 0
          have z1 := HZ.out.cell 1
          have z2 := HZ.out.cell 2
          have z3 := HZ.out.cell 3
          have z4 := HZ.out.cell 4
          have y0 := HZ.out.frozen 0
          have y1 := HZ.out.frozen 1
          have y2 := HZ.out.frozen 2
          have y3 := HZ.out.frozen 3
          have y4 := HZ.out.frozen 4
          simp at z0 z1 z2 z3 z4
          refine callV 6 rfl (by kernel_rfl) (by rfl) (fun K hK => ?_)
          go_simp
          refine hK.out _ _ (hHeld5.far (set5_below HBK.out x)) (fun hHeld9 => ?_)
          have hkey := key_set x HZ.out
          clear hK K hHeld5
          try simp only [Act.put, List.setIfInBounds_toArray, List.set_cons_zero, List.set_cons_succ]
          refine takeQ 7 6 ((.int .i64 1)) ?_
          simp only [Act.put, List.setIfInBounds_toArray, List.set_cons_zero, List.set_cons_succ]
          refine wpAnyH_done (by kernel_rfl) ?_ _
          exact ⟨bk, rfl, hHeld9, hkey⟩
      intro e a' W4 h
      have he : e = .normal := by cases e <;> first | rfl | exact h.elim
      subst he
      obtain ⟨bk, rfl, hrk⟩ := h
      have HR3 := Lib.hid hrk
      clear hrk
      gi_wp2
      gi_loopw [6] (fun y wr => ∃ n : Nat, y = .int .i64 n ∧ n ≤ R.length ∧ 1 ≤ n ∧ Hid (∀ j (h : j < R.length), j < n → triD R[j] = triD R[0]) ∧ Hid (RunK w1 B (some ⟨b, o, none⟩) R Bk 54 (.func (.func 18) #[] #[]) bk x wr)) (fun y _ => R.length - (intOf y).toNat)
      case atStart => exact ⟨1, rfl, by omega, Nat.le_refl _, (fun j h hj => by obtain rfl : j = 0 := (by omega); rfl), HR3.out⟩
      case round =>
        obtain ⟨n1, rfl, hn, hn1', HSM, HR1⟩ := hrel
        by_cases hnl : n1 = R.length
        · have hnz : ¬ ((n1 : Int) < (R.length : Int)) := by omega
          obtain rfl : n1 = R.length := by omega
          have HRN : Hid (runN triD R = R.length) := runN_is triD hR0 hn1' (by omega) HSM.out (fun h => by omega)
          gi_upto_region 3 with fail
          refine wpIn_wide.2 ?_
          refine wp_region_held_drew (S := RunK w1 B (some ⟨b, o, none⟩) R Bk 54 (.func (.func 18) #[] #[]) bk x) (by kernel_rfl) HR1.out.drew (fun hHeld => ?_)
          refine takeQ 0 16 ((.int .i64 R.length)) ?_
          simp only [Act.put, List.setIfInBounds_toArray, List.set_cons_zero, List.set_cons_succ]
          refine takeQ 1 17 ((.slice (some ⟨b, o, none⟩) R.length c1)) ?_
          simp only [Act.put, List.setIfInBounds_toArray, List.set_cons_zero, List.set_cons_succ]
          refine takeQ 2 18 ((.int .i64 R.length)) ?_
          simp only [Act.put, List.setIfInBounds_toArray, List.set_cons_zero, List.set_cons_succ]
          refine takeQ 3 19 ((.bool false)) ?_
          simp only [Act.put, List.setIfInBounds_toArray, List.set_cons_zero, List.set_cons_succ]
          refine takeQ 4 20 ((.bool false)) ?_
          simp only [Act.put, List.setIfInBounds_toArray, List.set_cons_zero, List.set_cons_succ]
          refine skipQ 5 21 ?_
          simp only [Act.put, List.setIfInBounds_toArray, List.set_cons_zero, List.set_cons_succ]
          refine skipQ 6 22 ?_
          simp only [Act.put, List.setIfInBounds_toArray, List.set_cons_zero, List.set_cons_succ]
          refine skipQ 7 23 ?_
          simp only [Act.put, List.setIfInBounds_toArray, List.set_cons_zero, List.set_cons_succ]
          refine skipQ 8 24 ?_
          simp only [Act.put, List.setIfInBounds_toArray, List.set_cons_zero, List.set_cons_succ]
          refine skipQ 9 25 ?_
          simp only [Act.put, List.setIfInBounds_toArray, List.set_cons_zero, List.set_cons_succ]
          refine skipQ 10 26 ?_
          simp only [Act.put, List.setIfInBounds_toArray, List.set_cons_zero, List.set_cons_succ]
          refine skipQ 11 27 ?_
          simp only [Act.put, List.setIfInBounds_toArray, List.set_cons_zero, List.set_cons_succ]
          refine skipQ 12 28 ?_
          simp only [Act.put, List.setIfInBounds_toArray, List.set_cons_zero, List.set_cons_succ]
          refine takeQ 13 29 ((.bool false)) ?_
          simp only [Act.put, List.setIfInBounds_toArray, List.set_cons_zero, List.set_cons_succ]
          refine wpAnyH_done (by kernel_rfl) ?_ _
          have HR4 := Lib.hid hHeld
          clear hHeld
          gi_upto_region 5 with fail
          have hfol : Tryz.prog.follows .mixedOrders = true := by kernel_rfl
          have hJ4 : J ((allN _).take i) (World.drew _) := abides_to hA HJK.out (below_ind HR4.out.1.2.2.2.2 1)
          obtain ⟨fn, tmps, assign, body, hy, hR⟩ := hY (n - 1) _ ⟨i, hil⟩ _ hJ4 hpre
          rw [HENC.out, HRN.out] at hy
          have HK4 := Lib.hid (HKP.out.trans (kpR_below (below_ind HR4.out.1.2.2.2.2 1) (by omega)))
          have HRN1 := Lib.hid (show 1 ≤ R.length ∧ R.length ≤ R.length from ⟨hn1', by omega⟩)
          have hsl := fun w => sliceD_to (some ⟨b, o, none⟩) R.length c1 R.length (by omega) w
          have hsl2 := fun w => sliceD_from (some ⟨b, o, none⟩) R.length c1 R.length (by omega) hlc1 w
          have q0 := HR4.out.2.cell 0
          have q1 := HR4.out.2.cell 1
          have q2 := HR4.out.2.cell 2
          have q3 := HR4.out.2.cell 3
          have q4 := HR4.out.2.cell 4
          simp at q0 q1 q2 q3 q4
          unfold triV at hy
          have HRR := Lib.hid hR
          clear hR
          gi_region_with_o (refine ⟨wide_deep _, HRR.out.mono ?_⟩; rintro e W5 h8; obtain ⟨bb, rfl, h9⟩ := two_ways h8; clear h8)
          rcases h9 with ⟨rfl, hJ5, hk5⟩ | ⟨rfl, hJx5⟩
          · gi_wp2
            go_roundw
            case rel => exact ⟨i + 1, by rw [HNX.out.1, HNX.out.2, HRN.out, List.length_drop]; try simp, by omega, by rw [HTK.out]; exact hJ5, HK4.out.trans hk5⟩
            case measure => have := HRN1.out; simp [lenV]; omega
          · gi_wp2
            refine bodyPost_ret (results_none rfl _ _ _) rfl ?_
            exact ⟨⟨_, rfl⟩, .inr ⟨(allN _).take (i + 1), HPR.out, by rw [HTK.out]; exact hJx5⟩⟩
        · have hnz : (n1 : Int) < (R.length : Int) := by omega
          have hnn : n1 < R.length := by omega
          obtain ⟨y, hy⟩ : ∃ y, R[n1] = y := ⟨_, rfl⟩
          have HY1 := Lib.hid hy
          by_cases hky : triD y = triD x
          · have hkq := fun w => eqTri y x w
            unfold triV at hkq
            have hkd : decide (triD y = triD x) = true := decide_eq_true hky
            have HSM2 : Hid (∀ j (h : j < R.length), j < n1 + 1 → triD R[j] = triD R[0]) := fun j h hj => by
              by_cases h3 : j < n1
              · exact HSM.out j h h3
              · have : j = n1 := by omega
                subst this
                rw [HY1.out, HX.out]; exact hky
            clear hy hky
            gi_upto_region 3 with fail
            refine wpIn_wide.2 ?_
            refine wp_region_held_drew (S := RunK w1 B (some ⟨b, o, none⟩) R Bk 54 (.func (.func 18) #[] #[]) bk x) (by kernel_rfl) HR1.out.drew (fun hHeld => ?_)
            refine takeQ 0 16 ((.int .i64 n1)) ?_
            simp only [Act.put, List.setIfInBounds_toArray, List.set_cons_zero, List.set_cons_succ]
            refine takeQ 1 17 ((.slice (some ⟨b, o, none⟩) R.length c1)) ?_
            simp only [Act.put, List.setIfInBounds_toArray, List.set_cons_zero, List.set_cons_succ]
            refine takeQ 2 18 ((.int .i64 R.length)) ?_
            simp only [Act.put, List.setIfInBounds_toArray, List.set_cons_zero, List.set_cons_succ]
            refine takeQ 3 19 ((.bool true)) ?_
            simp only [Act.put, List.setIfInBounds_toArray, List.set_cons_zero, List.set_cons_succ]
            refine takeQ 4 20 ((.bool true)) ?_
            simp only [Act.put, List.setIfInBounds_toArray, List.set_cons_zero, List.set_cons_succ]
            refine takeQ 5 21 ((.func (.func 18) #[] #[])) ?_ (hy := by (intro _w hSw; have q0 := hSw.1.2.1.cell; clear hSw; go_simp))
            simp only [Act.put, List.setIfInBounds_toArray, List.set_cons_zero, List.set_cons_succ]
            refine takeQ 6 22 ((.slice (some ⟨b, o, none⟩) R.length c1)) ?_
            simp only [Act.put, List.setIfInBounds_toArray, List.set_cons_zero, List.set_cons_succ]
            refine takeQ 7 23 ((.int .i64 n1)) ?_
            simp only [Act.put, List.setIfInBounds_toArray, List.set_cons_zero, List.set_cons_succ]
            refine takeQ 8 24 ((.pointer (some ⟨b, o + n1 * 9, none⟩))) ?_
            simp only [Act.put, List.setIfInBounds_toArray, List.set_cons_zero, List.set_cons_succ]
            refine takeQ 9 25 ((.agg #[.int .i64 y.e, .int .i64 y.a, .int .i64 y.k, .int .i64 y.m, .string y.s, .int .i64 y.t, .bool y.add, .int .i64 y.fr, .int .i64 y.til])) ?_ (hy := by (intro _w hSw; obtain ⟨b', o', e', _, hp⟩ := hSw.1.1.at_ (j := n1) hnn; cases e'; rw [HY1.out] at hp; have q0 := hp.c0; have q1 := hp.c1; have q2 := hp.c2; have q3 := hp.c3; have q4 := hp.c4; have q5 := hp.c5; have q6 := hp.c6; have q7 := hp.c7; have q8 := hp.c8; clear hp; clear hSw; go_simp))
            simp only [Act.put, List.setIfInBounds_toArray, List.set_cons_zero, List.set_cons_succ]
            refine takeQ 11 27 ((.agg #[.int .i64 x.e, .int .i64 x.a, .int .i64 x.k, .int .i64 x.m, .string x.s])) ?_ (hy := by (intro _w hSw; have q0 := hSw.2.cell 0; have q1 := hSw.2.cell 1; have q2 := hSw.2.cell 2; have q3 := hSw.2.cell 3; have q4 := hSw.2.cell 4; simp at q0 q1 q2 q3 q4; clear hSw; go_simp))
            simp only [Act.put, List.setIfInBounds_toArray, List.set_cons_zero, List.set_cons_succ]
            refine callV 10 rfl (by kernel_rfl) (by rfl) (fun K hK => ?_)
            go_simp
            go_at_call 18
            refine (ofDatom_agg y _).mono ?_
            rintro e w3 ⟨rfl, hb3⟩
            have g3 := hHeld.next hb3
            refine hK.out _ _ g3 (fun hHeld3 => ?_)
            clear hK g3 K hHeld hb3
            try simp only [Act.put, List.setIfInBounds_toArray, List.set_cons_zero, List.set_cons_succ]
            refine takeQ 12 28 ((.bool true)) ?_
            simp only [Act.put, List.setIfInBounds_toArray, List.set_cons_zero, List.set_cons_succ]
            refine takeQ 13 29 ((.bool true)) ?_
            simp only [Act.put, List.setIfInBounds_toArray, List.set_cons_zero, List.set_cons_succ]
            refine wpAnyH_done (by kernel_rfl) ?_ _
            have HR4 := Lib.hid hHeld3
            clear hHeld3
            gi_wp2
            go_roundw
            case measure => simp [intOf]; omega
            case rel => exact ⟨n1 + 1, by go_num, by omega, by omega, HSM2.out, HR4.out⟩
          · have hkq := fun w => eqTri y x w
            unfold triV at hkq
            have hkd : decide (triD y = triD x) = false := decide_eq_false hky
            have HRN : Hid (runN triD R = n1) := runN_is triD hR0 hn1' (by omega) HSM.out (fun h => by rw [HY1.out, HX.out]; exact hky)
            clear hy hky
            gi_upto_region 3 with fail
            refine wpIn_wide.2 ?_
            refine wp_region_held_drew (S := RunK w1 B (some ⟨b, o, none⟩) R Bk 54 (.func (.func 18) #[] #[]) bk x) (by kernel_rfl) HR1.out.drew (fun hHeld => ?_)
            refine takeQ 0 16 ((.int .i64 n1)) ?_
            simp only [Act.put, List.setIfInBounds_toArray, List.set_cons_zero, List.set_cons_succ]
            refine takeQ 1 17 ((.slice (some ⟨b, o, none⟩) R.length c1)) ?_
            simp only [Act.put, List.setIfInBounds_toArray, List.set_cons_zero, List.set_cons_succ]
            refine takeQ 2 18 ((.int .i64 R.length)) ?_
            simp only [Act.put, List.setIfInBounds_toArray, List.set_cons_zero, List.set_cons_succ]
            refine takeQ 3 19 ((.bool true)) ?_
            simp only [Act.put, List.setIfInBounds_toArray, List.set_cons_zero, List.set_cons_succ]
            refine takeQ 4 20 ((.bool true)) ?_
            simp only [Act.put, List.setIfInBounds_toArray, List.set_cons_zero, List.set_cons_succ]
            refine takeQ 5 21 ((.func (.func 18) #[] #[])) ?_ (hy := by (intro _w hSw; have q0 := hSw.1.2.1.cell; clear hSw; go_simp))
            simp only [Act.put, List.setIfInBounds_toArray, List.set_cons_zero, List.set_cons_succ]
            refine takeQ 6 22 ((.slice (some ⟨b, o, none⟩) R.length c1)) ?_
            simp only [Act.put, List.setIfInBounds_toArray, List.set_cons_zero, List.set_cons_succ]
            refine takeQ 7 23 ((.int .i64 n1)) ?_
            simp only [Act.put, List.setIfInBounds_toArray, List.set_cons_zero, List.set_cons_succ]
            refine takeQ 8 24 ((.pointer (some ⟨b, o + n1 * 9, none⟩))) ?_
            simp only [Act.put, List.setIfInBounds_toArray, List.set_cons_zero, List.set_cons_succ]
            refine takeQ 9 25 ((.agg #[.int .i64 y.e, .int .i64 y.a, .int .i64 y.k, .int .i64 y.m, .string y.s, .int .i64 y.t, .bool y.add, .int .i64 y.fr, .int .i64 y.til])) ?_ (hy := by (intro _w hSw; obtain ⟨b', o', e', _, hp⟩ := hSw.1.1.at_ (j := n1) hnn; cases e'; rw [HY1.out] at hp; have q0 := hp.c0; have q1 := hp.c1; have q2 := hp.c2; have q3 := hp.c3; have q4 := hp.c4; have q5 := hp.c5; have q6 := hp.c6; have q7 := hp.c7; have q8 := hp.c8; clear hp; clear hSw; go_simp))
            simp only [Act.put, List.setIfInBounds_toArray, List.set_cons_zero, List.set_cons_succ]
            refine takeQ 11 27 ((.agg #[.int .i64 x.e, .int .i64 x.a, .int .i64 x.k, .int .i64 x.m, .string x.s])) ?_ (hy := by (intro _w hSw; have q0 := hSw.2.cell 0; have q1 := hSw.2.cell 1; have q2 := hSw.2.cell 2; have q3 := hSw.2.cell 3; have q4 := hSw.2.cell 4; simp at q0 q1 q2 q3 q4; clear hSw; go_simp))
            simp only [Act.put, List.setIfInBounds_toArray, List.set_cons_zero, List.set_cons_succ]
            refine callV 10 rfl (by kernel_rfl) (by rfl) (fun K hK => ?_)
            go_simp
            go_at_call 18
            refine (ofDatom_agg y _).mono ?_
            rintro e w3 ⟨rfl, hb3⟩
            have g3 := hHeld.next hb3
            refine hK.out _ _ g3 (fun hHeld3 => ?_)
            clear hK g3 K hHeld hb3
            try simp only [Act.put, List.setIfInBounds_toArray, List.set_cons_zero, List.set_cons_succ]
            refine takeQ 12 28 ((.bool false)) ?_
            simp only [Act.put, List.setIfInBounds_toArray, List.set_cons_zero, List.set_cons_succ]
            refine takeQ 13 29 ((.bool false)) ?_
            simp only [Act.put, List.setIfInBounds_toArray, List.set_cons_zero, List.set_cons_succ]
            refine wpAnyH_done (by kernel_rfl) ?_ _
            have HR4 := Lib.hid hHeld3
            clear hHeld3
            gi_upto_region 5 with fail
            have hfol : Tryz.prog.follows .mixedOrders = true := by kernel_rfl
            have hJ4 : J ((allN _).take i) (World.drew _) := abides_to hA HJK.out (below_ind HR4.out.1.2.2.2.2 1)
            obtain ⟨fn, tmps, assign, body, hy, hR⟩ := hY (n - 1) _ ⟨i, hil⟩ _ hJ4 hpre
            rw [HENC.out, HRN.out] at hy
            have HK4 := Lib.hid (HKP.out.trans (kpR_below (below_ind HR4.out.1.2.2.2.2 1) (by omega)))
            have HRN1 := Lib.hid (show 1 ≤ n1 ∧ n1 ≤ R.length from ⟨hn1', by omega⟩)
            have hsl := fun w => sliceD_to (some ⟨b, o, none⟩) R.length c1 n1 (by omega) w
            have hsl2 := fun w => sliceD_from (some ⟨b, o, none⟩) R.length c1 n1 (by omega) hlc1 w
            have q0 := HR4.out.2.cell 0
            have q1 := HR4.out.2.cell 1
            have q2 := HR4.out.2.cell 2
            have q3 := HR4.out.2.cell 3
            have q4 := HR4.out.2.cell 4
            simp at q0 q1 q2 q3 q4
            unfold triV at hy
            have HRR := Lib.hid hR
            clear hR
            gi_region_with_o (refine ⟨wide_deep _, HRR.out.mono ?_⟩; rintro e W5 h8; obtain ⟨bb, rfl, h9⟩ := two_ways h8; clear h8)
            rcases h9 with ⟨rfl, hJ5, hk5⟩ | ⟨rfl, hJx5⟩
            · gi_wp2
              go_roundw
              case rel => exact ⟨i + 1, by rw [HNX.out.1, HNX.out.2, HRN.out, List.length_drop]; try simp, by omega, by rw [HTK.out]; exact hJ5, HK4.out.trans hk5⟩
              case measure => have := HRN1.out; simp [lenV]; omega
            · gi_wp2
              refine bodyPost_ret (results_none rfl _ _ _) rfl ?_
              exact ⟨⟨_, rfl⟩, .inr ⟨(allN _).take (i + 1), HPR.out, by rw [HTK.out]; exact hJx5⟩⟩
    · have hre := restR_end triD (l := l) (i := i) (by omega)
      rw [hre]
      rw [List.take_of_length_le (by rw [allN_len]; omega)] at hJk
      gi_wp2
      go_end0
      exact ⟨⟨_, rfl⟩, .inl hJk⟩
end Go.Proofs.YthdjlaombbeagaaGreat

/-
  CONTRACT: Has.
-/
namespace Go.Proofs.YthdjlaombbeagaaGreat
open Go.RowKit

def inS (s : Sp) (t : Int) : Bool := decide (s.1 ≤ t) && decide (t < s.2)
theorem innB_any (l : List Sp) (t : Int) : innB l t = l.any fun s => inS s t := by
  rw [Bool.eq_iff_iff]
  unfold innB inS
  rw [decide_eq_true_iff, List.any_eq_true]
  constructor
  · rintro ⟨s, h, h1, h2⟩; exact ⟨s, h, by simp [h1, h2]⟩
  · rintro ⟨s, h, h1⟩
    simp only [Bool.and_eq_true, decide_eq_true_eq] at h1
    exact ⟨s, h, h1.1, h1.2⟩
set_option maxHeartbeats 1000000 in
theorem has1_any (x y t : Int) (Bt : Nat) (w : World) (v : Bool) (hv : inS (x, y) t = v) (hb : w.cell? ⟨Bt, 0, none⟩ = some (.int .i64 t)) (hlt : Bt < w.heap.size) :
    Calls Tryz.prog 86 #[.agg #[.int .i64 x, .int .i64 y], .pointer (some ⟨Bt, 0, none⟩)] w fun e w' => e = .returned (.bool v) ∧ Below w.heap.size w w' := by
  have b0 : (w.alloc (.cells #[.int .i64 x, .int .i64 y] 88)).cell? ⟨Bt, 0, none⟩ = some (.int .i64 t) := (World.cell?_alloc_lt _ _ ⟨Bt, 0, none⟩ hlt).trans hb
  subst hv
  clear hb
  by_cases h1 : x ≤ t
  · by_cases h2 : t < y
    · have e : Hid (inS (x, y) t = true) := by show _ = _; unfold inS; simp [h1, h2]
      go_enter Tryz.func86, Tryz.ntmps86
      go_wp2
      go_ret
      exact ⟨by rw [e.out]; rfl, (Below.refl _ _).alloc (Nat.le_refl _) _⟩
    · have e : Hid (inS (x, y) t = false) := by show _ = _; unfold inS; simp [h2]
      go_enter Tryz.func86, Tryz.ntmps86
      go_wp2
      go_ret
      exact ⟨by rw [e.out]; rfl, (Below.refl _ _).alloc (Nat.le_refl _) _⟩
  · have e : Hid (inS (x, y) t = false) := by show _ = _; unfold inS; simp [h1]
    have h1' : decide (x ≤ t) = false := decide_eq_false h1
    go_enter Tryz.func86, Tryz.ntmps86
    go_wp2
    go_ret
    exact ⟨by rw [e.out]; rfl, (Below.refl _ _).alloc (Nat.le_refl _) _⟩

set_option maxRecDepth 100000 in
set_option maxHeartbeats 1000000 in
theorem indexS_any (A : Option Addr) (c : Nat) (l : List Sp) (t : Int) (Bt : Nat) (w : World) (hs : SlS w w.heap.size A l) (hl : l.length ≤ 100000) (hb : w.cell? ⟨Bt, 0, none⟩ = some (.int .i64 t)) (hlt : Bt < w.heap.size) :
    Calls Tryz.prog 116 #[.slice A l.length c, .func (.func 86) #[] #[.pointer (some ⟨Bt, 0, none⟩)]] w fun e w' => (∃ k : Int, e = .returned (.int .i64 k) ∧ (innB l t = true ∧ 0 ≤ k ∨ innB l t = false ∧ k = -1)) ∧ Below w.heap.size w w' := by
  have HS := Lib.hid hs
  have HT := Lib.hid hb
  clear hs hb
  go_enter Tryz.func116, Tryz.ntmps116
  go_wp2
  go_loopg [5, 8] l.length (fun g _ y wr => ∃ j : Nat, y = .int .i64 j ∧ j + g = l.length ∧ Hid ((l.take j).any (fun s => inS s t) = false) ∧ Hid (Below w.heap.size w wr))
  case atStart => exact ⟨0, rfl, by omega, rfl, Below.refl _ _⟩
  case round =>
    obtain ⟨j, rfl, hj, HN, HB⟩ := hrel
    cases gk with
    | zero =>
      have hjz : ¬ ((j : Int) < (l.length : Int)) := by omega
      have HE : Hid (innB l t = false) := by
        show _ = _
        rw [innB_any]
        have := HN.out
        rwa [List.take_of_length_le (by omega)] at this
      go_wp2
      go_ret
      exact ⟨⟨_, rfl, .inr ⟨HE.out, rfl⟩⟩, HB.out⟩
    | succ g =>
      have hjz : (j : Int) < (l.length : Int) := by omega
      have hjn : j < l.length := by omega
      obtain ⟨b, o, rfl, _, hp⟩ := (HS.out.next HB.out (Nat.le_refl _)).at_ hjn
      have hts := List.take_succ_eq_append_getElem hjn
      obtain ⟨⟨x, y⟩, hse⟩ : ∃ s, l[j] = s := ⟨_, rfl⟩
      have hmem : (x, y) ∈ l := by rw [← hse]; exact List.getElem_mem hjn
      rw [hse] at hp hts
      have c0 := hp.c0
      have c1 := hp.c1
      have HTS := Lib.hid hts
      have HM := Lib.hid hmem
      have hbz := HB.out.size
      have hbt := (HB.out.cell (p := ⟨Bt, 0, none⟩) hlt).trans HT.out
      have HBT := Lib.hid hbt
      clear hp hse hts hbt hmem
      cases hv : inS (x, y) t
      · have HW := Lib.hid (fun X h1 h2 => has1_any x y t Bt X false hv h1 h2)
        have HST : Hid ((l.take (j + 1)).any (fun s => inS s t) = false) := by show _ = _; rw [HTS.out, List.any_append, HN.out]; simp [hv]
        clear hv
        go_wp2_with fail
        refine (HW.out _ HBT.out (by omega)).mono ?_
        rintro e w9 ⟨rfl, hb9⟩
        have HB9 := Lib.hid (HB.out.trans (hb9.mono hbz))
        clear hb9 c0 c1
        go_wp2
        go_roundg g
        case measure => omega
        case rel => exact ⟨j + 1, by go_num, by omega, HST.out, HB9.out⟩
      · have HW := Lib.hid (fun X h1 h2 => has1_any x y t Bt X true hv h1 h2)
        have HE : Hid (innB l t = true) := by show _ = _; rw [innB_any, List.any_eq_true]; exact ⟨_, HM.out, hv⟩
        clear hv
        go_wp2_with fail
        refine (HW.out _ HBT.out (by omega)).mono ?_
        rintro e w9 ⟨rfl, hb9⟩
        have HB9 := Lib.hid (HB.out.trans (hb9.mono hbz))
        clear hb9 c0 c1
        go_wp2
        go_ret
        exact ⟨⟨_, rfl, .inl ⟨HE.out, by omega⟩⟩, HB9.out⟩

set_option maxHeartbeats 1000000 in
theorem containsS_any (A : Option Addr) (c : Nat) (l : List Sp) (t : Int) (Bt : Nat) (w : World) (hs : SlS w w.heap.size A l) (hl : l.length ≤ 100000) (hb : w.cell? ⟨Bt, 0, none⟩ = some (.int .i64 t)) (hlt : Bt < w.heap.size) :
    Calls Tryz.prog 85 #[.slice A l.length c, .func (.func 86) #[] #[.pointer (some ⟨Bt, 0, none⟩)]] w fun e w' => e = .returned (.bool (innB l t)) ∧ Below w.heap.size w w' := by
  have HC := Lib.hid (indexS_any A c l t Bt w hs hl hb hlt)
  clear hs hb
  go_enter Tryz.func85, Tryz.ntmps85
  go_wp2_with fail
  refine HC.out.mono ?_
  rintro e w' ⟨⟨k, rfl, h⟩, hb⟩
  have HB := Lib.hid hb
  rcases h with ⟨h1, h2⟩ | ⟨h1, rfl⟩
  · have HE := Lib.hid h1
    have hd : decide ((0 : Int) ≤ k) = true := decide_eq_true h2
    clear h1 hb
    go_wp2
    go_ret
    exact ⟨by rw [HE.out]; rfl, HB.out⟩
  · have HE := Lib.hid h1
    clear h1 hb
    go_wp2
    go_ret
    exact ⟨by rw [HE.out]; rfl, HB.out⟩

set_option maxHeartbeats 1000000 in
theorem hasS_any (A : Option Addr) (c : Nat) (l : List Sp) (t : Int) (w : World) (hs : SlS w w.heap.size A l) (hl : l.length ≤ 100000) :
    Calls Tryz.prog 53 #[.slice A l.length c, .int .i64 t] w fun e w' => e = .returned (.bool (setB l && innB l t)) ∧ Below w.heap.size w w' := by
  have HB0 : Hid (Below w.heap.size w (w.alloc (.cells #[.int .i64 t] 2))) := (Below.refl _ _).alloc (Nat.le_refl _) _
  have HX := Lib.hid (Boxed.new w 2 (.int .i64 t))
  have HS := Lib.hid hs
  clear hs
  go_enter Tryz.func53, Tryz.ntmps53
  cases hv : setB l
  · have HIS := Lib.hid (fun X h => by have h9 := isSet_any A c l X h hl; rw [hv] at h9; exact h9)
    clear hv
    go_wp2_with fail
    refine (HIS.out _ ((HS.out.next HB0.out (Nat.le_refl _)).more HB0.out.size)).mono ?_
    rintro e w1 ⟨rfl, hb1⟩
    have HB1 := Lib.hid (HB0.out.trans (hb1.mono HB0.out.size))
    clear hb1
    go_wp2
    go_ret
    exact ⟨rfl, HB1.out⟩
  · have HIS := Lib.hid (fun X h => by have h9 := isSet_any A c l X h hl; rw [hv] at h9; exact h9)
    clear hv
    go_wp2_with fail
    refine (HIS.out _ ((HS.out.next HB0.out (Nat.le_refl _)).more HB0.out.size)).mono ?_
    rintro e w1 ⟨rfl, hb1⟩
    have HB1 := Lib.hid (HB0.out.trans (hb1.mono HB0.out.size))
    have HX1 := Lib.hid (show Boxed w1 _ _ _ from (hb1.block w.heap.size (by simp)).trans HX.out)
    have HS1 := Lib.hid ((HS.out.next HB1.out (Nat.le_refl _)).more HB1.out.size)
    clear hb1
    go_wp2_with fail
    refine (containsS_any A c l t w.heap.size _ HS1.out hl HX1.out.cell HX1.out.lt).mono ?_
    rintro e w2 ⟨rfl, hb2⟩
    have HB2 := Lib.hid (HB1.out.trans (hb2.mono HB1.out.size))
    clear hb2
    go_wp2
    go_ret
    exact ⟨rfl, HB2.out⟩
end Go.Proofs.YthdjlaombbeagaaGreat

/-
  THE LAW SpanHas: its walk.
-/
namespace Go.Proofs.YthdjlaombbeagaaGreat
open Go.RowKit Go.Shelf

theorem told_set {f : Nat → Bool} {a b l : List Sp} (h : chosenL f a b l) (ha : setB a = true) (hb : setB b = true) (hka : ∀ s ∈ a, SpOk s) (hkb : ∀ s ∈ b, SpOk s) : setB l = true ∧ (∀ s ∈ l, SpOk s) ∧ ∀ x, minT ≤ x → innB l x = decide (wants f (innB a x) (innB b x)) := by
  obtain ⟨r, hr, rfl⟩ := h
  obtain ⟨h1, h2, h3⟩ := told_pick hr (live_of ha hka) (live_of hb hkb) (Int.le_refl _) f [] setL_nil (fun _ h => by cases h)
  refine ⟨decide_eq_true h1, h2, fun x hx => ?_⟩
  unfold innB
  rw [decide_eq_decide]
  refine (h3 x).trans ⟨fun k => ?_, fun k => .inr ⟨hx, k⟩⟩
  rcases k with k | k
  · omega
  · exact k.2
theorem has_is (A : Option Addr) (c : Nat) (l : List Sp) (t : Int) (w : World) (v : Bool) (hv : (setB l && innB l t) = v) (hs : SlS w w.heap.size A l) (hl : l.length ≤ 100000) :
    Calls Tryz.prog 53 #[.slice A l.length c, .int .i64 t] w fun e w' => e = .returned (.bool v) ∧ Below w.heap.size w w' := by
  subst hv; exact hasS_any A c l t w hs hl
end Go.Proofs.YthdjlaombbeagaaGreat

/-
  CONTRACTS: Or, And, Minus by their instants; then.
-/
namespace Go.Proofs.YthdjlaombbeagaaGreat
open Go.RowKit Go.Shelf

/-- a slice's block is one of spans -/
def OfT (W : World) (A : Option Addr) (l : List Sp) : Prop := l ≠ [] → ∃ b o cs fr, A = some ⟨b, o, none⟩ ∧ W.heap[b]? = some (.cells cs 88 fr)
/-- a value that reads as a set's spans -/
def SV (W : World) (v : Value) (l : List Sp) : Prop := ∃ A c, v = .slice A l.length c ∧ SlS W W.heap.size A l ∧ l.length ≤ c ∧ c ≤ maxLen ∧ OfT W A l
theorem SV.next {W W' : World} {v : Value} {l : List Sp} (h : SV W v l) (hb : Below W.heap.size W W') : SV W' v l := by
  obtain ⟨A, c, e, h1, h2, h3, h4⟩ := h
  refine ⟨A, c, e, (h1.next hb (Nat.le_refl _)).more hb.size, h2, h3, fun hl => ?_⟩
  obtain ⟨b, o, cs, fr, e, hc⟩ := h4 hl
  exact ⟨b, o, cs, fr, e, (hb.block b (Array.getElem?_eq_some_iff.1 hc).1).trans hc⟩
theorem ownS_sv {W : World} {B : Nat} {v : Value} {l : List Sp} (h : OwnS W B v l) : SV W v l := by
  obtain ⟨A, c, e, h1, h2, h3⟩ := h.sls
  refine ⟨A, c, e, h1, h2, h3, fun hl => ?_⟩
  rcases h.2 with ⟨_, h0⟩ | ⟨g, cap, cur, e2, _, hgb, _⟩
  · exact absurd (List.length_eq_zero_iff.1 h0) hl
  · rw [e] at e2
    cases e2
    exact ⟨g, 0, _, _, rfl, hgb⟩
/-- What two sets put together answer. -/
def PutEnd (W : World) (p : Int → Prop) (e : Ending) (W' : World) : Prop := (∃ l v, e = .returned (.tuple #[v, .int .i64 0]) ∧ OwnS W' W.heap.size v l ∧ SetL l ∧ (∀ s ∈ l, SpOk s) ∧ ∀ t, Inn l t ↔ p t) ∧ Below W.heap.size W W'
theorem inn_low {l : List Sp} (h : ∀ s ∈ l, SpOk s) {t : Int} (ht : t < minT) : ¬ Inn l t := fun ⟨s, hs, h1, _⟩ => by
  have := (h s hs).1.1
  omega
theorem putEnd_of {W W' : World} {f : Nat → Bool} {a b : List Sp} {e : Ending} (p : Int → Prop) (h : ChEnd W f a b e W') (ha : SetL a) (hb : SetL b) (hka : ∀ s ∈ a, SpOk s) (hkb : ∀ s ∈ b, SpOk s)
    (hw : ∀ t, wants f (innB a t) (innB b t) ↔ p t) (hp : ∀ t, t < minT → ¬ p t) : PutEnd W p e W' := by
  obtain ⟨h1, h2⟩ := h
  have sa : setB a = true := decide_eq_true ha
  have sb : setB b = true := decide_eq_true hb
  rcases h1 with ⟨_, _, l, v, hch, _, rfl, ho⟩ | ⟨h3, _⟩
  · obtain ⟨k1, k2, k3⟩ := told_set hch sa sb hka hkb
    refine ⟨⟨l, v, rfl, ho, of_decide_eq_true k1, k2, fun t => ?_⟩, h2⟩
    by_cases ht : minT ≤ t
    · have := k3 t ht
      unfold innB at this
      rw [← hw t]
      unfold innB
      exact decide_eq_decide.1 this
    · exact ⟨fun g => absurd g (inn_low k2 (by omega)), fun g => absurd g (hp t (by omega))⟩
  · rw [sa, sb] at h3; cases h3
theorem minus_any (a b : List Sp) (va vb : Value) (w : World) (hva : SV w va a) (hvb : SV w vb b) (ha : SetL a) (hb : SetL b) (hka : ∀ s ∈ a, SpOk s) (hkb : ∀ s ∈ b, SpOk s) (hl : 2 * a.length + 2 * b.length ≤ 20000) :
    Calls Tryz.prog 74 #[va, vb] w (PutEnd w (fun t => Inn a t ∧ ¬ Inn b t)) := by
  obtain ⟨A, c, rfl, h1, h2, h3, _⟩ := hva
  obtain ⟨A', c', rfl, h1', h2', h3', _⟩ := hvb
  refine (spanMinus_any A A' c c' a b w h1 h1' h2 h3 h2' h3' hl hka hkb).mono fun e W' h => putEnd_of _ h ha hb hka hkb (fun t => ?_) (fun t ht h => inn_low hka ht h.1)
  unfold wants wantsMinus whoN innB
  by_cases h5 : Inn a t <;> by_cases h6 : Inn b t <;> simp [h5, h6]
theorem or_any (a b : List Sp) (va vb : Value) (w : World) (hva : SV w va a) (hvb : SV w vb b) (ha : SetL a) (hb : SetL b) (hka : ∀ s ∈ a, SpOk s) (hkb : ∀ s ∈ b, SpOk s) (hl : 2 * a.length + 2 * b.length ≤ 20000) :
    Calls Tryz.prog 75 #[va, vb] w (PutEnd w (fun t => Inn a t ∨ Inn b t)) := by
  obtain ⟨A, c, rfl, h1, h2, h3, _⟩ := hva
  obtain ⟨A', c', rfl, h1', h2', h3', _⟩ := hvb
  refine (spanOr_any A A' c c' a b w h1 h1' h2 h3 h2' h3' hl hka hkb).mono fun e W' h => putEnd_of _ h ha hb hka hkb (fun t => ?_) (fun t ht h => h.elim (inn_low hka ht) (inn_low hkb ht))
  unfold wants wantsOr whoN innB
  by_cases h5 : Inn a t <;> by_cases h6 : Inn b t <;> simp [h5, h6]
theorem and_any (a b : List Sp) (va vb : Value) (w : World) (hva : SV w va a) (hvb : SV w vb b) (ha : SetL a) (hb : SetL b) (hka : ∀ s ∈ a, SpOk s) (hkb : ∀ s ∈ b, SpOk s) (hl : 2 * a.length + 2 * b.length ≤ 20000) :
    Calls Tryz.prog 44 #[va, vb] w (PutEnd w (fun t => Inn a t ∧ Inn b t)) := by
  obtain ⟨A, c, rfl, h1, h2, h3, _⟩ := hva
  obtain ⟨A', c', rfl, h1', h2', h3', _⟩ := hvb
  refine (spanAnd_any A A' c c' a b w h1 h1' h2 h3 h2' h3' hl hka hkb).mono fun e W' h => putEnd_of _ h ha hb hka hkb (fun t => ?_) (fun t ht h => inn_low hka ht h.1)
  unfold wants wantsAnd whoN innB
  by_cases h5 : Inn a t <;> by_cases h6 : Inn b t <;> simp [h5, h6]
/-- a turn in its box -/
def TBx (W : World) (b : Nat) (x y : Value) : Prop := W.heap[b]? = some (.cells #[x, y] 62 (0, 0))
theorem TBx.cell {W : World} {b : Nat} {x y : Value} (h : TBx W b x y) (j : Nat) : W.cell? ⟨b, j, none⟩ = (#[x, y])[j]? := by unfold TBx at h; simp [World.cell?, h]
theorem TBx.lt {W : World} {b : Nat} {x y : Value} (h : TBx W b x y) : b < W.heap.size := (Array.getElem?_eq_some_iff.1 h).1
theorem TBx.next {W W' : World} {b : Nat} {x y : Value} (h : TBx W b x y) (hb : Below W.heap.size W W') : TBx W' b x y := (hb.block b h.lt).trans h
theorem slS_apart {W : World} {b bt o n c n' c' : Nat} {a a' : Option Addr} {l : List Sp} (h : ∀ (j : Nat) (v : Sp), l[j]? = some v → SpAt W b (o + j * 2) v) (hl : l ≠ []) (ht : TBx W bt (.slice a n c) (.slice a' n' c')) : b ≠ bt := by
  rintro rfl
  obtain ⟨v, hv⟩ : ∃ v, l[0]? = some v := ⟨l[0]'(List.length_pos_iff.2 hl), List.getElem?_eq_getElem _⟩
  have h1 := (h 0 v hv).c0
  rw [ht.cell] at h1
  match o, h1 with
  | 0, h1 => simp at h1
  | 1, h1 => simp at h1
  | o + 2, h1 => simp at h1
theorem sv_set2 {W : World} {bt n c n' c' : Nat} {a a' : Option Addr} {v u u' : Value} {l : List Sp} (h : SV W v l) (ht : TBx W bt (.slice a n c) (.slice a' n' c')) : SV ((W.setCell ⟨bt, 0, none⟩ u).setCell ⟨bt, 1, none⟩ u') v l := by
  obtain ⟨A, c1, rfl, hs, h2, h3, h4⟩ := h
  refine ⟨A, c1, rfl, fun hl => ?_, h2, h3, fun hl => ?_⟩
  rotate_left
  · obtain ⟨b, o, cs, fr, e, hc⟩ := h4 hl
    have hne : b ≠ bt := by
      rintro rfl
      rw [show W.heap[b]? = _ from ht] at hc
      injection hc with hc
      injection hc with _ h5 _
      exact absurd h5 (by decide)
    exact ⟨b, o, cs, fr, e, ((Below.heap_setCell _ ⟨bt, 1, none⟩ _ b hne).trans (Below.heap_setCell _ ⟨bt, 0, none⟩ _ b hne)).trans hc⟩
  obtain ⟨b, o, e, hlt, hc⟩ := hs hl
  have hne := slS_apart hc hl ht
  have hcell : ∀ i, ((W.setCell ⟨bt, 0, none⟩ u).setCell ⟨bt, 1, none⟩ u').cell? ⟨b, i, none⟩ = W.cell? ⟨b, i, none⟩ := fun i => by
    have g : ((W.setCell ⟨bt, 0, none⟩ u).setCell ⟨bt, 1, none⟩ u').heap[b]? = W.heap[b]? := (Below.heap_setCell _ ⟨bt, 1, none⟩ _ b hne).trans (Below.heap_setCell _ ⟨bt, 0, none⟩ _ b hne)
    exact World.cell?_of_block (w := W) (a := ⟨b, i, none⟩) g
  refine ⟨b, o, e, by simpa using hlt, fun j p hp => ⟨(hcell _).trans (hc j p hp).c0, (hcell _).trans (hc j p hp).c1⟩⟩
/-- What a turn and a later one answer. -/
def ThenEnd (E : List Int) (w : World) (x y : TurnP) (e : Ending) (w' : World) : Prop := (∃ z vi vo, e = .returned (.agg #[vi, vo]) ∧ SV w' vi z.i ∧ SV w' vo z.o ∧ TurnOk E z ∧ (∀ t, Inn z.i t ↔ (Inn x.i t ∧ ¬ Inn y.o t) ∨ Inn y.i t) ∧ ∀ t, Inn z.o t ↔ Inn x.o t ∨ Inn y.o t) ∧ Below w.heap.size w w'
set_option maxRecDepth 100000 in
set_option maxHeartbeats 2000000 in
theorem then_any (E : List Int) (hE : E.length ≤ 6000) (x y : TurnP) (xi xo yi yo : Value) (w : World) (hx : TurnOk E x) (hy : TurnOk E y) (h1 : SV w xi x.i) (h2 : SV w xo x.o) (h3 : SV w yi y.i) (h4 : SV w yo y.o) :
    Calls Tryz.prog 45 #[.agg #[xi, xo], .agg #[yi, yo]] w (ThenEnd E w x y) := by
  have fx := joins_few hx
  have fy := joins_few hy
  have HX := Lib.hid hx
  have HY := Lib.hid hy
  obtain ⟨A1, c1, rfl, g1⟩ := h1
  obtain ⟨A2, c2, rfl, g2⟩ := h2
  obtain ⟨A3, c3, rfl, g3⟩ := h3
  obtain ⟨A4, c4, rfl, g4⟩ := h4
  go_enter Tryz.func45, Tryz.ntmps45
  go_wp2_with fail
  obtain ⟨W0, hW0⟩ : ∃ W0, (((w.alloc (.cells #[.slice A1 x.i.length c1, .slice A2 x.o.length c2] 62)).alloc (.cells #[.slice A3 y.i.length c3, .slice A4 y.o.length c4] 62)).alloc (.cells #[.slice none 0 0, .slice none 0 0] 62)) = W0 := ⟨_, rfl⟩
  have hB0 : Below w.heap.size w W0 := by rw [← hW0]; exact (((Below.refl _ w).alloc (Nat.le_refl _) _).alloc (by simp) _).alloc (by simp; omega) _
  have T2 : Hid (TBx W0 w.heap.size (.slice A1 x.i.length c1) (.slice A2 x.o.length c2)) := by
    show TBx _ _ _ _
    rw [← hW0]
    exact ((TBx.next (heap_alloc_new w _) ((Below.refl _ _).alloc (Nat.le_refl _) _)).next ((Below.refl _ _).alloc (Nat.le_refl _) _))
  have T3 : Hid (TBx W0 (w.heap.size + 1) (.slice A3 y.i.length c3) (.slice A4 y.o.length c4)) := by
    show TBx _ _ _ _
    rw [← hW0]
    have h := heap_alloc_new (w.alloc (.cells #[.slice A1 x.i.length c1, .slice A2 x.o.length c2] 62)) (.cells #[.slice A3 y.i.length c3, .slice A4 y.o.length c4] 62)
    rw [World.size_alloc] at h
    exact TBx.next h ((Below.refl _ _).alloc (Nat.le_refl _) _)
  have T4 : Hid (TBx W0 (w.heap.size + 1 + 1) (.slice none 0 0) (.slice none 0 0)) := by
    show TBx _ _ _ _
    rw [← hW0]
    have h := heap_alloc_new ((w.alloc (.cells #[.slice A1 x.i.length c1, .slice A2 x.o.length c2] 62)).alloc (.cells #[.slice A3 y.i.length c3, .slice A4 y.o.length c4] 62)) (.cells #[.slice none 0 0, .slice none 0 0] 62)
    rw [World.size_alloc, World.size_alloc] at h
    exact h
  rw [hW0]
  have S1 := Lib.hid (SV.next ⟨A1, c1, rfl, g1⟩ hB0)
  have S2 := Lib.hid (SV.next ⟨A2, c2, rfl, g2⟩ hB0)
  have S3 := Lib.hid (SV.next ⟨A3, c3, rfl, g3⟩ hB0)
  have S4 := Lib.hid (SV.next ⟨A4, c4, rfl, g4⟩ hB0)
  have HB0 := Lib.hid hB0
  clear hW0 hB0 g1 g2 g3 g4 hx hy
  refine (minus_any x.i y.o _ _ W0 S1.out S4.out HX.out.i HY.out.o HX.out.ik HY.out.ok (by omega)).mono ?_
  rintro e w1 ⟨⟨m, v, rfl, ho, hs, hk, hm⟩, hb⟩
  have M1 := Lib.hid (ownS_sv ho)
  have MP := Lib.hid (And.intro hs (And.intro hk hm))
  have R2 := Lib.hid (T2.out.next hb)
  have R3 := Lib.hid (T3.out.next hb)
  have R4 := Lib.hid (T4.out.next hb)
  have V2 := Lib.hid (S2.out.next hb)
  have V3 := Lib.hid (S3.out.next hb)
  have V4 := Lib.hid (S4.out.next hb)
  have HB1 := Lib.hid (HB0.out.trans (hb.mono HB0.out.size))
  have fm : 2 * m.length ≤ E.length := set_few2 hs ((HX.out.ie.and HY.out.oe.not).iff hm)
  have q0 := R3.out.cell 0
  simp at q0
  clear ho hs hk hm hb T2 T3 T4 S1 S2 S3 S4 HB0
  go_wp2_with fail
  refine (or_any m y.i _ _ w1 M1.out V3.out MP.out.1 HY.out.i MP.out.2.1 HY.out.ik (by omega)).mono ?_
  rintro e w2 ⟨⟨zi, vi, rfl, ho, hs, hk, hm⟩, hb⟩
  have N1 := Lib.hid (ownS_sv ho)
  have NP := Lib.hid (And.intro hs (And.intro hk hm))
  have U2 := Lib.hid (R2.out.next hb)
  have U3 := Lib.hid (R3.out.next hb)
  have U4 := Lib.hid (R4.out.next hb)
  have X2 := Lib.hid (V2.out.next hb)
  have X4 := Lib.hid (V4.out.next hb)
  have HB2 := Lib.hid (HB1.out.trans (hb.mono HB1.out.size))
  have p0 := U2.out.cell 1
  have p1 := U3.out.cell 1
  simp at p0 p1
  clear ho hs hk hm hb R2 R3 R4 V2 V3 V4 HB1 q0
  go_wp2_with fail
  refine (or_any x.o y.o _ _ w2 X2.out X4.out HX.out.o HY.out.o HX.out.ok HY.out.ok (by omega)).mono ?_
  rintro e w3 ⟨⟨zo, vo, rfl, ho, hs, hk, hm⟩, hb⟩
  have K1 := Lib.hid (ownS_sv ho)
  have KP := Lib.hid (And.intro hs (And.intro hk hm))
  have N3 := Lib.hid (N1.out.next hb)
  have Y4 := Lib.hid (U4.out.next hb)
  have HB3 := Lib.hid (HB2.out.trans (hb.mono HB2.out.size))
  have r0 := Y4.out.cell 0
  have r1 := Y4.out.cell 1
  have rf0 : w3.frozen? ⟨w.heap.size + 1 + 1, 0, none⟩ = false := by have h := Y4.out; unfold TBx at h; simp [World.frozen?, h]
  have rf1 : w3.frozen? ⟨w.heap.size + 1 + 1, 1, none⟩ = false := by have h := Y4.out; unfold TBx at h; simp [World.frozen?, h]
  simp at r0 r1
  obtain ⟨Ai, ci, rfl, gi⟩ := N3.out
  obtain ⟨Ao, co, rfl, go⟩ := K1.out
  have GI := Lib.hid gi
  have GO := Lib.hid go
  clear ho hs hk hm hb U2 U3 U4 X2 X4 HB2 p0 p1 gi go
  go_wp2
  refine bodyPost_ret (v := .agg #[.slice Ai zi.length ci, .slice Ao zo.length co]) ?_ rfl ⟨⟨⟨zi, zo⟩, _, _, rfl, ?_, ?_, ⟨NP.out.1, KP.out.1, NP.out.2.1, KP.out.2.1, ?_, ?_⟩, ?_, ?_⟩, ?_⟩
  · rw [results_cell_only rfl]; go_simp
  · exact sv_set2 N3.out Y4.out
  · exact sv_set2 K1.out Y4.out
  · exact (((HX.out.ie.and HY.out.oe.not).iff MP.out.2.2).or HY.out.ie).iff NP.out.2.2
  · exact (HX.out.oe.or HY.out.oe).iff KP.out.2.2
  · intro t
    rw [NP.out.2.2, MP.out.2.2]
  · exact KP.out.2.2
  · exact (HB3.out.setCell (p := ⟨w.heap.size + 1 + 1, 0, none⟩) (by show _ ≤ _ + 1 + 1; omega) _).setCell (p := ⟨w.heap.size + 1 + 1, 1, none⟩) (by show _ ≤ _ + 1 + 1; omega) _
end Go.Proofs.YthdjlaombbeagaaGreat

/-
  CONTRACT: turnOf (one transaction's datoms of one triple).
-/
namespace Go.Proofs.YthdjlaombbeagaaGreat
open Go.RowKit Go.Shelf

/-- two rows are none the same -/
def Ap (u v : Value) : Prop := ∀ g, u.ownBlock = some g → v.ownBlock = some g → False
theorem Ap.symm {u v : Value} (h : Ap u v) : Ap v u := fun g h1 h2 => h g h2 h1
theorem ap_kept {u v : Value} (h : Ap u v) : v.ownBlock = none ∨ v.ownBlock ≠ u.ownBlock := by
  cases hv : v.ownBlock with
  | none => exact .inl rfl
  | some k => exact .inr fun e => h k e.symm hv
theorem ap_next {W : World} {B size n : Nat} {t : TypeId} {u u' v : Value} {xs : List Value} (h : Ap u v) (hv : W.ownsRow B t size v n xs) (hat : u'.ownBlock = u.ownBlock ∨ u'.ownBlock = some W.heap.size) : Ap u' v := fun g h1 h2 => by
  rcases hat with e | e
  · exact h g (e ▸ h1) h2
  · have h3 := (World.ownsRow.lt hv g h2).2
    rw [e] at h1
    injection h1 with h1
    omega
theorem spOk_of {r l : List Sp} (hr : SetL r) (h : ∀ t, Inn r t ↔ Inn l t) (hl : ∀ q ∈ l, SpOk q) : ∀ q ∈ r, SpOk q := fun q hq => by
  obtain ⟨a, ha, h1, h2⟩ := (h _).1 (set_start hr hq).1
  obtain ⟨b, hb, h3, h4⟩ := (h _).1 (set_end hr hq).1
  have k1 := hl a ha
  have k2 := hl b hb
  have k3 := hr.2 q hq
  unfold SpOk at *
  exact ⟨⟨by omega, by omega⟩, by omega, by omega⟩
theorem own_set2 {W : World} {B bt : Nat} {x y v u u' : Value} {l : List Sp} (h : OwnS W B v l) (ht : TBx W bt x y) : OwnS ((W.setCell ⟨bt, 0, none⟩ u).setCell ⟨bt, 1, none⟩ u') B v l := by
  have hg : W.grownBy ((W.setCell ⟨bt, 0, none⟩ u).setCell ⟨bt, 1, none⟩ u') (some bt) :=
    ⟨rfl, rfl, rfl, by simp [World.setCell], fun k _ hne => (Below.heap_setCell _ ⟨bt, 1, none⟩ _ k (fun e => hne (by rw [e]))).trans (Below.heap_setCell _ ⟨bt, 0, none⟩ _ k (fun e => hne (by rw [e])))⟩
  refine World.ownsRow.kept h hg ?_
  rcases h.2 with ⟨rfl, _⟩ | ⟨g, cap, cur, rfl, _, hgb, _⟩
  · exact .inl rfl
  · refine .inr (fun e => ?_)
    have e2 : g = bt := by injection e
    subst e2
    rw [show W.heap[g]? = _ from ht] at hgb
    injection hgb with hgb
    injection hgb with _ h2 _
    exact absurd h2 (by decide)
/-- What turnOf answers. -/
def TurnEnd (w : World) (r : List Dat) (e : Ending) (w' : World) : Prop := (∃ x vi vo ok, e = .returned (.tuple #[.agg #[vi, vo], .bool ok]) ∧ IsTurn r x ∧ (∀ q ∈ x.i, SpOk q) ∧ (∀ q ∈ x.o, SpOk q) ∧ (ok = true ↔ ¬ Clash r) ∧ OwnS w' w.heap.size vi x.i ∧ OwnS w' w.heap.size vo x.o) ∧ Below w.heap.size w w'
theorem adds_take {r : List Dat} {j : Nat} {d : Dat} (h : r[j]? = some d) : addsL (r.take (j + 1)) = addsL (r.take j) ++ (if d.add = true then [spD d] else []) ∧ cutsL (r.take (j + 1)) = cutsL (r.take j) ++ (if d.add = true then [] else [spD d]) := by
  have ht : r.take (j + 1) = r.take j ++ [d] := by rw [List.take_add_one, h]; rfl
  rw [ht]
  unfold addsL cutsL
  rw [List.filter_append, List.map_append, List.filter_append, List.map_append]
  cases hd : d.add <;> simp [hd]
theorem adds_len (r : List Dat) : (addsL r).length ≤ r.length ∧ (cutsL r).length ≤ r.length := by
  unfold addsL cutsL
  rw [List.length_map, List.length_map]
  exact ⟨List.length_filter_le _ _, List.length_filter_le _ _⟩
theorem adds_mem {r : List Dat} {q : Sp} (h : q ∈ addsL r ∨ q ∈ cutsL r) : ∃ d ∈ r, q = spD d := by
  rcases h with h | h
  · obtain ⟨d, hd, rfl⟩ := List.mem_map.1 h
    exact ⟨d, (List.mem_filter.1 hd).1, rfl⟩
  · obtain ⟨d, hd, rfl⟩ := List.mem_map.1 h
    exact ⟨d, (List.mem_filter.1 hd).1, rfl⟩

set_option maxRecDepth 100000 in
set_option maxHeartbeats 4000000 in
theorem turnOf_any (A : Option Addr) (c : Nat) (r : List Dat) (w : World) (hs : SlD w w.heap.size A r) (hl : r.length ≤ 3000) (hv : ∀ d ∈ r, d.fr < d.til) (hk : ∀ d ∈ r, SpOk (spD d)) :
    Calls Tryz.prog 21 #[.slice A r.length c] w (TurnEnd w r) := by
  obtain ⟨i0, hi, hj0, hj1, hj2⟩ := info_parts info92
  have hmx : 100001 ≤ maxLen := by decide
  have HS := Lib.hid hs
  have HV := Lib.hid hv
  have HK := Lib.hid hk
  clear hs hv hk
  go_enter Tryz.func21, Tryz.ntmps21
  go_wp2
  obtain ⟨w0, hw0⟩ : ∃ w0, w.alloc (.cells #[.slice none 0 0, .slice none 0 0] 62) = w0 := ⟨_, rfl⟩
  have HZ0 : Hid (w0.heap.size = w.heap.size + 1) := by show _ = _; rw [← hw0]; simp
  have HB0 : Hid (Below w.heap.size w w0) := by rw [← hw0]; exact (Below.refl _ _).alloc (Nat.le_refl _) _
  have HT0 : Hid (TBx w0 w.heap.size (.slice none 0 0) (.slice none 0 0)) := by show TBx _ _ _ _; rw [← hw0]; exact heap_alloc_new w _
  rw [hw0]
  clear hw0
  go_loopg [4, 5, 17] r.length (fun g x4 x5 x17 wr => ∃ j : Nat, OwnS wr (w.heap.size + 1) x4 (addsL (r.take j)) ∧ OwnS wr (w.heap.size + 1) x5 (cutsL (r.take j)) ∧ Ap x4 x5 ∧ x17 = .int .i64 j ∧ j + g = r.length ∧ Hid (Below (w.heap.size + 1) w0 wr))
  case atStart => exact ⟨0, ownS_nil _ _, ownS_nil _ _, (fun g h => by cases h), rfl, by omega, Below.refl _ _⟩
  case round =>
    obtain ⟨j, ho4, ho5, hap, rfl, hj, HB⟩ := hrel
    have hl4 := (adds_len (r.take j)).1
    have hl5 := (adds_len (r.take j)).2
    rw [List.length_take] at hl4 hl5
    cases gk with
    | zero =>
      have hjz : ¬ ((j : Int) < (r.length : Int)) := by omega
      rw [List.take_of_length_le (by omega)] at ho4 ho5
      have HBW : Hid (Below w.heap.size w wr) := HB0.out.trans (HB.out.mono (Nat.le_succ _))
      have HTR : Hid (TBx wr w.heap.size (.slice none 0 0) (.slice none 0 0)) := (HB.out.block w.heap.size (Nat.lt_succ_self _)).trans HT0.out
      obtain ⟨A4, c4, rfl, s4, _, _⟩ := ho4.sls
      obtain ⟨A5, c5, rfl, s5, _, _⟩ := ho5.sls
      have z4 := (adds_len r).1
      have z5 := (adds_len r).2
      have kk : ∀ q, (q ∈ addsL r ∨ q ∈ cutsL r) → SpOk q ∧ q.1 < q.2 := fun q hq => by
        obtain ⟨d, hd, rfl⟩ := adds_mem hq
        exact ⟨HK.out d hd, HV.out d hd⟩
      have HKK := Lib.hid kk
      have S5 := Lib.hid s5
      clear kk ho4 ho5 s5 hl4 hl5 hap
      go_wp2_with fail
      refine (make_ok A4 c4 (addsL r) wr s4 (by omega) (fun q hq => (HKK.out q (.inl hq)).2)).mono ?_
      rintro e w2 ⟨li, vi, hi1, hi2, rfl, hoi, hb⟩
      have HB2 := Lib.hid (HBW.out.trans (hb.mono HBW.out.size))
      have HI := Lib.hid (And.intro hi1 hi2)
      have HOI := Lib.hid hoi
      have S52 := Lib.hid ((S5.out.next hb (Nat.le_refl _)).more hb.size)
      have HT2 := Lib.hid (HTR.out.next hb)
      have fi : 2 * li.length ≤ 6000 := by
        have h := set_few2 hi1 ((turnsAt_inn (addsL r)).iff hi2)
        rw [endsP_len] at h
        omega
      clear hi1 hi2 hoi hb s4 S5 HTR
      go_wp2_with fail
      refine (make_ok A5 c5 (cutsL r) w2 S52.out (by omega) (fun q hq => (HKK.out q (.inr hq)).2)).mono ?_
      rintro e w3 ⟨lo, vo, hi1, hi2, rfl, hoo, hb⟩
      have HB3 := Lib.hid (HB2.out.trans (hb.mono HB2.out.size))
      have HO := Lib.hid (And.intro hi1 hi2)
      have HOO := Lib.hid (hoo.low HB2.out.size)
      have HOI3 := Lib.hid ((HOI.out.low HBW.out.size).next hb)
      have HT3 := Lib.hid (HT2.out.next hb)
      have fo : 2 * lo.length ≤ 6000 := by
        have h := set_few2 hi1 ((turnsAt_inn (cutsL r)).iff hi2)
        rw [endsP_len] at h
        omega
      have ki := spOk_of HI.out.1 HI.out.2 (fun q hq => (HKK.out q (.inl hq)).1)
      have ko := spOk_of hi1 hi2 (fun q hq => (HKK.out q (.inr hq)).1)
      have HKI := Lib.hid ki
      have HKO := Lib.hid ko
      clear hi1 hi2 hoo hb S52 HT2 HOI ki ko
      go_wp2_with fail
      refine (and_any li lo vi vo w3 (ownS_sv HOI3.out) (ownS_sv HOO.out) HI.out.1 HO.out.1 HKI.out HKO.out (by omega)).mono ?_
      rintro e w4 ⟨⟨lc, vc, rfl, hoc, hcs, hck, hci⟩, hb⟩
      have HB4 := Lib.hid (HB3.out.trans (hb.mono HB3.out.size))
      have HOI4 := Lib.hid (HOI3.out.next hb)
      have HOO4 := Lib.hid (HOO.out.next hb)
      have HT4 := Lib.hid (HT3.out.next hb)
      have HCL : Hid (lc = [] ↔ ¬ Clash r) := by
        show _ ↔ _
        have hcl : Clash r ↔ ∃ t, Inn lc t := exists_congr fun t => (and_congr (HI.out.2 t) (HO.out.2 t)).symm.trans (hci t).symm
        rw [hcl]
        constructor
        · rintro rfl ⟨t, h⟩
          exact inn_nil t h
        · intro h
          cases lc with
          | nil => rfl
          | cons q lc => exact absurd ⟨_, (set_start hcs (List.mem_cons_self)).1⟩ h
      obtain ⟨Ac, cc, rfl, _, _, _⟩ := hoc.sls
      obtain ⟨Ai, ci, rfl, _, _, _⟩ := HOI4.out.sls
      obtain ⟨Ao, co, rfl, _, _, _⟩ := HOO4.out.sls
      have r0 := HT4.out.cell 0
      have r1 := HT4.out.cell 1
      have rf0 : w4.frozen? ⟨w.heap.size, 0, none⟩ = false := by have h := HT4.out; unfold TBx at h; simp [World.frozen?, h]
      have rf1 : w4.frozen? ⟨w.heap.size, 1, none⟩ = false := by have h := HT4.out; unfold TBx at h; simp [World.frozen?, h]
      simp at r0 r1
      clear hoc hcs hck hci hb HT3 HOI3 HOO
      by_cases hn : lc = []
      · subst hn
        have HC2 := Lib.hid (HCL.out.1 rfl)
        go_wp2
        refine bodyPost_ret (v := .tuple #[.agg #[.slice Ai li.length ci, .slice Ao lo.length co], .bool true]) ?_ rfl ⟨⟨⟨li, lo⟩, _, _, true, rfl, ⟨HI.out.1, HO.out.1, HI.out.2, HO.out.2⟩, HKI.out, HKO.out, ⟨fun _ => HC2.out, fun _ => rfl⟩, own_set2 HOI4.out HT4.out, own_set2 HOO4.out HT4.out⟩, ?_⟩
        · rw [results_cell_tmp1 rfl]; go_simp
        · exact (HB4.out.setCell (p := ⟨w.heap.size, 0, none⟩) (Nat.le_refl _) _).setCell (p := ⟨w.heap.size, 1, none⟩) (Nat.le_refl _) _
      · have hne : ((lc.length : Int) == 0) = false := by
          have := List.length_pos_iff.2 hn
          rw [beq_eq_false_iff_ne]; omega
        have HC2 := Lib.hid (fun h => hn (HCL.out.2 h))
        clear hn
        go_wp2
        refine bodyPost_ret (v := .tuple #[.agg #[.slice Ai li.length ci, .slice Ao lo.length co], .bool false]) ?_ rfl ⟨⟨⟨li, lo⟩, _, _, false, rfl, ⟨HI.out.1, HO.out.1, HI.out.2, HO.out.2⟩, HKI.out, HKO.out, ⟨(fun h => by cases h), (fun h => absurd h HC2.out)⟩, own_set2 HOI4.out HT4.out, own_set2 HOO4.out HT4.out⟩, ?_⟩
        · rw [results_cell_tmp1 rfl]; go_simp
        · exact (HB4.out.setCell (p := ⟨w.heap.size, 0, none⟩) (Nat.le_refl _) _).setCell (p := ⟨w.heap.size, 1, none⟩) (Nat.le_refl _) _
    | succ g =>
      have hjz : (j : Int) < (r.length : Int) := by omega
      have hjn : j < r.length := by omega
      have HBW : Hid (Below w.heap.size w wr) := HB0.out.trans (HB.out.mono (Nat.le_succ _))
      obtain ⟨b, q, rfl, hbl, hp⟩ := (HS.out.next HBW.out (Nat.le_refl _)).at_ hjn
      obtain ⟨d, hpe⟩ : ∃ p, r[j] = p := ⟨_, rfl⟩
      have hft := adds_take (show r[j]? = some d by rw [List.getElem?_eq_getElem hjn, hpe])
      rw [hpe] at hp
      have HFT := Lib.hid hft
      have m0 := hp.c0
      have m1 := hp.c1
      have m2 := hp.c2
      have m3 := hp.c3
      have m4 := hp.c4
      have m5 := hp.c5
      have m6 := hp.c6
      have m7 := hp.c7
      have m8 := hp.c8
      obtain ⟨L4, hL4⟩ : ∃ L, addsL (r.take j) = L := ⟨_, rfl⟩
      obtain ⟨L5, hL5⟩ : ∃ L, cutsL (r.take j) = L := ⟨_, rfl⟩
      rw [hL4] at ho4 hl4 HFT
      rw [hL5] at ho5 hl5 HFT
      have H4 := Lib.hid ho4
      have H5 := Lib.hid ho5
      have HAP := Lib.hid hap
      have HSZ : Hid (w.heap.size + 1 ≤ wr.heap.size) := by have h1 := HB.out.size; have h2 := HZ0.out; show _ ≤ _; omega
      clear hft hp hpe hL4 hL5 ho4 ho5 hap
      obtain ⟨da, hda⟩ : ∃ v, d.add = v := ⟨_, rfl⟩
      rw [hda] at m6 HFT
      have HDA := Lib.hid hda
      clear hda
      cases da with
      | false =>
        have hsz := HSZ.out
        go_wp2_with (at_builtin; refine wpList_append_own_at _ rfl _ _ 60 rfl (w.heap.size + 1) 88 i0 (.agg #[.int .i64 0, .int .i64 0]) 2 16 Tryz.underlying60 hi hj0 hj1 hj2 rfl (by decide) _ _ _ rfl (((H5.out.alloc _).alloc _).alloc _) ⟨wr.heap.size + 1 + 1, 0, none⟩ 1 1 (cellsS (d.fr, d.til)) rfl rfl (fun j u h => by have q := cell_lit ((wr.alloc (.cells #[.int .i64 d.e, .int .i64 d.a, .int .i64 d.k, .int .i64 d.m, .string d.s, .int .i64 d.t, .bool false, .int .i64 d.fr, .int .i64 d.til] 44)).alloc (.cells #[.int .i64 d.fr, .int .i64 d.til] 88)) #[.int .i64 d.fr, .int .i64 d.til] 88 j u h; rw [World.size_alloc, World.size_alloc] at q; exact q) (cellsS_one _) (by omega) (by omega) (by simp; omega) ?_; intro v' w3 hown' hgrow _ hat)
        have ho6 : OwnS w3 (w.heap.size + 1) v' (L5 ++ [(d.fr, d.til)]) := ownS_snoc hown'
        have hoY := (((H4.out.alloc (.cells #[.int .i64 d.e, .int .i64 d.a, .int .i64 d.k, .int .i64 d.m, .string d.s, .int .i64 d.t, .bool false, .int .i64 d.fr, .int .i64 d.til] 44)).alloc (.cells #[.int .i64 d.fr, .int .i64 d.til] 88)).alloc (.cells #[.int .i64 d.fr, .int .i64 d.til] 88))
        have HBN := Lib.hid (((((Below.refl _ wr).alloc hsz (.cells #[.int .i64 d.e, .int .i64 d.a, .int .i64 d.k, .int .i64 d.m, .string d.s, .int .i64 d.t, .bool false, .int .i64 d.fr, .int .i64 d.til] 44)).alloc (by simp; omega) (.cells #[.int .i64 d.fr, .int .i64 d.til] 88)).alloc (by simp; omega) (.cells #[.int .i64 d.fr, .int .i64 d.til] 88)).trans (below_ownS (((H5.out.alloc _).alloc _).alloc _) hgrow (by simp; omega)))
        have HYS := Lib.hid (World.ownsRow.kept hoY hgrow (ap_kept HAP.out.symm))
        have HAPN := Lib.hid ((ap_next HAP.out.symm hoY hat).symm)
        have HO6 := Lib.hid ho6
        clear hown' hgrow hat ho6 hoY
        go_roundg g
        case measure => omega
        case rel => exact ⟨j + 1, by rw [HFT.out.1]; show OwnS _ _ _ (L4 ++ []); rw [List.append_nil]; exact HYS.out, by rw [HFT.out.2]; exact HO6.out, HAPN.out, by go_num, by omega, HB.out.trans HBN.out⟩
      | true =>
        have hsz := HSZ.out
        go_wp2_with (at_builtin; refine wpList_append_own_at _ rfl _ _ 60 rfl (w.heap.size + 1) 88 i0 (.agg #[.int .i64 0, .int .i64 0]) 2 16 Tryz.underlying60 hi hj0 hj1 hj2 rfl (by decide) _ _ _ rfl (((H4.out.alloc _).alloc _).alloc _) ⟨wr.heap.size + 1 + 1, 0, none⟩ 1 1 (cellsS (d.fr, d.til)) rfl rfl (fun j u h => by have q := cell_lit ((wr.alloc (.cells #[.int .i64 d.e, .int .i64 d.a, .int .i64 d.k, .int .i64 d.m, .string d.s, .int .i64 d.t, .bool true, .int .i64 d.fr, .int .i64 d.til] 44)).alloc (.cells #[.int .i64 d.fr, .int .i64 d.til] 88)) #[.int .i64 d.fr, .int .i64 d.til] 88 j u h; rw [World.size_alloc, World.size_alloc] at q; exact q) (cellsS_one _) (by omega) (by omega) (by simp; omega) ?_; intro v' w3 hown' hgrow _ hat)
        have ho6 : OwnS w3 (w.heap.size + 1) v' (L4 ++ [(d.fr, d.til)]) := ownS_snoc hown'
        have hoY := (((H5.out.alloc (.cells #[.int .i64 d.e, .int .i64 d.a, .int .i64 d.k, .int .i64 d.m, .string d.s, .int .i64 d.t, .bool true, .int .i64 d.fr, .int .i64 d.til] 44)).alloc (.cells #[.int .i64 d.fr, .int .i64 d.til] 88)).alloc (.cells #[.int .i64 d.fr, .int .i64 d.til] 88))
        have HBN := Lib.hid (((((Below.refl _ wr).alloc hsz (.cells #[.int .i64 d.e, .int .i64 d.a, .int .i64 d.k, .int .i64 d.m, .string d.s, .int .i64 d.t, .bool true, .int .i64 d.fr, .int .i64 d.til] 44)).alloc (by simp; omega) (.cells #[.int .i64 d.fr, .int .i64 d.til] 88)).alloc (by simp; omega) (.cells #[.int .i64 d.fr, .int .i64 d.til] 88)).trans (below_ownS (((H4.out.alloc _).alloc _).alloc _) hgrow (by simp; omega)))
        have HYS := Lib.hid (World.ownsRow.kept hoY hgrow (ap_kept HAP.out))
        have HAPN := Lib.hid (ap_next HAP.out hoY hat)
        have HO6 := Lib.hid ho6
        clear hown' hgrow hat ho6 hoY
        go_roundg g
        case measure => omega
        case rel => exact ⟨j + 1, by rw [HFT.out.1]; exact HO6.out, by rw [HFT.out.2]; show OwnS _ _ _ (L5 ++ []); rw [List.append_nil]; exact HYS.out, HAPN.out, by go_num, by omega, HB.out.trans HBN.out⟩
end Go.Proofs.YthdjlaombbeagaaGreat
