/-
  CONTRACTS: the iterators of runs, at triples and at transactions.
-/
import Derived.StillTailTactics
import Derived.Sort.CutIn
import Derived.Test.YthhkabbgghepbaaGreatJFRunG
namespace Go.Proofs.YthhkabbgghepbaaGreat
open Go.RowKit Go.Shelf
attribute [local go_sem] Oper.semAt_some

/-- the data lie, and the key's box -/
def KpR (B : Nat) (A : Option Addr) (l : List Dat) (Bk : Nat) (t : TypeId) (fv : Value) (X Y : World) : Prop := (SlD X B A l → SlD Y B A l) ∧ (Boxed X Bk t fv → Boxed Y Bk t fv) ∧ X.heap.size ≤ Y.heap.size
theorem KpR.trans {B : Nat} {A : Option Addr} {l : List Dat} {Bk : Nat} {t : TypeId} {fv : Value} {X Y Z : World} (h : KpR B A l Bk t fv X Y) (k : KpR B A l Bk t fv Y Z) : KpR B A l Bk t fv X Z := ⟨fun x => k.1 (h.1 x), fun x => k.2.1 (h.2.1 x), Nat.le_trans h.2.2 k.2.2⟩
theorem kpR_below {B : Nat} {A : Option Addr} {l : List Dat} {Bk : Nat} {t : TypeId} {fv : Value} {X Y : World} (hb : Below X.heap.size X Y) (hB : B ≤ X.heap.size) : KpR B A l Bk t fv X Y := ⟨fun h => h.next hb hB, fun h => (hb.block Bk h.lt).trans h, hb.size⟩
/-- how long a slice is -/
def lenV : Value → Nat
  | .slice _ n _ => n
  | _ => 0
/-- what stands while a stretch is measured: the datoms, the key's box -/
def RunS (w0 : World) (B : Nat) (A : Option Addr) (l : List Dat) (Bk : Nat) (t : TypeId) (fv : Value) (W : World) : Prop := SlD W B A l ∧ Boxed W Bk t fv ∧ B ≤ w0.heap.size ∧ Bk < w0.heap.size ∧ Below w0.heap.size w0 W
theorem RunS.next {w0 W W' : World} {B : Nat} {A : Option Addr} {l : List Dat} {Bk : Nat} {t : TypeId} {fv : Value} (h : RunS w0 B A l Bk t fv W) (hb : Below W.heap.size W W') : RunS w0 B A l Bk t fv W' := by
  obtain ⟨h1, h2, h3, h4, h5⟩ := h
  have := h5.size
  exact ⟨h1.next hb (by omega), (hb.block Bk (by omega)).trans h2, h3, h4, h5.trans (hb.mono h5.size)⟩
theorem RunS.far {w0 W W' : World} {B : Nat} {A : Option Addr} {l : List Dat} {Bk : Nat} {t : TypeId} {fv : Value} (h : RunS w0 B A l Bk t fv W) (hb : Below w0.heap.size W W') : RunS w0 B A l Bk t fv W' := by
  obtain ⟨h1, h2, h3, h4, h5⟩ := h
  exact ⟨h1.next hb h3, (hb.block Bk h4).trans h2, h3, h4, h5.trans hb⟩
/-- a key in its box -/
def KeyAt (W : World) (bk : Nat) (x : Dat) : Prop := W.heap[bk]? = some (.cells #[.int .i64 x.e, .int .i64 x.a, .int .i64 x.k, .int .i64 x.m, .string x.s] 71 (0, 0))
theorem KeyAt.cell {W : World} {bk : Nat} {x : Dat} (h : KeyAt W bk x) (j : Nat) : W.cell? ⟨bk, j, none⟩ = (#[Value.int .i64 x.e, .int .i64 x.a, .int .i64 x.k, .int .i64 x.m, .string x.s])[j]? := by unfold KeyAt at h; simp [World.cell?, h]
theorem KeyAt.lt {W : World} {bk : Nat} {x : Dat} (h : KeyAt W bk x) : bk < W.heap.size := (Array.getElem?_eq_some_iff.1 h).1
theorem KeyAt.next {W W' : World} {bk : Nat} {x : Dat} (h : KeyAt W bk x) (hb : Below W.heap.size W W') : KeyAt W' bk x := (hb.block bk h.lt).trans h
theorem RunS.drew {w0 W : World} {B : Nat} {A : Option Addr} {l : List Dat} {Bk : Nat} {t : TypeId} {fv : Value} (h : RunS w0 B A l Bk t fv W) : RunS w0 B A l Bk t fv W.drew := h.next (below_ind (Below.refl _ W) 1)

/-- what the iterator hands on: a stretch's key, and where it stands -/
def headD (r : List Dat) : Dat := r.headD ⟨0, 0, 0, 0, ⟨#[]⟩, 0, false, 0, 0⟩
theorem headD_take {R : List Dat} {n : Nat} (h : 0 < R.length) (hn : 1 ≤ n) : headD (R.take n) = R[0] := by
  cases R with
  | nil => simp at h
  | cons x r =>
    obtain ⟨k, rfl⟩ : ∃ k, n = k + 1 := ⟨n - 1, by omega⟩
    rfl
def encI (l : List Dat) (A : Option Addr) (c : Nat) (x : Fin (runsL (fun d : Dat => d.t) l).length) : Array Value :=
  #[.int .i64 (headD (runsL (fun d : Dat => d.t) l)[x.val]).t, .slice (stR A c ((runsL (fun d : Dat => d.t) l).take x.val)).1 (runsL (fun d : Dat => d.t) l)[x.val].length (stR A c ((runsL (fun d : Dat => d.t) l).take x.val)).2]
def encT (l : List Dat) (A : Option Addr) (c : Nat) (x : Fin (runsL triD l).length) : Array Value :=
  #[triV (headD (runsL triD l)[x.val]), .slice (stR A c ((runsL triD l).take x.val)).1 (runsL triD l)[x.val].length (stR A c ((runsL triD l).take x.val)).2]

/-- One round of the loop that is handed stretches. -/
def HandsRI (l : List Dat) (A : Option Addr) (c : Nat) (B Bk lp N : Nat) (J Jx : List (Fin (runsL (fun d : Dat => d.t) l).length) → World → Prop) : Prop :=
  ∀ m pre (x : Fin (runsL (fun d : Dat => d.t) l).length) W, J pre W → pre.length < N → YieldAt Fence.wide m Tryz.prog lp (encI l A c x) W fun e W' =>
    (e = .returned (.bool true) ∧ J (pre ++ [x]) W' ∧ KpR B A l Bk 78 (.func (.func 34) #[] #[]) W W') ∨ (e = .returned (.bool false) ∧ Jx (pre ++ [x]) W')
set_option maxRecDepth 100000 in
set_option maxHeartbeats 4000000 in
theorem runI_in (lp B Bl Bk C : Nat) (A : Option Addr) (c : Nat) (l : List Dat) (J Jx : List (Fin (runsL (fun d : Dat => d.t) l).length) → World → Prop) (hA : AbidesFrom C J) (hY : HandsRI l A c B Bk lp (runsL (fun d : Dat => d.t) l).length J Jx) (n : Nat)
    (W : World) (hBW : B ≤ W.heap.size) (hlc : l.length ≤ c) (_hcm : c ≤ maxLen) (hl : l.length ≤ 100000) (hs : SlD W B A l) (hb : W.cell? ⟨Bl, 0, none⟩ = some (.slice A l.length c)) (hk : Boxed W Bk 78 (.func (.func 34) #[] #[])) (hJ : J [] W) :
    CallsIn Fence.wide n Tryz.prog 63 #[.func (.yield lp) #[] #[], .pointer (some ⟨Bl, 0, none⟩), .pointer (some ⟨Bk, 0, none⟩)] W fun e W' =>
      (∃ v, e = .returned v) ∧ (J (allN _) W' ∨ ∃ q, q <+: allN _ ∧ Jx q W') := by
  refine callsIn_of_wp Tryz.func63 rfl trivial ?_ rfl
  simp only [Tryz.ntmps63, List.size_toArray, List.length_cons, List.length_nil, Nat.reduceAdd, Nat.reduceSub, Array.replicate_succ, Array.replicate_zero, List.push_toArray, List.append_toArray, List.nil_append, List.cons_append]
  have HS := Lib.hid hs
  have HK := Lib.hid hk
  have HKL := Lib.hid hk.lt
  have HR0 : restR (fun d : Dat => d.t) l 0 = l := by unfold restR; simp
  have HST0 : stR A c [] = (A, c) := rfl
  clear hs hk
  gi_wp2
  clear hb
  gi_loopw [4, 5, 6] (fun x _ _ wr => ∃ i : Nat, x = .slice (stR A c ((runsL (fun d : Dat => d.t) l).take i)).1 (restR (fun d : Dat => d.t) l i).length (stR A c ((runsL (fun d : Dat => d.t) l).take i)).2 ∧ i ≤ (runsL (fun d : Dat => d.t) l).length ∧ J ((allN _).take i) wr ∧ Hid (KpR B A l Bk 78 (.func (.func 34) #[] #[]) W wr) ) (fun x _ _ _ => lenV x)
  case atStart => exact ⟨0, by simp [HR0, stR], Nat.zero_le _, by rw [List.take_zero]; exact hJ, ⟨fun x => x, fun x => x, Nat.le_refl _⟩⟩
  case round =>
    obtain ⟨w1, rfl⟩ : ∃ w1, w1 = wr := ⟨wr, rfl⟩
    obtain ⟨i, rfl, hi, hJk, HKP⟩ := hrel
    have HSZ := Lib.hid HKP.out.2.2
    clear hJ HR0 HST0
    by_cases hil : i < (runsL (fun d : Dat => d.t) l).length
    · obtain ⟨hne, hgi, hnx⟩ := restR_next (fun d : Dat => d.t) hil
      have hlen := runs_each (fun d : Dat => d.t) hil
      have hpos := List.length_pos_iff.2 hne
      have hrl := rest_len (fun d : Dat => d.t) l i
      have hfl := flat_le (fun d : Dat => d.t) l i
      have hrs : SlD w1 B (stR A c ((runsL (fun d : Dat => d.t) l).take i)).1 (restR (fun d : Dat => d.t) l i) := stR_sl ((runsL (fun d : Dat => d.t) l).take i) (HKP.out.1 HS.out) hlc hfl
      have hcap := stR_cap ((runsL (fun d : Dat => d.t) l).take i) A c
      have hsn := stR_snoc (runsL (fun d : Dat => d.t) l)[i] ((runsL (fun d : Dat => d.t) l).take i) A c
      rw [← List.take_succ_eq_append_getElem hil] at hsn
      obtain ⟨A1, hA1⟩ : ∃ A1, (stR A c ((runsL (fun d : Dat => d.t) l).take i)).1 = A1 := ⟨_, rfl⟩
      obtain ⟨c1, hc1⟩ : ∃ c1, (stR A c ((runsL (fun d : Dat => d.t) l).take i)).2 = c1 := ⟨_, rfl⟩
      obtain ⟨R, hR⟩ : ∃ R, restR (fun d : Dat => d.t) l i = R := ⟨_, rfl⟩
      have hpre : ((allN (runsL (fun d : Dat => d.t) l).length).take i).length < (runsL (fun d : Dat => d.t) l).length := by rw [List.length_take, allN_len]; omega
      rw [hR, hA1] at hrs
      rw [hc1] at hcap
      rw [hR] at hne hgi hlen hrl hnx
      have hn1 := runN_pos (fun d : Dat => d.t) hne
      have hnR := runN_le (fun d : Dat => d.t) R
      rw [hA1, hc1, hR]
      have hR0 : 0 < R.length := List.length_pos_iff.2 hne
      obtain ⟨x, hx⟩ : ∃ x, R[0] = x := ⟨_, rfl⟩
      have HENC : Hid (encI l A c ⟨i, hil⟩ = #[.int .i64 x.t, .slice A1 (runN (fun d : Dat => d.t) R) c1]) := by
        show _ = _
        unfold encI
        simp only [hA1, hc1, hlen]
        rw [show headD (runsL (fun d : Dat => d.t) l)[i] = x by
          rw [hgi, headD_take hR0 hn1, hx]]
      have HNX : Hid (stR A c ((runsL (fun d : Dat => d.t) l).take (i + 1)) = (cutD A1 c1 (runN (fun d : Dat => d.t) R), c1 - runN (fun d : Dat => d.t) R) ∧ restR (fun d : Dat => d.t) l (i + 1) = R.drop (runN (fun d : Dat => d.t) R)) := ⟨by rw [hsn, hA1, hc1, hlen], hnx⟩
      have HJK := Lib.hid hJk
      have HTK := Lib.hid (allN_take hil)
      have HPR := Lib.hid (List.take_prefix (i + 1) (allN (runsL (fun d : Dat => d.t) l).length))
      have hlc1 : R.length ≤ c1 := by omega
      have hxz : R.length ≤ 100000 := by omega
      have HKW := Lib.hid (HKP.out.2.1 HK.out)
      obtain ⟨b, o, rfl, hbB, hat⟩ := hrs hne
      have HSR : Hid (SlD w1 B (some ⟨b, o, none⟩) R) := fun _ => ⟨b, o, rfl, hbB, hat⟩
      have hzz := HSZ.out
      have hkl := HKL.out
      have HRS : Hid (RunS w1 B (some ⟨b, o, none⟩) R Bk 78 (.func (.func 34) #[] #[]) w1) := ⟨HSR.out, HKW.out, by omega, by omega, Below.refl _ _⟩
      have h0l : (0 : Int) < (R.length : Int) := by omega
      have HX := Lib.hid hx
      clear hne hgi hlen hpos hrl hfl hrs hcap hsn hnx hA1 hc1 hR hJk hx hat
      gi_upto_region 2 with fail
      refine wpIn_wide.2 ?_
      refine wp_region_held_drew (S := RunS w1 B (some ⟨b, o, none⟩) R Bk 78 (.func (.func 34) #[] #[])) (by kernel_rfl) HRS.out.drew (fun hHeld => ?_)
      refine takeV 0 (some 11) ((.func (.func 34) #[] #[])) rfl rfl (by kernel_rfl) (by kernel_rfl) (by kernel_rfl) (fun _ _ _ h => h) (by rfl) (by (intro _w hSw; have q0 := hSw.2.1.cell; clear hSw; go_simp)) (by assumption) ?_
      simp only [Act.put, List.setIfInBounds_toArray, List.set_cons_zero, List.set_cons_succ]
      refine takeV 1 (some 12) ((.slice (some ⟨b, o, none⟩) R.length c1)) rfl rfl (by kernel_rfl) (by kernel_rfl) (by kernel_rfl) (fun _ _ _ h => h) (by rfl) (by (intro _w _hSw; (try dsimp only at _hSw); go_simp)) (by assumption) ?_
      simp only [Act.put, List.setIfInBounds_toArray, List.set_cons_zero, List.set_cons_succ]
      refine takeV 2 (some 13) ((.pointer (some ⟨b, o, none⟩))) rfl rfl (by kernel_rfl) (by kernel_rfl) (by kernel_rfl) (fun _ _ _ h => h) (by rfl) (by (intro _w _hSw; (try dsimp only at _hSw); go_simp)) (by assumption) ?_
      simp only [Act.put, List.setIfInBounds_toArray, List.set_cons_zero, List.set_cons_succ]
      refine takeV 3 (some 14) ((.agg #[.int .i64 x.e, .int .i64 x.a, .int .i64 x.k, .int .i64 x.m, .string x.s, .int .i64 x.t, .bool x.add, .int .i64 x.fr, .int .i64 x.til])) rfl rfl (by kernel_rfl) (by kernel_rfl) (by kernel_rfl) (fun _ _ _ h => h) (by rfl) (by (intro _w hSw; obtain ⟨b', o', e', _, hp⟩ := hSw.1.at_ (j := 0) hR0; cases e'; rw [HX.out] at hp; simp only [Nat.zero_mul, Nat.add_zero] at hp; have q0 := hp.c0; have q1 := hp.c1; have q2 := hp.c2; have q3 := hp.c3; have q4 := hp.c4; have q5 := hp.c5; have q6 := hp.c6; have q7 := hp.c7; have q8 := hp.c8; clear hp; clear hSw; go_simp)) (by assumption) ?_
      simp only [Act.put, List.setIfInBounds_toArray, List.set_cons_zero, List.set_cons_succ]
      refine callV 4 rfl (by kernel_rfl) (by rfl) (fun K hK => ?_)
      go_simp
      go_at_call 34
      refine (fold2_any x _).mono ?_
      rintro e w3 ⟨rfl, hb3⟩
      have g3 := hHeld.next hb3
      refine hK.out _ _ g3 (fun hHeld3 => ?_)
      clear hK g3 K hHeld hb3
      try simp only [Act.put, List.setIfInBounds_toArray, List.set_cons_zero, List.set_cons_succ]
      refine takeV 5 (some 5) ((.int .i64 x.t)) rfl rfl (by kernel_rfl) (by kernel_rfl) (by kernel_rfl) (fun _ _ _ h => h) (by rfl) (by (intro _w _hSw; (try dsimp only at _hSw); go_simp)) (by assumption) ?_
      simp only [Act.put, List.setIfInBounds_toArray, List.set_cons_zero, List.set_cons_succ]
      refine takeV 6 (some 6) ((.int .i64 1)) rfl rfl (by kernel_rfl) (by kernel_rfl) (by kernel_rfl) (fun _ _ _ h => h) (by rfl) (by (intro _w _hSw; (try dsimp only at _hSw); go_simp)) (by assumption) ?_
      simp only [Act.put, List.setIfInBounds_toArray, List.set_cons_zero, List.set_cons_succ]
      refine wpAnyH_done (by kernel_rfl) ?_ _
      have HR3 := Lib.hid hHeld3
      clear hHeld3
      gi_wp2
      gi_loopw [6] (fun y wr => ∃ n : Nat, y = .int .i64 n ∧ n ≤ R.length ∧ 1 ≤ n ∧ Hid (∀ j (h : j < R.length), j < n → (fun d : Dat => d.t) R[j] = (fun d : Dat => d.t) R[0]) ∧ Hid (RunS w1 B (some ⟨b, o, none⟩) R Bk 78 (.func (.func 34) #[] #[]) wr)) (fun y _ => R.length - (intOf y).toNat)
      case atStart => exact ⟨1, rfl, by omega, Nat.le_refl _, (fun j h hj => by obtain rfl : j = 0 := (by omega); rfl), HR3.out⟩
      case round =>
        obtain ⟨n1, rfl, hn, hn1', HSM, HR1⟩ := hrel
        by_cases hnl : n1 = R.length
        · have hnz : ¬ ((n1 : Int) < (R.length : Int)) := by omega
          obtain rfl : n1 = R.length := by omega
          have HRN : Hid (runN (fun d : Dat => d.t) R = R.length) := runN_is (fun d : Dat => d.t) hR0 hn1' (by omega) HSM.out (fun h => by omega)
          gi_upto_region 3 with fail
          refine wpIn_wide.2 ?_
          refine wp_region_held_drew (S := RunS w1 B (some ⟨b, o, none⟩) R Bk 78 (.func (.func 34) #[] #[])) (by kernel_rfl) HR1.out.drew (fun hHeld => ?_)
          refine takeV 0 (some 16) ((.int .i64 R.length)) rfl rfl (by kernel_rfl) (by kernel_rfl) (by kernel_rfl) (fun _ _ _ h => h) (by rfl) (by (intro _w _hSw; (try dsimp only at _hSw); go_simp)) (by assumption) ?_
          simp only [Act.put, List.setIfInBounds_toArray, List.set_cons_zero, List.set_cons_succ]
          refine takeV 1 (some 17) ((.slice (some ⟨b, o, none⟩) R.length c1)) rfl rfl (by kernel_rfl) (by kernel_rfl) (by kernel_rfl) (fun _ _ _ h => h) (by rfl) (by (intro _w _hSw; (try dsimp only at _hSw); go_simp)) (by assumption) ?_
          simp only [Act.put, List.setIfInBounds_toArray, List.set_cons_zero, List.set_cons_succ]
          refine takeV 2 (some 18) ((.int .i64 R.length)) rfl rfl (by kernel_rfl) (by kernel_rfl) (by kernel_rfl) (fun _ _ _ h => h) (by rfl) (by (intro _w _hSw; (try dsimp only at _hSw); go_simp)) (by assumption) ?_
          simp only [Act.put, List.setIfInBounds_toArray, List.set_cons_zero, List.set_cons_succ]
          refine takeV 3 (some 19) ((.bool false)) rfl rfl (by kernel_rfl) (by kernel_rfl) (by kernel_rfl) (fun _ _ _ h => h) (by rfl) (by (intro _w _hSw; (try dsimp only at _hSw); go_simp)) (by assumption) ?_
          simp only [Act.put, List.setIfInBounds_toArray, List.set_cons_zero, List.set_cons_succ]
          refine takeV 4 (some 20) ((.bool false)) rfl rfl (by kernel_rfl) (by kernel_rfl) (by kernel_rfl) (fun _ _ _ h => h) (by rfl) (by (intro _w _hSw; (try dsimp only at _hSw); go_simp)) (by assumption) ?_
          simp only [Act.put, List.setIfInBounds_toArray, List.set_cons_zero, List.set_cons_succ]
          refine skipV 5 (some 21) rfl rfl (by kernel_rfl) (by kernel_rfl) (by kernel_rfl) (fun _ _ _ h => h) (by rfl) (by assumption) ?_
          simp only [Act.put, List.setIfInBounds_toArray, List.set_cons_zero, List.set_cons_succ]
          refine skipV 6 (some 22) rfl rfl (by kernel_rfl) (by kernel_rfl) (by kernel_rfl) (fun _ _ _ h => h) (by rfl) (by assumption) ?_
          simp only [Act.put, List.setIfInBounds_toArray, List.set_cons_zero, List.set_cons_succ]
          refine skipV 7 (some 23) rfl rfl (by kernel_rfl) (by kernel_rfl) (by kernel_rfl) (fun _ _ _ h => h) (by rfl) (by assumption) ?_
          simp only [Act.put, List.setIfInBounds_toArray, List.set_cons_zero, List.set_cons_succ]
          refine skipV 8 (some 24) rfl rfl (by kernel_rfl) (by kernel_rfl) (by kernel_rfl) (fun _ _ _ h => h) (by rfl) (by assumption) ?_
          simp only [Act.put, List.setIfInBounds_toArray, List.set_cons_zero, List.set_cons_succ]
          refine skipV 9 (some 25) rfl rfl (by kernel_rfl) (by kernel_rfl) (by kernel_rfl) (fun _ _ _ h => h) (by rfl) (by assumption) ?_
          simp only [Act.put, List.setIfInBounds_toArray, List.set_cons_zero, List.set_cons_succ]
          refine skipV 10 (some 26) rfl rfl (by kernel_rfl) (by kernel_rfl) (by kernel_rfl) (fun _ _ _ h => h) (by rfl) (by assumption) ?_
          simp only [Act.put, List.setIfInBounds_toArray, List.set_cons_zero, List.set_cons_succ]
          refine skipV 11 (some 27) rfl rfl (by kernel_rfl) (by kernel_rfl) (by kernel_rfl) (fun _ _ _ h => h) (by rfl) (by assumption) ?_
          simp only [Act.put, List.setIfInBounds_toArray, List.set_cons_zero, List.set_cons_succ]
          refine skipV 12 (some 28) rfl rfl (by kernel_rfl) (by kernel_rfl) (by kernel_rfl) (fun _ _ _ h => h) (by rfl) (by assumption) ?_
          simp only [Act.put, List.setIfInBounds_toArray, List.set_cons_zero, List.set_cons_succ]
          refine takeV 13 (some 29) ((.bool false)) rfl rfl (by kernel_rfl) (by kernel_rfl) (by kernel_rfl) (fun _ _ _ h => h) (by rfl) (by (intro _w _hSw; (try dsimp only at _hSw); go_simp)) (by assumption) ?_
          simp only [Act.put, List.setIfInBounds_toArray, List.set_cons_zero, List.set_cons_succ]
          refine wpAnyH_done (by kernel_rfl) ?_ _
          have HR4 := Lib.hid hHeld
          clear hHeld
          gi_upto_region 5 with fail
          have hJ4 := abides_to hA HJK.out HR4.out.2.2.2.2
          obtain ⟨fn, tmps, assign, body, hy, hR⟩ := hY (n - 1) _ ⟨i, hil⟩ _ hJ4 hpre
          rw [HENC.out, HRN.out] at hy
          have HK4 := Lib.hid (HKP.out.trans (kpR_below HR4.out.2.2.2.2 (by omega)))
          have HRN1 := Lib.hid (show 1 ≤ R.length ∧ R.length ≤ R.length from ⟨hn1', by omega⟩)
          have hsl := fun w => sliceD_to (some ⟨b, o, none⟩) R.length c1 R.length (by omega) w
          have hsl2 := fun w => sliceD_from (some ⟨b, o, none⟩) R.length c1 R.length (by omega) hlc1 w
          gi_wp2
          refine ⟨wide_deep _, ?_⟩
          refine hR.mono ?_
          rintro e W5 (⟨rfl, hJ5, hk5⟩ | ⟨rfl, hJx5⟩)
          · gi_wp2
            go_roundw
            case rel => exact ⟨i + 1, by rw [HNX.out.1, HNX.out.2, HRN.out, List.length_drop]; try simp, by omega, by rw [HTK.out]; exact hJ5, HK4.out.trans hk5⟩
            case measure => have := HRN1.out; simp [lenV]; omega
          · gi_wp2
            refine bodyPost_ret (results_none rfl _ _ _) rfl ?_
            exact ⟨⟨_, rfl⟩, .inr ⟨(allN _).take (i + 1), HPR.out, by rw [HTK.out]; exact hJx5⟩⟩
        · have hnz : (n1 : Int) < (R.length : Int) := by omega
          have hnn : n1 < R.length := by omega
          obtain ⟨y, hy⟩ : ∃ y, R[n1] = y := ⟨_, rfl⟩
          have HY1 := Lib.hid hy
          by_cases hky : y.t = x.t
          · have hkd : (y.t == x.t) = true := by rw [beq_iff_eq]; exact hky
            have HSM2 : Hid (∀ j (h : j < R.length), j < n1 + 1 → (fun d : Dat => d.t) R[j] = (fun d : Dat => d.t) R[0]) := fun j h hj => by
              by_cases h3 : j < n1
              · exact HSM.out j h h3
              · have : j = n1 := by omega
                subst this
                rw [HY1.out, HX.out]; exact hky
            clear hy hky
            gi_upto_region 3 with fail
            refine wpIn_wide.2 ?_
            refine wp_region_held_drew (S := RunS w1 B (some ⟨b, o, none⟩) R Bk 78 (.func (.func 34) #[] #[])) (by kernel_rfl) HR1.out.drew (fun hHeld => ?_)
            refine takeV 0 (some 16) ((.int .i64 n1)) rfl rfl (by kernel_rfl) (by kernel_rfl) (by kernel_rfl) (fun _ _ _ h => h) (by rfl) (by (intro _w _hSw; (try dsimp only at _hSw); go_simp)) (by assumption) ?_
            simp only [Act.put, List.setIfInBounds_toArray, List.set_cons_zero, List.set_cons_succ]
            refine takeV 1 (some 17) ((.slice (some ⟨b, o, none⟩) R.length c1)) rfl rfl (by kernel_rfl) (by kernel_rfl) (by kernel_rfl) (fun _ _ _ h => h) (by rfl) (by (intro _w _hSw; (try dsimp only at _hSw); go_simp)) (by assumption) ?_
            simp only [Act.put, List.setIfInBounds_toArray, List.set_cons_zero, List.set_cons_succ]
            refine takeV 2 (some 18) ((.int .i64 R.length)) rfl rfl (by kernel_rfl) (by kernel_rfl) (by kernel_rfl) (fun _ _ _ h => h) (by rfl) (by (intro _w _hSw; (try dsimp only at _hSw); go_simp)) (by assumption) ?_
            simp only [Act.put, List.setIfInBounds_toArray, List.set_cons_zero, List.set_cons_succ]
            refine takeV 3 (some 19) ((.bool true)) rfl rfl (by kernel_rfl) (by kernel_rfl) (by kernel_rfl) (fun _ _ _ h => h) (by rfl) (by (intro _w _hSw; (try dsimp only at _hSw); go_simp)) (by assumption) ?_
            simp only [Act.put, List.setIfInBounds_toArray, List.set_cons_zero, List.set_cons_succ]
            refine takeV 4 (some 20) ((.bool true)) rfl rfl (by kernel_rfl) (by kernel_rfl) (by kernel_rfl) (fun _ _ _ h => h) (by rfl) (by (intro _w _hSw; (try dsimp only at _hSw); go_simp)) (by assumption) ?_
            simp only [Act.put, List.setIfInBounds_toArray, List.set_cons_zero, List.set_cons_succ]
            refine takeV 5 (some 21) ((.func (.func 34) #[] #[])) rfl rfl (by kernel_rfl) (by kernel_rfl) (by kernel_rfl) (fun _ _ _ h => h) (by rfl) (by (intro _w hSw; have q0 := hSw.2.1.cell; clear hSw; go_simp)) (by assumption) ?_
            simp only [Act.put, List.setIfInBounds_toArray, List.set_cons_zero, List.set_cons_succ]
            refine takeV 6 (some 22) ((.slice (some ⟨b, o, none⟩) R.length c1)) rfl rfl (by kernel_rfl) (by kernel_rfl) (by kernel_rfl) (fun _ _ _ h => h) (by rfl) (by (intro _w _hSw; (try dsimp only at _hSw); go_simp)) (by assumption) ?_
            simp only [Act.put, List.setIfInBounds_toArray, List.set_cons_zero, List.set_cons_succ]
            refine takeV 7 (some 23) ((.int .i64 n1)) rfl rfl (by kernel_rfl) (by kernel_rfl) (by kernel_rfl) (fun _ _ _ h => h) (by rfl) (by (intro _w _hSw; (try dsimp only at _hSw); go_simp)) (by assumption) ?_
            simp only [Act.put, List.setIfInBounds_toArray, List.set_cons_zero, List.set_cons_succ]
            refine takeV 8 (some 24) ((.pointer (some ⟨b, o + n1 * 9, none⟩))) rfl rfl (by kernel_rfl) (by kernel_rfl) (by kernel_rfl) (fun _ _ _ h => h) (by rfl) (by (intro _w _hSw; (try dsimp only at _hSw); go_simp)) (by assumption) ?_
            simp only [Act.put, List.setIfInBounds_toArray, List.set_cons_zero, List.set_cons_succ]
            refine takeV 9 (some 25) ((.agg #[.int .i64 y.e, .int .i64 y.a, .int .i64 y.k, .int .i64 y.m, .string y.s, .int .i64 y.t, .bool y.add, .int .i64 y.fr, .int .i64 y.til])) rfl rfl (by kernel_rfl) (by kernel_rfl) (by kernel_rfl) (fun _ _ _ h => h) (by rfl) (by (intro _w hSw; obtain ⟨b', o', e', _, hp⟩ := hSw.1.at_ (j := n1) hnn; cases e'; rw [HY1.out] at hp; have q0 := hp.c0; have q1 := hp.c1; have q2 := hp.c2; have q3 := hp.c3; have q4 := hp.c4; have q5 := hp.c5; have q6 := hp.c6; have q7 := hp.c7; have q8 := hp.c8; clear hp; clear hSw; go_simp)) (by assumption) ?_
            simp only [Act.put, List.setIfInBounds_toArray, List.set_cons_zero, List.set_cons_succ]
            refine takeV 11 (some 27) ((.int .i64 x.t)) rfl rfl (by kernel_rfl) (by kernel_rfl) (by kernel_rfl) (fun _ _ _ h => h) (by rfl) (by (intro _w _hSw; (try dsimp only at _hSw); go_simp)) (by assumption) ?_
            simp only [Act.put, List.setIfInBounds_toArray, List.set_cons_zero, List.set_cons_succ]
            refine callV 10 rfl (by kernel_rfl) (by rfl) (fun K hK => ?_)
            go_simp
            go_at_call 34
            refine (fold2_any y _).mono ?_
            rintro e w3 ⟨rfl, hb3⟩
            have g3 := hHeld.next hb3
            refine hK.out _ _ g3 (fun hHeld3 => ?_)
            clear hK g3 K hHeld hb3
            try simp only [Act.put, List.setIfInBounds_toArray, List.set_cons_zero, List.set_cons_succ]
            refine takeV 12 (some 28) ((.bool true)) rfl rfl (by kernel_rfl) (by kernel_rfl) (by kernel_rfl) (fun _ _ _ h => h) (by rfl) (by (intro _w _hSw; (try dsimp only at _hSw); go_simp)) (by assumption) ?_
            simp only [Act.put, List.setIfInBounds_toArray, List.set_cons_zero, List.set_cons_succ]
            refine takeV 13 (some 29) ((.bool true)) rfl rfl (by kernel_rfl) (by kernel_rfl) (by kernel_rfl) (fun _ _ _ h => h) (by rfl) (by (intro _w _hSw; (try dsimp only at _hSw); go_simp)) (by assumption) ?_
            simp only [Act.put, List.setIfInBounds_toArray, List.set_cons_zero, List.set_cons_succ]
            refine wpAnyH_done (by kernel_rfl) ?_ _
            have HR4 := Lib.hid hHeld3
            clear hHeld3
            gi_wp2
            go_roundw
            case measure => simp [intOf]; omega
            case rel => exact ⟨n1 + 1, by go_num, by omega, by omega, HSM2.out, HR4.out⟩
          · have hkd : (y.t == x.t) = false := by rw [beq_eq_false_iff_ne]; exact hky
            have HRN : Hid (runN (fun d : Dat => d.t) R = n1) := runN_is (fun d : Dat => d.t) hR0 hn1' (by omega) HSM.out (fun h => by rw [HY1.out, HX.out]; exact hky)
            clear hy hky
            gi_upto_region 3 with fail
            refine wpIn_wide.2 ?_
            refine wp_region_held_drew (S := RunS w1 B (some ⟨b, o, none⟩) R Bk 78 (.func (.func 34) #[] #[])) (by kernel_rfl) HR1.out.drew (fun hHeld => ?_)
            refine takeV 0 (some 16) ((.int .i64 n1)) rfl rfl (by kernel_rfl) (by kernel_rfl) (by kernel_rfl) (fun _ _ _ h => h) (by rfl) (by (intro _w _hSw; (try dsimp only at _hSw); go_simp)) (by assumption) ?_
            simp only [Act.put, List.setIfInBounds_toArray, List.set_cons_zero, List.set_cons_succ]
            refine takeV 1 (some 17) ((.slice (some ⟨b, o, none⟩) R.length c1)) rfl rfl (by kernel_rfl) (by kernel_rfl) (by kernel_rfl) (fun _ _ _ h => h) (by rfl) (by (intro _w _hSw; (try dsimp only at _hSw); go_simp)) (by assumption) ?_
            simp only [Act.put, List.setIfInBounds_toArray, List.set_cons_zero, List.set_cons_succ]
            refine takeV 2 (some 18) ((.int .i64 R.length)) rfl rfl (by kernel_rfl) (by kernel_rfl) (by kernel_rfl) (fun _ _ _ h => h) (by rfl) (by (intro _w _hSw; (try dsimp only at _hSw); go_simp)) (by assumption) ?_
            simp only [Act.put, List.setIfInBounds_toArray, List.set_cons_zero, List.set_cons_succ]
            refine takeV 3 (some 19) ((.bool true)) rfl rfl (by kernel_rfl) (by kernel_rfl) (by kernel_rfl) (fun _ _ _ h => h) (by rfl) (by (intro _w _hSw; (try dsimp only at _hSw); go_simp)) (by assumption) ?_
            simp only [Act.put, List.setIfInBounds_toArray, List.set_cons_zero, List.set_cons_succ]
            refine takeV 4 (some 20) ((.bool true)) rfl rfl (by kernel_rfl) (by kernel_rfl) (by kernel_rfl) (fun _ _ _ h => h) (by rfl) (by (intro _w _hSw; (try dsimp only at _hSw); go_simp)) (by assumption) ?_
            simp only [Act.put, List.setIfInBounds_toArray, List.set_cons_zero, List.set_cons_succ]
            refine takeV 5 (some 21) ((.func (.func 34) #[] #[])) rfl rfl (by kernel_rfl) (by kernel_rfl) (by kernel_rfl) (fun _ _ _ h => h) (by rfl) (by (intro _w hSw; have q0 := hSw.2.1.cell; clear hSw; go_simp)) (by assumption) ?_
            simp only [Act.put, List.setIfInBounds_toArray, List.set_cons_zero, List.set_cons_succ]
            refine takeV 6 (some 22) ((.slice (some ⟨b, o, none⟩) R.length c1)) rfl rfl (by kernel_rfl) (by kernel_rfl) (by kernel_rfl) (fun _ _ _ h => h) (by rfl) (by (intro _w _hSw; (try dsimp only at _hSw); go_simp)) (by assumption) ?_
            simp only [Act.put, List.setIfInBounds_toArray, List.set_cons_zero, List.set_cons_succ]
            refine takeV 7 (some 23) ((.int .i64 n1)) rfl rfl (by kernel_rfl) (by kernel_rfl) (by kernel_rfl) (fun _ _ _ h => h) (by rfl) (by (intro _w _hSw; (try dsimp only at _hSw); go_simp)) (by assumption) ?_
            simp only [Act.put, List.setIfInBounds_toArray, List.set_cons_zero, List.set_cons_succ]
            refine takeV 8 (some 24) ((.pointer (some ⟨b, o + n1 * 9, none⟩))) rfl rfl (by kernel_rfl) (by kernel_rfl) (by kernel_rfl) (fun _ _ _ h => h) (by rfl) (by (intro _w _hSw; (try dsimp only at _hSw); go_simp)) (by assumption) ?_
            simp only [Act.put, List.setIfInBounds_toArray, List.set_cons_zero, List.set_cons_succ]
            refine takeV 9 (some 25) ((.agg #[.int .i64 y.e, .int .i64 y.a, .int .i64 y.k, .int .i64 y.m, .string y.s, .int .i64 y.t, .bool y.add, .int .i64 y.fr, .int .i64 y.til])) rfl rfl (by kernel_rfl) (by kernel_rfl) (by kernel_rfl) (fun _ _ _ h => h) (by rfl) (by (intro _w hSw; obtain ⟨b', o', e', _, hp⟩ := hSw.1.at_ (j := n1) hnn; cases e'; rw [HY1.out] at hp; have q0 := hp.c0; have q1 := hp.c1; have q2 := hp.c2; have q3 := hp.c3; have q4 := hp.c4; have q5 := hp.c5; have q6 := hp.c6; have q7 := hp.c7; have q8 := hp.c8; clear hp; clear hSw; go_simp)) (by assumption) ?_
            simp only [Act.put, List.setIfInBounds_toArray, List.set_cons_zero, List.set_cons_succ]
            refine takeV 11 (some 27) ((.int .i64 x.t)) rfl rfl (by kernel_rfl) (by kernel_rfl) (by kernel_rfl) (fun _ _ _ h => h) (by rfl) (by (intro _w _hSw; (try dsimp only at _hSw); go_simp)) (by assumption) ?_
            simp only [Act.put, List.setIfInBounds_toArray, List.set_cons_zero, List.set_cons_succ]
            refine callV 10 rfl (by kernel_rfl) (by rfl) (fun K hK => ?_)
            go_simp
            go_at_call 34
            refine (fold2_any y _).mono ?_
            rintro e w3 ⟨rfl, hb3⟩
            have g3 := hHeld.next hb3
            refine hK.out _ _ g3 (fun hHeld3 => ?_)
            clear hK g3 K hHeld hb3
            try simp only [Act.put, List.setIfInBounds_toArray, List.set_cons_zero, List.set_cons_succ]
            refine takeV 12 (some 28) ((.bool false)) rfl rfl (by kernel_rfl) (by kernel_rfl) (by kernel_rfl) (fun _ _ _ h => h) (by rfl) (by (intro _w _hSw; (try dsimp only at _hSw); go_simp)) (by assumption) ?_
            simp only [Act.put, List.setIfInBounds_toArray, List.set_cons_zero, List.set_cons_succ]
            refine takeV 13 (some 29) ((.bool false)) rfl rfl (by kernel_rfl) (by kernel_rfl) (by kernel_rfl) (fun _ _ _ h => h) (by rfl) (by (intro _w _hSw; (try dsimp only at _hSw); go_simp)) (by assumption) ?_
            simp only [Act.put, List.setIfInBounds_toArray, List.set_cons_zero, List.set_cons_succ]
            refine wpAnyH_done (by kernel_rfl) ?_ _
            have HR4 := Lib.hid hHeld3
            clear hHeld3
            gi_upto_region 5 with fail
            have hJ4 := abides_to hA HJK.out HR4.out.2.2.2.2
            obtain ⟨fn, tmps, assign, body, hy, hR⟩ := hY (n - 1) _ ⟨i, hil⟩ _ hJ4 hpre
            rw [HENC.out, HRN.out] at hy
            have HK4 := Lib.hid (HKP.out.trans (kpR_below HR4.out.2.2.2.2 (by omega)))
            have HRN1 := Lib.hid (show 1 ≤ n1 ∧ n1 ≤ R.length from ⟨hn1', by omega⟩)
            have hsl := fun w => sliceD_to (some ⟨b, o, none⟩) R.length c1 n1 (by omega) w
            have hsl2 := fun w => sliceD_from (some ⟨b, o, none⟩) R.length c1 n1 (by omega) hlc1 w
            gi_wp2
            refine ⟨wide_deep _, ?_⟩
            refine hR.mono ?_
            rintro e W5 (⟨rfl, hJ5, hk5⟩ | ⟨rfl, hJx5⟩)
            · gi_wp2
              go_roundw
              case rel => exact ⟨i + 1, by rw [HNX.out.1, HNX.out.2, HRN.out, List.length_drop]; try simp, by omega, by rw [HTK.out]; exact hJ5, HK4.out.trans hk5⟩
              case measure => have := HRN1.out; simp [lenV]; omega
            · gi_wp2
              refine bodyPost_ret (results_none rfl _ _ _) rfl ?_
              exact ⟨⟨_, rfl⟩, .inr ⟨(allN _).take (i + 1), HPR.out, by rw [HTK.out]; exact hJx5⟩⟩
    · have hre := restR_end (fun d : Dat => d.t) (l := l) (i := i) (by omega)
      rw [hre]
      rw [List.take_of_length_le (by rw [allN_len]; omega)] at hJk
      gi_wp2
      go_end0
      exact ⟨⟨_, rfl⟩, .inl hJk⟩
end Go.Proofs.YthhkabbgghepbaaGreat
