/-
  CONTRACT: the iterator told$1.
-/
import Derived.WalkMore
import Derived.BigQuiet
import Derived.Test.YthbighnkohjfnaaGreatDoorJTTell
namespace Go.Proofs.YthbighnkohjfnaaGreatDoor
open Go.RowKit Go.Shelf
attribute [local go_sem] Oper.semAt_some

/-- one round of the loop that is handed tokens -/
def HandsT (N lp : Nat) (J Jx : List Tk → World → Prop) : Prop :=
  ∀ m pre x X, J pre X → pre.length < N → TkOk x → YieldAt Fence.wide m Tryz.prog lp (encT x) X fun e X' => (e = .returned (.bool true) ∧ J (pre ++ [x]) X' ∧ KeepTk X X') ∨ (e = .returned (.bool false) ∧ Jx (pre ++ [x]) X')
/-- what the iterator has caught -/
structure CapT (W : World) (b1 b2 b3 o1 o2 : Nat) (s : ByteArray) : Prop where
  c1 : W.heap[b1]? = some (.cells #[.string s] 9 (0, 0))
  c2 : W.heap[b2]? = some (.cells #[.func (.func 43) #[] #[.pointer (some ⟨o1, 0, none⟩)]] 55 (0, 0))
  c3 : W.heap[b3]? = some (.cells #[.func (.func 43) #[] #[.pointer (some ⟨o2, 0, none⟩)]] 55 (0, 0))
  d1 : W.heap[o1]? = some (.cells #[.string blkS] 9 (0, 0))
  d2 : W.heap[o2]? = some (.cells #[.string bhdS] 9 (0, 0))
section
variable {W W' : World} {b1 b2 b3 o1 o2 : Nat} {s : ByteArray}
theorem CapT.k1 (h : CapT W b1 b2 b3 o1 o2 s) : W.cell? ⟨b1, 0, none⟩ = some (.string s) := by have := h.c1; simp [World.cell?, this]
theorem CapT.k2 (h : CapT W b1 b2 b3 o1 o2 s) : W.cell? ⟨b2, 0, none⟩ = some (.func (.func 43) #[] #[.pointer (some ⟨o1, 0, none⟩)]) := by have := h.c2; simp [World.cell?, this]
theorem CapT.k3 (h : CapT W b1 b2 b3 o1 o2 s) : W.cell? ⟨b3, 0, none⟩ = some (.func (.func 43) #[] #[.pointer (some ⟨o2, 0, none⟩)]) := by have := h.c3; simp [World.cell?, this]
theorem CapT.k4 (h : CapT W b1 b2 b3 o1 o2 s) : W.cell? ⟨o1, 0, none⟩ = some (.string blkS) := by have := h.d1; simp [World.cell?, this]
theorem CapT.k5 (h : CapT W b1 b2 b3 o1 o2 s) : W.cell? ⟨o2, 0, none⟩ = some (.string bhdS) := by have := h.d2; simp [World.cell?, this]
theorem CapT.same (h : CapT W b1 b2 b3 o1 o2 s) (hk : ∀ (b : Nat) (cs : Array Value) (T : TypeId), W.heap[b]? = some (.cells cs T (0, 0)) → (T = 9 ∨ T = 55) → W'.heap[b]? = W.heap[b]?) : CapT W' b1 b2 b3 o1 o2 s :=
  ⟨(hk _ _ _ h.c1 (.inl rfl)).trans h.c1, (hk _ _ _ h.c2 (.inr rfl)).trans h.c2, (hk _ _ _ h.c3 (.inr rfl)).trans h.c3, (hk _ _ _ h.d1 (.inl rfl)).trans h.d1, (hk _ _ _ h.d2 (.inl rfl)).trans h.d2⟩
theorem CapT.next (h : CapT W b1 b2 b3 o1 o2 s) (hb : Below W.heap.size W W') : CapT W' b1 b2 b3 o1 o2 s :=
  h.same fun b _ _ hc _ => hb.block b (Array.getElem?_eq_some_iff.1 hc).1
theorem CapT.only (h : CapT W b1 b2 b3 o1 o2 s) {b : Nat} {t : ByteArray} {p : Nat × Nat} (ho : Only b W W') (hB : BxC W b t p) : CapT W' b1 b2 b3 o1 o2 s :=
  h.same fun g _ _ hc hT => ho.block (fun e => by
    subst e
    rw [show W.heap[g]? = _ from hB] at hc
    cases hc
    exact absurd hT (by decide)) (Array.getElem?_eq_some_iff.1 hc).1
theorem CapT.keep (h : CapT W b1 b2 b3 o1 o2 s) (hk : KeepTk W W') : CapT W' b1 b2 b3 o1 o2 s :=
  h.same fun b cs T hc hT => hk.same b cs T hc (fun e => by subst e; exact absurd hT (by decide)) (fun e => by subst e; exact absurd hT (by decide))
end
/-- where the reading stands -/
structure StdT (L0 : List Tk) (m : Nat) (f : Nat) (s' : ByteArray) (p' : Nat × Nat) (pre : List Tk) : Prop where
  fuel : s'.size < f
  size : s'.size ≤ m
  place : p'.1 + p'.2 + s'.size ≤ m + 2
  col : 1 ≤ p'.2
  len : pre.length + s'.size ≤ m
  rest : L0 = pre ++ tellB f s' p'
/-- what is left in the cursor -/
def restN (b : Nat) (W : World) : Nat := match W.cell? ⟨b, 0, none⟩ with
  | some (.string s) => s.size
  | _ => 0
theorem BxC.rest {W : World} {b : Nat} {s : ByteArray} {p : Nat × Nat} (h : BxC W b s p) : restN b W = s.size := by
  unfold restN
  rw [h.cell 0]
  rfl
theorem StdT.skip {L0 : List Tk} {m f : Nat} {s' : ByteArray} {p' : Nat × Nat} {pre : List Tk} {k : Nat} (h : StdT L0 m (f + 1) s' p' pre) (hk : 0 < k) (hks : k ≤ s'.size) (hr : tellB (f + 1) s' p' = tellB f (s'.extract k s'.size) (posL (s'.data.toList.take k) p')) :
    StdT L0 m f (s'.extract k s'.size) (posL (s'.data.toList.take k) p') pre := by
  have hz : (s'.extract k s'.size).size = s'.size - k := by rw [ByteArray.size_extract]; omega
  have hp := posL_le (s'.data.toList.take k) p' h.col
  have hl : (s'.data.toList.take k).length = k := by rw [List.length_take, Array.length_toList]; exact Nat.min_eq_left hks
  rw [hl] at hp
  have h1 := h.fuel
  have h2 := h.size
  have h3 := h.place
  have h5 := h.len
  exact ⟨by omega, by omega, by omega, hp.2.1, by omega, by rw [← hr]; exact h.rest⟩

theorem StdT.tok {L0 : List Tk} {M f : Nat} {s' : ByteArray} {p' : Nat × Nat} {pre : List Tk} {x : Tk} {k : Nat} (h : StdT L0 M (f + 1) s' p' pre) (hk : 0 < k) (hks : k ≤ s'.size) (hr : tellB (f + 1) s' p' = x :: tellB f (s'.extract k s'.size) (posL (s'.data.toList.take k) p')) :
    StdT L0 M f (s'.extract k s'.size) (posL (s'.data.toList.take k) p') (pre ++ [x]) := by
  have hz : (s'.extract k s'.size).size = s'.size - k := by rw [ByteArray.size_extract]; omega
  have hp := posL_le (s'.data.toList.take k) p' h.col
  have hl : (s'.data.toList.take k).length = k := by rw [List.length_take, Array.length_toList]; exact Nat.min_eq_left hks
  rw [hl] at hp
  have h1 := h.fuel
  have h2 := h.size
  have h3 := h.place
  have h5 := h.len
  exact ⟨by omega, by omega, by omega, hp.2.1, by rw [List.length_append, List.length_singleton]; omega, by rw [h.rest, hr, List.append_assoc]; rfl⟩
theorem below_dnT {B : Nat} {a w : World} (h : Below B a w) : ∀ n, Below B a (w.drewN n)
  | 0 => h
  | n + 1 => (below_dnT h n).drew

set_option maxRecDepth 100000 in
set_option maxHeartbeats 4000000 in
theorem ttold_in (lp b1 b2 b3 o1 o2 C : Nat) (s : ByteArray) (J Jx : List Tk → World → Prop) (hA : AbidesFrom C J) (W : World) (hS : Stands 67 W.heap.size J) (hY : HandsT (s.size + 2) lp J Jx) (n : Nat)
    (hc : CapT W b1 b2 b3 o1 o2 s) (hs : s.size ≤ 50000) (hJ : J [] W) :
    CallsIn Fence.wide n Tryz.prog 31 #[.func (.yield lp) #[] #[], .pointer (some ⟨b1, 0, none⟩), .pointer (some ⟨b2, 0, none⟩), .pointer (some ⟨b3, 0, none⟩)] W fun e W' =>
      (∃ v, e = .returned v) ∧ (J (tellB (s.size + 1) s (1, 1)) W' ∨ ∃ q, q <+: tellB (s.size + 1) s (1, 1) ∧ Jx q W') := by
  obtain ⟨L0, hL0⟩ : ∃ L0, tellB (s.size + 1) s (1, 1) = L0 := ⟨_, rfl⟩
  rw [hL0]
  have HST0 : Hid (StdT L0 s.size (s.size + 1) s (1, 1) []) := ⟨Nat.lt_succ_self _, Nat.le_refl _, by show 1 + 1 + _ ≤ _; omega, Nat.le_refl _, by simp, hL0.symm⟩
  have y1 := hc.k1
  have HHS := Lib.hid hs
  have hJ1 : J [] (W.alloc (.cells #[.string s, .int .i64 1, .int .i64 1] 67)) := abides_toT hA hJ ((Below.refl _ _).alloc (Nat.le_refl _) _)
  have HB1 : Hid (BxC (W.alloc (.cells #[.string s, .int .i64 1, .int .i64 1] 67)) W.heap.size s (1, 1)) := heap_alloc_new W _
  have HW1 : Hid (CapT (W.alloc (.cells #[.string s, .int .i64 1, .int .i64 1] 67)) b1 b2 b3 o1 o2 s) := hc.next ((Below.refl _ _).alloc (Nat.le_refl _) _)
  clear hc hL0 hs hJ
  refine callsIn_of_wp Tryz.func31 rfl trivial ?_ rfl
  simp only [Tryz.ntmps31, List.size_toArray, List.length_cons, List.length_nil, Nat.reduceAdd, Nat.reduceSub, Array.replicate_succ, Array.replicate_zero, List.push_toArray, List.append_toArray, List.nil_append, List.cons_append]
  refine wpIn_wide.2 ?_
  go_step3
  refine (wpIn_wide (n := n)).1 ?_
  gi_wp2
  clear y1
  refine wpIn_label ?_
  gi_wp2
  gi_loopw [6] (fun _ wr => ∃ (s' : ByteArray) (p' : Nat × Nat) (f : Nat) (pre : List Tk), Hid (BxC wr W.heap.size s' p') ∧ Hid (StdT L0 s.size f s' p' pre) ∧ J pre wr ∧ Hid (CapT wr b1 b2 b3 o1 o2 s)) (fun _ wr => restN W.heap.size wr)
  case atStart => exact ⟨s, (1, 1), s.size + 1, [], HB1, HST0, hJ1, HW1⟩
  case round =>
    obtain ⟨s', p', f, pre, HB, HST, hJk, HBW⟩ := hrel
    clear hJ1 HB1 HW1 HST0
    have y0 := HB.out.cell 0
    have el : s'.toList = s'.data.toList := ByteArray.toList_eq s'
    have hls : s'.data.toList.length = s'.size := by simp
    have hcap := HBW.out
    have q2 := hcap.k2
    have q3 := hcap.k3
    have HD1 := Lib.hid hcap.k4
    have HD2 := Lib.hid hcap.k5
    have hBt := HB.out.lt
    have hp1 : p'.1 ≤ 100000 := by have := HST.out.place; have := HHS.out; omega
    have hp2 : p'.2 ≤ 100000 := by have := HST.out.place; have := HHS.out; omega
    have hss : s'.size ≤ 50000 := by have := HST.out.size; have := HHS.out; omega
    clear hcap
    obtain ⟨f, rfl⟩ : ∃ g, f = g + 1 := ⟨f - 1, by have := HST.out.fuel; omega⟩
    cases hcr : s'.data.toList with
    | nil =>
      have hE : s'.toList = [] := by rw [el, hcr]
      have HE : Hid (L0 = pre ++ [(3, ⟨#[]⟩, p')]) := by have := HST.out.rest; rw [tellB_nil hcr] at this; exact this
      have HP := Lib.hid (And.intro hp1 hp2)
      have HZ := Lib.hid hBt
      clear el hcr hls hp1 hp2 hss q2 q3 hBt
      gi_wp2_with fail
      refine ⟨trivial, wide_deepT _, ?_⟩
      refine (callsIn_wide.2 (place_any W.heap.size s' p' 3 wr HB.out)).mono ?_
      rintro e w5 ⟨rfl, hb5⟩
      have hJ5 := abides_toT hA hJk hb5
      obtain ⟨fn, tmps, assign, body, hy, hR⟩ := hY (n - 1) pre (3, ⟨#[]⟩, p') w5 hJ5 (by have := HST.out.len; omega) ⟨.inr (.inr (.inr (.inl rfl))), Nat.zero_le _, (fun e => by cases e), (fun e => by cases e), HP.out.1, HP.out.2⟩
      have hy' : (Instr.yield lp #[.agg #[.int .i64 3, .string ⟨#[]⟩, .int .i64 (p'.1 : Int), .int .i64 (p'.2 : Int)]]).run Tryz.prog w5 = .ok (.round lp fn tmps assign body) w5 := hy
      clear hy hb5 hJ5 hJk y0
      unfold tokV
      gi_wp2
      refine ⟨wide_deepT _, ?_⟩
      refine hR.mono ?_
      rintro e W5 (⟨rfl, hJ6, hk6⟩ | ⟨rfl, hJx6⟩)
      · gi_wp2
        rw [Exit.noGoto_normal]
        go_end0
        exact ⟨⟨_, rfl⟩, .inl (by rw [HE.out]; exact hJ6)⟩
      · gi_wp2
        rw [Exit.noGoto_normal]
        go_end0
        exact ⟨⟨_, rfl⟩, .inr ⟨_, ⟨[], by rw [List.append_nil]; exact HE.out.symm⟩, hJx6⟩⟩
    | cons c r =>
      have hpz : 0 < s'.size := by rw [← hls, hcr]; exact Nat.succ_pos _
      have hne : s'.data.toList ≠ [] := by rw [hcr]; exact fun e => by cases e
      have hE : s'.toList.isEmpty = false := by rw [el, hcr]; rfl
      have hE2 : (s'.toList == []) = false := by rw [el]; exact beq_eq_false_iff_ne.2 hne
      have hs0 : s'[0] = c := by
        have : s'.data.toList[0]? = some c := by rw [hcr]; rfl
        rw [List.getElem?_eq_getElem (by omega)] at this
        exact Option.some.inj this
      have HCR := Lib.hid hcr
      have HPP := Lib.hid (And.intro hp1 (And.intro hp2 hss))
      have HPZ := Lib.hid hpz
      have HZB := Lib.hid hBt
      clear el hls hcr hne hp1 hp2 hss hBt
      by_cases h59 : c = 59
      · have hcb : ((c.toNat : Int) == 59) = true := by rw [h59]; rfl
        obtain ⟨k, hk⟩ : ∃ k, (s'.data.toList.takeWhile (fun b => b != 10)).length = k := ⟨_, rfl⟩
        have hkp : 0 < k ∧ k ≤ s'.size := by
          have h1 : (s'.data.toList.takeWhile (fun b => b != 10)).length ≤ s'.data.toList.length := (List.takeWhile_prefix _).length_le
          rw [Array.length_toList] at h1
          refine ⟨?_, by rw [← hk]; exact h1⟩
          rw [← hk, HCR.out, h59, List.takeWhile_cons_of_pos (by decide)]
          exact Nat.succ_pos _
        have HSN : Hid (StdT L0 s.size f (s'.extract k s'.size) (posL (s'.data.toList.take k) p') pre) := HST.out.skip hkp.1 hkp.2 (by rw [tellB_rem (HCR.out.trans (by rw [h59])), hk])
        have hte := toEnd_any s' wr
        rw [hk] at hte
        have HTE := Lib.hid hte
        have HKP := Lib.hid hkp
        clear h59 hk hkp hte q2 q3
        gi_wp2_with fail
        refine ⟨trivial, wide_deepT _, ?_⟩
        refine (callsIn_wide.2 HTE.out).mono ?_
        rintro e w5 ⟨rfl, rfl⟩
        gi_wp2_with fail
        refine ⟨trivial, wide_deepT _, ?_⟩
        refine (callsIn_wide.2 (skip_any W.heap.size s' p' k wr HB.out HKP.out.2 HPP.out.2.2 HPP.out.1 HPP.out.2.1)).mono ?_
        rintro e w6 ⟨rfl, hB6, hO6⟩
        have hJ6 := hS pre wr w6 W.heap.size _ (Nat.le_refl _) HB.out hO6 hJk
        have HB6 := Lib.hid hB6
        have HBW6 := Lib.hid (HBW.out.only hO6 HB.out)
        have hr6 := hB6.rest
        have hr5 := HB.out.rest
        have hzz : (s'.extract k s'.size).size = s'.size - k := by rw [ByteArray.size_extract]; omega
        have HM : Hid (restN W.heap.size w6 < restN W.heap.size wr) := by show _ < _; have := HKP.out; have := HPZ.out; omega
        clear hB6 hO6 hJk y0 hr6 hr5 hzz
        gi_wp2
        go_roundw
        case rel => exact ⟨_, _, f, pre, HB6, HSN, hJ6, HBW6⟩
        case measure => exact HM.out
      · have hcb : ((c.toNat : Int) == 59) = false := by
          rw [beq_eq_false_iff_ne]
          intro e
          exact h59 (UInt8.toNat_inj.1 (by show c.toNat = 59; omega))
        have H59 := Lib.hid h59
        clear h59
        have hob := oneOf1_any blkS c o1 wr HD1.out
        rw [show blkS.data.toList.contains c = inB blkS c from rfl] at hob
        cases hbl : inB blkS c with
        | true =>
          rw [hbl] at hob
          have HOB := Lib.hid hob
          obtain ⟨k, hk⟩ : ∃ k, begP (inB blkS) s'.data.toList = k := ⟨_, rfl⟩
          have hkp : 0 < k ∧ k ≤ s'.size := by
            have h1 := begP_le (inB blkS) s'.data.toList
            rw [Array.length_toList] at h1
            refine ⟨?_, by rw [← hk]; exact h1⟩
            rw [← hk, HCR.out]
            unfold begP
            rw [List.takeWhile_cons_of_pos hbl]
            exact Nat.succ_pos _
          have HSN : Hid (StdT L0 s.size f (s'.extract k s'.size) (posL (s'.data.toList.take k) p') pre) := HST.out.skip hkp.1 hkp.2 (by rw [tellB_blk HCR.out H59.out hbl, hk])
          have hbg := beginsO_any o1 blkS s' wr HD1.out (by have := HPP.out.2.2; omega)
          rw [hk] at hbg
          have HBG := Lib.hid hbg
          have HKP := Lib.hid hkp
          clear hob hk hkp hbg hbl q3
          gi_wp2_with fail
          refine ⟨trivial, wide_deepT _, ?_⟩
          refine (callsIn_wide.2 HOB.out).mono ?_
          rintro e w5 ⟨rfl, rfl⟩
          gi_wp2_with fail
          refine ⟨trivial, wide_deepT _, ?_⟩
          refine (callsIn_wide.2 HBG.out).mono ?_
          rintro e w5 ⟨rfl, rfl⟩
          gi_wp2_with fail
          refine ⟨trivial, wide_deepT _, ?_⟩
          refine (callsIn_wide.2 (skip_any W.heap.size s' p' k wr HB.out HKP.out.2 HPP.out.2.2 HPP.out.1 HPP.out.2.1)).mono ?_
          rintro e w6 ⟨rfl, hB6, hO6⟩
          have hJ6 := hS pre wr w6 W.heap.size _ (Nat.le_refl _) HB.out hO6 hJk
          have HB6 := Lib.hid hB6
          have HBW6 := Lib.hid (HBW.out.only hO6 HB.out)
          have hr6 := hB6.rest
          have hr5 := HB.out.rest
          have hzz : (s'.extract k s'.size).size = s'.size - k := by rw [ByteArray.size_extract]; omega
          have HM : Hid (restN W.heap.size w6 < restN W.heap.size wr) := by show _ < _; have := HKP.out; have := HPZ.out; omega
          clear hB6 hO6 hJk y0 hr6 hr5 hzz
          gi_wp2
          go_roundw
          case rel => exact ⟨_, _, f, pre, HB6, HSN, hJ6, HBW6⟩
          case measure => exact HM.out
        | false =>
          rw [hbl] at hob
          have HOB := Lib.hid hob
          have HBL := Lib.hid hbl
          clear hob hbl
          gi_wp2_with fail
          refine ⟨trivial, wide_deepT _, ?_⟩
          refine (callsIn_wide.2 HOB.out).mono ?_
          rintro e w5 ⟨rfl, rfl⟩
          gi_wp2_with fail
          refine ⟨trivial, wide_deepT _, ?_⟩
          refine (callsIn_wide.2 (token_any W.heap.size s' p' wr HB.out (by have := HPZ.out; omega) HPP.out.2.2 HPP.out.1 HPP.out.2.1)).mono ?_
          rintro e w6 ⟨rfl, hB6, hO6⟩
          have hJ6 := hS pre wr w6 W.heap.size _ (Nat.le_refl _) HB.out hO6 hJk
          have HBW6 : Hid (CapT w6 b1 b2 b3 o1 o2 s) := HBW.out.only hO6 HB.out
          have HB6 := Lib.hid hB6
          have hbw := Only.bel hO6
          have HRN : Hid (restN W.heap.size wr = s'.size) := HB.out.rest
          clear hO6 hB6 hJk y0 q2 q3 hbw
          obtain ⟨⟨k, m⟩, hm⟩ : ∃ x, measL s'.data.toList = x := ⟨_, rfl⟩
          obtain ⟨q, hq⟩ : ∃ q, posL (s'.data.toList.take m) p' = q := ⟨_, rfl⟩
          have hml := measL_le s'.data.toList
          rw [hm, Array.length_toList] at hml
          have hok := fun h => meas_ok HCR.out HPP.out.2.2 HPP.out.1 HPP.out.2.1 (h : (measL s'.data.toList).1 ≠ 4)
          have hqb := posL_le (s'.data.toList.take m) p' HST.out.col
          have htl : (s'.data.toList.take m).length = m := by rw [List.length_take, Array.length_toList]; exact Nat.min_eq_left hml
          rw [htl, hq] at hqb
          have HQB : Hid (q.1 ≤ 100000 ∧ q.2 ≤ 100000) := by
            have h1 := HST.out.place
            have h2 := HHS.out
            have h3 : m ≤ s'.size := hml
            show _ ∧ _
            omega
          by_cases hk4 : k = 4
          · subst hk4
            have hT : tokA s'.data.toList s' p' = tokV 4 ⟨#[]⟩ q := by unfold tokA; rw [hm]; simp only [if_true]; rw [hq]
            have HE : Hid (L0 = pre ++ [(4, ⟨#[]⟩, q)]) := by
              have := HST.out.rest
              rw [tellB_flt HCR.out H59.out HBL.out (by rw [hm]), hm] at this
              simp only [hq] at this
              exact this
            rw [hT]
            unfold tokV
            clear hT hm hq hml hok hqb htl
            have hb7 : Below w6.heap.size w6 (w6.alloc (.cells #[.int .i64 4, .string ⟨#[]⟩, .int .i64 (q.1 : Int), .int .i64 (q.2 : Int)] 46)) := (Below.refl _ _).alloc (Nat.le_refl _) _
            have hJ7 := abides_toT hA hJ6 hb7
            have HT7 := Lib.hid (bxT_new w6 4 ⟨#[]⟩ q)
            obtain ⟨W7, hW7⟩ : ∃ W7, w6.alloc (.cells #[.int .i64 4, .string ⟨#[]⟩, .int .i64 (q.1 : Int), .int .i64 (q.2 : Int)] 46) = W7 := ⟨_, rfl⟩
            rw [hW7] at hJ7 HT7
            obtain ⟨fn, tmps, assign, body, hy, hR⟩ := hY (n - 1) pre (4, ⟨#[]⟩, q) W7 hJ7 (by have := HST.out.len; omega) ⟨.inr (.inr (.inr (.inr rfl))), Nat.zero_le _, (fun e => by cases e), (fun e => by cases e), HQB.out.1, HQB.out.2⟩
            have hy' : (Instr.yield lp #[.agg #[.int .i64 4, .string ⟨#[]⟩, .int .i64 (q.1 : Int), .int .i64 (q.2 : Int)]]).run Tryz.prog W7 = .ok (.round lp fn tmps assign body) W7 := hy
            have x0 := HT7.out.cell 0
            have x1 := HT7.out.cell 1
            have x2 := HT7.out.cell 2
            have x3 := HT7.out.cell 3
            clear hy hb7 hJ7 hJ6
            gi_wp2
            refine ⟨wide_deepT _, ?_⟩
            refine hR.mono ?_
            rintro e W5 (⟨rfl, hJ8, hk8⟩ | ⟨rfl, hJx8⟩)
            · have HT8 : Hid (BxT W5 w6.heap.size 4 ⟨#[]⟩ q) := (hk8.same _ _ _ HT7.out (by decide) (by decide)).trans HT7.out
              clear hW7 hy' hk8 x0 x1 x2 x3
              have x0 := HT8.out.cell 0
              gi_wp2
              rw [Exit.noGoto_ret]
              refine bodyPost_ret (results_none rfl _ _ _) rfl ?_
              exact ⟨⟨_, rfl⟩, .inl (by rw [HE.out]; exact hJ8)⟩
            · clear hW7 hy' x0 x1 x2 x3
              gi_wp2
              rw [Exit.noGoto_ret]
              refine bodyPost_ret (results_none rfl _ _ _) rfl ?_
              exact ⟨⟨_, rfl⟩, .inr ⟨_, ⟨[], by rw [List.append_nil]; exact HE.out.symm⟩, hJx8⟩⟩
          · have hkb : (k == 4) = false := beq_eq_false_iff_ne.2 hk4
            have hkd := measL_kind s'.data.toList
            rw [hm] at hkd hok
            obtain ⟨hok1, hm0⟩ := hok hk4
            have hT : tokA s'.data.toList s' p' = tokV k (s'.extract 0 m) p' := by unfold tokA; rw [hm]; simp only []; rw [if_neg hk4]
            have HRT := HST.out.rest
            rw [tellB_tok HCR.out H59.out HBL.out (by rw [hm]; exact hk4), hm] at HRT
            simp only [hq] at HRT
            rw [hm] at HB6
            simp only [hq] at HB6
            rw [hT]
            unfold tokV
            have HOK := Lib.hid hok1
            have HNX := Lib.hid (fun hr => HST.out.tok (x := (k, s'.extract 0 m, p')) (k := m) hm0 hml hr)
            rw [hq] at HNX
            have hzz : (s'.extract m s'.size).size = s'.size - m := by rw [ByteArray.size_extract]; omega
            have HMZ : Hid ((s'.extract m s'.size).size < s'.size) := by show _ < _; have h1 := HPZ.out; have h2 : 0 < m := hm0; omega
            have hdr : (s'.extract m s'.size).data.toList = s'.data.toList.drop m := Lib.extract_to_end s' m
            rw [← hdr] at HRT
            obtain ⟨s2, hs2⟩ : ∃ s2, s'.extract m s'.size = s2 := ⟨_, rfl⟩
            obtain ⟨sp, hsp⟩ : ∃ sp, s'.extract 0 m = sp := ⟨_, rfl⟩
            have hrw := tellB_tok (f := f) (p := p') HCR.out H59.out HBL.out (by rw [hm]; exact hk4)
            rw [hm] at hrw
            simp only [hq] at hrw
            rw [← hdr, hs2, hsp] at hrw
            rw [hs2] at HB6 HRT HNX HMZ
            rw [hsp] at HRT HNX HOK
            have HRT := Lib.hid HRT
            have HRW := Lib.hid hrw
            have HKD : Hid (k = 0 ∨ k = 1 ∨ k = 2 ∨ k = 4) := hkd
            rw [hsp]
            clear hT hm hq hml hok hqb htl hok1 hm0 hzz hdr hs2 hsp hkd hrw
            have hb7 : Below w6.heap.size w6 (w6.alloc (.cells #[.int .i64 k, .string sp, .int .i64 (p'.1 : Int), .int .i64 (p'.2 : Int)] 46)) := (Below.refl _ _).alloc (Nat.le_refl _) _
            have hJ7 := abides_toT hA hJ6 hb7
            have HT7 := Lib.hid (bxT_new w6 k sp p')
            have HB7 := Lib.hid (HB6.out.below hb7)
            have HBW7 : Hid (CapT (w6.alloc (.cells #[.int .i64 k, .string sp, .int .i64 (p'.1 : Int), .int .i64 (p'.2 : Int)] 46)) b1 b2 b3 o1 o2 s) := HBW6.out.next hb7
            obtain ⟨W7, hW7⟩ : ∃ W7, w6.alloc (.cells #[.int .i64 k, .string sp, .int .i64 (p'.1 : Int), .int .i64 (p'.2 : Int)] 46) = W7 := ⟨_, rfl⟩
            rw [hW7] at hJ7 HT7 HB7 HBW7
            obtain ⟨fn, tmps, assign, body, hy, hR⟩ := hY (n - 1) pre (k, sp, p') W7 hJ7 (by have := HST.out.len; omega) HOK.out
            have hy' : (Instr.yield lp #[.agg #[.int .i64 k, .string sp, .int .i64 (p'.1 : Int), .int .i64 (p'.2 : Int)]]).run Tryz.prog W7 = .ok (.round lp fn tmps assign body) W7 := hy
            have x0 := HT7.out.cell 0
            have x1 := HT7.out.cell 1
            have x2 := HT7.out.cell 2
            have x3 := HT7.out.cell 3
            clear hy hb7 hJ7 hJ6
            gi_wp2
            refine ⟨wide_deepT _, ?_⟩
            refine hR.mono ?_
            rintro e W5 (⟨rfl, hJ8, hk8⟩ | ⟨rfl, hJx8⟩)
            · have HT8 : Hid (BxT W5 w6.heap.size k sp p') := (hk8.same _ _ _ HT7.out (by decide) (by decide)).trans HT7.out
              have HB8 : Hid (BxC W5 W.heap.size s2 q) := (hk8.same _ _ _ HB7.out (by decide) (by decide)).trans HB7.out
              have HBW8 : Hid (CapT W5 b1 b2 b3 o1 o2 s) := HBW7.out.keep hk8
              clear hW7 hy' hk8 x0 x1 x2 x3
              have x0 := HT8.out.cell 0
              have z0 := HB8.out.cell 0
              have hcap8 := HBW8.out
              have q3 := hcap8.k3
              have HD3 := Lib.hid hcap8.k5
              have el2 : s2.toList = s2.data.toList := ByteArray.toList_eq s2
              clear hcap8
              have HJ8 := Lib.hid hJ8
              by_cases hk0 : k = 0
              · subst hk0
                cases hs2 : s2.data.toList with
                | nil =>
                  have hE3 : s2.toList = [] := by rw [el2, hs2]
                  have HTL : Hid (tellB (f + 1) s' p' = (0, sp, p') :: tellB f s2 q) := by have := HRW.out; rw [hs2] at this; exact this
                  clear el2 hs2 q3 hkb
                  gi_wp2_with fail
                  refine wpIn_wide.2 ?_
                  go_quiet (fail)
                  clear x0 z0
                  have HBW9 : Hid (CapT (W5.drewN nq) b1 b2 b3 o1 o2 s) := HBW8.out.next (below_dnT (Below.refl _ _) nq)
                  have HB9 : Hid (BxC (W5.drewN nq) W.heap.size s2 q) := HB8.out.below (below_dnT (Below.refl _ _) nq)
                  have hJ9 : J (pre ++ [(0, sp, p')]) (W5.drewN nq) := abides_toT hA hJ8 (below_dnT (Below.refl _ _) nq)
                  have hm9 : restN W.heap.size (W5.drewN nq) < restN W.heap.size wr := by rw [HRN.out, HB9.out.rest]; exact HMZ.out
                  have HM9 := Lib.hid hm9
                  clear hm9 hJ8
                  obtain ⟨W9, hW9⟩ : ∃ W9, W5.drewN nq = W9 := ⟨_, rfl⟩
                  rw [hW9] at HBW9 HB9 hJ9 HM9
                  rw [hW9]
                  clear hW9
                  gi_wp2
                  go_roundw
                  case rel => exact ⟨_, _, f, _, HB9, Lib.hid (HNX.out HTL.out), hJ9, HBW9⟩
                  case measure => exact HM9.out
                | cons b t =>
                  have hpz2 : 0 < s2.size := by have h : s2.data.toList.length = s2.size := Array.length_toList; rw [← h, hs2]; exact Nat.succ_pos _
                  have hne2 : (s2.toList == []) = false := by rw [el2, hs2]; rfl
                  have hs20 : s2[0] = b := by
                    have : s2.data.toList[0]? = some b := by rw [hs2]; rfl
                    rw [List.getElem?_eq_getElem (by simpa using hpz2)] at this
                    exact Option.some.inj this
                  have hob2 := fun n => (oneOf1_any bhdS b o2 (W5.drewN n) (((below_dnT (Below.refl (o2 + 1) W5) n).cell (p := ⟨o2, 0, none⟩) (Nat.lt_succ_self o2)).trans HD3.out)).mono (R' := fun e w' => e = .returned (.bool (bhdS.data.toList.contains b)) ∧ w' = W5.drewN n) (fun _ _ h => ⟨h.1, h.2.symm⟩)
                  rw [show bhdS.data.toList.contains b = inB bhdS b from rfl] at hob2
                  obtain ⟨ib, hib⟩ : ∃ ib, inB bhdS b = ib := ⟨_, rfl⟩
                  rw [hib] at hob2
                  have HOB2 := Lib.hid hob2
                  have HBB : Hid (badB 0 s2.data.toList = !ib) := by rw [hs2]; show ((0 : Int) == 0 && !inB bhdS b) = !ib; rw [hib]; rfl
                  clear hob2 hib el2 hs2 hkb
                  cases ib with
                  | true =>
                    have HTL : Hid (tellB (f + 1) s' p' = (0, sp, p') :: tellB f s2 q) := by have := HRW.out; rw [HBB.out] at this; exact this
                    gi_wp2_with fail
                    refine wpIn_wide.2 ?_
                    go_quiet (refine Calls.quiet_of_same (HOB2.out _))
                    clear x0 z0 q3
                    have HBW9 : Hid (CapT (W5.drewN nq) b1 b2 b3 o1 o2 s) := HBW8.out.next (below_dnT (Below.refl _ _) nq)
                    have HB9 : Hid (BxC (W5.drewN nq) W.heap.size s2 q) := HB8.out.below (below_dnT (Below.refl _ _) nq)
                    have hJ9 : J (pre ++ [(0, sp, p')]) (W5.drewN nq) := abides_toT hA hJ8 (below_dnT (Below.refl _ _) nq)
                    have hm9 : restN W.heap.size (W5.drewN nq) < restN W.heap.size wr := by rw [HRN.out, HB9.out.rest]; exact HMZ.out
                    have HM9 := Lib.hid hm9
                    clear hm9 hJ8
                    obtain ⟨W9, hW9⟩ : ∃ W9, W5.drewN nq = W9 := ⟨_, rfl⟩
                    rw [hW9] at HBW9 HB9 hJ9 HM9
                    rw [hW9]
                    clear hW9
                    gi_wp2
                    go_roundw
                    case rel => exact ⟨_, _, f, _, HB9, Lib.hid (HNX.out HTL.out), hJ9, HBW9⟩
                    case measure => exact HM9.out
                  | false =>
                    have HE : Hid (L0 = (pre ++ [(0, sp, p')]) ++ [(4, ⟨#[]⟩, q)]) := by
                      have := HRT.out
                      rw [HBB.out] at this
                      rw [this, List.append_assoc]
                      rfl
                    gi_wp2_with fail
                    refine wpIn_wide.2 ?_
                    go_quiet (refine Calls.quiet_of_same (HOB2.out _))
                    clear x0 z0 q3
                    have HB9 : Hid (BxC (W5.drewN nq) W.heap.size s2 q) := HB8.out.below (below_dnT (Below.refl _ _) nq)
                    have hJ9 : J (pre ++ [(0, sp, p')]) (W5.drewN nq) := abides_toT hA hJ8 (below_dnT (Below.refl _ _) nq)
                    obtain ⟨W9, hW9⟩ : ∃ W9, W5.drewN nq = W9 := ⟨_, rfl⟩
                    rw [hW9] at HB9 hJ9
                    rw [hW9]
                    clear hW9 hJ8
                    gi_wp2_with fail
                    refine ⟨trivial, wide_deepT _, ?_⟩
                    refine (callsIn_wide.2 (place_any W.heap.size s2 q 4 W9 HB9.out)).mono ?_
                    rintro e w10 ⟨rfl, hb10⟩
                    have hJ10 := abides_toT hA hJ9 hb10
                    obtain ⟨fn2, tmps2, assign2, body2, hy2, hR2⟩ := hY (n - 1) _ (4, ⟨#[]⟩, q) w10 hJ10 (by have h1 := HST.out.len; have h2 := HPZ.out; rw [List.length_append, List.length_singleton]; omega) ⟨.inr (.inr (.inr (.inr rfl))), Nat.zero_le _, (fun e => by cases e), (fun e => by cases e), HQB.out.1, HQB.out.2⟩
                    have hy2' : (Instr.yield lp #[.agg #[.int .i64 4, .string ⟨#[]⟩, .int .i64 (q.1 : Int), .int .i64 (q.2 : Int)]]).run Tryz.prog w10 = .ok (.round lp fn2 tmps2 assign2 body2) w10 := hy2
                    clear hy2 hb10 hJ9 hJ10
                    unfold tokV
                    gi_wp2
                    refine ⟨wide_deepT _, ?_⟩
                    refine hR2.mono ?_
                    rintro e W10 (⟨rfl, hJ11, hk11⟩ | ⟨rfl, hJx11⟩)
                    · gi_wp2
                      rw [Exit.noGoto_ret]
                      refine bodyPost_ret (results_none rfl _ _ _) rfl ?_
                      exact ⟨⟨_, rfl⟩, .inl (by rw [HE.out]; exact hJ11)⟩
                    · gi_wp2
                      rw [Exit.noGoto_ret]
                      refine bodyPost_ret (results_none rfl _ _ _) rfl ?_
                      exact ⟨⟨_, rfl⟩, .inr ⟨_, ⟨[], by rw [List.append_nil]; exact HE.out.symm⟩, hJx11⟩⟩
              · have hk0b : (k == 0) = false := beq_eq_false_iff_ne.2 hk0
                have HTL : Hid (tellB (f + 1) s' p' = (k, sp, p') :: tellB f s2 q) := by
                  have h := HRW.out
                  have hb : badB k s2.data.toList = false := by
                    cases s2.data.toList with
                    | nil => rfl
                    | cons b t => unfold badB; rw [hk0b]; rfl
                  rw [hb] at h
                  exact h
                clear el2 q3
                gi_wp2_with fail
                refine wpIn_wide.2 ?_
                go_quiet (fail)
                clear x0 z0
                have HBW9 : Hid (CapT (W5.drewN nq) b1 b2 b3 o1 o2 s) := HBW8.out.next (below_dnT (Below.refl _ _) nq)
                have HB9 : Hid (BxC (W5.drewN nq) W.heap.size s2 q) := HB8.out.below (below_dnT (Below.refl _ _) nq)
                have hJ9 : J (pre ++ [(k, sp, p')]) (W5.drewN nq) := abides_toT hA hJ8 (below_dnT (Below.refl _ _) nq)
                have hm9 : restN W.heap.size (W5.drewN nq) < restN W.heap.size wr := by rw [HRN.out, HB9.out.rest]; exact HMZ.out
                have HM9 := Lib.hid hm9
                clear hm9 hJ8
                obtain ⟨W9, hW9⟩ : ∃ W9, W5.drewN nq = W9 := ⟨_, rfl⟩
                rw [hW9] at HBW9 HB9 hJ9 HM9
                rw [hW9]
                clear hW9
                gi_wp2
                go_roundw
                case rel => exact ⟨_, _, f, _, HB9, Lib.hid (HNX.out HTL.out), hJ9, HBW9⟩
                case measure => exact HM9.out
            · clear hW7 hy' x0 x1 x2 x3
              gi_wp2
              rw [Exit.noGoto_ret]
              refine bodyPost_ret (results_none rfl _ _ _) rfl ?_
              exact ⟨⟨_, rfl⟩, .inr ⟨pre ++ [(k, sp, p')], ⟨_, by rw [HRT.out, List.append_assoc]; rfl⟩, hJx8⟩⟩
/-- the iterator's contract, for a range over it -/
theorem ttold_stops (w : World) (b1 b2 b3 o1 o2 : Nat) (s : ByteArray) (n : Nat) (hc : CapT w b1 b2 b3 o1 o2 s) (hs : s.size ≤ 50000) :
    StopsOnly Fence.wide n Tryz.prog 31 #[.pointer (some ⟨b1, 0, none⟩), .pointer (some ⟨b2, 0, none⟩), .pointer (some ⟨b3, 0, none⟩)] encT 67 TkOk KeepTk (fun xs => xs = tellB (s.size + 1) s (1, 1)) (fun q => q <+: tellB (s.size + 1) s (1, 1)) (s.size + 2) w := by
  intro l J Jx W hW hA hS hY hJ
  have hH : HandsT (s.size + 2) l J Jx := fun m pre x X h1 h2 h3 => by
    obtain ⟨fn, tmps, assign, body, hy, hR⟩ := hY pre x X h1 h2 h3
    exact ⟨fn, tmps, assign, body, hy, hR.1, fun c cs _ => hR.2 c cs (fun d h => by cases h)⟩
  refine (ttold_in l b1 b2 b3 o1 o2 W.heap.size s J Jx hA W hS hH n (hc.next hW) hs hJ).mono ?_
  rintro e X ⟨hv, h⟩
  exact ⟨hv, h.imp (fun h => ⟨_, rfl, h⟩) (fun ⟨q, h1, h2⟩ => ⟨q, h1, h2⟩)⟩
end Go.Proofs.YthbighnkohjfnaaGreatDoor
