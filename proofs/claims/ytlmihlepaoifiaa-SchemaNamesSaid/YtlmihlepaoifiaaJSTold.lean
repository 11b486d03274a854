/-
  CONTRACT: told (two sets' spans together).
-/
import Derived.RangeFuncNested
import Derived.OwnWalkIn
import Derived.Test.YtlmihlepaoifiaaJSLeaf
import Derived.Test.YtlmihlepaoifiaaJOBack
namespace Go.Proofs.Ytlmihlepaoifiaa
open Go.RowKit Go.Shelf

/-- One round of the loop that is handed spans. -/
def HandsS (B l N : Nat) (J Jx : List (Sp × Nat) → World → Prop) : Prop :=
  ∀ m pre (x : Sp × Nat) W, J pre W → pre.length < N → YieldAt Fence.wide m Try.prog l #[.agg #[.int .i64 x.1.1, .int .i64 x.1.2], .int .i64 (x.2 : Int)] W fun e W' =>
    (e = .returned (.bool true) ∧ J (pre ++ [x]) W' ∧ Below B W W') ∨ (e = .returned (.bool false) ∧ Jx (pre ++ [x]) W')
theorem abides_to {α : Type} {B : Nat} {J : List α → World → Prop} (hJ : AbidesFrom B J) {p : List α} {w w' : World} (h : J p w) (hb : Below w.heap.size w w') : J p w' :=
  hJ p w w' none h ⟨hb.os, hb.tape, hb.output, hb.size, fun k hk _ => hb.block k hk⟩ (fun r e => by cases e)
theorem turn_in64 {l : List Sp} {t : Int} (h : Live l t) (ht : t ≤ maxT) (hm : minT ≤ t) : minT ≤ turnI l t ∧ turnI l t ≤ maxT := by
  by_cases h1 : t < maxT
  · have := turn_gt h h1; omega
  · cases l with
    | nil => exact ⟨by show minT ≤ maxT; decide, Int.le_refl _⟩
    | cons s r => have := live_max h (by simp); omega
theorem told_step0 {a b ca cb : List Sp} {t T : Int} {pre : List (Sp × Nat)} (h : ∀ r, Told ca cb t r → Told a b minT (pre ++ r)) (hT : toI ca cb t = T) (hn : ¬ (ca = [] ∧ cb = [])) (ha : begunB ca t = false) (hb : begunB cb t = false) :
    ∀ r, Told (behindL ca T) (behindL cb T) T r → Told a b minT (pre ++ r) := fun r hr => by
  subst hT
  have := h _ (Told.next hn hr)
  rw [ha, hb] at this
  exact this
theorem told_step1 {a b ca cb : List Sp} {t T : Int} {pre : List (Sp × Nat)} {x y : Bool} {who : Nat} (h : ∀ r, Told ca cb t r → Told a b minT (pre ++ r)) (hT : toI ca cb t = T) (hn : ¬ (ca = [] ∧ cb = [])) (ha : begunB ca t = x) (hb : begunB cb t = y) (hw : whoN x y = who) (h0 : who ≠ 0) :
    ∀ r, Told (behindL ca T) (behindL cb T) T r → Told a b minT (pre ++ [((t, T), who)] ++ r) := fun r hr => by
  subst hT
  have := h _ (Told.next hn hr)
  rw [ha, hb, hw, if_neg h0] at this
  rwa [List.append_assoc]
theorem SlS.back {W W' : World} {A : Option Addr} {l : List Sp} (B : Nat) (h : SlS W' B A l) (hb : Below B W W') : SlS W B A l := fun hl => by
  obtain ⟨b, o, e, hlt, hc⟩ := h hl
  exact ⟨b, o, e, hlt, fun j s hs => ⟨(hb.cell (p := ⟨b, _, none⟩) hlt).symm.trans (hc j s hs).c0, (hb.cell (p := ⟨b, _, none⟩) hlt).symm.trans (hc j s hs).c1⟩⟩
set_option maxRecDepth 100000 in
set_option maxHeartbeats 1000000 in
theorem stold_in (w : World) (B lp C Ba Bb N : Nat) (A A' : Option Addr) (c c' : Nat) (a b : List Sp) (J Jx : List (Sp × Nat) → World → Prop) (hA : AbidesFrom C J) (hY : HandsS B lp N J Jx) (n : Nat)
    (W : World) (hBW : B ≤ W.heap.size) (hwW : Below B w W) (hs : SlS w B A a) (hs' : SlS w B A' b) (hlc : a.length ≤ c) (hc : c ≤ maxLen) (hlc' : b.length ≤ c') (hc' : c' ≤ maxLen)
    (hla : Live a minT) (hlb : Live b minT) (hN : 2 * a.length + 2 * b.length ≤ N)
    (hb : W.cell? ⟨Ba, 0, none⟩ = some (.slice A a.length c)) (hkb : W.cell? ⟨Bb, 0, none⟩ = some (.slice A' b.length c')) (hJ : J [] W) :
    CallsIn Fence.wide n Try.prog 82 #[.func (.yield lp) #[] #[], .pointer (some ⟨Ba, 0, none⟩), .pointer (some ⟨Bb, 0, none⟩)] W fun e W' =>
      (∃ v, e = .returned v) ∧ ((∃ ys, Told a b minT ys ∧ J ys W') ∨ ∃ q, (∃ r, Told a b minT (q ++ r)) ∧ Jx q W') := by
  refine callsIn_of_wp Try.func82 rfl trivial ?_ rfl
  simp only [Try.ntmps82, List.size_toArray, List.length_cons, List.length_nil, Nat.reduceAdd, Nat.reduceSub, Array.replicate_succ, Array.replicate_zero, List.push_toArray, List.append_toArray, List.nil_append, List.cons_append]
  have HR0 : Hid (SlS w B A a ∧ SlS w B A' b ∧ Live a minT ∧ Live b minT ∧ a.length ≤ c ∧ c ≤ maxLen ∧ b.length ≤ c' ∧ c' ≤ maxLen) := ⟨hs, hs', hla, hlb, hlc, hc, hlc', hc'⟩
  have HBW0 := Lib.hid hwW
  clear hs hs' hla hlb hlc hc hlc' hc' hwW
  gi_wp2
  gi_region
  all_goals
    have hJ1 : J [] W.drew := abides_to hA hJ (Below.refl _ _).drew
    have hB1 : Below B w W.drew := HBW0.out.drew
    have hs1 : B ≤ W.drew.heap.size := hBW
    obtain ⟨W0, hW0⟩ : ∃ W0, W.drew = W0 := ⟨_, rfl⟩
    rw [hW0] at hJ1 hB1 hs1
    rw [hW0]
    clear hW0 hJ hb hkb
    have HB1 := Lib.hid hB1
    clear hB1
    gi_wp2
    gi_loopw [4, 5, 6, 7, 8] (fun x y z _ _ wr => ∃ (A1 A2 : Option Addr) (c1 c2 : Nat) (ca cb : List Sp) (t : Int) (pre : List (Sp × Nat)), x = .slice A1 ca.length c1 ∧ y = .slice A2 cb.length c2 ∧ z = .int .i64 t ∧ (-9223372036854775808 ≤ t ∧ t ≤ 9223372036854775807) ∧ Hid (SlS w B A1 ca ∧ SlS w B A2 cb ∧ Live ca t ∧ Live cb t ∧ ca.length ≤ c1 ∧ c1 ≤ maxLen ∧ cb.length ≤ c2 ∧ c2 ≤ maxLen) ∧ Hid (pre.length + cost ca t + cost cb t ≤ N) ∧ Hid (∀ r, Told ca cb t r → Told a b minT (pre ++ r)) ∧ J pre wr ∧ Hid (Below B w wr) ∧ B ≤ wr.heap.size) (fun _ _ z _ _ _ => (9223372036854775807 - intOf z).toNat)
    case atStart => exact ⟨A, A', c, c', a, b, minT, [], rfl, rfl, rfl, by decide, HR0.out, (by show _ ≤ _; unfold cost; simp only [List.length_nil]; omega), (fun r h => h), hJ1, HB1.out, hs1⟩
    case round =>
      obtain ⟨A1, A2, c1, c2, ca, cb, t, pre, rfl, rfl, rfl, ht, HR, HC, HT, hJk, HB, hBr⟩ := hrel
      clear hJ1 hs1 HB1
      by_cases hn : ca = [] ∧ cb = []
      · obtain ⟨rfl, rfl⟩ := hn
        have HE : Hid (Told a b minT pre) := by
          have h9 := HT.out []
          rw [List.append_nil] at h9
          exact h9 (.done t)
        gi_wp2
        go_end0
        exact ⟨⟨_, rfl⟩, .inl ⟨pre, HE.out, hJk⟩⟩
      · have hga : SlS wr B A1 ca := HR.out.1.next HB.out (Nat.le_refl _)
        have hgb : SlS wr B A2 cb := HR.out.2.1.next HB.out (Nat.le_refl _)
        have HGA := Lib.hid hga
        have HGB := Lib.hid hgb
        obtain ⟨g1, g2, g3, g4⟩ := to_gt HR.out.2.2.1 HR.out.2.2.2.1 hn
        have HLA := Lib.hid (behind_live HR.out.2.2.1 g1 g3)
        have HLB := Lib.hid (behind_live HR.out.2.2.2.1 g1 g4)
        have HCS := Lib.hid (cost_step HR.out.2.2.1 HR.out.2.2.2.1 hn)
        have k1 := turn_in64 HR.out.2.2.1 ht.2 ht.1
        have k2 := turn_in64 HR.out.2.2.2.1 ht.2 ht.1
        obtain ⟨T, hT⟩ : ∃ T, toI ca cb t = T := ⟨_, rfl⟩
        obtain ⟨ta, hta⟩ : ∃ x, turnI ca t = x := ⟨_, rfl⟩
        obtain ⟨tb, htb⟩ : ∃ x, turnI cb t = x := ⟨_, rfl⟩
        have hmn : (if tb < ta then tb else ta) = T := by
          rw [← hta, ← htb, ← hT]; unfold toI; split <;> omega
        rw [hT] at HLA HLB HCS g1 g2
        have HTT := Lib.hid hT
        have HN := Lib.hid hn
        have HMN := Lib.hid hmn
        have hTm : T ≤ 9223372036854775807 := g2
        have hTl : -9223372036854775808 ≤ T := by omega
        have CTA := Lib.hid (fun X h => by have h9 := turn_any A1 c1 ca t X B h; rw [hta] at h9; exact h9)
        have CTB := Lib.hid (fun X h => by have h9 := turn_any A2 c2 cb t X B h; rw [htb] at h9; exact h9)
        have CBA := Lib.hid (fun X h => behind_any A1 c1 ca T X B h HR.out.2.2.2.2.1 HR.out.2.2.2.2.2.1)
        have CBB := Lib.hid (fun X h => behind_any A2 c2 cb T X B h HR.out.2.2.2.2.2.2.1 HR.out.2.2.2.2.2.2.2)
        clear hga hgb hn hT hta htb g3 g4 k1 k2 g2 hmn
        have hb01 : bits .or .i64 0 1 = 1 := by decide +kernel
        have hb02 : bits .or .i64 0 2 = 2 := by decide +kernel
        have hb12 : bits .or .i64 1 2 = 3 := by decide +kernel
        cases hx : begunB ca t
        · cases hy : begunB cb t
          · by_cases hca : ca = []
            · have hd1 : decide (0 < ca.length) = false := by rw [hca]; rfl
              have hd : decide (0 < cb.length) = true := decide_eq_true (by have : cb.length ≠ 0 := fun e => HN.out ⟨hca, List.length_eq_zero_iff.1 e⟩; omega)
              clear hca
              have CGA := Lib.hid (fun X h => by have h9 := begun_any A1 c1 ca t X B h; rw [hx] at h9; exact h9)
              have CGB := Lib.hid (fun X h => by have h9 := begun_any A2 c2 cb t X B h; rw [hy] at h9; exact h9)
              have HNX := Lib.hid (told_step0 HT.out HTT.out HN.out hx hy)
              clear hx hy
              gi_wp2_with fail
              refine ⟨trivial, wide_deep _, ?_⟩
              refine (callsIn_wide.2 (CGA.out _ HGA.out)).mono ?_
              rintro e w9 ⟨rfl, rfl⟩
              gi_wp2_with fail
              refine ⟨trivial, wide_deep _, ?_⟩
              refine (callsIn_wide.2 (CGB.out _ HGB.out)).mono ?_
              rintro e w9 ⟨rfl, rfl⟩
              gi_wp2_with fail
              refine ⟨trivial, wide_deep _, ?_⟩
              refine (callsIn_wide.2 (CTA.out _ HGA.out)).mono ?_
              rintro e w9 ⟨rfl, rfl⟩
              gi_wp2_with fail
              refine ⟨trivial, wide_deep _, ?_⟩
              refine (callsIn_wide.2 (CTB.out _ HGB.out)).mono ?_
              rintro e w9 ⟨rfl, rfl⟩
              have hmn := HMN.out
              gi_wp2_with fail
              refine ⟨fun f h => (by cases h), ?_⟩
              gi_wp2_with fail
              refine ⟨trivial, wide_deep _, ?_⟩
              refine (callsIn_wide.2 (CBA.out _ HGA.out)).mono ?_
              rintro e w9 ⟨⟨A3, c3, rfl, p1, p2, p3⟩, rfl⟩
              have P1 := Lib.hid (And.intro p1 (And.intro p2 p3))
              clear p1 p2 p3
              gi_wp2_with fail
              refine ⟨trivial, wide_deep _, ?_⟩
              refine (callsIn_wide.2 (CBB.out _ HGB.out)).mono ?_
              rintro e w9 ⟨⟨A4, c4, rfl, q1, q2, q3⟩, rfl⟩
              have Q1 := Lib.hid (And.intro q1 (And.intro q2 q3))
              clear q1 q2 q3
              gi_wp2
              go_roundw
              case rel => exact ⟨A3, A4, c3, c4, behindL ca T, behindL cb T, T, pre, rfl, rfl, rfl, ⟨hTl, hTm⟩, ⟨SlS.back B P1.out.1 HB.out, SlS.back B Q1.out.1 HB.out, HLA.out, HLB.out, P1.out.2.1, P1.out.2.2, Q1.out.2.1, Q1.out.2.2⟩, (by show _ ≤ _; have := HC.out; have := HCS.out; omega), HNX.out, hJk, HB.out, hBr⟩
              case measure => simp [intOf]; omega
            · have hd : decide (0 < ca.length) = true := decide_eq_true (by have : ca.length ≠ 0 := fun e => hca (List.length_eq_zero_iff.1 e); omega)
              clear hca
              have CGA := Lib.hid (fun X h => by have h9 := begun_any A1 c1 ca t X B h; rw [hx] at h9; exact h9)
              have CGB := Lib.hid (fun X h => by have h9 := begun_any A2 c2 cb t X B h; rw [hy] at h9; exact h9)
              have HNX := Lib.hid (told_step0 HT.out HTT.out HN.out hx hy)
              clear hx hy
              gi_wp2_with fail
              refine ⟨trivial, wide_deep _, ?_⟩
              refine (callsIn_wide.2 (CGA.out _ HGA.out)).mono ?_
              rintro e w9 ⟨rfl, rfl⟩
              gi_wp2_with fail
              refine ⟨trivial, wide_deep _, ?_⟩
              refine (callsIn_wide.2 (CGB.out _ HGB.out)).mono ?_
              rintro e w9 ⟨rfl, rfl⟩
              gi_wp2_with fail
              refine ⟨trivial, wide_deep _, ?_⟩
              refine (callsIn_wide.2 (CTA.out _ HGA.out)).mono ?_
              rintro e w9 ⟨rfl, rfl⟩
              gi_wp2_with fail
              refine ⟨trivial, wide_deep _, ?_⟩
              refine (callsIn_wide.2 (CTB.out _ HGB.out)).mono ?_
              rintro e w9 ⟨rfl, rfl⟩
              have hmn := HMN.out
              gi_wp2_with fail
              refine ⟨fun f h => (by cases h), ?_⟩
              gi_wp2_with fail
              refine ⟨trivial, wide_deep _, ?_⟩
              refine (callsIn_wide.2 (CBA.out _ HGA.out)).mono ?_
              rintro e w9 ⟨⟨A3, c3, rfl, p1, p2, p3⟩, rfl⟩
              have P1 := Lib.hid (And.intro p1 (And.intro p2 p3))
              clear p1 p2 p3
              gi_wp2_with fail
              refine ⟨trivial, wide_deep _, ?_⟩
              refine (callsIn_wide.2 (CBB.out _ HGB.out)).mono ?_
              rintro e w9 ⟨⟨A4, c4, rfl, q1, q2, q3⟩, rfl⟩
              have Q1 := Lib.hid (And.intro q1 (And.intro q2 q3))
              clear q1 q2 q3
              gi_wp2
              go_roundw
              case rel => exact ⟨A3, A4, c3, c4, behindL ca T, behindL cb T, T, pre, rfl, rfl, rfl, ⟨hTl, hTm⟩, ⟨SlS.back B P1.out.1 HB.out, SlS.back B Q1.out.1 HB.out, HLA.out, HLB.out, P1.out.2.1, P1.out.2.2, Q1.out.2.1, Q1.out.2.2⟩, (by show _ ≤ _; have := HC.out; have := HCS.out; omega), HNX.out, hJk, HB.out, hBr⟩
              case measure => simp [intOf]; omega
          · by_cases hca : ca = []
            · have hd1 : decide (0 < ca.length) = false := by rw [hca]; rfl
              have hd : decide (0 < cb.length) = true := decide_eq_true (by have : cb.length ≠ 0 := fun e => HN.out ⟨hca, List.length_eq_zero_iff.1 e⟩; omega)
              clear hca
              have CGA := Lib.hid (fun X h => by have h9 := begun_any A1 c1 ca t X B h; rw [hx] at h9; exact h9)
              have CGB := Lib.hid (fun X h => by have h9 := begun_any A2 c2 cb t X B h; rw [hy] at h9; exact h9)
              have HNX := Lib.hid (told_step1 (who := 2) HT.out HTT.out HN.out hx hy (by decide) (by decide))
              clear hx hy
              obtain ⟨fn, tmps, assign, body, hy, hR⟩ := hY (n - 1) pre ((t, T), 2) wr hJk (by have := HC.out; have := HCS.out; omega)
              have hy' : (Instr.yield lp #[.agg #[.int .i64 t, .int .i64 T], .int .i64 2]).run Try.prog wr = .ok (.round lp fn tmps assign body) wr := hy
              clear hy
              gi_wp2_with fail
              refine ⟨trivial, wide_deep _, ?_⟩
              refine (callsIn_wide.2 (CGA.out _ HGA.out)).mono ?_
              rintro e w9 ⟨rfl, rfl⟩
              gi_wp2_with fail
              refine ⟨trivial, wide_deep _, ?_⟩
              refine (callsIn_wide.2 (CGB.out _ HGB.out)).mono ?_
              rintro e w9 ⟨rfl, rfl⟩
              gi_wp2_with fail
              refine ⟨trivial, wide_deep _, ?_⟩
              refine (callsIn_wide.2 (CTA.out _ HGA.out)).mono ?_
              rintro e w9 ⟨rfl, rfl⟩
              gi_wp2_with fail
              refine ⟨trivial, wide_deep _, ?_⟩
              refine (callsIn_wide.2 (CTB.out _ HGB.out)).mono ?_
              rintro e w9 ⟨rfl, rfl⟩
              have hmn := HMN.out
              gi_wp2
              refine ⟨wide_deep _, ?_⟩
              refine hR.mono ?_
              rintro e W5 (⟨rfl, hJ5, hk5⟩ | ⟨rfl, hJx5⟩)
              · have hga5 := HGA.out.next hk5 (Nat.le_refl _)
                have hgb5 := HGB.out.next hk5 (Nat.le_refl _)
                have HGA5 := Lib.hid hga5
                have HGB5 := Lib.hid hgb5
                clear hga5 hgb5 hmn
                gi_wp2_with fail
                refine ⟨trivial, wide_deep _, ?_⟩
                refine (callsIn_wide.2 (CBA.out _ HGA5.out)).mono ?_
                rintro e w9 ⟨⟨A3, c3, rfl, p1, p2, p3⟩, rfl⟩
                have P1 := Lib.hid (And.intro p1 (And.intro p2 p3))
                clear p1 p2 p3
                gi_wp2_with fail
                refine ⟨trivial, wide_deep _, ?_⟩
                refine (callsIn_wide.2 (CBB.out _ HGB5.out)).mono ?_
                rintro e w9 ⟨⟨A4, c4, rfl, q1, q2, q3⟩, rfl⟩
                have Q1 := Lib.hid (And.intro q1 (And.intro q2 q3))
                clear q1 q2 q3
                gi_wp2
                go_roundw
                case rel => exact ⟨A3, A4, c3, c4, behindL ca T, behindL cb T, T, pre ++ [((t, T), 2)], rfl, rfl, rfl, ⟨hTl, hTm⟩, ⟨SlS.back B P1.out.1 (HB.out.trans hk5), SlS.back B Q1.out.1 (HB.out.trans hk5), HLA.out, HLB.out, P1.out.2.1, P1.out.2.2, Q1.out.2.1, Q1.out.2.2⟩, (by show _ ≤ _; have := HC.out; have := HCS.out; rw [List.length_append, List.length_singleton]; omega), HNX.out, hJ5, HB.out.trans hk5, by have := hk5.size; omega⟩
                case measure => simp [intOf]; omega
              · obtain ⟨rr, hrr⟩ := told_any _ _ _ _ (Nat.le_refl _) HLA.out HLB.out
                have HE := Lib.hid (HNX.out _ hrr)
                clear hmn
                gi_wp2
                refine bodyPost_ret (results_none rfl _ _ _) rfl ?_
                exact ⟨⟨_, rfl⟩, .inr ⟨pre ++ [((t, T), 2)], ⟨rr, HE.out⟩, hJx5⟩⟩
            · have hd : decide (0 < ca.length) = true := decide_eq_true (by have : ca.length ≠ 0 := fun e => hca (List.length_eq_zero_iff.1 e); omega)
              clear hca
              have CGA := Lib.hid (fun X h => by have h9 := begun_any A1 c1 ca t X B h; rw [hx] at h9; exact h9)
              have CGB := Lib.hid (fun X h => by have h9 := begun_any A2 c2 cb t X B h; rw [hy] at h9; exact h9)
              have HNX := Lib.hid (told_step1 (who := 2) HT.out HTT.out HN.out hx hy (by decide) (by decide))
              clear hx hy
              obtain ⟨fn, tmps, assign, body, hy, hR⟩ := hY (n - 1) pre ((t, T), 2) wr hJk (by have := HC.out; have := HCS.out; omega)
              have hy' : (Instr.yield lp #[.agg #[.int .i64 t, .int .i64 T], .int .i64 2]).run Try.prog wr = .ok (.round lp fn tmps assign body) wr := hy
              clear hy
              gi_wp2_with fail
              refine ⟨trivial, wide_deep _, ?_⟩
              refine (callsIn_wide.2 (CGA.out _ HGA.out)).mono ?_
              rintro e w9 ⟨rfl, rfl⟩
              gi_wp2_with fail
              refine ⟨trivial, wide_deep _, ?_⟩
              refine (callsIn_wide.2 (CGB.out _ HGB.out)).mono ?_
              rintro e w9 ⟨rfl, rfl⟩
              gi_wp2_with fail
              refine ⟨trivial, wide_deep _, ?_⟩
              refine (callsIn_wide.2 (CTA.out _ HGA.out)).mono ?_
              rintro e w9 ⟨rfl, rfl⟩
              gi_wp2_with fail
              refine ⟨trivial, wide_deep _, ?_⟩
              refine (callsIn_wide.2 (CTB.out _ HGB.out)).mono ?_
              rintro e w9 ⟨rfl, rfl⟩
              have hmn := HMN.out
              gi_wp2
              refine ⟨wide_deep _, ?_⟩
              refine hR.mono ?_
              rintro e W5 (⟨rfl, hJ5, hk5⟩ | ⟨rfl, hJx5⟩)
              · have hga5 := HGA.out.next hk5 (Nat.le_refl _)
                have hgb5 := HGB.out.next hk5 (Nat.le_refl _)
                have HGA5 := Lib.hid hga5
                have HGB5 := Lib.hid hgb5
                clear hga5 hgb5 hmn
                gi_wp2_with fail
                refine ⟨trivial, wide_deep _, ?_⟩
                refine (callsIn_wide.2 (CBA.out _ HGA5.out)).mono ?_
                rintro e w9 ⟨⟨A3, c3, rfl, p1, p2, p3⟩, rfl⟩
                have P1 := Lib.hid (And.intro p1 (And.intro p2 p3))
                clear p1 p2 p3
                gi_wp2_with fail
                refine ⟨trivial, wide_deep _, ?_⟩
                refine (callsIn_wide.2 (CBB.out _ HGB5.out)).mono ?_
                rintro e w9 ⟨⟨A4, c4, rfl, q1, q2, q3⟩, rfl⟩
                have Q1 := Lib.hid (And.intro q1 (And.intro q2 q3))
                clear q1 q2 q3
                gi_wp2
                go_roundw
                case rel => exact ⟨A3, A4, c3, c4, behindL ca T, behindL cb T, T, pre ++ [((t, T), 2)], rfl, rfl, rfl, ⟨hTl, hTm⟩, ⟨SlS.back B P1.out.1 (HB.out.trans hk5), SlS.back B Q1.out.1 (HB.out.trans hk5), HLA.out, HLB.out, P1.out.2.1, P1.out.2.2, Q1.out.2.1, Q1.out.2.2⟩, (by show _ ≤ _; have := HC.out; have := HCS.out; rw [List.length_append, List.length_singleton]; omega), HNX.out, hJ5, HB.out.trans hk5, by have := hk5.size; omega⟩
                case measure => simp [intOf]; omega
              · obtain ⟨rr, hrr⟩ := told_any _ _ _ _ (Nat.le_refl _) HLA.out HLB.out
                have HE := Lib.hid (HNX.out _ hrr)
                clear hmn
                gi_wp2
                refine bodyPost_ret (results_none rfl _ _ _) rfl ?_
                exact ⟨⟨_, rfl⟩, .inr ⟨pre ++ [((t, T), 2)], ⟨rr, HE.out⟩, hJx5⟩⟩
        · have hd : decide (0 < ca.length) = true := decide_eq_true (by have : ca.length ≠ 0 := fun e => (by rw [List.length_eq_zero_iff.1 e] at hx; cases hx); omega)
          cases hy : begunB cb t
          · have CGA := Lib.hid (fun X h => by have h9 := begun_any A1 c1 ca t X B h; rw [hx] at h9; exact h9)
            have CGB := Lib.hid (fun X h => by have h9 := begun_any A2 c2 cb t X B h; rw [hy] at h9; exact h9)
            have HNX := Lib.hid (told_step1 (who := 1) HT.out HTT.out HN.out hx hy (by decide) (by decide))
            clear hx hy
            obtain ⟨fn, tmps, assign, body, hy, hR⟩ := hY (n - 1) pre ((t, T), 1) wr hJk (by have := HC.out; have := HCS.out; omega)
            have hy' : (Instr.yield lp #[.agg #[.int .i64 t, .int .i64 T], .int .i64 1]).run Try.prog wr = .ok (.round lp fn tmps assign body) wr := hy
            clear hy
            gi_wp2_with fail
            refine ⟨trivial, wide_deep _, ?_⟩
            refine (callsIn_wide.2 (CGA.out _ HGA.out)).mono ?_
            rintro e w9 ⟨rfl, rfl⟩
            gi_wp2_with fail
            refine ⟨trivial, wide_deep _, ?_⟩
            refine (callsIn_wide.2 (CGB.out _ HGB.out)).mono ?_
            rintro e w9 ⟨rfl, rfl⟩
            gi_wp2_with fail
            refine ⟨trivial, wide_deep _, ?_⟩
            refine (callsIn_wide.2 (CTA.out _ HGA.out)).mono ?_
            rintro e w9 ⟨rfl, rfl⟩
            gi_wp2_with fail
            refine ⟨trivial, wide_deep _, ?_⟩
            refine (callsIn_wide.2 (CTB.out _ HGB.out)).mono ?_
            rintro e w9 ⟨rfl, rfl⟩
            have hmn := HMN.out
            gi_wp2
            refine ⟨wide_deep _, ?_⟩
            refine hR.mono ?_
            rintro e W5 (⟨rfl, hJ5, hk5⟩ | ⟨rfl, hJx5⟩)
            · have hga5 := HGA.out.next hk5 (Nat.le_refl _)
              have hgb5 := HGB.out.next hk5 (Nat.le_refl _)
              have HGA5 := Lib.hid hga5
              have HGB5 := Lib.hid hgb5
              clear hga5 hgb5 hmn
              gi_wp2_with fail
              refine ⟨trivial, wide_deep _, ?_⟩
              refine (callsIn_wide.2 (CBA.out _ HGA5.out)).mono ?_
              rintro e w9 ⟨⟨A3, c3, rfl, p1, p2, p3⟩, rfl⟩
              have P1 := Lib.hid (And.intro p1 (And.intro p2 p3))
              clear p1 p2 p3
              gi_wp2_with fail
              refine ⟨trivial, wide_deep _, ?_⟩
              refine (callsIn_wide.2 (CBB.out _ HGB5.out)).mono ?_
              rintro e w9 ⟨⟨A4, c4, rfl, q1, q2, q3⟩, rfl⟩
              have Q1 := Lib.hid (And.intro q1 (And.intro q2 q3))
              clear q1 q2 q3
              gi_wp2
              go_roundw
              case rel => exact ⟨A3, A4, c3, c4, behindL ca T, behindL cb T, T, pre ++ [((t, T), 1)], rfl, rfl, rfl, ⟨hTl, hTm⟩, ⟨SlS.back B P1.out.1 (HB.out.trans hk5), SlS.back B Q1.out.1 (HB.out.trans hk5), HLA.out, HLB.out, P1.out.2.1, P1.out.2.2, Q1.out.2.1, Q1.out.2.2⟩, (by show _ ≤ _; have := HC.out; have := HCS.out; rw [List.length_append, List.length_singleton]; omega), HNX.out, hJ5, HB.out.trans hk5, by have := hk5.size; omega⟩
              case measure => simp [intOf]; omega
            · obtain ⟨rr, hrr⟩ := told_any _ _ _ _ (Nat.le_refl _) HLA.out HLB.out
              have HE := Lib.hid (HNX.out _ hrr)
              clear hmn
              gi_wp2
              refine bodyPost_ret (results_none rfl _ _ _) rfl ?_
              exact ⟨⟨_, rfl⟩, .inr ⟨pre ++ [((t, T), 1)], ⟨rr, HE.out⟩, hJx5⟩⟩
          · have CGA := Lib.hid (fun X h => by have h9 := begun_any A1 c1 ca t X B h; rw [hx] at h9; exact h9)
            have CGB := Lib.hid (fun X h => by have h9 := begun_any A2 c2 cb t X B h; rw [hy] at h9; exact h9)
            have HNX := Lib.hid (told_step1 (who := 3) HT.out HTT.out HN.out hx hy (by decide) (by decide))
            clear hx hy
            obtain ⟨fn, tmps, assign, body, hy, hR⟩ := hY (n - 1) pre ((t, T), 3) wr hJk (by have := HC.out; have := HCS.out; omega)
            have hy' : (Instr.yield lp #[.agg #[.int .i64 t, .int .i64 T], .int .i64 3]).run Try.prog wr = .ok (.round lp fn tmps assign body) wr := hy
            clear hy
            gi_wp2_with fail
            refine ⟨trivial, wide_deep _, ?_⟩
            refine (callsIn_wide.2 (CGA.out _ HGA.out)).mono ?_
            rintro e w9 ⟨rfl, rfl⟩
            gi_wp2_with fail
            refine ⟨trivial, wide_deep _, ?_⟩
            refine (callsIn_wide.2 (CGB.out _ HGB.out)).mono ?_
            rintro e w9 ⟨rfl, rfl⟩
            gi_wp2_with fail
            refine ⟨trivial, wide_deep _, ?_⟩
            refine (callsIn_wide.2 (CTA.out _ HGA.out)).mono ?_
            rintro e w9 ⟨rfl, rfl⟩
            gi_wp2_with fail
            refine ⟨trivial, wide_deep _, ?_⟩
            refine (callsIn_wide.2 (CTB.out _ HGB.out)).mono ?_
            rintro e w9 ⟨rfl, rfl⟩
            have hmn := HMN.out
            gi_wp2
            refine ⟨wide_deep _, ?_⟩
            refine hR.mono ?_
            rintro e W5 (⟨rfl, hJ5, hk5⟩ | ⟨rfl, hJx5⟩)
            · have hga5 := HGA.out.next hk5 (Nat.le_refl _)
              have hgb5 := HGB.out.next hk5 (Nat.le_refl _)
              have HGA5 := Lib.hid hga5
              have HGB5 := Lib.hid hgb5
              clear hga5 hgb5 hmn
              gi_wp2_with fail
              refine ⟨trivial, wide_deep _, ?_⟩
              refine (callsIn_wide.2 (CBA.out _ HGA5.out)).mono ?_
              rintro e w9 ⟨⟨A3, c3, rfl, p1, p2, p3⟩, rfl⟩
              have P1 := Lib.hid (And.intro p1 (And.intro p2 p3))
              clear p1 p2 p3
              gi_wp2_with fail
              refine ⟨trivial, wide_deep _, ?_⟩
              refine (callsIn_wide.2 (CBB.out _ HGB5.out)).mono ?_
              rintro e w9 ⟨⟨A4, c4, rfl, q1, q2, q3⟩, rfl⟩
              have Q1 := Lib.hid (And.intro q1 (And.intro q2 q3))
              clear q1 q2 q3
              gi_wp2
              go_roundw
              case rel => exact ⟨A3, A4, c3, c4, behindL ca T, behindL cb T, T, pre ++ [((t, T), 3)], rfl, rfl, rfl, ⟨hTl, hTm⟩, ⟨SlS.back B P1.out.1 (HB.out.trans hk5), SlS.back B Q1.out.1 (HB.out.trans hk5), HLA.out, HLB.out, P1.out.2.1, P1.out.2.2, Q1.out.2.1, Q1.out.2.2⟩, (by show _ ≤ _; have := HC.out; have := HCS.out; rw [List.length_append, List.length_singleton]; omega), HNX.out, hJ5, HB.out.trans hk5, by have := hk5.size; omega⟩
              case measure => simp [intOf]; omega
            · obtain ⟨rr, hrr⟩ := told_any _ _ _ _ (Nat.le_refl _) HLA.out HLB.out
              have HE := Lib.hid (HNX.out _ hrr)
              clear hmn
              gi_wp2
              refine bodyPost_ret (results_none rfl _ _ _) rfl ?_
              exact ⟨⟨_, rfl⟩, .inr ⟨pre ++ [((t, T), 3)], ⟨rr, HE.out⟩, hJx5⟩⟩
end Go.Proofs.Ytlmihlepaoifiaa
