import Derived.Test.YtkoknogefmfmnaaJORefK
import Derived.Test.YtkoknogefmfmnaaJOKeyW
import Derived.Test.YtkoknogefmfmnaaJDSorted
/-
  CONTRACTS: Key of few parts, whatever their unused texts hold (the program's, the document's).
-/
namespace Go.Proofs.Ytkoknogefmfmnaa
open Go.RowKit Go.Shelf

theorem partB_small {p : PartP} (h : partMay p = true) : (partB p).length ≤ 2020 := by
  unfold partB
  cases hv : p.v with
  | false =>
    simp only [Bool.false_eq_true, if_false]
    rw [numB_len]; omega
  | true =>
    simp only [if_true]
    have hm : mayB p.k p.m p.s = true := by
      unfold partMay at h
      rw [hv] at h
      simpa using h
    have h1 := partB_len p
    unfold partB at h1
    rw [if_pos hv] at h1
    have h2 := mayB_size hm
    omega
theorem keyB_small : ∀ {l : List PartP}, l.all partMay = true → (keyB l).length ≤ 2020 * l.length
  | [], _ => Nat.le_refl _
  | p :: l, h => by
    rw [List.all_cons, Bool.and_eq_true] at h
    have h1 := keyB_small h.2
    have h2 := partB_small h.1
    have e : keyB (p :: l) = partB p ++ keyB l := by unfold keyB; rw [List.flatMap_cons]
    rw [e, List.length_append, List.length_cons]
    omega

set_option maxRecDepth 100000 in
set_option maxHeartbeats 4000000 in
theorem key_small (A : Option Addr) (c : Nat) (l : List PartP) (W : World) (hs : SlP W W.heap.size A l) (hl : l.length ≤ 5) (hz : ∀ p ∈ l, p.s.size ≤ maxLen) (hok : ∀ p ∈ l, partOk p) :
    Calls Try.prog 41 #[.slice A l.length c] W (KeyEnd W l) := by
  have HOK := Lib.hid hok
  have HZ := Lib.hid hz
  clear hok hz
  go_enter Try.func41, Try.ntmps41
  go_wp2
  go_loopg [4, 6, 9] l.length (fun g x u y wr => ∃ (j : Nat) (v : Value), x = v ∧ y = .int .i64 j ∧ j + g = l.length ∧ Hid (OwnB wr W.heap.size v (keyB (l.take j))) ∧ Hid (Below W.heap.size W wr) ∧ W.heap.size ≤ wr.heap.size ∧ Hid ((l.take j).all partMay = true))
  case atStart => exact ⟨0, _, rfl, rfl, by omega, ownB_nil _ _, Below.refl _ _, Nat.le_refl _, rfl⟩
  case round =>
    obtain ⟨j, v, rfl, rfl, hj, HO, HB, hsz, HM⟩ := hrel
    cases gk with
    | zero =>
      have hjz : ¬ ((j : Int) < (l.length : Int)) := by omega
      have ht : l.take j = l := List.take_of_length_le (by omega)
      rw [ht] at HO HM
      clear ht
      go_wp2
      go_ret2
      exact keyEnd_yes HM.out HO.out HB.out
    | succ g =>
      have hjz : (j : Int) < (l.length : Int) := by omega
      have hjn : j < l.length := by omega
      have hpk := HOK.out _ (List.getElem_mem hjn)
      have hkl : (keyB (l.take j)).length ≤ 14000 := by
        have h1 := keyB_small HM.out
        rw [List.length_take] at h1
        omega
      have hps : l[j].s.size ≤ maxLen := HZ.out _ (List.getElem_mem hjn)
      have HKT := Lib.hid (keyB_take hjn)
      have HAT := Lib.hid (all_take hjn)
      have HAN := Lib.hid (fun h => all_no hjn h)
      obtain ⟨b, o, rfl, hblt, hp⟩ := (hs.next HB.out (Nat.le_refl _)).at_ hjn
      obtain ⟨p, hpe⟩ : ∃ p, l[j] = p := ⟨_, rfl⟩
      rw [hpe] at hp hpk hps HKT HAT HAN
      have h0 := hp.c0
      have h1 := hp.c1
      have h2 := hp.c2
      have h3 := hp.c3
      have h4 := hp.c4
      have HPK := Lib.hid hpk
      clear hp hpk hpe
      cases hv : p.v
      · rw [hv] at h0
        have HPB : Hid (partB p = numB p.n) := by show _ = _; unfold partB; rw [hv]; rfl
        have HPM : Hid (partMay p = true) := by show _ = _; unfold partMay; rw [hv]; rfl
        go_wp2_with fail
        refine (appendNumber_any W.heap.size _ _ p.n _ (HO.out.alloc _) (by omega) (by simp; omega) HPK.out.1.1 HPK.out.1.2).mono ?_
        rintro e w1 ⟨v1, rfl, ho1, hb1⟩
        have HO1 := Lib.hid ho1
        have HB1 := Lib.hid ((HB.out.alloc hsz _).trans hb1)
        clear ho1 hb1 h0 h1 h2 h3 h4
        go_wp2
        go_roundg g
        case measure => omega
        case rel => exact ⟨j + 1, v1, rfl, by go_num, by omega, (by show OwnB _ _ _ _; rw [HKT.out, HPB.out]; exact HO1.out), HB1.out, HB1.out.size, (by show _ = _; rw [HAT.out, HM.out, HPM.out]; rfl)⟩
      · rw [hv] at h0
        have HPB : Hid (partB p = valB p.k p.m p.s) := by show _ = _; unfold partB; rw [hv]; rfl
        have HPM : Hid (partMay p = mayB p.k p.m p.s) := by show _ = _; unfold partMay; rw [hv]; rfl
        have HX := Lib.hid (partBox_new wr p)
        have hsx : p.s.size ≤ maxLen := hps
        cases hm : mayB p.k p.m p.s
        · have HMB := Lib.hid hm
          clear hm
          go_wp2_with fail
          refine (check_no _ hsx HMB.out).mono ?_
          rintro e w1 ⟨rfl, hb1⟩
          have HB1 := Lib.hid ((HB.out.alloc hsz (.cells #[.bool true, .int .i64 p.n, .int .i64 p.k, .int .i64 p.m, .string p.s] 45)).trans (hb1.mono (by simp; omega)))
          clear hb1 h0 h1 h2 h3 h4
          go_wp2
          go_ret2
          exact keyEnd_no (HAN.out (by rw [HPM.out, HMB.out])) HB1.out
        · have HMB := Lib.hid hm
          clear hm
          go_wp2_with fail
          refine (check_yes _ hsx HMB.out).mono ?_
          rintro e w1 ⟨rfl, hb1⟩
          have hx1 := HX.out
          unfold PartBox at hx1
          rw [hv] at hx1
          have HX1 : Hid (w1.heap[wr.heap.size]? = some (.cells #[.bool true, .int .i64 p.n, .int .i64 p.k, .int .i64 p.m, .string p.s] 45 (0, 0))) := (hb1.block wr.heap.size (by simp)).trans hx1
          have g2 : w1.cell? ⟨wr.heap.size, 2, none⟩ = some (.int .i64 p.k) := by simp [World.cell?, HX1.out]
          have g3 : w1.cell? ⟨wr.heap.size, 3, none⟩ = some (.int .i64 p.m) := by simp [World.cell?, HX1.out]
          have g4 : w1.cell? ⟨wr.heap.size, 4, none⟩ = some (.string p.s) := by simp [World.cell?, HX1.out]
          have HO1 := Lib.hid ((HO.out.alloc (.cells #[.bool true, .int .i64 p.n, .int .i64 p.k, .int .i64 p.m, .string p.s] 45)).next hb1)
          have HB1 := Lib.hid ((HB.out.alloc hsz (.cells #[.bool true, .int .i64 p.n, .int .i64 p.k, .int .i64 p.m, .string p.s] 45)).trans (hb1.mono (by simp; omega)))
          clear hb1 h0 h1 h2 h3 h4 hx1
          go_wp2_with fail
          refine (appendValue_any W.heap.size _ _ p.k p.m p.s _ HO1.out (by omega) HB1.out.size (by have := mayB_size HMB.out; omega) HPK.out.2.1 HPK.out.2.2 HMB.out).mono ?_
          rintro e w2 ⟨v2, rfl, ho2, hb2⟩
          have HO2 := Lib.hid ho2
          have HB2 := Lib.hid (HB1.out.trans hb2)
          clear ho2 hb2 g2 g3 g4
          go_wp2
          go_roundg g
          case measure => omega
          case rel => exact ⟨j + 1, v2, rfl, by go_num, by omega, (by show OwnB _ _ _ _; rw [HKT.out, HPB.out]; exact HO2.out), HB2.out, HB2.out.size, (by show _ = _; rw [HAT.out, HM.out, HPM.out, HMB.out]; rfl)⟩

end Go.Proofs.Ytkoknogefmfmnaa

/-
  PLAIN FACTS on first parts; CONTRACTS over datoms: checkPrefix, Prefix.
-/
namespace Go.Proofs.Ytkoknogefmfmnaa
open Go.RowKit Go.Shelf

/-- do first parts have the kinds of their places? -/
def preB (pv : Nat) (l : List PartP) : Bool := decide (l.length ≤ 4 ∧ ∀ i : Fin l.length, l[i].v = decide (i.val = pv))
def preN (pv : Nat) (l : List PartP) : Int := if preB pv l = true then if l.all partMay = true then 0 else 10 else 2
theorem pre_long {pv : Nat} {l : List PartP} (h : 4 < l.length) : preN pv l = 2 := by
  have e : preB pv l = false := by unfold preB; rw [decide_eq_false_iff_not]; omega
  unfold preN; rw [e]; rfl
theorem pre_bad {pv : Nat} {l : List PartP} {j : Nat} (h : j < l.length) (hn : l[j].v ≠ decide (j = pv)) : preN pv l = 2 := by
  have e : preB pv l = false := by
    unfold preB
    rw [decide_eq_false_iff_not]
    rintro ⟨_, h2⟩
    exact hn (h2 ⟨j, h⟩)
  unfold preN; rw [e]; rfl
theorem pre_kinds {pv : Nat} {l : List PartP} (h : l.length ≤ 4) (hf : ∀ i (h : i < l.length), l[i].v = decide (i = pv)) : preB pv l = true := by
  unfold preB
  rw [decide_eq_true_eq]
  exact ⟨h, fun i => hf i.val i.isLt⟩
theorem pre_all {pv : Nat} {l : List PartP} (hf : ∀ i (h : i < l.length), l[i].v = decide (i = pv)) (m : Bool) (hm : ∀ h : pv < l.length, mayB l[pv].k l[pv].m l[pv].s = m) (h0 : ¬ pv < l.length → m = true) : l.all partMay = m := by
  have part : ∀ i (h : i < l.length), partMay l[i] = if i = pv then m else true := fun i h => by
    unfold partMay
    rw [hf i h]
    by_cases e : i = pv
    · subst e; rw [hm h]; simp
    · simp [e]
  cases m with
  | true =>
    rw [List.all_eq_true]
    intro p hp
    obtain ⟨i, hi, rfl⟩ := List.mem_iff_getElem.1 hp
    rw [part i hi]; split <;> rfl
  | false =>
    by_cases e : pv < l.length
    · exact all_no e (by rw [part pv e, if_pos rfl])
    · cases h0 e
theorem pre_yes {pv : Nat} {l : List PartP} (h : preB pv l = true) (hm : l.all partMay = true) : preN pv l = 0 := by
  unfold preN; rw [if_pos h, if_pos hm]
theorem pre_kind {pv : Nat} {l : List PartP} (h : preB pv l = true) (hm : l.all partMay = false) : preN pv l = 10 := by
  unfold preN; rw [if_pos h, hm]; rfl

set_option maxRecDepth 100000 in
set_option maxHeartbeats 1000000 in
theorem checkPre_any (pe pa pv : Nat) (A : Option Addr) (c : Nat) (l : List PartP) (w : World) (hs : SlP w w.heap.size A l) (hz : ∀ p ∈ l, p.s.size ≤ maxLen) (hlm : l.length ≤ maxLen) :
    Calls Try.prog 42 #[.agg #[.int .i64 (pe : Int), .int .i64 (pa : Int), .int .i64 (pv : Int)], .slice A l.length c] w fun e w' => e = .returned (.int .i64 (preN pv l)) ∧ Below w.heap.size w w' := by
  obtain ⟨w0, hw0⟩ : ∃ w0, w.alloc (.cells #[.int .i64 (pe : Int), .int .i64 (pa : Int), .int .i64 (pv : Int)] 59) = w0 := ⟨_, rfl⟩
  have HP0 : Hid (PlcAt w0 w.heap.size pe pa pv) := by rw [← hw0]; exact plcAt_new w pe pa pv
  have HB0 : Hid (Below w.heap.size w w0) := by rw [← hw0]; exact (Below.refl _ _).alloc (Nat.le_refl _) _
  have hz0 : w0.heap.size = w.heap.size + 1 := by rw [← hw0]; simp
  have HW0 := Lib.hid hw0
  have HZ := Lib.hid hz
  have hlm' : l.length ≤ 9223372036854775807 := hlm
  clear hw0 hz hlm
  by_cases h4 : 4 < l.length
  · have hi4 : (4 : Int) < (l.length : Int) := by omega
    have HE : Hid (preN pv l = 2) := pre_long h4
    clear h4
    go_enter Try.func42, Try.ntmps42
    go_upto_region 1 with (fail)
    rw [HW0.out]
    go_wp2
    go_ret
    exact ⟨by rw [HE.out]; rfl, HB0.out⟩
  have hi4 : ¬ (4 : Int) < (l.length : Int) := by omega
  go_enter Try.func42, Try.ntmps42
  go_upto_region 1 with (fail)
  rw [HW0.out]
  go_wp2
  go_loopg [5, 6, 12] l.length (fun g _ _ y wr => ∃ j : Nat, y = .int .i64 j ∧ j + g = l.length ∧ Hid (∀ i (h : i < l.length), i < j → l[i].v = decide (i = pv)) ∧ Hid (Below (w.heap.size + 1) w0 wr) ∧ w.heap.size + 1 ≤ wr.heap.size)
  case atStart => exact ⟨0, rfl, by omega, fun i _ h => absurd h (Nat.not_lt_zero _), Below.refl _ _, by omega⟩
  case round =>
    obtain ⟨j, rfl, hj, HK, HB, hsz⟩ := hrel
    have hx := HP0.out.next HB.out (Nat.lt_succ_self _)
    have q2 := hx.c2
    have HX := Lib.hid hx
    have HB1 : Hid (Below w.heap.size w wr) := HB0.out.trans (HB.out.mono (by omega))
    clear hx
    cases gk with
    | zero =>
      have hjz : ¬ ((j : Int) < (l.length : Int)) := by omega
      have HF : Hid (∀ i (h : i < l.length), l[i].v = decide (i = pv)) := fun i h => HK.out i h (by omega)
      have HPB : Hid (preB pv l = true) := pre_kinds (by omega) HF.out
      by_cases hpv : pv < l.length
      · have hpi : (pv : Int) < (l.length : Int) := by omega
        obtain ⟨b, o, rfl, hblt, hp⟩ := (hs.next HB1.out (Nat.le_refl _)).at_ hpv
        have hps := HZ.out _ (List.getElem_mem hpv)
        have HAL := Lib.hid (fun m (h : mayB l[pv].k l[pv].m l[pv].s = m) => pre_all HF.out m (fun _ => h) (fun hn => absurd hpv hn))
        obtain ⟨p, hpe⟩ : ∃ p, l[pv] = p := ⟨_, rfl⟩
        rw [hpe] at hp hps HAL
        have h2 := hp.c2
        have h3 := hp.c3
        have h4' := hp.c4
        clear hp hpe
        cases hm : mayB p.k p.m p.s
        · have HMB := Lib.hid hm
          have HE : Hid (preN pv l = 10) := pre_kind HPB.out (HAL.out false hm)
          clear hm
          go_wp2_with fail
          refine (check_no _ hps HMB.out).mono ?_
          rintro e w1 ⟨rfl, hb1⟩
          have HB2 := Lib.hid (HB1.out.trans (hb1.mono HB1.out.size))
          clear hb1 h2 h3 h4' q2
          go_wp2
          go_ret
          exact ⟨by rw [HE.out]; rfl, HB2.out⟩
        · have HMB := Lib.hid hm
          have HE : Hid (preN pv l = 0) := pre_yes HPB.out (HAL.out true hm)
          clear hm
          go_wp2_with fail
          refine (check_yes _ hps HMB.out).mono ?_
          rintro e w1 ⟨rfl, hb1⟩
          have HB2 := Lib.hid (HB1.out.trans (hb1.mono HB1.out.size))
          clear hb1 h2 h3 h4' q2
          go_wp2
          go_ret
          exact ⟨by rw [HE.out]; rfl, HB2.out⟩
      · have hpi : decide ((pv : Int) < (l.length : Int)) = false := decide_eq_false (by omega)
        have HE : Hid (preN pv l = 0) := pre_yes HPB.out (pre_all HF.out true (fun h => absurd h hpv) (fun _ => rfl))
        go_wp2
        go_ret
        exact ⟨by rw [HE.out]; rfl, HB1.out⟩
    | succ g =>
      have hjz : (j : Int) < (l.length : Int) := by omega
      have hjn : j < l.length := by omega
      have HBAD := Lib.hid (fun h => pre_bad (pv := pv) hjn h)
      have HST : Hid (l[j].v = decide (j = pv) → ∀ i (h : i < l.length), i < j + 1 → l[i].v = decide (i = pv)) := fun e i h hi => by
        by_cases hij : i = j
        · subst hij; exact e
        · exact HK.out i h (by omega)
      obtain ⟨b, o, rfl, hblt, hp⟩ := (hs.next HB1.out (Nat.le_refl _)).at_ hjn
      obtain ⟨p, hpe⟩ : ∃ p, l[j] = p := ⟨_, rfl⟩
      rw [hpe] at hp HBAD HST
      have h0 := hp.c0
      have h1 := hp.c1
      have h2 := hp.c2
      have h3 := hp.c3
      have h4' := hp.c4
      have hq := (HX.out.alloc (.cells #[.bool p.v, .int .i64 p.n, .int .i64 p.k, .int .i64 p.m, .string p.s] 45)).c2
      clear hp hpe q2
      by_cases e : j = pv
      · have k : ((j : Int) == (pv : Int)) = true := by rw [beq_iff_eq]; omega
        cases hv : p.v
        · rw [hv] at h0 hq
          have HE : Hid (preN pv l = 2) := HBAD.out (by rw [hv, decide_eq_true e]; decide)
          clear e hv
          go_wp2
          go_ret
          exact ⟨by rw [HE.out]; rfl, HB1.out.alloc HB1.out.size _⟩
        · rw [hv] at h0 hq
          have HS1 := Lib.hid (HST.out (by rw [hv, decide_eq_true e]))
          clear e hv
          go_wp2
          go_roundg g
          case measure => omega
          case rel => exact ⟨j + 1, by go_num, by omega, HS1.out, HB.out.alloc hsz _, by simp; omega⟩
      · have k : ((j : Int) == (pv : Int)) = false := by rw [beq_eq_false_iff_ne]; omega
        cases hv : p.v
        · rw [hv] at h0 hq
          have HS1 := Lib.hid (HST.out (by rw [hv, decide_eq_false e]))
          clear e hv
          go_wp2
          go_roundg g
          case measure => omega
          case rel => exact ⟨j + 1, by go_num, by omega, HS1.out, HB.out.alloc hsz _, by simp; omega⟩
        · rw [hv] at h0 hq
          have HE : Hid (preN pv l = 2) := HBAD.out (by rw [hv, decide_eq_false e]; decide)
          clear e hv
          go_wp2
          go_ret
          exact ⟨by rw [HE.out]; rfl, HB1.out.alloc HB1.out.size _⟩
end Go.Proofs.Ytkoknogefmfmnaa

/-
  CONTRACTS over datoms: Prefix, Begins.
-/
namespace Go.Proofs.Ytkoknogefmfmnaa
open Go.RowKit Go.Shelf

def preE (o : Int) (l : List PartP) : Int := if isO o = true then preN (plV o) l else 2
def preL (o : Int) (l : List PartP) : List UInt8 := if preE o l = 0 then keyB l else []
/-- What Prefix answers. -/
def PreEnd (W : World) (o : Int) (l : List PartP) (e : Ending) (w' : World) : Prop :=
  ((preE o l = 0 ∧ ∃ v, e = .returned (.tuple #[v, .int .i64 0]) ∧ OwnB w' W.heap.size v (keyB l)) ∨ (∃ n, preE o l = n ∧ n ≠ 0 ∧ e = .returned (.tuple #[.slice none 0 0, .int .i64 n]))) ∧ Below W.heap.size W w'
theorem preEnd_is {W w' : World} {o : Int} {l : List PartP} {e : Ending} (h : PreEnd W o l e w') : ∃ A c, e = .returned (.tuple #[.slice A (preL o l).length c, .int .i64 (preE o l)]) ∧ SlB w' w'.heap.size A (preL o l) ∧ (preL o l).length ≤ c ∧ c ≤ maxLen ∧ Below W.heap.size W w' := by
  obtain ⟨⟨h0, v, rfl, hown⟩ | ⟨n, h0, hn, rfl⟩, hb⟩ := h
  · obtain ⟨A, c, rfl⟩ := ownB_form hown
    obtain ⟨h1, h2⟩ := ownB_cap hown
    unfold preL
    rw [if_pos h0, h0]
    exact ⟨A, c, rfl, (SlB.of_own hown).2, h1, h2, hb⟩
  · unfold preL
    rw [if_neg (by rw [h0]; exact hn), h0]
    exact ⟨none, 0, rfl, fun h => absurd rfl h, Nat.le_refl _, Nat.zero_le _, hb⟩
theorem preN_zero {pv : Nat} {l : List PartP} (h : preN pv l = 0) : preB pv l = true ∧ l.all partMay = true ∧ l.length ≤ 4 := by
  unfold preN at h
  cases hb : preB pv l with
  | false => rw [hb] at h; cases h
  | true =>
    cases hm : l.all partMay with
    | false => rw [hb, hm] at h; cases h
    | true =>
      refine ⟨rfl, rfl, ?_⟩
      unfold preB at hb
      rw [decide_eq_true_eq] at hb
      exact hb.1
theorem preE_no {o : Int} {l : List PartP} (h : isO o = false) : preE o l = 2 := by unfold preE; rw [h]; rfl
theorem preE_yes {o : Int} {l : List PartP} (h : isO o = true) : preE o l = preN (plV o) l := by unfold preE; rw [if_pos h]
theorem plcV_no {o : Int} (h : isO o = false) : plcV o = .agg #[.int .i64 (0 : Int), .int .i64 (0 : Int), .int .i64 (0 : Int)] := by
  unfold plcV
  have := noO h
  rw [if_neg (by omega), if_neg (by omega), if_neg (by omega), if_neg (by omega)]
/-- does a datom begin with parts? -/
def begB (o : Int) (l : List PartP) (d : Dat) : Bool := decide (preE o l = 0) && hasD o d && decide (ordK l (partsD o d) = 0)

set_option maxRecDepth 100000 in
set_option maxHeartbeats 1000000 in
theorem prefix_any (o : Int) (A : Option Addr) (c : Nat) (l : List PartP) (w : World) (hs : SlP w w.heap.size A l) (hz : ∀ p ∈ l, p.s.size ≤ maxLen) (hlm : l.length ≤ maxLen) (hok : ∀ p ∈ l, partOk p) :
    Calls Try.prog 19 #[.int .i64 o, .slice A l.length c] w (PreEnd w o l) := by
  cases ho : isO o
  · have h9 := placesOf_any o w
    rw [ho, plcV_no ho] at h9
    have H9 := Lib.hid h9
    have HE := Lib.hid (preE_no (l := l) ho)
    clear ho h9
    go_enter Try.func19, Try.ntmps19
    go_wp2_with fail
    refine H9.out.mono ?_
    rintro e w1 ⟨rfl, hb⟩
    have HB1 := Lib.hid hb
    clear hb
    go_wp2
    go_ret2
    exact ⟨.inr ⟨2, HE.out, by decide, rfl⟩, HB1.out.alloc HB1.out.size _⟩
  have h9 := placesOf_any o w
  rw [ho, plcV_is ho] at h9
  have hE := preE_yes (l := l) ho
  obtain ⟨pe, hpe⟩ : ∃ p, plE o = p := ⟨_, rfl⟩
  obtain ⟨pa, hpa⟩ : ∃ p, plA o = p := ⟨_, rfl⟩
  obtain ⟨pv, hpv⟩ : ∃ p, plV o = p := ⟨_, rfl⟩
  rw [hpe, hpa, hpv] at h9
  rw [hpv] at hE
  have hck := fun X h => checkPre_any pe pa pv A c l X h hz hlm
  have hpz := fun h => preN_zero (pv := pv) (l := l) h
  obtain ⟨n, hn⟩ : ∃ n, preN pv l = n := ⟨_, rfl⟩
  rw [hn] at hE hck hpz
  have H9 := Lib.hid h9
  have HE := Lib.hid hE
  have HCK := Lib.hid hck
  have HPZ := Lib.hid hpz
  have HS := Lib.hid hs
  have HOK := Lib.hid hok
  have HZ := Lib.hid hz
  clear ho h9 hE hck hpz hs hok hz hpe hpa hpv hn
  go_enter Try.func19, Try.ntmps19
  go_wp2_with fail
  refine H9.out.mono ?_
  rintro e w1 ⟨rfl, hb⟩
  have HB1 := Lib.hid (hb.alloc hb.size (.cells #[.int .i64 (pe : Int), .int .i64 (pa : Int), .int .i64 (pv : Int)] 59))
  clear hb
  go_wp2_with fail
  refine (HCK.out _ ((HS.out.next HB1.out (Nat.le_refl _)).more HB1.out.size)).mono ?_
  rintro e w2 ⟨rfl, hb⟩
  have HB2 := Lib.hid (HB1.out.trans (hb.mono HB1.out.size))
  clear hb
  by_cases h0 : n = 0
  · subst h0
    obtain ⟨_, hm, hl4⟩ := HPZ.out rfl
    have HM := Lib.hid hm
    clear hm
    go_wp2_with fail
    refine (key_small A c l w2 ((HS.out.next HB2.out (Nat.le_refl _)).more HB2.out.size) (by omega) HZ.out HOK.out).mono ?_
    rintro e w3 (⟨_, ⟨v, rfl, ho3⟩, hb⟩ | ⟨hno, _, _⟩)
    · have HB3 := Lib.hid (HB2.out.trans (hb.mono HB2.out.size))
      have HO3 := Lib.hid (ho3.from_ HB2.out.size)
      clear hb ho3
      go_wp2
      go_ret2
      exact ⟨.inl ⟨HE.out, _, rfl, HO3.out⟩, HB3.out⟩
    · rw [HM.out] at hno
      cases hno
  · have hq : (n != 0) = true := by simpa using h0
    go_wp2
    go_ret2
    exact ⟨.inr ⟨n, HE.out, h0, rfl⟩, HB2.out⟩

theorem begB_no {o : Int} {l : List PartP} {d : Dat} (h : preE o l ≠ 0) : begB o l d = false := by unfold begB; rw [decide_eq_false h]; rfl
theorem begB_has {o : Int} {l : List PartP} {d : Dat} (h : hasD o d = false) : begB o l d = false := by unfold begB; rw [h]; simp
theorem begB_is {o : Int} {l : List PartP} {d : Dat} (h : preE o l = 0) (h2 : hasD o d = true) (b : Bool) (h3 : ordK l (partsD o d) = 0 ↔ b = true) : begB o l d = b := by
  unfold begB
  rw [h, h2]
  cases b with
  | true => simp [h3.2 rfl]
  | false => simp; intro h; have := h3.1 h; cases this
/-- what a round reads -/
def BgS (N g bp bd pe pa pv : Nat) (p : PartP) (d : Dat) (W : World) : Prop :=
  PartBox W g p ∧ PlcAt W bp pe pa pv ∧ DatAt W bd d ∧ N ≤ W.heap.size
theorem BgS.next {N g bp bd pe pa pv : Nat} {p : PartP} {d : Dat} {W W' : World} (h : BgS N g bp bd pe pa pv p d W) (hb : Below W.heap.size W W') : BgS N g bp bd pe pa pv p d W' :=
  ⟨h.1.next hb h.1.lt, h.2.1.next hb h.2.1.lt, h.2.2.1.next hb h.2.2.1.lt, Nat.le_trans h.2.2.2 hb.size⟩

set_option maxRecDepth 100000 in
set_option maxHeartbeats 1000000 in
theorem begins_any (o : Int) (A : Option Addr) (c : Nat) (l : List PartP) (d : Dat) (w : World) (hs : SlP w w.heap.size A l) (hz : ∀ p ∈ l, p.s.size ≤ maxLen) (hlm : l.length ≤ maxLen) :
    Calls Try.prog 22 #[.int .i64 o, .slice A l.length c, .agg #[.int .i64 d.e, .int .i64 d.a, .int .i64 d.k, .int .i64 d.m, .string d.s, .int .i64 d.t, .bool d.add, .int .i64 d.fr, .int .i64 d.til]] w fun e w' => e = .returned (.bool (begB o l d)) ∧ Below w.heap.size w w' := by
  have HB0 : Hid (Below w.heap.size w (w.alloc (.cells #[.int .i64 d.e, .int .i64 d.a, .int .i64 d.k, .int .i64 d.m, .string d.s, .int .i64 d.t, .bool d.add, .int .i64 d.fr, .int .i64 d.til] 36))) := (Below.refl _ _).alloc (Nat.le_refl _) _
  have HD0 := Lib.hid (datAt_new w d)
  cases ho : isO o
  · have h9 := placesOf_any o (w.alloc (.cells #[.int .i64 d.e, .int .i64 d.a, .int .i64 d.k, .int .i64 d.m, .string d.s, .int .i64 d.t, .bool d.add, .int .i64 d.fr, .int .i64 d.til] 36))
    rw [ho, plcV_no ho] at h9
    have H9 := Lib.hid h9
    have HE : Hid (begB o l d = false) := begB_no (by rw [preE_no ho]; decide)
    clear ho h9
    go_enter Try.func22, Try.ntmps22
    go_wp2_with fail
    refine H9.out.mono ?_
    rintro e w1 ⟨rfl, hb⟩
    have HB1 := Lib.hid (HB0.out.trans (hb.mono HB0.out.size))
    clear hb
    go_wp2
    go_ret
    exact ⟨by rw [HE.out]; rfl, HB1.out.alloc HB1.out.size _⟩
  have h9 := placesOf_any o (w.alloc (.cells #[.int .i64 d.e, .int .i64 d.a, .int .i64 d.k, .int .i64 d.m, .string d.s, .int .i64 d.t, .bool d.add, .int .i64 d.fr, .int .i64 d.til] 36))
  rw [ho, plcV_is ho] at h9
  have hE := preE_yes (l := l) ho
  have hPP := partsPl_is o d
  obtain ⟨pe, hpe⟩ : ∃ p, plE o = p := ⟨_, rfl⟩
  obtain ⟨pa, hpa⟩ : ∃ p, plA o = p := ⟨_, rfl⟩
  obtain ⟨pv, hpv⟩ : ∃ p, plV o = p := ⟨_, rfl⟩
  rw [hpe, hpa, hpv] at h9 hPP
  rw [hpv] at hE
  have hck := fun X h => checkPre_any pe pa pv A c l X h hz hlm
  have hpz := fun h => preN_zero (pv := pv) (l := l) h
  obtain ⟨n, hn⟩ : ∃ n, preN pv l = n := ⟨_, rfl⟩
  rw [hn] at hE hck hpz
  have hha := fun X => has_any o d X
  obtain ⟨hd, hhd⟩ : ∃ b, hasD o d = b := ⟨_, rfl⟩
  rw [hhd] at hha
  have H9 := Lib.hid h9
  have HE := Lib.hid hE
  have HCK := Lib.hid hck
  have HPZ := Lib.hid hpz
  have HS := Lib.hid hs
  have HHA := Lib.hid hha
  have HHD := Lib.hid hhd
  have HPP := Lib.hid hPP
  clear ho h9 hE hck hpz hs hz hpe hpa hpv hn hha hhd hPP
  go_enter Try.func22, Try.ntmps22
  go_wp2_with fail
  refine H9.out.mono ?_
  rintro e w1 ⟨rfl, hb⟩
  have HB1' := Lib.hid (HB0.out.trans (hb.mono HB0.out.size))
  have HB1 := Lib.hid (HB1'.out.alloc HB1'.out.size (.cells #[.int .i64 (pe : Int), .int .i64 (pa : Int), .int .i64 (pv : Int)] 59))
  have HD1 := Lib.hid ((HD0.out.next hb HD0.out.lt).alloc (.cells #[.int .i64 (pe : Int), .int .i64 (pa : Int), .int .i64 (pv : Int)] 59))
  have HP1 := Lib.hid (plcAt_new w1 pe pa pv)
  clear hb HB1'
  go_wp2_with fail
  refine (HCK.out _ ((HS.out.next HB1.out (Nat.le_refl _)).more HB1.out.size)).mono ?_
  rintro e w2 ⟨rfl, hb⟩
  have HB2 := Lib.hid (HB1.out.trans (hb.mono HB1.out.size))
  have HD2 := Lib.hid (HD1.out.next hb HD1.out.lt)
  have HP2 := Lib.hid (HP1.out.next hb HP1.out.lt)
  clear hb HB1 HD1 HP1
  by_cases h0 : n = 0
  · subst h0
    obtain ⟨_, _, hl4⟩ := HPZ.out rfl
    have d0 := HD2.out.c0
    have d1 := HD2.out.c1
    have d2 := HD2.out.c2
    have d3 := HD2.out.c3
    have d4 := HD2.out.c4
    have d5 := HD2.out.c5
    have d6 := HD2.out.c6
    have d7 := HD2.out.c7
    have d8 := HD2.out.c8
    go_wp2_with fail
    refine (HHA.out _).mono ?_
    rintro e w3 ⟨rfl, hb⟩
    have HB3 := Lib.hid (HB2.out.trans (hb.mono HB2.out.size))
    have HD3 := Lib.hid (HD2.out.next hb HD2.out.lt)
    have HP3 := Lib.hid (HP2.out.next hb HP2.out.lt)
    clear hb HB2 HD2 HP2 d0 d1 d2 d3 d4 d5 d6 d7 d8
    cases hd
    · have HF : Hid (begB o l d = false) := begB_has HHD.out
      go_wp2
      go_ret
      exact ⟨by rw [HF.out]; rfl, HB3.out⟩
    have HBE := Lib.hid (fun b h => begB_is (d := d) HE.out HHD.out b h)
    go_wp2
    go_loopg [9, 10, 32] l.length (fun g _ _ y wr => ∃ j : Nat, y = .int .i64 j ∧ j + g = l.length ∧ Hid (ordPF l (partsPl pe pa pv d) j = ordK l (partsPl pe pa pv d)) ∧ Hid (Below w3.heap.size w3 wr) ∧ w3.heap.size ≤ wr.heap.size)
    case atStart => exact ⟨0, rfl, by omega, rfl, Below.refl _ _, Nat.le_refl _⟩
    case round =>
      obtain ⟨j, rfl, hj, HJ, HB, hsz⟩ := hrel
      have HBw := Lib.hid (HB3.out.trans (HB.out.mono HB3.out.size))
      cases gk with
      | zero =>
        have hjz : ¬ ((j : Int) < (l.length : Int)) := by omega
        have HF : Hid (begB o l d = true) := HBE.out true (by
          rw [← HPP.out, ← HJ.out, ordPF_end (.inl (by omega))]
          exact ⟨fun _ => rfl, fun _ => rfl⟩)
        go_wp2
        go_ret
        exact ⟨by rw [HF.out]; rfl, HBw.out⟩
      | succ g =>
        have hjz : (j : Int) < (l.length : Int) := by omega
        have hjn : j < l.length := by omega
        have hst := ordPF_step (a := l) (b := partsPl pe pa pv d) hjn (by rw [partsPl_len]; omega)
        rw [partsPl_get] at hst
        obtain ⟨b, q, rfl, hblt, hp⟩ := (HS.out.next HBw.out (Nat.le_refl _)).at_ hjn
        obtain ⟨p, hpe⟩ : ∃ p, l[j] = p := ⟨_, rfl⟩
        rw [hpe] at hp hst
        have HST := Lib.hid hst
        have h0 := hp.c0
        have h1 := hp.c1
        have h2 := hp.c2
        have h3 := hp.c3
        have h4' := hp.c4
        have HSS : Hid (BgS w3.heap.size wr.heap.size w1.heap.size w.heap.size pe pa pv p d (wr.alloc (.cells #[.bool p.v, .int .i64 p.n, .int .i64 p.k, .int .i64 p.m, .string p.s] 45))) := ⟨partBox_new wr p, ((HP3.out.next HB.out HP3.out.lt).alloc _), ((HD3.out.next HB.out HD3.out.lt).alloc _), by simp; omega⟩
        have HBa := Lib.hid (HB.out.alloc hsz (.cells #[.bool p.v, .int .i64 p.n, .int .i64 p.k, .int .i64 p.m, .string p.s] 45))
        obtain ⟨g0, hg0⟩ : ∃ g0, ordP p (partPl pe pa pv d j) = g0 := ⟨_, rfl⟩
        have hcp := fun X => cmpParts_any p (partPl pe pa pv d j) X
        rw [hg0] at hcp hst HST
        have HCP := Lib.hid hcp
        clear hp hpe hst hcp hg0
        go_wp2_with fail
        obtain ⟨wa, hwa⟩ : ∃ wa, wr.alloc (.cells #[.bool p.v, .int .i64 p.n, .int .i64 p.k, .int .i64 p.m, .string p.s] 45) = wa := ⟨_, rfl⟩
        rw [hwa] at HSS HBa
        (try rw [hwa])
        clear hwa h0 h1 h2 h3 h4'
        have HSD : Hid (BgS w3.heap.size wr.heap.size w1.heap.size w.heap.size pe pa pv p d wa.drew) := HSS.out
        have HBD : Hid (Below w3.heap.size w3 wa.drew) := HBa.out.drew
        obtain ⟨wd, hwd⟩ : ∃ wd, wa.drew = wd := ⟨_, rfl⟩
        rw [hwd] at HSD HBD
        refine wp_region_held_drew (S := BgS w3.heap.size wr.heap.size w1.heap.size w.heap.size pe pa pv p d) (by kernel_rfl) (by rw [hwd]; exact HSD.out) (fun hHeld => ?_)
        rw [hwd] at hHeld ⊢
        clear hwd
        refine takeV 0 (some 37) (.agg #[.bool p.v, .int .i64 p.n, .int .i64 p.k, .int .i64 p.m, .string p.s]) rfl rfl (by kernel_rfl) (by kernel_rfl) (by kernel_rfl) (fun _ _ _ h => h) (by rfl) (by (intro _w hSw; have k0 := hSw.1.k0; have k1 := hSw.1.k1; have k2 := hSw.1.k2; have k3 := hSw.1.k3; have k4 := hSw.1.k4; clear hSw; go_simp)) (by assumption) ?_
        simp only [Act.put, List.setIfInBounds_toArray, List.set_cons_zero, List.set_cons_succ]
        refine takeV 1 (some 38) (.agg #[.int .i64 (pe : Int), .int .i64 (pa : Int), .int .i64 (pv : Int)]) rfl rfl (by kernel_rfl) (by kernel_rfl) (by kernel_rfl) (fun _ _ _ h => h) (by rfl) (by (intro _w hSw; have k0 := hSw.2.1.c0; have k1 := hSw.2.1.c1; have k2 := hSw.2.1.c2; clear hSw; go_simp)) (by assumption) ?_
        simp only [Act.put, List.setIfInBounds_toArray, List.set_cons_zero, List.set_cons_succ]
        refine takeV 2 (some 39) (.agg #[.int .i64 d.e, .int .i64 d.a, .int .i64 d.k, .int .i64 d.m, .string d.s, .int .i64 d.t, .bool d.add, .int .i64 d.fr, .int .i64 d.til]) rfl rfl (by kernel_rfl) (by kernel_rfl) (by kernel_rfl) (fun _ _ _ h => h) (by rfl) (by (intro _w hSw; have k0 := hSw.2.2.1.c0; have k1 := hSw.2.2.1.c1; have k2 := hSw.2.2.1.c2; have k3 := hSw.2.2.1.c3; have k4 := hSw.2.2.1.c4; have k5 := hSw.2.2.1.c5; have k6 := hSw.2.2.1.c6; have k7 := hSw.2.2.1.c7; have k8 := hSw.2.2.1.c8; clear hSw; go_simp)) (by assumption) ?_
        simp only [Act.put, List.setIfInBounds_toArray, List.set_cons_zero, List.set_cons_succ]
        refine takeV 3 (some 40) ((.int .i64 j)) rfl rfl (by kernel_rfl) (by kernel_rfl) (by kernel_rfl) (fun _ _ _ h => h) (by rfl) (by (intro _w _hSw; (try dsimp only at _hSw); go_simp)) (by assumption) ?_
        simp only [Act.put, List.setIfInBounds_toArray, List.set_cons_zero, List.set_cons_succ]
        refine callV 4 rfl (by kernel_rfl) (by rfl) (fun K hK => ?_)
        go_simp
        refine (part_any pe pa pv j d wd).mono ?_
        rintro e w8 ⟨rfl, hb8⟩
        have HB8 := Lib.hid (HBD.out.trans (hb8.mono HBD.out.size))
        refine hK.out _ _ (hHeld.next hb8) (fun hHeld2 => ?_)
        clear hK K hHeld hb8
        try simp only [Act.put, List.setIfInBounds_toArray, List.set_cons_zero, List.set_cons_succ]
        refine callV 5 rfl (by kernel_rfl) (by rfl) (fun K hK => ?_)
        go_simp
        refine (HCP.out _).mono ?_
        rintro e w9 ⟨rfl, hb9⟩
        have HB9 := Lib.hid (HB8.out.trans (hb9.mono HB8.out.size))
        refine hK.out _ _ (hHeld2.next hb9) (fun hHeld3 => ?_)
        clear hK K hHeld2 hb9
        try simp only [Act.put, List.setIfInBounds_toArray, List.set_cons_zero, List.set_cons_succ]
        by_cases hgz : g0 = 0
        · subst hgz
          refine takeV 6 (some 43) ((.bool false)) rfl rfl (by kernel_rfl) (by kernel_rfl) (by kernel_rfl) (fun _ _ _ h => h) (by rfl) (by (intro _w _hSw; (try dsimp only at _hSw); go_simp)) (by assumption) ?_
          simp only [Act.put, List.setIfInBounds_toArray, List.set_cons_zero, List.set_cons_succ]
          refine wpAnyH_done (by kernel_rfl) ?_ _
          clear hHeld3
          go_wp2
          go_roundg g
          case measure => omega
          case rel => exact ⟨j + 1, by go_num, by omega, (by show _ = _; rw [← HJ.out, HST.out]; rfl), HB9.out, HB9.out.size⟩
        · have hnz : (g0 != 0) = true := by simpa using hgz
          refine takeV 6 (some 43) ((.bool true)) rfl rfl (by kernel_rfl) (by kernel_rfl) (by kernel_rfl) (fun _ _ _ h => h) (by rfl) (by (intro _w _hSw; (try dsimp only at _hSw); go_simp)) (by assumption) ?_
          simp only [Act.put, List.setIfInBounds_toArray, List.set_cons_zero, List.set_cons_succ]
          refine wpAnyH_done (by kernel_rfl) ?_ _
          clear hHeld3
          have HF : Hid (begB o l d = false) := HBE.out false (by
            rw [← HPP.out, ← HJ.out, HST.out, if_neg hgz]
            exact ⟨fun h => absurd h hgz, fun h => by cases h⟩)
          have HBz := Lib.hid (HB3.out.trans (HB9.out.mono HB3.out.size))
          go_wp2
          go_ret
          exact ⟨by rw [HF.out]; rfl, HBz.out⟩
  · have hq : (n != 0) = true := by simpa using h0
    have HF : Hid (begB o l d = false) := begB_no (by rw [HE.out]; exact h0)
    go_wp2
    go_ret
    exact ⟨by rw [HF.out]; rfl, HB2.out⟩
end Go.Proofs.Ytkoknogefmfmnaa
