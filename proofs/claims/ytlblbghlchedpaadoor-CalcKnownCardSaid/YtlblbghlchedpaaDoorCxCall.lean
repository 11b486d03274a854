/-
  CONTRACTS: callable, right: may a name be asked of values?
-/
import Derived.Test.YtlblbghlchedpaaDoorCxSay
import Derived.Test.YtlblbghlchedpaaDoorCxRef
namespace Go.Proofs.YtlblbghlchedpaaDoor
open Go.RowKit Go.Shelf

/-- one value's cells -/
structure CvAt (W : World) (b o : Nat) (v : Cv) : Prop where
  c0 : W.cell? ⟨b, o, none⟩ = some (.int .i64 v.1)
  c1 : W.cell? ⟨b, o + 1, none⟩ = some (.int .i64 v.2.1)
  c2 : W.cell? ⟨b, o + 2, none⟩ = some (.string v.2.2)
/-- a slice that reads as these values -/
def SlX (W : World) (B : Nat) (A : Option Addr) (l : List Cv) : Prop :=
  l ≠ [] → ∃ b o, A = some ⟨b, o, none⟩ ∧ b < B ∧ ∀ (j : Nat) (v : Cv), l[j]? = some v → CvAt W b (o + j * 3) v
theorem CvAt.next {W W' : World} {B b o : Nat} {v : Cv} (h : CvAt W b o v) (hb : Below B W W') (hB : b < B) : CvAt W' b o v :=
  ⟨(hb.cell (p := ⟨b, o, none⟩) hB).trans h.c0, (hb.cell (p := ⟨b, o + 1, none⟩) hB).trans h.c1, (hb.cell (p := ⟨b, o + 2, none⟩) hB).trans h.c2⟩
theorem SlX.next {W W' : World} {B : Nat} {A : Option Addr} {l : List Cv} (h : SlX W B A l) {B' : Nat} (hb : Below B' W W') (hB : B ≤ B') : SlX W' B A l := fun hl => by
  obtain ⟨b, o, e, hlt, hc⟩ := h hl
  exact ⟨b, o, e, hlt, fun j p hp => (hc j p hp).next hb (by omega)⟩
theorem SlX.more {W : World} {B B' : Nat} {A : Option Addr} {l : List Cv} (h : SlX W B A l) (hB : B ≤ B') : SlX W B' A l := fun hl => by
  obtain ⟨b, o, e, hlt, hc⟩ := h hl
  exact ⟨b, o, e, by omega, hc⟩
theorem SlX.at_ {W : World} {B : Nat} {A : Option Addr} {l : List Cv} (h : SlX W B A l) {j : Nat} (hj : j < l.length) : ∃ b o, A = some ⟨b, o, none⟩ ∧ b < B ∧ CvAt W b (o + j * 3) l[j] := by
  obtain ⟨b, o, e, hlt, hc⟩ := h (by intro e; rw [e] at hj; simp at hj)
  exact ⟨b, o, e, hlt, hc j _ (List.getElem?_eq_getElem hj)⟩
theorem take_all {l : List Cv} {j : Nat} (h1 : j < l.length) (h : (l.take j).all mayC = true) (hm : mayC l[j] = true) : (l.take (j + 1)).all mayC = true := by
  rw [List.take_succ_eq_append_getElem h1, List.all_append, h]; simp [hm]
theorem all_no {l : List Cv} {j : Nat} (h1 : j < l.length) (hm : mayC l[j] = false) : l.all mayC = false := by
  rw [Bool.eq_false_iff]
  intro h
  rw [List.all_eq_true] at h
  have := h _ (List.getElem_mem h1)
  rw [hm] at this
  cases this
def ckC (a : Cv) : Int := if mayC a = true then 0 else 10
set_option maxHeartbeats 400000 in
theorem ckC_any (a : Cv) (w : World) (hs : a.2.2.size ≤ maxLen) :
    Calls Tryd.prog 23 #[.agg #[.int .i64 a.1, .int .i64 a.2.1, .string a.2.2]] w fun e w' => e = .returned (.int .i64 (ckC a)) ∧ Below w.heap.size w w' := by
  obtain ⟨k, n, s⟩ := a
  have HM := Lib.hid (fun X => mayBe_any k n s X hs)
  have HE : Hid (ckC (k, n, s) = if mayB k n s = true then 0 else 10) := rfl
  obtain ⟨m, hm⟩ : ∃ m, mayB k n s = m := ⟨_, rfl⟩
  rw [hm] at HM HE
  clear hm
  show Calls _ _ #[.agg #[.int .i64 k, .int .i64 n, .string s]] _ _
  go_enter Tryd.func23, Tryd.ntmps23
  go_wp2_with fail
  refine (HM.out _).mono ?_
  rintro e w' ⟨rfl, hb⟩
  have HB := Lib.hid (((Below.refl w.heap.size w).alloc (Nat.le_refl _) (.cells #[.int .i64 k, .int .i64 n, .string s] 43)).trans (hb.mono (by simp)))
  clear hb
  cases m with
  | true =>
    go_wp2
    go_ret
    exact ⟨by rw [HE.out]; rfl, HB.out⟩
  | false =>
    go_wp2
    go_ret
    exact ⟨by rw [HE.out]; rfl, HB.out⟩

set_option maxRecDepth 100000 in
set_option maxHeartbeats 1000000 in
theorem callable_any (s : ByteArray) (t : Bool) (A : Option Addr) (c : Nat) (l : List Cv) (w : World) (hF : FamAt w w.heap.size) (hs : SlX w w.heap.size A l) (hl : l.length ≤ 1000) (hz : ∀ v ∈ l, v.2.2.size ≤ maxLen) :
    Calls Tryd.prog 15 #[.string s, .bool t, .slice A l.length c] w fun e w' => e = .returned (.int .i64 (rightC t s.data.toList l)) ∧ Below w.heap.size w w' := by
  have HS := Lib.hid hs
  have HK := Lib.hid (known_any s w hF)
  have HR : Hid (rightC t s.data.toList l = if (knownC s.data.toList).2.2 = true ∧ (knownC s.data.toList).2.1 = t ∧ (knownC s.data.toList).1 = (l.length : Int) then (if l.all mayC = true then 0 else 10) else 150) := rfl
  obtain ⟨k1, h1⟩ : ∃ k, (knownC s.data.toList).1 = k := ⟨_, rfl⟩
  obtain ⟨k2, h2⟩ : ∃ k, (knownC s.data.toList).2.1 = k := ⟨_, rfl⟩
  obtain ⟨k3, h3⟩ : ∃ k, (knownC s.data.toList).2.2 = k := ⟨_, rfl⟩
  rw [h1, h2, h3] at HK HR
  have HZ := Lib.hid hz
  clear hs hF h1 h2 h3 hz
  go_enter Tryd.func15, Tryd.ntmps15
  go_wp2_with fail
  refine HK.out.mono ?_
  rintro e w1 ⟨rfl, hb1⟩
  have HB1 := Lib.hid hb1
  clear hb1
  cases k3 with
  | false =>
    go_wp2
    go_ret
    exact ⟨ret_i64 (by rw [HR.out]; simp), HB1.out⟩
  | true =>
    cases hq : (k2 == t) with
    | false =>
      have hne : Hid (k2 ≠ t) := by show _ ≠ _; simpa using hq
      go_wp2
      go_ret
      exact ⟨ret_i64 (by rw [HR.out, if_neg (fun h => hne.out h.2.1)]), HB1.out⟩
    | true =>
      have heq : k2 = t := by simpa using hq
      by_cases hn : (l.length : Int) = k1
      · subst hn
        have hn' : ((l.length : Int) == (l.length : Int)) = true := by simp
        have HR2 : Hid (rightC t s.data.toList l = if l.all mayC = true then 0 else 10) := by
          show _ = _
          rw [HR.out, if_pos ⟨rfl, heq, rfl⟩]
        clear heq
        go_wp2
        go_loopw [6, 11, 33] (fun _ _ i wr => ∃ j : Nat, j ≤ l.length ∧ i = .int .i64 j ∧ Hid ((l.take j).all mayC = true) ∧ Hid (Below w.heap.size w wr) ∧ Hid (w.heap.size ≤ wr.heap.size)) (fun _ _ i _ => l.length - (intOf i).toNat)
        case atStart => exact ⟨0, Nat.zero_le _, rfl, rfl, HB1.out, HB1.out.size⟩
        case round =>
          obtain ⟨j, hj, rfl, HJ, HB, HSZ⟩ := hrel
          by_cases h1 : j < l.length
          · have h1i : (j : Int) < (l.length : Int) := by omega
            have hat := (HS.out.next HB.out (Nat.le_refl _)).at_ h1
            obtain ⟨b, o, rfl, hlt, hc⟩ := hat
            have HCK := Lib.hid (fun X => ckC_any l[j] X (HZ.out _ (List.getElem_mem h1)))
            have HM : Hid (ckC l[j] = if mayC l[j] = true then 0 else 10) := rfl
            have HT := Lib.hid (fun h => take_all h1 HJ.out h)
            have HN := Lib.hid (fun h => all_no (l := l) h1 h)
            obtain ⟨x, hx⟩ : ∃ x, l[j] = x := ⟨_, rfl⟩
            obtain ⟨y, hy⟩ : ∃ y, mayC l[j] = y := ⟨_, rfl⟩
            rw [hy] at HM HT HN
            rw [hx] at hc HCK HM
            obtain ⟨x1, x2, x3⟩ := x
            have c0 := hc.c0
            have c1 := hc.c1
            have c2 := hc.c2
            simp only at c0 c1 c2
            clear hc hx hy
            go_wp2_with fail
            have HBX := Lib.hid (HB.out.alloc HSZ.out (.cells #[.int .i64 x1, .int .i64 x2, .string x3] 43))
            refine (HCK.out _).mono ?_
            rintro e w3 ⟨rfl, hb3⟩
            rw [HM.out]
            have HB3 := Lib.hid (HBX.out.trans (hb3.mono (by have := HSZ.out; simp; omega)))
            have HS3 : Hid (w.heap.size ≤ w3.heap.size) := by show _ ≤ _; have h9 := hb3.size; have := HSZ.out; simp at h9; omega
            clear hb3 c0 c1 c2
            cases y with
            | true =>
              go_wp2
              go_roundw
              case rel => exact ⟨j + 1, by omega, by go_num, HT.out (by trivial), HB3.out, HS3.out⟩
              case measure => simp [intOf]; omega
            | false =>
              go_wp2
              go_ret
              exact ⟨ret_i64 (by rw [HR2.out, HN.out (by trivial)]; rfl), HB3.out⟩
          · have h1i : ¬ (j : Int) < (l.length : Int) := by omega
            have HE : Hid (l.all mayC = true) := by
              show _ = _
              have := HJ.out
              rwa [List.take_of_length_le (by omega)] at this
            go_wp2
            go_ret
            exact ⟨ret_i64 (by rw [HR2.out, HE.out]; rfl), HB.out⟩
      · have hn' : ((l.length : Int) == k1) = false := by simpa using hn
        have hnn : Hid (¬ k1 = (l.length : Int)) := fun e => hn e.symm
        clear hn
        go_wp2
        go_ret
        exact ⟨ret_i64 (by rw [HR.out, if_neg (fun h => hnn.out h.2.2)]), HB1.out⟩
end Go.Proofs.YtlblbghlchedpaaDoor
