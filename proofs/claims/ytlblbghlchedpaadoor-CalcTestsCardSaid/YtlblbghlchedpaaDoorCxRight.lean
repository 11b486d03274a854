/-
  CONTRACTS: the document's right, at.
-/
import Derived.Test.YtlblbghlchedpaaDoorCxCall
namespace Go.Proofs.YtlblbghlchedpaaDoor
open Go.RowKit Go.Shelf

theorem refMayC_any (a : Cv) (w : World) (hs : a.2.2.size ≤ maxLen) :
    Calls Tryd.prog 28 #[.agg #[.int .i64 a.1, .int .i64 a.2.1, .string a.2.2]] w fun e w' => e = .returned (.bool (mayC a)) ∧ Below w.heap.size w w' := refMay_any a.1 a.2.1 a.2.2 w hs
set_option maxRecDepth 100000 in
set_option maxHeartbeats 1000000 in
theorem right_any (s : ByteArray) (t : Bool) (A : Option Addr) (c : Nat) (l : List Cv) (w : World) (hs : SlX w w.heap.size A l) (hl : l.length ≤ 1000) (hz : ∀ v ∈ l, v.2.2.size ≤ maxLen) :
    Calls Tryd.prog 17 #[.string s, .slice A l.length c, .bool t] w fun e w' => e = .returned (.int .i64 (rightC t s.data.toList l)) ∧ Below w.heap.size w w' := by
  have HS := Lib.hid hs
  have HK := Lib.hid (refKnown_any s w)
  have HR : Hid (rightC t s.data.toList l = if (knownC s.data.toList).2.2 = true ∧ (knownC s.data.toList).2.1 = t ∧ (knownC s.data.toList).1 = (l.length : Int) then (if l.all mayC = true then 0 else 10) else 150) := rfl
  obtain ⟨k1, h1⟩ : ∃ k, (knownC s.data.toList).1 = k := ⟨_, rfl⟩
  obtain ⟨k2, h2⟩ : ∃ k, (knownC s.data.toList).2.1 = k := ⟨_, rfl⟩
  obtain ⟨k3, h3⟩ : ∃ k, (knownC s.data.toList).2.2 = k := ⟨_, rfl⟩
  rw [h1, h2, h3] at HK HR
  have HZ := Lib.hid hz
  clear hs h1 h2 h3 hz
  go_enter Tryd.func17, Tryd.ntmps17
  go_wp2_with fail
  refine HK.out.mono ?_
  rintro e w1 ⟨rfl, hb1⟩
  have HB1 := Lib.hid hb1
  clear hb1
  cases k3 with
  | false =>
    go_wp2
    go_ret
    exact ⟨ret_i64 (by rw [HR.out]; simp), HB1.out⟩
  | true =>
    cases hq : (k2 == t) with
    | false =>
      have hne : Hid (k2 ≠ t) := by show _ ≠ _; simpa using hq
      go_wp2
      go_ret
      exact ⟨ret_i64 (by rw [HR.out, if_neg (fun h => hne.out h.2.1)]), HB1.out⟩
    | true =>
      have heq : k2 = t := by simpa using hq
      by_cases hn : (l.length : Int) = k1
      · subst hn
        have hn' : ((l.length : Int) == (l.length : Int)) = true := by simp
        have HR2 : Hid (rightC t s.data.toList l = if l.all mayC = true then 0 else 10) := by
          show _ = _
          rw [HR.out, if_pos ⟨rfl, heq, rfl⟩]
        clear heq
        go_wp2
        go_loopw [6, 10, 11] (fun _ i _ wr => ∃ j : Nat, j ≤ l.length ∧ i = .int .i64 j ∧ Hid ((l.take j).all mayC = true) ∧ Hid (Below w.heap.size w wr) ∧ Hid (w.heap.size ≤ wr.heap.size)) (fun _ i _ _ => l.length - (intOf i).toNat)
        case atStart => exact ⟨0, Nat.zero_le _, rfl, rfl, HB1.out, HB1.out.size⟩
        case round =>
          obtain ⟨j, hj, rfl, HJ, HB, HSZ⟩ := hrel
          by_cases h1 : j < l.length
          · have h1i : (j : Int) < (l.length : Int) := by omega
            have hat := (HS.out.next HB.out (Nat.le_refl _)).at_ h1
            obtain ⟨b, o, rfl, hlt, hc⟩ := hat
            have HCK := Lib.hid (fun X => refMayC_any l[j] X (HZ.out _ (List.getElem_mem h1)))
            have HT := Lib.hid (fun h => take_all h1 HJ.out h)
            have HN := Lib.hid (fun h => all_no (l := l) h1 h)
            obtain ⟨x, hx⟩ : ∃ x, l[j] = x := ⟨_, rfl⟩
            obtain ⟨y, hy⟩ : ∃ y, mayC l[j] = y := ⟨_, rfl⟩
            rw [hy] at HCK HT HN
            rw [hx] at hc HCK
            obtain ⟨x1, x2, x3⟩ := x
            have c0 := hc.c0
            have c1 := hc.c1
            have c2 := hc.c2
            simp only at c0 c1 c2
            clear hc hx hy
            go_wp2_with fail
            refine (HCK.out _).mono ?_
            rintro e w3 ⟨rfl, hb3⟩
            have HB3 := Lib.hid (HB.out.trans (hb3.mono HSZ.out))
            have HS3 : Hid (w.heap.size ≤ w3.heap.size) := by show _ ≤ _; exact Nat.le_trans HSZ.out hb3.size
            clear hb3 c0 c1 c2
            cases y with
            | true =>
              go_wp2
              go_roundw
              case rel => exact ⟨j + 1, by omega, by go_num, HT.out (by trivial), HB3.out, HS3.out⟩
              case measure => simp [intOf]; omega
            | false =>
              go_wp2
              go_ret
              exact ⟨ret_i64 (by rw [HR2.out, HN.out (by trivial)]; rfl), HB3.out⟩
          · have h1i : ¬ (j : Int) < (l.length : Int) := by omega
            have HE : Hid (l.all mayC = true) := by
              show _ = _
              have := HJ.out
              rwa [List.take_of_length_le (by omega)] at this
            go_wp2
            go_ret
            exact ⟨ret_i64 (by rw [HR2.out, HE.out]; rfl), HB.out⟩
      · have hn' : (k1 == (l.length : Int)) = false := by simpa using fun e => hn e.symm
        have hnn : Hid (¬ k1 = (l.length : Int)) := fun e => hn e.symm
        clear hn
        go_wp2
        go_ret
        exact ⟨ret_i64 (by rw [HR.out, if_neg (fun h => hnn.out h.2.2)]), HB1.out⟩
end Go.Proofs.YtlblbghlchedpaaDoor
