/-
  THE LAW OrderEnds: its walk.
-/
import Derived.Test.YtpnjolacmkcofaaOBytes
namespace Go.Proofs.Ytpnjolacmkcofaa
open Go.RowKit Go.Shelf

theorem SlB.more {W : World} {B B' : Nat} {A : Option Addr} {l : List UInt8} (h : SlB W B A l) (hB : B ≤ B') : SlB W B' A l := fun hl => by
  obtain ⟨a, e, hlt, hc⟩ := h hl
  exact ⟨a, e, by omega, hc⟩
theorem SlB.drewN {W : World} {B : Nat} {A : Option Addr} {l : List UInt8} (h : SlB W B A l) (n : Nat) : SlB (W.drewN n) B A l := h
theorem ownB_form {W : World} {B : Nat} {v : Value} {l : List UInt8} (h : OwnB W B v l) : ∃ A c, v = .slice A l.length c := by
  rcases h.2 with ⟨rfl, h0⟩ | ⟨g, cap, cur, rfl, _⟩
  · exact ⟨none, 0, by rw [h0]⟩
  · exact ⟨_, _, rfl⟩
theorem pre_take {b x : List UInt8} : b <+: x ↔ b.length ≤ x.length ∧ x.take b.length = b := by
  constructor
  · intro h; exact ⟨h.length_le, (List.prefix_iff_eq_take.1 h).symm⟩
  · intro ⟨_, h⟩; rw [← h]; exact List.take_prefix _ _
theorem endF_len : ∀ {b e : List UInt8}, endF b = some e → e.length ≤ b.length
  | [], e, h => by cases h
  | c :: r, e, h => by
    rw [endF] at h
    cases hr : endF r with
    | some e' =>
      rw [hr] at h
      injection h with h
      have := endF_len hr
      rw [← h]; simp; omega
    | none =>
      rw [hr] at h
      simp only at h
      split at h
      · cases h
      · injection h with h
        rw [← h]; simp

set_option maxRecDepth 100000 in
set_option maxHeartbeats 4000000 in
theorem ends_any (A A' : Option Addr) (c c' : Nat) (b x : List UInt8) (w : World) (hs : SlB w w.heap.size A b) (hs' : SlB w w.heap.size A' x) (hc : b.length ≤ c) (hc' : x.length ≤ c') (_hm : c ≤ maxLen) (_hm' : c' ≤ maxLen) :
    Calls Try.prog 10 #[.slice A b.length c, .slice A' x.length c'] w fun e w' => e = .returned (.bool true) ∧ Below w.heap.size w w' := by
  unfold maxLen at _hm _hm'
  have HS := Lib.hid hs
  have HS' := Lib.hid hs'
  clear hs hs'
  go_enter Try.func10, Try.ntmps10
  go_wp2_with fail
  refine (alive_any _).mono ?_
  rintro e w1 ⟨rfl, hb1⟩
  have HB1 := Lib.hid hb1
  clear hb1
  by_cases h1 : 5000 < (b.length : Int)
  · go_wp2
    go_ret
    exact ⟨rfl, HB1.out⟩
  by_cases h2 : 5000 < (x.length : Int)
  · go_wp2
    go_ret
    exact ⟨rfl, HB1.out⟩
  have hsb := HS.out.next HB1.out (Nat.le_refl _)
  have HSB := Lib.hid (hsb.more HB1.out.size)
  clear hsb
  go_wp2_with fail
  refine (end_any A c b _ HSB.out (by omega) hc).mono ?_
  rintro e w2 ⟨v, is, rfl, hE, hb2⟩
  have HE := Lib.hid hE
  have HB2 := Lib.hid (HB1.out.trans (hb2.mono HB1.out.size))
  have HSB2 := Lib.hid ((HS.out.next HB2.out (Nat.le_refl _)).more HB2.out.size)
  have HSX2 := Lib.hid ((HS'.out.next HB2.out (Nat.le_refl _)).more HB2.out.size)
  clear hb2 hE
  have hW := Lib.hid (endF_within b x)
  have hb50 : b.length ≤ 50000 := by omega
  have hx50 : x.length ≤ 50000 := by omega
  have hcb := fun n => slB_string (HSB2.out.drewN n) c
  rcases HE.out with ⟨rfl, e, he, ho⟩ | ⟨rfl, he, rfl⟩
  · obtain ⟨A2, c2, rfl⟩ := ownB_form ho
    have hel : e.length ≤ 50000 := by have := endF_len he; omega
    have HO := Lib.hid (SlB.of_own ho).2
    have HEF := Lib.hid he
    clear he ho HE
    obtain ⟨o1, ho1⟩ : ∃ o1, ordL b x = o1 := ⟨_, rfl⟩
    obtain ⟨o2, ho2⟩ : ∃ o2, ordL x e = o2 := ⟨_, rfl⟩
    have C1 : Hid (∀ n, Calls Try.prog 33 #[.slice A b.length c, .slice A' x.length c'] (w2.drewN n) fun e w' => e = .returned (.int .i64 o1) ∧ ∃ n, w' = w2.drewN n) := fun n => by
      rw [← ho1]
      exact (bytes_any A A' c c' b x _ _ (HSB2.out.drewN n) (HSX2.out.drewN n) hb50 hx50).mono fun e w' ⟨h, k, hk⟩ => ⟨h, n + k, by rw [hk, World.drewN_drewN]⟩
    have C2 : Hid (∀ n, Calls Try.prog 33 #[.slice A' x.length c', .slice A2 e.length c2] (w2.drewN n) fun e w' => e = .returned (.int .i64 o2) ∧ ∃ n, w' = w2.drewN n) := fun n => by
      rw [← ho2]
      exact (bytes_any A' A2 c' c2 x e _ _ (HSX2.out.drewN n) (HO.out.drewN n) hx50 hel).mono fun e w' ⟨h, k, hk⟩ => ⟨h, n + k, by rw [hk, World.drewN_drewN]⟩
    have hWW : Hid (b <+: x ↔ (o1 ≤ 0 ∧ o2 < 0)) := by
      show _ ↔ _
      rw [hW.out, ho1]
      constructor
      · intro h; exact ⟨h.1, by rw [← ho2]; exact h.2 e HEF.out⟩
      · intro h; exact ⟨h.1, fun e' h' => by rw [HEF.out] at h'; injection h' with h'; rw [← h', ho2]; exact h.2⟩
    clear ho1 ho2
    by_cases hlen : (b.length : Int) ≤ (x.length : Int)
    · have hcx := fun n => slB_string ((HSX2.out.take b.length).drewN n) c'
      have hbc : (b.length : Int) ≤ (c' : Int) := by omega
      have hb0 : (0 : Int) ≤ (b.length : Int) := by omega
      have hbt : ((b.length : Int)).toNat = b.length := by omega
      have hlt : (x.take b.length).length = b.length := by rw [List.length_take]; omega
      rw [hlt] at hcx
      clear hlt
      by_cases hp : b <+: x
      · obtain ⟨p1, p2⟩ := hWW.out.1 hp
        have hq : (List.take b.length x == b) = true := by rw [(pre_take.1 hp).2]; simp
        clear hp
        go_wp2
        go_quiet (fail)
        clear hcb hcx hbt
        go_wp2_with fail
        refine (C1.out _).mono ?_
        rintro e w3 ⟨rfl, n3, rfl⟩
        go_wp2_with fail
        refine (C2.out _).mono ?_
        rintro e w4 ⟨rfl, n4, rfl⟩
        go_wp2
        go_ret
        exact ⟨rfl, below_dn HB2.out _⟩
      · have hnp := fun h => hp (hWW.out.2 h)
        have hq : (List.take b.length x == b) = false := by
          rw [beq_eq_false_iff_ne]
          exact fun h => hp (pre_take.2 ⟨by omega, h⟩)
        clear hp
        by_cases p1 : o1 ≤ 0
        · have p2 : ¬ o2 < 0 := fun h => hnp ⟨p1, h⟩
          have p2d : decide (o2 < 0) = false := by simpa using p2
          clear hnp
          go_wp2
          go_quiet (fail)
          clear hcb hcx hbt
          go_wp2_with fail
          refine (C1.out _).mono ?_
          rintro e w3 ⟨rfl, n3, rfl⟩
          go_wp2_with fail
          refine (C2.out _).mono ?_
          rintro e w4 ⟨rfl, n4, rfl⟩
          go_wp2
          go_ret
          exact ⟨rfl, below_dn HB2.out _⟩
        · clear hnp
          go_wp2
          go_quiet (fail)
          clear hcb hcx hbt
          go_wp2_with fail
          refine (C1.out _).mono ?_
          rintro e w3 ⟨rfl, n3, rfl⟩
          go_wp2
          go_ret
          exact ⟨rfl, below_dn HB2.out _⟩
    · have hnp : ¬ (o1 ≤ 0 ∧ o2 < 0) := fun h => absurd (hWW.out.2 h).length_le (by omega)
      have hd : decide (b.length ≤ x.length) = false := by rw [decide_eq_false_iff_not]; omega
      by_cases p1 : o1 ≤ 0
      · have p2 : ¬ o2 < 0 := fun h => hnp ⟨p1, h⟩
        have p2d : decide (o2 < 0) = false := by simpa using p2
        clear hnp
        go_wp2
        go_quiet (fail)
        clear hcb
        go_wp2_with fail
        refine (C1.out _).mono ?_
        rintro e w3 ⟨rfl, n3, rfl⟩
        go_wp2_with fail
        refine (C2.out _).mono ?_
        rintro e w4 ⟨rfl, n4, rfl⟩
        go_wp2
        go_ret
        exact ⟨rfl, below_dn HB2.out _⟩
      · clear hnp
        go_wp2
        go_quiet (fail)
        clear hcb
        go_wp2_with fail
        refine (C1.out _).mono ?_
        rintro e w3 ⟨rfl, n3, rfl⟩
        go_wp2
        go_ret
        exact ⟨rfl, below_dn HB2.out _⟩
  · have HEF := Lib.hid he
    clear he HE
    obtain ⟨o1, ho1⟩ : ∃ o1, ordL b x = o1 := ⟨_, rfl⟩
    have C1 : Hid (∀ n, Calls Try.prog 33 #[.slice A b.length c, .slice A' x.length c'] (w2.drewN n) fun e w' => e = .returned (.int .i64 o1) ∧ ∃ n, w' = w2.drewN n) := fun n => by
      rw [← ho1]
      exact (bytes_any A A' c c' b x _ _ (HSB2.out.drewN n) (HSX2.out.drewN n) hb50 hx50).mono fun e w' ⟨h, k, hk⟩ => ⟨h, n + k, by rw [hk, World.drewN_drewN]⟩
    have hWW : Hid (b <+: x ↔ o1 ≤ 0) := by
      show _ ↔ _
      rw [hW.out, ho1, HEF.out]
      simp
    clear ho1
    by_cases hlen : (b.length : Int) ≤ (x.length : Int)
    · have hcx := fun n => slB_string ((HSX2.out.take b.length).drewN n) c'
      have hbc : (b.length : Int) ≤ (c' : Int) := by omega
      have hb0 : (0 : Int) ≤ (b.length : Int) := by omega
      have hbt : ((b.length : Int)).toNat = b.length := by omega
      have hlt : (x.take b.length).length = b.length := by rw [List.length_take]; omega
      rw [hlt] at hcx
      clear hlt
      by_cases hp : b <+: x
      · have p1 := hWW.out.1 hp
        have hq : (List.take b.length x == b) = true := by rw [(pre_take.1 hp).2]; simp
        clear hp
        go_wp2
        go_quiet (fail)
        clear hcb hcx hbt
        go_wp2_with fail
        refine (C1.out _).mono ?_
        rintro e w3 ⟨rfl, n3, rfl⟩
        go_wp2
        go_ret
        exact ⟨rfl, below_dn HB2.out _⟩
      · have p1 : ¬ o1 ≤ 0 := fun h => hp (hWW.out.2 h)
        have hq : (List.take b.length x == b) = false := by
          rw [beq_eq_false_iff_ne]
          exact fun h => hp (pre_take.2 ⟨by omega, h⟩)
        clear hp
        go_wp2
        go_quiet (fail)
        clear hcb hcx hbt
        go_wp2_with fail
        refine (C1.out _).mono ?_
        rintro e w3 ⟨rfl, n3, rfl⟩
        go_wp2
        go_ret
        exact ⟨rfl, below_dn HB2.out _⟩
    · have p1 : ¬ o1 ≤ 0 := fun h => absurd (hWW.out.2 h).length_le (by omega)
      have hd : decide (b.length ≤ x.length) = false := by rw [decide_eq_false_iff_not]; omega
      go_wp2
      go_quiet (fail)
      clear hcb
      go_wp2_with fail
      refine (C1.out _).mono ?_
      rintro e w3 ⟨rfl, n3, rfl⟩
      go_wp2
      go_ret
      exact ⟨rfl, below_dn HB2.out _⟩

end Go.Proofs.Ytpnjolacmkcofaa
