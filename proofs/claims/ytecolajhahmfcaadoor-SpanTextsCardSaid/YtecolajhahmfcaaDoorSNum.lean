/-
  CONTRACT of the document's answer: Number (as in RefNum).
-/
import Derived.Test.YtecolajhahmfcaaDoorSDig
import Derived.Test.YtecolajhahmfcaaDoorNum
namespace Go.Proofs.YtecolajhahmfcaaDoor
open Go.RowKit Go.Shelf

def inI64 (x : Int) : Prop := -9223372036854775808 ≤ x ∧ x ≤ 9223372036854775807
theorem dec_dig : ∀ (u : Nat) (c : UInt8), c ∈ Lib.decDigits u → 48 ≤ c.toNat ∧ c.toNat ≤ 57 := by
  intro u
  induction u using Nat.strongRecOn with
  | _ u ih =>
    intro c hc
    rw [Lib.decDigits] at hc
    have hd : ∀ d : Nat, d < 10 → 48 ≤ (UInt8.ofNat (48 + d)).toNat ∧ (UInt8.ofNat (48 + d)).toNat ≤ 57 := by
      intro d hd
      have : (UInt8.ofNat (48 + d)).toNat = 48 + d := by
        rw [UInt8.toNat_ofNat']; omega
      omega
    split at hc
    · rename_i hlt
      rw [List.mem_singleton] at hc
      subst hc
      exact hd u hlt
    · rename_i hlt
      rcases List.mem_append.1 hc with hc | hc
      · exact ih (u / 10) (by omega) c hc
      · rw [List.mem_singleton] at hc
        subst hc
        exact hd (u % 10) (by omega)
theorem drop_to (r : ByteArray) (k : Nat) : (r.extract k r.size).data.toList = r.data.toList.drop k := by
  exact Lib.extract_to_end r k
theorem drop_to_size (r : ByteArray) (k : Nat) : (r.extract k r.size).size = r.size - k := by
  have h1 := congrArg List.length (drop_to r k)
  rw [List.length_drop] at h1
  exact h1
theorem is_n {c : UInt8} {n : Int} (h : ((c.toNat : Int) == n) = true) : (c.toNat : Int) = n := by simpa using h
theorem split_at (r : ByteArray) (j : Nat) (h : j < r.size) : r.data.toList = r.data.toList.take j ++ r[j] :: r.data.toList.drop (j + 1) := by
  rw [← drop_at r j h, List.take_append_drop]
theorem take_snoc (s : ByteArray) (k : Nat) (h : k < s.size) : s.data.toList.take (k + 1) = s.data.toList.take k ++ [s[k]] := by
  rw [List.take_succ_eq_append_getElem (by simpa using h)]; rfl
/-- the number that digits stand for -/
def horL (a : Int) : List UInt8 → Int
  | [] => a
  | c :: l => horL (a * 10 + ((c.toNat : Int) - 48)) l
theorem horL_append (a : Int) (l r : List UInt8) : horL a (l ++ r) = horL (horL a l) r := by
  induction l generalizing a with
  | nil => rfl
  | cons c l ih => exact ih _
theorem horL_dec (u : Nat) : horL 0 (Lib.decDigits u) = u := by
  induction u using Nat.strongRecOn with
  | _ u ih =>
    have hd : ∀ d : Nat, d < 10 → ((UInt8.ofNat (48 + d)).toNat : Int) = 48 + d := by
      intro d hd
      have : (UInt8.ofNat (48 + d)).toNat = 48 + d := by rw [UInt8.toNat_ofNat']; omega
      omega
    by_cases hu : u < 10
    · rw [Lib.decDigits_one hu]
      show (0 : Int) * 10 + (((UInt8.ofNat (48 + u)).toNat : Int) - 48) = u
      rw [hd u hu]; omega
    · rw [decDigits_snoc hu, horL_append, ih (u / 10) (by omega)]
      show ((u / 10 : Nat) : Int) * 10 + (((UInt8.ofNat (48 + u % 10)).toNat : Int) - 48) = u
      rw [hd (u % 10) (by omega)]; omega
theorem nDigits_le : ∀ (k u : Nat), u < 10 ^ (k + 1) → Lib.nDigits u ≤ k + 1
  | 0, u, h => by rw [Lib.nDigits_small (by simpa using h)]; exact Nat.le_refl _
  | k + 1, u, h => by
    by_cases hu : u < 10
    · rw [Lib.nDigits_small hu]; omega
    · rw [Lib.nDigits_big hu]
      have := nDigits_le k (u / 10) (by rw [Nat.pow_succ] at h; omega)
      omega
theorem dec_len {u : Nat} (h : u ≤ 9223372036854775808) : 1 ≤ (Lib.decDigits u).length ∧ (Lib.decDigits u).length ≤ 19 := by
  rw [Lib.decDigits_length]
  refine ⟨Lib.nDigits_pos u, nDigits_le 18 u (Nat.lt_of_le_of_lt h (by decide))⟩

/-- What Number answers. -/
def RNum (l : List UInt8) (e : Ending) : Prop :=
  ∃ (n : Int) (ok : Bool), e = .returned (.tuple #[.int .i64 n, .bool ok]) ∧ inI64 n ∧ (ok = true → l = Lib.itoa n) ∧ (∀ x, inI64 x → l = Lib.itoa x → n = x ∧ ok = true)
theorem rnum_no {l : List UInt8} {n : Int} (hn : inI64 n) (h : ∀ x, inI64 x → l ≠ Lib.itoa x) : RNum l (.returned (.tuple #[.int .i64 n, .bool false])) :=
  ⟨n, false, rfl, hn, (fun h => by cases h), fun x hx e => absurd e (h x hx)⟩
theorem rnum_end {s : ByteArray} {n : Int} (hn : inI64 n) (h : ∀ x, inI64 x → s.data.toList = Lib.itoa x → n = x) : RNum s.data.toList (.returned (.tuple #[.int .i64 n, .bool ((⟨(Lib.itoa n).toArray⟩ : ByteArray).toList == s.toList)])) := by
  refine ⟨n, _, rfl, hn, fun ho => ?_, fun x hx e => ⟨h x hx e, ?_⟩⟩
  · rw [beq_iff_eq, ByteArray.toList_eq, ByteArray.toList_eq] at ho
    rw [← ho]
  · rw [beq_iff_eq, ByteArray.toList_eq, ByteArray.toList_eq, e, h x hx e]
theorem wrap_in (n : Int) : inI64 (wrap64 n) := by unfold inI64 wrap64; omega
theorem horL_snoc (s : ByteArray) (i : Nat) (h : i < s.size) : horL 0 (s.data.toList.take (i + 1)) = horL 0 (s.data.toList.take i) * 10 + ((s[i].toNat : Int) - 48) := by
  rw [take_snoc s i h, horL_append]; rfl
theorem wrap_id {n : Int} (h0 : -9223372036854775808 ≤ n) (h1 : n ≤ 9223372036854775807) : wrap64 n = n := by unfold wrap64; omega
theorem wrap_step (H d : Int) (h0 : 0 ≤ d) (h1 : d < 256) : wrap64 (wrap64 (wrap64 H * 10) + d % 256) = wrap64 (H * 10 + d) := by unfold wrap64; omega
theorem itoa_plain {l : List UInt8} {x : Int} (hx : inI64 x) (e : l = Lib.itoa x) (h : ∀ r, l ≠ 45 :: r) : ∃ u : Nat, x = u ∧ u ≤ 9223372036854775807 ∧ l = Lib.decDigits u := by
  by_cases hn : x < 0
  · unfold Lib.itoa at e
    rw [if_pos hn] at e
    exact absurd e (h _)
  · refine ⟨x.toNat, by omega, by have := hx.2; omega, ?_⟩
    unfold Lib.itoa at e
    rwa [if_neg hn] at e

set_option maxHeartbeats 2000000 in
set_option maxRecDepth 100000 in
theorem refNumber_plain (s : ByteArray) (w : World) (h0 : 1 ≤ s.size) (h1 : s.size ≤ 19) (hm : ((s[0].toNat : Int) == 45) = false) :
    Calls Tryd.prog 27 #[.string s] w fun e w' => RNum s.data.toList e ∧ Below w.heap.size w w' := by
  have a0 : (0 : Int) < (s.size : Int) := by omega
  have a1 : ¬ ((s.size : Int) < 1) := by omega
  have a2 : ¬ (19 < (s.size : Int)) := by omega
  have HP : Hid (∀ r, s.data.toList ≠ 45 :: r) := fun r e => by
    have hd := drop_at s 0 h0
    rw [List.drop_zero, e] at hd
    injection hd with hd _
    rw [← hd] at hm
    exact absurd hm (by decide)
  go_enter Tryd.func27, Tryd.ntmps27
  go_wp2_with fail
  go_loopg [5, 6] s.size (fun g x y wr => ∃ (n : Int) (i : Nat), x = .int .i64 n ∧ y = .int .i64 i ∧ i + g = s.size ∧ Hid (n = wrap64 (horL 0 (s.data.toList.take i))) ∧ w = wr)
  case atStart => exact ⟨0, 0, rfl, rfl, by omega, (by show (0 : Int) = wrap64 0; exact (wrap_id (by decide) (by decide)).symm), rfl⟩
  case round =>
    obtain ⟨n, i, rfl, rfl, hi, HN, rfl⟩ := hrel
    cases gk with
    | zero =>
      have hiz : ¬ ((i : Int) < (s.size : Int)) := by omega
      have hr : inI64 n := by rw [HN.out]; exact wrap_in _
      have HE : Hid (RNum s.data.toList (.returned (.tuple #[.int .i64 n, .bool ((⟨(Lib.itoa n).toArray⟩ : ByteArray).toList == s.toList)]))) := rnum_end hr fun x hx e => by
        obtain ⟨u, rfl, hu, hl⟩ := itoa_plain hx e HP.out
        have h := HN.out
        rw [List.take_of_length_le (by rw [Array.length_toList]; show s.size ≤ i; omega), hl, horL_dec, wrap_id (by omega) (by omega)] at h
        exact h
      obtain ⟨q, hq⟩ : ∃ q : ByteArray, (⟨(Lib.itoa n).toArray⟩ : ByteArray) = q := ⟨_, rfl⟩
      have hC := fun W => refDigits_any n hr.1 hr.2 W
      rw [hq] at hC
      have HC := Lib.hid hC
      have HQ := Lib.hid hq
      clear hC hq hr
      go_wp2_with fail
      refine (HC.out _).mono ?_
      rintro e w1 ⟨rfl, hb⟩
      go_wp2
      go_ret2
      have hE := HE.out
      rw [HQ.out] at hE
      exact ⟨hE, hb⟩
    | succ g =>
      have hiz : (i : Int) < (s.size : Int) := by omega
      have hin : i < s.size := by omega
      have hsn := Lib.hid (horL_snoc s i hin)
      by_cases hd : digI (s[i].toNat : Int) = true
      · have HD : Hid (48 ≤ (s[i].toNat : Int) ∧ (s[i].toNat : Int) ≤ 57) := by
          show _ ∧ _
          simpa [digI] using hd
        have HS : Hid (wrap64 (wrap64 (n * 10) + ((s[i].toNat : Int) - 48) % 256) = wrap64 (horL 0 (s.data.toList.take (i + 1)))) := by
          show _ = _
          obtain ⟨d0, d1⟩ := HD.out
          rw [hsn.out, HN.out, wrap_step _ _ (by omega) (by omega)]
        go_wp2_with (go_at_call 41; refine (digit_any _ _).mono ?_; rintro e w' ⟨rfl, rfl⟩)
        go_roundg g
        case measure => omega
        case rel => exact ⟨_, i + 1, rfl, by go_num, by omega, HS, rfl⟩
      · have hd' : digI (s[i].toNat : Int) = false := by simpa using hd
        have HE : Hid (RNum s.data.toList (.returned (.tuple #[.int .i64 0, .bool false]))) := rnum_no (by unfold inI64; omega) fun x hx e => by
          obtain ⟨u, rfl, hu, hl⟩ := itoa_plain hx e HP.out
          have hmem : s[i] ∈ s.data.toList := by
            rw [split_at s i hin]; simp
          rw [hl] at hmem
          have := dec_dig u _ hmem
          exact hd (by simp [digI]; omega)
        clear hd
        go_wp2_with (go_at_call 41; refine (digit_any _ _).mono ?_; rintro e w' ⟨rfl, rfl⟩)
        go_ret2
        exact ⟨HE.out, Below.refl _ _⟩

theorem wrap_stepn (H d : Int) (h0 : 0 ≤ d) (h1 : d < 256) : wrap64 (wrap64 (wrap64 (-H) * 10) - d % 256) = wrap64 (-(H * 10 + d)) := by unfold wrap64; omega
theorem itoa_minus {l : List UInt8} {x : Int} (hx : inI64 x) (e : 45 :: l = Lib.itoa x) : ∃ u : Nat, x = -(u : Int) ∧ u ≤ 9223372036854775808 ∧ l = Lib.decDigits u := by
  unfold Lib.itoa at e
  by_cases hn : x < 0
  · rw [if_pos hn] at e
    injection e with _ e
    exact ⟨x.natAbs, by omega, by have := hx.1; omega, e⟩
  · rw [if_neg hn] at e
    have := dec_dig x.toNat 45 (by rw [← e]; simp)
    exact absurd this (by decide)

set_option maxHeartbeats 2000000 in
set_option maxRecDepth 100000 in
theorem refNumber_neg (s : ByteArray) (w : World) (h0 : 1 < s.size) (h1 : s.size ≤ 20) (hm : ((s[0].toNat : Int) == 45) = true) :
    Calls Tryd.prog 27 #[.string s] w fun e w' => RNum s.data.toList e ∧ Below w.heap.size w w' := by
  have a0 : (0 : Int) < (s.size : Int) := by omega
  obtain ⟨d, hd⟩ : ∃ d : ByteArray, s.extract 1 s.size = d := ⟨_, rfl⟩
  have hds : d.size = s.size - 1 := by rw [← hd, drop_to_size]
  have hdl : d.data.toList = s.data.toList.drop 1 := by rw [← hd, drop_to]
  have a1 : ¬ ((d.size : Int) < 1) := by omega
  have a2 : ¬ (19 < (d.size : Int)) := by omega
  have a3 : (1 : Int) ≤ (s.size : Int) := by omega
  have a4 : ((s.size : Int) == (d.size : Int)) = false := by rw [beq_eq_false_iff_ne]; omega
  have HP : Hid (s.data.toList = 45 :: d.data.toList) := by
    show _ = _
    have hq := drop_at s 0 (by omega)
    rw [List.drop_zero] at hq
    rw [hdl, hq]
    have h45 := is_n (n := 45) hm
    have : s[0] = 45 := UInt8.toNat_inj.1 (by show s[0].toNat = 45; omega)
    rw [this]; simp
  have HDL := Lib.hid hdl
  clear hdl
  go_enter Tryd.func27, Tryd.ntmps27
  go_wp2_with fail
  clear hd
  go_loopg [5, 6] d.size (fun g x y wr => ∃ (n : Int) (i : Nat), x = .int .i64 n ∧ y = .int .i64 i ∧ i + g = d.size ∧ Hid (n = wrap64 (-horL 0 (d.data.toList.take i))) ∧ w = wr)
  case atStart => exact ⟨0, 0, rfl, rfl, by omega, (by show (0 : Int) = wrap64 0; exact (wrap_id (by decide) (by decide)).symm), rfl⟩
  case round =>
    obtain ⟨n, i, rfl, rfl, hi, HN, rfl⟩ := hrel
    cases gk with
    | zero =>
      have hiz : ¬ ((i : Int) < (d.size : Int)) := by omega
      have hr : inI64 n := by rw [HN.out]; exact wrap_in _
      have HE : Hid (RNum s.data.toList (.returned (.tuple #[.int .i64 n, .bool ((⟨(Lib.itoa n).toArray⟩ : ByteArray).toList == s.toList)]))) := rnum_end hr fun x hx e => by
        obtain ⟨u, rfl, hu, hl⟩ := itoa_minus hx (HP.out.symm.trans e)
        have h := HN.out
        rw [List.take_of_length_le (by rw [Array.length_toList]; show d.size ≤ i; omega), hl, horL_dec, wrap_id (by omega) (by omega)] at h
        exact h
      obtain ⟨q, hq⟩ : ∃ q : ByteArray, (⟨(Lib.itoa n).toArray⟩ : ByteArray) = q := ⟨_, rfl⟩
      have hC := fun W => refDigits_any n hr.1 hr.2 W
      rw [hq] at hC
      have HC := Lib.hid hC
      have HQ := Lib.hid hq
      clear hC hq hr
      go_wp2_with fail
      refine (HC.out _).mono ?_
      rintro e w1 ⟨rfl, hb⟩
      go_wp2
      go_ret2
      have hE := HE.out
      rw [HQ.out] at hE
      exact ⟨hE, hb⟩
    | succ g =>
      have hiz : (i : Int) < (d.size : Int) := by omega
      have hin : i < d.size := by omega
      have hsn := Lib.hid (horL_snoc d i hin)
      by_cases hd : digI (d[i].toNat : Int) = true
      · have HD : Hid (48 ≤ (d[i].toNat : Int) ∧ (d[i].toNat : Int) ≤ 57) := by
          show _ ∧ _
          simpa [digI] using hd
        have HS : Hid (wrap64 (wrap64 (n * 10) - ((d[i].toNat : Int) - 48) % 256) = wrap64 (-horL 0 (d.data.toList.take (i + 1)))) := by
          show _ = _
          obtain ⟨d0, d1⟩ := HD.out
          rw [hsn.out, HN.out, wrap_stepn _ _ (by omega) (by omega)]
        go_wp2_with (go_at_call 41; refine (digit_any _ _).mono ?_; rintro e w' ⟨rfl, rfl⟩)
        go_roundg g
        case measure => omega
        case rel => exact ⟨_, i + 1, rfl, by go_num, by omega, HS, rfl⟩
      · have hd' : digI (d[i].toNat : Int) = false := by simpa using hd
        have HE : Hid (RNum s.data.toList (.returned (.tuple #[.int .i64 0, .bool false]))) := rnum_no (by unfold inI64; omega) fun x hx e => by
          obtain ⟨u, rfl, hu, hl⟩ := itoa_minus hx (HP.out.symm.trans e)
          have hmem : d[i] ∈ d.data.toList := by
            rw [split_at d i hin]; simp
          rw [hl] at hmem
          have := dec_dig u _ hmem
          exact hd (by simp [digI]; omega)
        clear hd
        go_wp2_with (go_at_call 41; refine (digit_any _ _).mono ?_; rintro e w' ⟨rfl, rfl⟩)
        go_ret2
        exact ⟨HE.out, Below.refl _ _⟩

theorem rnum_zero {l : List UInt8} (h : ∀ x, inI64 x → l ≠ Lib.itoa x) : RNum l (.returned (.tuple #[.int .i64 0, .bool false])) := rnum_no (by unfold inI64; omega) h

set_option maxHeartbeats 1000000 in
set_option maxRecDepth 100000 in
theorem refNumber_any (s : ByteArray) (w : World) (hs : s.size ≤ 9000) :
    Calls Tryd.prog 27 #[.string s] w fun e w' => RNum s.data.toList e ∧ Below w.heap.size w w' := by
  have hlen : s.data.toList.length = s.size := Array.length_toList
  by_cases h0 : s.size = 0
  · have HE : Hid (RNum s.data.toList (.returned (.tuple #[.int .i64 0, .bool false]))) := rnum_zero fun x hx e => by
      have hnil : s.data.toList = [] := List.length_eq_zero_iff.1 (by omega)
      rw [hnil] at e
      obtain ⟨u, _, hu, hl⟩ := itoa_plain hx e (fun r h => by cases h)
      have := (dec_len (u := u) (by omega)).1
      rw [← hl] at this
      simp at this
    clear hlen
    go_enter Tryd.func27, Tryd.ntmps27
    go_wp2
    go_ret2
    exact ⟨HE.out, Below.refl _ _⟩
  · have hp : 0 < s.size := by omega
    have a0 : (0 : Int) < (s.size : Int) := by omega
    clear h0
    cases hm : ((s[0].toNat : Int) == 45)
    · by_cases h1 : s.size ≤ 19
      · exact refNumber_plain s w hp h1 hm
      · have a2 : 19 < (s.size : Int) := by omega
        have HE : Hid (RNum s.data.toList (.returned (.tuple #[.int .i64 0, .bool false]))) := rnum_zero fun x hx e => by
          obtain ⟨u, _, hu, hl⟩ := itoa_plain hx e (fun r h => by
            have hd := drop_at s 0 hp
            rw [List.drop_zero, h] at hd
            injection hd with hd _
            rw [← hd] at hm
            exact absurd hm (by decide))
          have := (dec_len (u := u) (by omega)).2
          rw [← hl, hlen] at this
          omega
        clear hlen
        go_enter Tryd.func27, Tryd.ntmps27
        go_wp2
        all_goals go_ret2
        all_goals exact ⟨HE.out, Below.refl _ _⟩
    · by_cases h1 : 1 < s.size ∧ s.size ≤ 20
      · exact refNumber_neg s w h1.1 h1.2 hm
      · obtain ⟨d, hd⟩ : ∃ d : ByteArray, s.extract 1 s.size = d := ⟨_, rfl⟩
        have hds : d.size = s.size - 1 := by rw [← hd, drop_to_size]
        have hdl : d.data.toList = s.data.toList.drop 1 := by rw [← hd, drop_to]
        have hdlen : d.data.toList.length = d.size := Array.length_toList
        have a3 : (1 : Int) ≤ (s.size : Int) := by omega
        have HE : Hid (RNum s.data.toList (.returned (.tuple #[.int .i64 0, .bool false]))) := rnum_zero fun x hx e => by
          have hq := drop_at s 0 hp
          rw [List.drop_zero] at hq
          have h45 := is_n (n := 45) hm
          have h46 : s[0] = 45 := UInt8.toNat_inj.1 (by show s[0].toNat = 45; omega)
          rw [hq, h46, ← hdl] at e
          obtain ⟨u, _, hu, hl⟩ := itoa_minus hx e
          have := dec_len hu
          rw [← hl, hdlen] at this
          omega
        clear hlen hdl hdlen
        by_cases h2 : s.size = 1
        · have a1 : (d.size : Int) < 1 := by omega
          go_enter Tryd.func27, Tryd.ntmps27
          go_wp2
          all_goals go_ret2
          all_goals exact ⟨HE.out, Below.refl _ _⟩
        · have a1 : ¬ (d.size : Int) < 1 := by omega
          have a2 : 19 < (d.size : Int) := by omega
          go_enter Tryd.func27, Tryd.ntmps27
          go_wp2
          all_goals go_ret2
          all_goals exact ⟨HE.out, Below.refl _ _⟩

end Go.Proofs.YtecolajhahmfcaaDoor
