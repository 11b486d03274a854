import Derived.Test.YthbighnkohjfnaaGreatDoorJTClose
/-
  CONTRACTS of the document's answer: plain, hex, Digits.
-/
namespace Go.Proofs.YthbighnkohjfnaaGreatDoor
open Go.RowKit Go.Shelf

set_option maxHeartbeats 400000 in
theorem refPlain_any (c : UInt8) (w : World) : Calls Tryz.prog 95 #[.int .u8 c.toNat] w fun e w' => e = .returned (.bool (plainB c.toNat)) ∧ w = w' := by
  go_enter Tryz.func95, Tryz.ntmps95
  go_wp2
  all_goals go_ret
  all_goals refine ⟨ret_bool ?_, rfl⟩
  all_goals (unfold plainB; rw [Bool.eq_iff_iff]; simp; try omega)

def hexT : ByteArray := ⟨#[48, 49, 50, 51, 52, 53, 54, 55, 56, 57, 97, 98, 99, 100, 101, 102]⟩
theorem hexCat_fin : ∀ n : Fin 256, hexT.extract (n.val / 16) (n.val / 16 + 1) ++ hexT.extract (n.val % 16) (n.val % 16 + 1) = ⟨(hexL (UInt8.ofNat n.val)).toArray⟩ := by decide +kernel
theorem hexCat (c : UInt8) : hexT.extract (c.toNat / 16) (c.toNat / 16 + 1) ++ hexT.extract (c.toNat % 16) (c.toNat % 16 + 1) = ⟨(hexL c).toArray⟩ := by
  have h := hexCat_fin ⟨c.toNat, c.toNat_lt⟩
  simpa using h

theorem decDigits_snoc {u : Nat} (h : ¬ u < 10) : Lib.decDigits u = Lib.decDigits (u / 10) ++ [UInt8.ofNat (48 + u % 10)] := by rw [Lib.decDigits, dif_neg h]

/-- What holds between two rounds of Digits. -/
def DigInv (N i u : Nat) (l : List UInt8) : Prop := u = N / 10 ^ i ∧ ((i = 0 ∧ l = []) ∨ (0 < i ∧ l ≠ [] ∧ (if u = 0 then l = Lib.decDigits N else Lib.decDigits u ++ l = Lib.decDigits N)))
theorem digInv_step {N i u : Nat} {l : List UInt8} (h : DigInv N i u l) (hu : i = 0 ∨ 0 < u) : DigInv N (i + 1) (u / 10) (UInt8.ofNat (48 + u % 10) :: l) := by
  obtain ⟨h1, h2⟩ := h
  refine ⟨by rw [h1, Nat.pow_succ, Nat.div_div_eq_div_mul], .inr ⟨by omega, by simp, ?_⟩⟩
  have hd : (if u / 10 = 0 then [UInt8.ofNat (48 + u % 10)] = Lib.decDigits u else Lib.decDigits (u / 10) ++ [UInt8.ofNat (48 + u % 10)] = Lib.decDigits u) := by
    by_cases hs : u < 10
    · rw [if_pos (by omega), Lib.decDigits_one hs, Nat.mod_eq_of_lt hs]
    · rw [if_neg (by omega), decDigits_snoc hs]
  have hl : Lib.decDigits u ++ l = Lib.decDigits N := by
    rcases h2 with ⟨rfl, rfl⟩ | ⟨hi, _, h3⟩
    · rw [List.append_nil, h1]; simp
    · have : u ≠ 0 := by omega
      rwa [if_neg this] at h3
  by_cases hz : u / 10 = 0
  · rw [if_pos hz] at hd ⊢
    rw [← hl, ← hd]; rfl
  · rw [if_neg hz] at hd ⊢
    rw [← hl, ← hd]; simp
theorem digInv_end {N i : Nat} {l : List UInt8} (h : DigInv N i 0 l) (hi : 0 < i) : l = Lib.decDigits N := by
  rcases h.2 with ⟨h0, _⟩ | ⟨_, _, h3⟩
  · omega
  · simpa using h3

theorem one_byte (W : World) (d : Nat) (x : Int) (hx : x = (UInt8.ofNat d).toNat) : (convert 61 9 (.slice (some ⟨W.heap.size, 0, none⟩) 1 1)).run Tryz.prog (W.alloc (.cells #[.int .u8 x] 5)) = .ok (.string ⟨#[UInt8.ofNat d]⟩) (W.alloc (.cells #[.int .u8 x] 5)) := by
  refine run_convert_bytes_back _ _ _ _ ⟨W.heap.size, 0, none⟩ 1 [UInt8.ofNat d] Tryz.underlying61 Tryz.underlying5 Tryz.underlying9 (fun j hj => ?_)
  have : j = 0 := by simpa using hj
  subst this
  rw [hx]
  have h := cell_one_new W (.int .u8 (UInt8.ofNat d).toNat) 5 0 _ rfl
  exact h
theorem dig_nat (u : Nat) : (48 + (u : Int) % 10) = (UInt8.ofNat (48 + u % 10)).toNat := by
  have : (UInt8.ofNat (48 + u % 10)).toNat = 48 + u % 10 := by rw [UInt8.toNat_ofNat']; omega
  rw [this]; omega
theorem cat_one (c : UInt8) (r : ByteArray) : ((⟨#[c]⟩ : ByteArray) ++ r).data.toList = c :: r.data.toList := by simp
theorem cat_one_size (c : UInt8) (r : ByteArray) : ((⟨#[c]⟩ : ByteArray) ++ r).size = r.size + 1 := by
  have h := congrArg List.length (cat_one c r)
  rw [List.length_cons] at h
  exact h
theorem digInv_lt {N i u : Nat} {l : List UInt8} (hN : N ≤ 9223372036854775807) (h : DigInv N i u l) (hu : 0 < u) : i < 20 := by
  rcases Nat.lt_or_ge i 20 with h2 | h2
  · exact h2
  · have h3 : 10 ^ 20 ≤ 10 ^ i := Nat.pow_le_pow_right (by decide) h2
    have h4 : N / 10 ^ i = 0 := Nat.div_eq_of_lt (by have : (10 : Nat) ^ 20 = 100000000000000000000 := by decide
                                                     omega)
    rw [h.1, h4] at hu
    omega

set_option maxHeartbeats 2000000 in
set_option maxRecDepth 100000 in
theorem refDigits_pos (N : Nat) (h1 : N ≤ 9223372036854775807) (w : World) : Calls Tryz.prog 94 #[.int .i64 N] w fun e w' => e = .returned (.string ⟨(Lib.decDigits N).toArray⟩) ∧ Below w.heap.size w w' := by
  have hn1 : ((N : Int) == -9223372036854775808) = false := by rw [beq_eq_false_iff_ne]; omega
  have hn2 : ¬ ((N : Int) < 0) := by omega
  go_enter Tryz.func94, Tryz.ntmps94
  go_wp2_with fail
  clear hn1 hn2
  go_loopg [0, 3, 4] 20 (fun g x y z wr => ∃ (u i : Nat) (r : ByteArray), x = .int .i64 u ∧ y = .string r ∧ z = .int .i64 i ∧ i + g = 20 ∧ u ≤ N ∧ r.size = i ∧ Hid (DigInv N i u r.data.toList) ∧ Below w.heap.size w wr)
  case atStart => exact ⟨N, 0, ⟨#[]⟩, rfl, rfl, rfl, rfl, Nat.le_refl _, rfl, ⟨by simp, .inl ⟨rfl, rfl⟩⟩, Below.refl _ _⟩
  case round =>
    obtain ⟨u, i, r, rfl, rfl, rfl, hi, hu, hrs, HI, hB⟩ := hrel
    have HB := Lib.hid hB
    clear hB
    by_cases hu0 : 0 < u
    · have hI2 := digInv_step HI.out (.inr hu0)
      have hi20 := digInv_lt h1 HI.out hu0
      have hi20' : (i : Int) < 20 := by omega
      have hc := one_byte wr (48 + u % 10) (48 + (u : Int) % 10) (dig_nat u)
      have hup : (0 : Int) < (u : Int) := by omega
      obtain ⟨d, hd⟩ : ∃ d : UInt8, UInt8.ofNat (48 + u % 10) = d := ⟨_, rfl⟩
      rw [hd] at hI2 hc
      have HI2 := Lib.hid hI2
      have hcs := cat_one_size d r
      have hcm : ((⟨#[d]⟩ : ByteArray) ++ r).size ≤ maxLen := by rw [hcs]; unfold maxLen; omega
      clear hd hI2
      go_wp2_with fail
      go_roundg (gk - 1)
      case rel => exact ⟨u / 10, i + 1, ⟨#[d]⟩ ++ r, by go_num, rfl, by go_num, by omega, by omega, by rw [hcs]; omega, by rw [cat_one]; exact HI2, HB.out.alloc HB.out.size _⟩
      case measure => omega
    · obtain rfl : u = 0 := by omega
      by_cases hi0 : i = 0
      · subst hi0
        have hr0 : r.data.toList = [] := by
          rcases HI.out.2 with ⟨_, h⟩ | ⟨h, _⟩
          · exact h
          · omega
        have hre : r.toList = [] := by rw [ByteArray.toList_eq]; exact hr0
        have HI2 := Lib.hid (digInv_step HI.out (.inl rfl))
        have hc : (convert 61 9 (.slice (some ⟨wr.heap.size, 0, none⟩) 1 1)).run Tryz.prog (wr.alloc (.cells #[.int .u8 48] 5)) = .ok (.string ⟨#[48]⟩) (wr.alloc (.cells #[.int .u8 48] 5)) := one_byte wr 48 48 rfl
        have hcs := cat_one_size 48 r
        have hcm : ((⟨#[48]⟩ : ByteArray) ++ r).size ≤ maxLen := by rw [hcs]; unfold maxLen; omega
        have HR0 := Lib.hid hr0
        clear hr0
        go_wp2_with fail
        go_roundg (gk - 1)
        case rel => exact ⟨0, 1, ⟨#[48]⟩ ++ r, rfl, rfl, rfl, by omega, by omega, by rw [hcs]; omega, by rw [cat_one]; exact HI2, HB.out.alloc HB.out.size _⟩
        case measure => omega
      · have HD := Lib.hid (digInv_end HI.out (by omega))
        have hr1 : r.data.toList ≠ [] := by
          rcases HI.out.2 with ⟨h, _⟩ | ⟨_, h, _⟩
          · omega
          · exact h
        have hre : r.toList.isEmpty = false := by rw [ByteArray.toList_eq]; simpa using hr1
        have hre2 : ¬ r.toList = [] := by rw [ByteArray.toList_eq]; exact hr1
        have hrr : (⟨(Lib.decDigits N).toArray⟩ : ByteArray) = r := ByteArray.ext (by rw [← HD.out])
        have HRR := Lib.hid hrr
        clear hr1 hrr
        go_wp2
        all_goals go_ret
        all_goals exact ⟨by rw [HRR.out]; rfl, HB.out⟩

theorem itoa_low : Lib.itoa (-9223372036854775808) = [45, 57, 50, 50, 51, 51, 55, 50, 48, 51, 54, 56, 53, 52, 55, 55, 53, 56, 48, 56] := by
  simp [Lib.itoa, Lib.decDigits]
set_option maxHeartbeats 1000000 in
set_option maxRecDepth 100000 in
theorem refDigits_any (n : Int) (h0 : -9223372036854775808 ≤ n) (h1 : n ≤ 9223372036854775807) (w : World) : Calls Tryz.prog 94 #[.int .i64 n] w fun e w' => e = .returned (.string ⟨(Lib.itoa n).toArray⟩) ∧ Below w.heap.size w w' := by
  by_cases hn : n < 0
  · obtain ⟨m, rfl⟩ : ∃ m : Nat, n = -(m : Int) := ⟨n.natAbs, by omega⟩
    by_cases hm : m = 9223372036854775808
    · subst hm
      have HL := Lib.hid itoa_low
      go_enter Tryz.func94, Tryz.ntmps94
      go_wp2
      go_ret
      exact ⟨by rw [show -((9223372036854775808 : Nat) : Int) = -9223372036854775808 from rfl, HL.out]; rfl, Below.refl _ _⟩
    · have hn1 : ((-(m : Int)) == -9223372036854775808) = false := by rw [beq_eq_false_iff_ne]; omega
      have hi : Hid (Lib.itoa (-(m : Int)) = 45 :: Lib.decDigits m) := Lib.itoa_neg m (by omega)
      have hl : (Lib.decDigits m).length ≤ 1000 := by
        have := itoa_len (m : Int) (by omega) (by omega)
        rwa [Lib.itoa_nonneg] at this
      obtain ⟨r, hr⟩ : ∃ r : ByteArray, (⟨(Lib.decDigits m).toArray⟩ : ByteArray) = r := ⟨_, rfl⟩
      have hrs : r.size ≤ 1000 := by rw [← hr, size_mk]; exact hl
      have hcs := cat_one_size 45 r
      have hcm : ((⟨#[45]⟩ : ByteArray) ++ r).size ≤ maxLen := by rw [hcs]; unfold maxLen; omega
      have hC := fun W => refDigits_pos m (by omega) W
      rw [hr] at hC
      have hx : (⟨(Lib.itoa (-(m : Int))).toArray⟩ : ByteArray) = ⟨#[45]⟩ ++ r := by
        rw [hi.out, ← hr]
        apply ByteArray.ext
        apply Array.toList_inj.1
        simp
      have HX := Lib.hid hx
      have HC := Lib.hid hC
      clear hr hx hi hl hC
      go_enter Tryz.func94, Tryz.ntmps94
      go_wp2_with fail
      refine (HC.out _).mono ?_
      rintro e w1 ⟨rfl, hb⟩
      go_wp2
      go_ret
      exact ⟨by rw [HX.out]; rfl, hb⟩
  · obtain ⟨m, rfl⟩ : ∃ m : Nat, n = (m : Int) := ⟨n.toNat, by omega⟩
    rw [Lib.itoa_nonneg]
    exact refDigits_pos m (by omega) w

end Go.Proofs.YthbighnkohjfnaaGreatDoor

/-
  CONTRACTS of the document's answer: nibble (and, to come, Number).
-/
namespace Go.Proofs.YthbighnkohjfnaaGreatDoor
open Go.RowKit Go.Shelf

/-- what a byte is as a digit of sixteen; -1: it is none -/
def nibI (c : Int) : Int := if digI c = true then c - 48 else if 97 ≤ c ∧ c ≤ 102 then c - 97 + 10 else -1

set_option maxHeartbeats 400000 in
theorem nibble_any (c : UInt8) (w : World) : Calls Tryz.prog 96 #[.int .u8 c.toNat] w fun e w' => e = .returned (.int .i64 (nibI c.toNat)) ∧ w = w' := by
  have hc : c.toNat < 256 := c.toNat_lt
  obtain ⟨x, hx⟩ : ∃ x : Int, (c.toNat : Int) = x := ⟨_, rfl⟩
  have hx0 : 0 ≤ x := by omega
  have hx1 : x < 256 := by omega
  rw [hx]
  by_cases hd : digI x = true
  · have hr : 48 ≤ x ∧ x ≤ 57 := by simpa [digI] using hd
    obtain ⟨a, b⟩ := hr
    have HX : Hid (nibI x = x - 48) := by
      show nibI x = _
      unfold nibI; rw [if_pos hd]
    go_enter Tryz.func96, Tryz.ntmps96
    go_wp2_with (go_at_call 93; refine (digit_any _ _).mono ?_; rintro e w' ⟨rfl, rfl⟩)
    go_ret
    exact ⟨ret_i64 HX.out.symm, rfl⟩
  · have hd' : digI x = false := by simpa using hd
    by_cases ha : 97 ≤ x ∧ x ≤ 102
    · have HX : Hid (nibI x = x - 97 + 10) := by
        show nibI x = _
        unfold nibI; rw [if_neg hd, if_pos ha]
      obtain ⟨a, b⟩ := ha
      go_enter Tryz.func96, Tryz.ntmps96
      go_wp2_with (go_at_call 93; refine (digit_any _ _).mono ?_; rintro e w' ⟨rfl, rfl⟩)
      go_ret
      exact ⟨ret_i64 HX.out.symm, rfl⟩
    · have HX : Hid (nibI x = -1) := by
        show nibI x = _
        unfold nibI; rw [if_neg hd, if_neg ha]
      have ha' : x < 97 ∨ 102 < x := by omega
      rcases ha' with ha' | ha'
      · go_enter Tryz.func96, Tryz.ntmps96
        go_wp2_with (go_at_call 93; refine (digit_any _ _).mono ?_; rintro e w' ⟨rfl, rfl⟩)
        go_ret
        exact ⟨ret_i64 HX.out.symm, rfl⟩
      · go_enter Tryz.func96, Tryz.ntmps96
        go_wp2_with (go_at_call 93; refine (digit_any _ _).mono ?_; rintro e w' ⟨rfl, rfl⟩)
        all_goals go_ret
        all_goals exact ⟨ret_i64 HX.out.symm, rfl⟩

/-- the number that digits stand for -/
def horL (a : Int) : List UInt8 → Int
  | [] => a
  | c :: l => horL (a * 10 + ((c.toNat : Int) - 48)) l
theorem horL_append (a : Int) (l r : List UInt8) : horL a (l ++ r) = horL (horL a l) r := by
  induction l generalizing a with
  | nil => rfl
  | cons c l ih => exact ih _
theorem horL_dec (u : Nat) : horL 0 (Lib.decDigits u) = u := by
  induction u using Nat.strongRecOn with
  | _ u ih =>
    have hd : ∀ d : Nat, d < 10 → ((UInt8.ofNat (48 + d)).toNat : Int) = 48 + d := by
      intro d hd
      have : (UInt8.ofNat (48 + d)).toNat = 48 + d := by rw [UInt8.toNat_ofNat']; omega
      omega
    by_cases hu : u < 10
    · rw [Lib.decDigits_one hu]
      show (0 : Int) * 10 + (((UInt8.ofNat (48 + u)).toNat : Int) - 48) = u
      rw [hd u hu]; omega
    · rw [decDigits_snoc hu, horL_append, ih (u / 10) (by omega)]
      show ((u / 10 : Nat) : Int) * 10 + (((UInt8.ofNat (48 + u % 10)).toNat : Int) - 48) = u
      rw [hd (u % 10) (by omega)]; omega
theorem nDigits_le : ∀ (k u : Nat), u < 10 ^ (k + 1) → Lib.nDigits u ≤ k + 1
  | 0, u, h => by rw [Lib.nDigits_small (by simpa using h)]; exact Nat.le_refl _
  | k + 1, u, h => by
    by_cases hu : u < 10
    · rw [Lib.nDigits_small hu]; omega
    · rw [Lib.nDigits_big hu]
      have := nDigits_le k (u / 10) (by rw [Nat.pow_succ] at h; omega)
      omega
theorem dec_len {u : Nat} (h : u ≤ 9223372036854775808) : 1 ≤ (Lib.decDigits u).length ∧ (Lib.decDigits u).length ≤ 19 := by
  rw [Lib.decDigits_length]
  refine ⟨Lib.nDigits_pos u, nDigits_le 18 u (Nat.lt_of_le_of_lt h (by decide))⟩

/-- What Number answers. -/
def RNum (l : List UInt8) (e : Ending) : Prop :=
  ∃ (n : Int) (ok : Bool), e = .returned (.tuple #[.int .i64 n, .bool ok]) ∧ inI64 n ∧ (ok = true → l = Lib.itoa n) ∧ (∀ x, inI64 x → l = Lib.itoa x → n = x ∧ ok = true)
theorem rnum_no {l : List UInt8} {n : Int} (hn : inI64 n) (h : ∀ x, inI64 x → l ≠ Lib.itoa x) : RNum l (.returned (.tuple #[.int .i64 n, .bool false])) :=
  ⟨n, false, rfl, hn, (fun h => by cases h), fun x hx e => absurd e (h x hx)⟩
theorem rnum_end {s : ByteArray} {n : Int} (hn : inI64 n) (h : ∀ x, inI64 x → s.data.toList = Lib.itoa x → n = x) : RNum s.data.toList (.returned (.tuple #[.int .i64 n, .bool ((⟨(Lib.itoa n).toArray⟩ : ByteArray).toList == s.toList)])) := by
  refine ⟨n, _, rfl, hn, fun ho => ?_, fun x hx e => ⟨h x hx e, ?_⟩⟩
  · rw [beq_iff_eq, ByteArray.toList_eq, ByteArray.toList_eq] at ho
    rw [← ho]
  · rw [beq_iff_eq, ByteArray.toList_eq, ByteArray.toList_eq, e, h x hx e]
theorem wrap_in (n : Int) : inI64 (wrap64 n) := by unfold inI64 wrap64; omega
theorem horL_snoc (s : ByteArray) (i : Nat) (h : i < s.size) : horL 0 (s.data.toList.take (i + 1)) = horL 0 (s.data.toList.take i) * 10 + ((s[i].toNat : Int) - 48) := by
  rw [take_snoc s i h, horL_append]; rfl
theorem wrap_id {n : Int} (h0 : -9223372036854775808 ≤ n) (h1 : n ≤ 9223372036854775807) : wrap64 n = n := by unfold wrap64; omega
theorem wrap_step (H d : Int) (h0 : 0 ≤ d) (h1 : d < 256) : wrap64 (wrap64 (wrap64 H * 10) + d % 256) = wrap64 (H * 10 + d) := by unfold wrap64; omega
theorem itoa_plain {l : List UInt8} {x : Int} (hx : inI64 x) (e : l = Lib.itoa x) (h : ∀ r, l ≠ 45 :: r) : ∃ u : Nat, x = u ∧ u ≤ 9223372036854775807 ∧ l = Lib.decDigits u := by
  by_cases hn : x < 0
  · unfold Lib.itoa at e
    rw [if_pos hn] at e
    exact absurd e (h _)
  · refine ⟨x.toNat, by omega, by have := hx.2; omega, ?_⟩
    unfold Lib.itoa at e
    rwa [if_neg hn] at e

set_option maxHeartbeats 2000000 in
set_option maxRecDepth 100000 in
theorem refNumber_plain (s : ByteArray) (w : World) (h0 : 1 ≤ s.size) (h1 : s.size ≤ 19) (hm : ((s[0].toNat : Int) == 45) = false) :
    Calls Tryz.prog 73 #[.string s] w fun e w' => RNum s.data.toList e ∧ Below w.heap.size w w' := by
  have a0 : (0 : Int) < (s.size : Int) := by omega
  have a1 : ¬ ((s.size : Int) < 1) := by omega
  have a2 : ¬ (19 < (s.size : Int)) := by omega
  have HP : Hid (∀ r, s.data.toList ≠ 45 :: r) := fun r e => by
    have hd := drop_at s 0 h0
    rw [List.drop_zero, e] at hd
    injection hd with hd _
    rw [← hd] at hm
    exact absurd hm (by decide)
  go_enter Tryz.func73, Tryz.ntmps73
  go_wp2_with fail
  go_loopg [5, 6] s.size (fun g x y wr => ∃ (n : Int) (i : Nat), x = .int .i64 n ∧ y = .int .i64 i ∧ i + g = s.size ∧ Hid (n = wrap64 (horL 0 (s.data.toList.take i))) ∧ w = wr)
  case atStart => exact ⟨0, 0, rfl, rfl, by omega, (by show (0 : Int) = wrap64 0; exact (wrap_id (by decide) (by decide)).symm), rfl⟩
  case round =>
    obtain ⟨n, i, rfl, rfl, hi, HN, rfl⟩ := hrel
    cases gk with
    | zero =>
      have hiz : ¬ ((i : Int) < (s.size : Int)) := by omega
      have hr : inI64 n := by rw [HN.out]; exact wrap_in _
      have HE : Hid (RNum s.data.toList (.returned (.tuple #[.int .i64 n, .bool ((⟨(Lib.itoa n).toArray⟩ : ByteArray).toList == s.toList)]))) := rnum_end hr fun x hx e => by
        obtain ⟨u, rfl, hu, hl⟩ := itoa_plain hx e HP.out
        have h := HN.out
        rw [List.take_of_length_le (by rw [Array.length_toList]; show s.size ≤ i; omega), hl, horL_dec, wrap_id (by omega) (by omega)] at h
        exact h
      obtain ⟨q, hq⟩ : ∃ q : ByteArray, (⟨(Lib.itoa n).toArray⟩ : ByteArray) = q := ⟨_, rfl⟩
      have hC := fun W => refDigits_any n hr.1 hr.2 W
      rw [hq] at hC
      have HC := Lib.hid hC
      have HQ := Lib.hid hq
      clear hC hq hr
      go_wp2_with fail
      refine (HC.out _).mono ?_
      rintro e w1 ⟨rfl, hb⟩
      go_wp2
      go_ret2
      have hE := HE.out
      rw [HQ.out] at hE
      exact ⟨hE, hb⟩
    | succ g =>
      have hiz : (i : Int) < (s.size : Int) := by omega
      have hin : i < s.size := by omega
      have hsn := Lib.hid (horL_snoc s i hin)
      by_cases hd : digI (s[i].toNat : Int) = true
      · have HD : Hid (48 ≤ (s[i].toNat : Int) ∧ (s[i].toNat : Int) ≤ 57) := by
          show _ ∧ _
          simpa [digI] using hd
        have HS : Hid (wrap64 (wrap64 (n * 10) + ((s[i].toNat : Int) - 48) % 256) = wrap64 (horL 0 (s.data.toList.take (i + 1)))) := by
          show _ = _
          obtain ⟨d0, d1⟩ := HD.out
          rw [hsn.out, HN.out, wrap_step _ _ (by omega) (by omega)]
        go_wp2_with (go_at_call 93; refine (digit_any _ _).mono ?_; rintro e w' ⟨rfl, rfl⟩)
        go_roundg g
        case measure => omega
        case rel => exact ⟨_, i + 1, rfl, by go_num, by omega, HS, rfl⟩
      · have hd' : digI (s[i].toNat : Int) = false := by simpa using hd
        have HE : Hid (RNum s.data.toList (.returned (.tuple #[.int .i64 0, .bool false]))) := rnum_no (by unfold inI64; omega) fun x hx e => by
          obtain ⟨u, rfl, hu, hl⟩ := itoa_plain hx e HP.out
          have hmem : s[i] ∈ s.data.toList := by
            rw [split_at s i hin]; simp
          rw [hl] at hmem
          have := dec_dig u _ hmem
          exact hd (by simp [digI]; omega)
        clear hd
        go_wp2_with (go_at_call 93; refine (digit_any _ _).mono ?_; rintro e w' ⟨rfl, rfl⟩)
        go_ret2
        exact ⟨HE.out, Below.refl _ _⟩

theorem wrap_stepn (H d : Int) (h0 : 0 ≤ d) (h1 : d < 256) : wrap64 (wrap64 (wrap64 (-H) * 10) - d % 256) = wrap64 (-(H * 10 + d)) := by unfold wrap64; omega
theorem itoa_minus {l : List UInt8} {x : Int} (hx : inI64 x) (e : 45 :: l = Lib.itoa x) : ∃ u : Nat, x = -(u : Int) ∧ u ≤ 9223372036854775808 ∧ l = Lib.decDigits u := by
  unfold Lib.itoa at e
  by_cases hn : x < 0
  · rw [if_pos hn] at e
    injection e with _ e
    exact ⟨x.natAbs, by omega, by have := hx.1; omega, e⟩
  · rw [if_neg hn] at e
    have := dec_dig x.toNat 45 (by rw [← e]; simp)
    exact absurd this (by decide)

set_option maxHeartbeats 2000000 in
set_option maxRecDepth 100000 in
theorem refNumber_neg (s : ByteArray) (w : World) (h0 : 1 < s.size) (h1 : s.size ≤ 20) (hm : ((s[0].toNat : Int) == 45) = true) :
    Calls Tryz.prog 73 #[.string s] w fun e w' => RNum s.data.toList e ∧ Below w.heap.size w w' := by
  have a0 : (0 : Int) < (s.size : Int) := by omega
  obtain ⟨d, hd⟩ : ∃ d : ByteArray, s.extract 1 s.size = d := ⟨_, rfl⟩
  have hds : d.size = s.size - 1 := by rw [← hd, drop_to_size]
  have hdl : d.data.toList = s.data.toList.drop 1 := by rw [← hd, drop_to]
  have a1 : ¬ ((d.size : Int) < 1) := by omega
  have a2 : ¬ (19 < (d.size : Int)) := by omega
  have a3 : (1 : Int) ≤ (s.size : Int) := by omega
  have a4 : ((s.size : Int) == (d.size : Int)) = false := by rw [beq_eq_false_iff_ne]; omega
  have HP : Hid (s.data.toList = 45 :: d.data.toList) := by
    show _ = _
    have hq := drop_at s 0 (by omega)
    rw [List.drop_zero] at hq
    rw [hdl, hq]
    have h45 := is_n (n := 45) hm
    have : s[0] = 45 := UInt8.toNat_inj.1 (by show s[0].toNat = 45; omega)
    rw [this]; simp
  have HDL := Lib.hid hdl
  clear hdl
  go_enter Tryz.func73, Tryz.ntmps73
  go_wp2_with fail
  clear hd
  go_loopg [5, 6] d.size (fun g x y wr => ∃ (n : Int) (i : Nat), x = .int .i64 n ∧ y = .int .i64 i ∧ i + g = d.size ∧ Hid (n = wrap64 (-horL 0 (d.data.toList.take i))) ∧ w = wr)
  case atStart => exact ⟨0, 0, rfl, rfl, by omega, (by show (0 : Int) = wrap64 0; exact (wrap_id (by decide) (by decide)).symm), rfl⟩
  case round =>
    obtain ⟨n, i, rfl, rfl, hi, HN, rfl⟩ := hrel
    cases gk with
    | zero =>
      have hiz : ¬ ((i : Int) < (d.size : Int)) := by omega
      have hr : inI64 n := by rw [HN.out]; exact wrap_in _
      have HE : Hid (RNum s.data.toList (.returned (.tuple #[.int .i64 n, .bool ((⟨(Lib.itoa n).toArray⟩ : ByteArray).toList == s.toList)]))) := rnum_end hr fun x hx e => by
        obtain ⟨u, rfl, hu, hl⟩ := itoa_minus hx (HP.out.symm.trans e)
        have h := HN.out
        rw [List.take_of_length_le (by rw [Array.length_toList]; show d.size ≤ i; omega), hl, horL_dec, wrap_id (by omega) (by omega)] at h
        exact h
      obtain ⟨q, hq⟩ : ∃ q : ByteArray, (⟨(Lib.itoa n).toArray⟩ : ByteArray) = q := ⟨_, rfl⟩
      have hC := fun W => refDigits_any n hr.1 hr.2 W
      rw [hq] at hC
      have HC := Lib.hid hC
      have HQ := Lib.hid hq
      clear hC hq hr
      go_wp2_with fail
      refine (HC.out _).mono ?_
      rintro e w1 ⟨rfl, hb⟩
      go_wp2
      go_ret2
      have hE := HE.out
      rw [HQ.out] at hE
      exact ⟨hE, hb⟩
    | succ g =>
      have hiz : (i : Int) < (d.size : Int) := by omega
      have hin : i < d.size := by omega
      have hsn := Lib.hid (horL_snoc d i hin)
      by_cases hd : digI (d[i].toNat : Int) = true
      · have HD : Hid (48 ≤ (d[i].toNat : Int) ∧ (d[i].toNat : Int) ≤ 57) := by
          show _ ∧ _
          simpa [digI] using hd
        have HS : Hid (wrap64 (wrap64 (n * 10) - ((d[i].toNat : Int) - 48) % 256) = wrap64 (-horL 0 (d.data.toList.take (i + 1)))) := by
          show _ = _
          obtain ⟨d0, d1⟩ := HD.out
          rw [hsn.out, HN.out, wrap_stepn _ _ (by omega) (by omega)]
        go_wp2_with (go_at_call 93; refine (digit_any _ _).mono ?_; rintro e w' ⟨rfl, rfl⟩)
        go_roundg g
        case measure => omega
        case rel => exact ⟨_, i + 1, rfl, by go_num, by omega, HS, rfl⟩
      · have hd' : digI (d[i].toNat : Int) = false := by simpa using hd
        have HE : Hid (RNum s.data.toList (.returned (.tuple #[.int .i64 0, .bool false]))) := rnum_no (by unfold inI64; omega) fun x hx e => by
          obtain ⟨u, rfl, hu, hl⟩ := itoa_minus hx (HP.out.symm.trans e)
          have hmem : d[i] ∈ d.data.toList := by
            rw [split_at d i hin]; simp
          rw [hl] at hmem
          have := dec_dig u _ hmem
          exact hd (by simp [digI]; omega)
        clear hd
        go_wp2_with (go_at_call 93; refine (digit_any _ _).mono ?_; rintro e w' ⟨rfl, rfl⟩)
        go_ret2
        exact ⟨HE.out, Below.refl _ _⟩

theorem rnum_zero {l : List UInt8} (h : ∀ x, inI64 x → l ≠ Lib.itoa x) : RNum l (.returned (.tuple #[.int .i64 0, .bool false])) := rnum_no (by unfold inI64; omega) h

set_option maxHeartbeats 1000000 in
set_option maxRecDepth 100000 in
theorem refNumber_any (s : ByteArray) (w : World) (hs : s.size ≤ 30000) :
    Calls Tryz.prog 73 #[.string s] w fun e w' => RNum s.data.toList e ∧ Below w.heap.size w w' := by
  have hlen : s.data.toList.length = s.size := Array.length_toList
  by_cases h0 : s.size = 0
  · have HE : Hid (RNum s.data.toList (.returned (.tuple #[.int .i64 0, .bool false]))) := rnum_zero fun x hx e => by
      have hnil : s.data.toList = [] := List.length_eq_zero_iff.1 (by omega)
      rw [hnil] at e
      obtain ⟨u, _, hu, hl⟩ := itoa_plain hx e (fun r h => by cases h)
      have := (dec_len (u := u) (by omega)).1
      rw [← hl] at this
      simp at this
    clear hlen
    go_enter Tryz.func73, Tryz.ntmps73
    go_wp2
    go_ret2
    exact ⟨HE.out, Below.refl _ _⟩
  · have hp : 0 < s.size := by omega
    have a0 : (0 : Int) < (s.size : Int) := by omega
    clear h0
    cases hm : ((s[0].toNat : Int) == 45)
    · by_cases h1 : s.size ≤ 19
      · exact refNumber_plain s w hp h1 hm
      · have a2 : 19 < (s.size : Int) := by omega
        have HE : Hid (RNum s.data.toList (.returned (.tuple #[.int .i64 0, .bool false]))) := rnum_zero fun x hx e => by
          obtain ⟨u, _, hu, hl⟩ := itoa_plain hx e (fun r h => by
            have hd := drop_at s 0 hp
            rw [List.drop_zero, h] at hd
            injection hd with hd _
            rw [← hd] at hm
            exact absurd hm (by decide))
          have := (dec_len (u := u) (by omega)).2
          rw [← hl, hlen] at this
          omega
        clear hlen
        go_enter Tryz.func73, Tryz.ntmps73
        go_wp2
        all_goals go_ret2
        all_goals exact ⟨HE.out, Below.refl _ _⟩
    · by_cases h1 : 1 < s.size ∧ s.size ≤ 20
      · exact refNumber_neg s w h1.1 h1.2 hm
      · obtain ⟨d, hd⟩ : ∃ d : ByteArray, s.extract 1 s.size = d := ⟨_, rfl⟩
        have hds : d.size = s.size - 1 := by rw [← hd, drop_to_size]
        have hdl : d.data.toList = s.data.toList.drop 1 := by rw [← hd, drop_to]
        have hdlen : d.data.toList.length = d.size := Array.length_toList
        have a3 : (1 : Int) ≤ (s.size : Int) := by omega
        have HE : Hid (RNum s.data.toList (.returned (.tuple #[.int .i64 0, .bool false]))) := rnum_zero fun x hx e => by
          have hq := drop_at s 0 hp
          rw [List.drop_zero] at hq
          have h45 := is_n (n := 45) hm
          have h46 : s[0] = 45 := UInt8.toNat_inj.1 (by show s[0].toNat = 45; omega)
          rw [hq, h46, ← hdl] at e
          obtain ⟨u, _, hu, hl⟩ := itoa_minus hx e
          have := dec_len hu
          rw [← hl, hdlen] at this
          omega
        clear hlen hdl hdlen
        by_cases h2 : s.size = 1
        · have a1 : (d.size : Int) < 1 := by omega
          go_enter Tryz.func73, Tryz.ntmps73
          go_wp2
          all_goals go_ret2
          all_goals exact ⟨HE.out, Below.refl _ _⟩
        · have a1 : ¬ (d.size : Int) < 1 := by omega
          have a2 : 19 < (d.size : Int) := by omega
          go_enter Tryz.func73, Tryz.ntmps73
          go_wp2
          all_goals go_ret2
          all_goals exact ⟨HE.out, Below.refl _ _⟩

end Go.Proofs.YthbighnkohjfnaaGreatDoor

/-
  CONTRACT of the document's answer: raw (the bytes that digits, and plain bytes, stand for).
-/
namespace Go.Proofs.YthbighnkohjfnaaGreatDoor
open Go.RowKit Go.Shelf

/-- What raw answers. -/
def RawEnd (b : UInt8 → List UInt8) (l : List UInt8) (e : Ending) : Prop :=
  ∃ (u : ByteArray) (ok : Bool), e = .returned (.tuple #[.string u, .bool ok]) ∧ u.size ≤ maxLen ∧ (ok = true → flatL b u.data.toList = l) ∧ (∀ t, flatL b t = l → ok = true ∧ u = ⟨t.toArray⟩)
theorem raw_no {b : UInt8 → List UInt8} {l : List UInt8} (h : ∀ t, flatL b t ≠ l) : RawEnd b l (.returned (.tuple #[.string ⟨#[]⟩, .bool false])) := ⟨_, false, rfl, by decide, (fun h => by cases h), fun t ht => absurd ht (h t)⟩
theorem raw_yes {b : UInt8 → List UInt8} {l pre : List UInt8} (hs : flatL b pre = l) (hc : ∀ t, flatL b t = l → t = pre) (hl : pre.length ≤ maxLen) : RawEnd b l (.returned (.tuple #[.string ⟨pre.toArray⟩, .bool true])) :=
  ⟨_, true, rfl, by rw [size_mk]; exact hl, fun _ => hs, fun t ht => ⟨rfl, by rw [hc t ht]⟩⟩

theorem nib_all : ∀ n : Fin 256, -1 ≤ nibI n.val ∧ nibI n.val ≤ 15 ∧ (0 ≤ nibI n.val → hexD (nibI n.val).toNat = UInt8.ofNat n.val) := by decide +kernel
theorem nib_range (c : UInt8) : -1 ≤ nibI c.toNat ∧ nibI c.toNat ≤ 15 := by
  have h := nib_all ⟨c.toNat, c.toNat_lt⟩
  exact ⟨h.1, h.2.1⟩
theorem nib_back (c : UInt8) (h0 : 0 ≤ nibI c.toNat) : hexD (nibI c.toNat).toNat = c := by
  have h := (nib_all ⟨c.toNat, c.toNat_lt⟩).2.2 h0
  simpa using h
theorem nib_hexD : ∀ n : Fin 16, nibI (hexD n.val).toNat = n.val := by decide +kernel
theorem two_ok {x y c : UInt8} (hx : 0 ≤ nibI x.toNat) (hy : 0 ≤ nibI y.toNat) (hc : nibI x.toNat * 16 + nibI y.toNat = c.toNat) : hexL c = [x, y] := by
  have r1 := nib_range x
  have r2 := nib_range y
  unfold hexL
  have e1 : c.toNat / 16 = (nibI x.toNat).toNat := by omega
  have e2 : c.toNat % 16 = (nibI y.toNat).toNat := by omega
  rw [e1, e2, nib_back x hx, nib_back y hy]
theorem two_nib {x y d : UInt8} (h : hexL d = [x, y]) : nibI x.toNat = ((d.toNat / 16 : Nat) : Int) ∧ nibI y.toNat = ((d.toNat % 16 : Nat) : Int) := by
  have hd : d.toNat < 256 := d.toNat_lt
  unfold hexL at h
  injection h with h1 h2
  injection h2 with h2 _
  rw [← h1, ← h2]
  exact ⟨nib_hexD ⟨d.toNat / 16, by omega⟩, nib_hexD ⟨d.toNat % 16, by omega⟩⟩
theorem two_inj {x y c d : UInt8} (hc : nibI x.toNat * 16 + nibI y.toNat = c.toNat) (h : hexL d = [x, y]) : d = c := by
  obtain ⟨h1, h2⟩ := two_nib h
  exact UInt8.toNat_inj.1 (by omega)

/-- What holds between two rounds: what was read, and what is still to be read. -/
def RawMid (b : UInt8 → List UInt8) (l pre r : List UInt8) : Prop := flatL b pre ++ r = l ∧ Left b l pre r
theorem flatL_one (b : UInt8 → List UInt8) (pre : List UInt8) (c : UInt8) : flatL b (pre ++ [c]) = flatL b pre ++ b c := by
  induction pre with
  | nil => show b c ++ [] = _; simp [flatL]
  | cons d p ih => show b d ++ flatL b (p ++ [c]) = (b d ++ flatL b p) ++ b c; rw [ih, List.append_assoc]
theorem rawMid_new (b : UInt8 → List UInt8) (l : List UInt8) : RawMid b l [] l := ⟨rfl, left_new b l⟩
theorem rawMid_end {b : UInt8 → List UInt8} (hb : ∀ c, b c ≠ []) {l pre : List UInt8} (h : RawMid b l pre []) : flatL b pre = l ∧ ∀ t, flatL b t = l → t = pre := by
  refine ⟨by simpa using h.1, fun t ht => ?_⟩
  obtain ⟨t', h1, h2⟩ := h.2 t ht
  cases t' with
  | nil => rw [h1, List.append_nil]
  | cons d t'' =>
    have h3 : b d ++ flatL b t'' = [] := h2
    exact absurd (List.append_eq_nil_iff.1 h3).1 (hb d)
/-- a step: the next byte's text is known -/
theorem rawMid_step {b : UInt8 → List UInt8} {l pre r r' : List UInt8} {c : UInt8} (h : RawMid b l pre r) (hr : r = b c ++ r') (hne : b c ≠ []) (hu : ∀ d t, b d ++ flatL b t = r → d = c) : RawMid b l (pre ++ [c]) r' := by
  refine ⟨by rw [flatL_one, List.append_assoc, ← hr]; exact h.1, fun t ht => ?_⟩
  obtain ⟨t', h1, h2⟩ := h.2 t ht
  cases t' with
  | nil =>
    have h3 : [] = r := h2
    rw [hr] at h3
    exact absurd (List.append_eq_nil_iff.1 h3.symm).1 hne
  | cons d t'' =>
    have h3 : b d ++ flatL b t'' = r := h2
    obtain rfl := hu d t'' h3
    rw [hr] at h3
    exact ⟨t'', by rw [h1]; simp, List.append_cancel_left h3⟩
/-- an end: no byte's text stands here -/
theorem rawMid_no {b : UInt8 → List UInt8} {l pre r : List UInt8} (h : RawMid b l pre r) (hr : r ≠ []) (hu : ∀ d t, b d ++ flatL b t ≠ r) (t : List UInt8) : flatL b t ≠ l := fun ht => by
  obtain ⟨t', _, h2⟩ := h.2 t ht
  cases t' with
  | nil => exact hr h2.symm
  | cons d t'' => exact hu d t'' h2

/-- two digits ahead -/
theorem hex_step {l pre r : List UInt8} {x y c : UInt8} (h : RawMid hexL l pre (x :: y :: r)) (hx : 0 ≤ nibI x.toNat) (hy : 0 ≤ nibI y.toNat) (hc : nibI x.toNat * 16 + nibI y.toNat = c.toNat) : RawMid hexL l (pre ++ [c]) r :=
  rawMid_step h (by rw [two_ok hx hy hc]; rfl) (hexL_ne c) fun d t ht => by
    have h2 : hexL d = [x, y] := by
      have : (hexL d ++ flatL hexL t).take 2 = [x, y] := by rw [ht]; rfl
      simpa [hexL] using this
    exact two_inj hc h2
theorem hex_no {l pre r : List UInt8} {x y : UInt8} (h : RawMid hexL l pre (x :: y :: r)) (hn : nibI x.toNat < 0 ∨ nibI y.toNat < 0) : ∀ t, flatL hexL t ≠ l :=
  rawMid_no h (by simp) fun d t ht => by
    have h2 : hexL d = [x, y] := by
      have : (hexL d ++ flatL hexL t).take 2 = [x, y] := by rw [ht]; rfl
      simpa [hexL] using this
    obtain ⟨h3, h4⟩ := two_nib h2
    omega
theorem hex_short {l pre : List UInt8} {x : UInt8} (h : RawMid hexL l pre [x]) : ∀ t, flatL hexL t ≠ l :=
  rawMid_no h (by simp) fun d t ht => by
    have := congrArg List.length ht
    simp [hexL] at this
/-- a byte that stands as itself ahead -/
theorem plain_step {l pre r : List UInt8} {c : UInt8} (h : RawMid escL l pre (c :: r)) (hp : plainB c.toNat = true) : RawMid escL l (pre ++ [c]) r :=
  rawMid_step h (by rw [escL_plain hp]; rfl) (escL_ne c) fun d t ht => by
    by_cases hd : plainB d.toNat = true
    · rw [escL_plain hd] at ht
      injection ht
    · rw [escL_not (by simpa using hd)] at ht
      injection ht with h1 _
      exact absurd h1.symm (plain_ne hp)
theorem esc_mark {l pre r : List UInt8} {c : UInt8} (h : RawMid escL l pre (c :: r)) (hp : plainB c.toNat = false) (h92 : c ≠ 92) : ∀ t, flatL escL t ≠ l :=
  rawMid_no h (by simp) fun d t ht => by
    by_cases hd : plainB d.toNat = true
    · rw [escL_plain hd] at ht
      injection ht with h1 _
      rw [h1, hp] at hd
      cases hd
    · rw [escL_not (by simpa using hd)] at ht
      injection ht with h1 _
      exact h92 h1.symm
theorem esc_code {d : UInt8} {t r : List UInt8} {x y : UInt8} (ht : escL d ++ flatL escL t = 92 :: x :: y :: r) : plainB d.toNat = false ∧ hexL d = [x, y] := by
  by_cases hd : plainB d.toNat = true
  · rw [escL_plain hd] at ht
    injection ht with h1 _
    exact absurd h1 (plain_ne hd)
  · have hd' : plainB d.toNat = false := by simpa using hd
    rw [escL_not hd'] at ht
    refine ⟨hd', ?_⟩
    have : ((92 :: hexL d) ++ flatL escL t).take 3 = [92, x, y] := by rw [ht]; rfl
    simpa [hexL] using this
theorem esc_step {l pre r : List UInt8} {x y c : UInt8} (h : RawMid escL l pre (92 :: x :: y :: r)) (hx : 0 ≤ nibI x.toNat) (hy : 0 ≤ nibI y.toNat) (hc : nibI x.toNat * 16 + nibI y.toNat = c.toNat) (hp : plainB c.toNat = false) : RawMid escL l (pre ++ [c]) r :=
  rawMid_step h (by rw [escL_not hp, two_ok hx hy hc]; rfl) (escL_ne c) fun _ _ ht => two_inj hc (esc_code ht).2
theorem esc_no {l pre r : List UInt8} {x y : UInt8} (h : RawMid escL l pre (92 :: x :: y :: r)) (hn : nibI x.toNat < 0 ∨ nibI y.toNat < 0) : ∀ t, flatL escL t ≠ l :=
  rawMid_no h (by simp) fun d t ht => by
    obtain ⟨h3, h4⟩ := two_nib (esc_code ht).2
    omega
theorem esc_plain_no {l pre r : List UInt8} {x y c : UInt8} (h : RawMid escL l pre (92 :: x :: y :: r)) (hc : nibI x.toNat * 16 + nibI y.toNat = c.toNat) (hp : plainB c.toNat = true) : ∀ t, flatL escL t ≠ l :=
  rawMid_no h (by simp) fun d t ht => by
    obtain ⟨h3, h4⟩ := esc_code ht
    rw [two_inj hc h4, hp] at h3
    cases h3
theorem esc_short {l pre r : List UInt8} (h : RawMid escL l pre (92 :: r)) (hr : r.length < 2) : ∀ t, flatL escL t ≠ l :=
  rawMid_no h (by simp) fun d t ht => by
    by_cases hd : plainB d.toNat = true
    · rw [escL_plain hd] at ht
      injection ht with h1 _
      exact absurd h1 (plain_ne hd)
    · rw [escL_not (by simpa using hd)] at ht
      have := congrArg List.length ht
      simp [hexL] at this
      omega
theorem row_low {W w1 : World} {B : Nat} {e : TypeId} {size k : Nat} {v : Value} {xs : List Value} (h : W.ownsRow B e size v k xs) (hg : W.grownBy w1 v.ownBlock) (hB : B ≤ W.heap.size) : Below B W w1 :=
  (Below.refl B W).grown hg hB (fun k hk => (World.ownsRow.lt h k hk).1)
theorem drop_nil {s : ByteArray} {l : List UInt8} {k : Nat} (h : s.size ≤ k) (hl : l = s.data.toList.drop k) : l = [] := by rw [hl]; exact drop_end s k h

set_option maxRecDepth 100000 in
set_option maxHeartbeats 4000000 in
theorem raw_hex (s : ByteArray) (w : World) (hs : s.size ≤ 30000) :
    Calls Tryz.prog 74 #[.string s, .bool false] w fun e w' => RawEnd hexL s.data.toList e ∧ Below w.heap.size w w' := by
  obtain ⟨i0, hi, hz0, hz1, hz2⟩ := info_parts info8
  have hmx : 40000 ≤ maxLen := by decide
  go_enter Tryz.func74, Tryz.ntmps74
  go_wp2
  go_loopg [6, 7] (s.size) (fun g v x wr => ∃ (i : Nat) (pre : List UInt8), x = .int .i64 i ∧ i ≤ s.size ∧ s.size ≤ i + g ∧ Hid (RawMid hexL s.data.toList pre (s.data.toList.drop i)) ∧ pre.length ≤ i ∧ wr.ownsRow w.heap.size 5 1 v pre.length (pre.map (fun c : UInt8 => Value.int .u8 c.toNat)) ∧ Hid (Below w.heap.size w wr) ∧ w.heap.size ≤ wr.heap.size)
  case atStart => exact ⟨0, [], rfl, by omega, by omega, (by show RawMid _ _ _ _; simpa using rawMid_new hexL s.data.toList), by simp, World.ownsRow_nil _ _ _ _, Below.refl _ _, Nat.le_refl _⟩
  case round =>
    obtain ⟨i, pre, rfl, his, hg, HM, hpl, hrow, HB, hsz⟩ := hrel
    by_cases he : i = s.size
    · have hiz : ¬ ((i : Int) < (s.size : Int)) := by omega
      have hm := HM.out
      rw [drop_end s i (by omega)] at hm
      have HE := Lib.hid (rawMid_end hexL_ne hm)
      have hcv := own_string wr _ _ _ hrow
      clear hm he
      go_wp2
      go_ret2
      exact ⟨raw_yes HE.out.1 HE.out.2 (by omega), HB.out⟩
    · have hiz : (i : Int) < (s.size : Int) := by omega
      have hin : i < s.size := by omega
      by_cases h2 : i + 2 ≤ s.size
      · have h2i : ¬ ((s.size : Int) < (i : Int) + 2) := by omega
        have hin2 : i + 1 < s.size := by omega
        have hm := HM.out
        rw [drop_at s i hin, drop_at s (i + 1) hin2] at hm
        have HM2 := Lib.hid hm
        have r1 := nib_range s[i]
        have r2 := nib_range s[i + 1]
        obtain ⟨a, ha⟩ : ∃ a, nibI s[i].toNat = a := ⟨_, rfl⟩
        obtain ⟨b, hb⟩ : ∃ b, nibI s[i + 1].toNat = b := ⟨_, rfl⟩
        rw [ha] at r1
        rw [hb] at r2
        have HA := Lib.hid ha
        have HBb := Lib.hid hb
        have c1 := fun W => nibble_any s[i] W
        have c2 := fun W => nibble_any s[i + 1] W
        rw [ha] at c1
        rw [hb] at c2
        have C1 := Lib.hid c1
        have C2 := Lib.hid c2
        clear hm ha hb c1 c2 he
        go_wp2_with fail
        refine (C1.out _).mono ?_
        rintro e w1 ⟨rfl, rfl⟩
        go_wp2_with fail
        refine (C2.out _).mono ?_
        rintro e w1 ⟨rfl, rfl⟩
        by_cases hn : a < 0 ∨ b < 0
        · have HN := Lib.hid (hex_no HM2.out (by rw [HA.out, HBb.out]; exact hn))
          rcases hn with hn | hn
          · go_wp2
            go_ret2
            exact ⟨raw_no HN.out, HB.out⟩
          · by_cases hn2 : a < 0
            · go_wp2
              go_ret2
              exact ⟨raw_no HN.out, HB.out⟩
            · go_wp2
              go_ret2
              exact ⟨raw_no HN.out, HB.out⟩
        · have hna : 0 ≤ a := by omega
          have hnb : 0 ≤ b := by omega
          obtain ⟨c, hc⟩ : ∃ c : UInt8, a * 16 + b = (c.toNat : Int) := ⟨UInt8.ofNat (a * 16 + b).toNat, by rw [UInt8.toNat_ofNat']; omega⟩
          have HS := Lib.hid (hex_step (c := c) HM2.out (by rw [HA.out]; exact hna) (by rw [HBb.out]; exact hnb) (by rw [HA.out, HBb.out]; exact hc))
          have hcl : c.toNat < 256 := c.toNat_lt
          clear hn
          go_wp2_with (at_builtin; refine wpList_append_own _ rfl _ _ 61 rfl w.heap.size 5 i0 (.int .u8 0) 1 1 Tryz.underlying61 hi hz0 hz1 hz2 rfl (by decide) _ _ _ rfl (hrow.alloc _) ⟨wr.heap.size, 0, none⟩ 1 1 [.int .u8 c.toNat] rfl rfl (cell_one_new _ _ _) (by simp [Value.oneCell']) (by omega) (by omega) (by simp; omega) ?_; intro v' w3 hown' hgrow _)
          go_roundg (gk - 2)
          case measure => omega
          case rel => exact ⟨i + 2, pre ++ [c], by go_num, by omega, by omega, HS.out, by simp; omega, by simpa using hown', (HB.out.alloc hsz _).trans (row_low (hrow.alloc _) hgrow (by simp; omega)), by have := hgrow.size; simp at this; omega⟩
      · have h2i : (s.size : Int) < (i : Int) + 2 := by omega
        have hm := HM.out
        rw [drop_at s i hin, drop_end s (i + 1) (by omega)] at hm
        have HN := Lib.hid (hex_short hm)
        clear hm he
        go_wp2
        go_ret2
        exact ⟨raw_no HN.out, HB.out⟩

set_option maxRecDepth 100000 in
set_option maxHeartbeats 4000000 in
theorem raw_esc (s : ByteArray) (w : World) (hs : s.size ≤ 30000) :
    Calls Tryz.prog 74 #[.string s, .bool true] w fun e w' => RawEnd escL s.data.toList e ∧ Below w.heap.size w w' := by
  obtain ⟨i0, hi, hz0, hz1, hz2⟩ := info_parts info8
  have hmx : 40000 ≤ maxLen := by decide
  go_enter Tryz.func74, Tryz.ntmps74
  go_wp2
  go_loopg [6, 7] (s.size) (fun g v x wr => ∃ (i : Nat) (pre : List UInt8), x = .int .i64 i ∧ i ≤ s.size ∧ s.size ≤ i + g ∧ Hid (RawMid escL s.data.toList pre (s.data.toList.drop i)) ∧ pre.length ≤ i ∧ wr.ownsRow w.heap.size 5 1 v pre.length (pre.map (fun c : UInt8 => Value.int .u8 c.toNat)) ∧ Hid (Below w.heap.size w wr) ∧ w.heap.size ≤ wr.heap.size)
  case atStart => exact ⟨0, [], rfl, by omega, by omega, (by show RawMid _ _ _ _; simpa using rawMid_new escL s.data.toList), by simp, World.ownsRow_nil _ _ _ _, Below.refl _ _, Nat.le_refl _⟩
  case round =>
    obtain ⟨i, pre, rfl, his, hg, HM, hpl, hrow, HB, hsz⟩ := hrel
    by_cases he : i = s.size
    · have hiz : ¬ ((i : Int) < (s.size : Int)) := by omega
      have hm := HM.out
      rw [drop_end s i (by omega)] at hm
      have HE := Lib.hid (rawMid_end escL_ne hm)
      have hcv := own_string wr _ _ _ hrow
      clear hm he
      go_wp2
      go_ret2
      exact ⟨raw_yes HE.out.1 HE.out.2 (by omega), HB.out⟩
    · have hiz : (i : Int) < (s.size : Int) := by omega
      have hin : i < s.size := by omega
      have hm := HM.out
      rw [drop_at s i hin] at hm
      have HM1 := Lib.hid hm
      clear hm he
      cases hp : plainB (s[i].toNat : Int)
      · have HP := Lib.hid hp
        have cp : Hid (∀ W, Calls Tryz.prog 95 #[.int .u8 s[i].toNat] W fun e w' => e = .returned (.bool false) ∧ W = w') := fun W => by have := refPlain_any s[i] W; rw [hp] at this; exact this
        clear hp
        go_wp2_with fail
        refine (cp.out _).mono ?_
        rintro e w1 ⟨rfl, rfl⟩
        by_cases h92 : s[i] = 92
        · have hc92 : ((s[i].toNat : Int) != 92) = false := by rw [h92]; rfl
          have hm := HM1.out
          rw [h92] at hm
          have HM9 := Lib.hid hm
          clear hm h92
          by_cases h2 : i + 3 ≤ s.size
          · have h2i : ¬ ((s.size : Int) < (i : Int) + 3) := by omega
            have hin1 : i + 1 < s.size := by omega
            have hin2 : i + 1 + 1 < s.size := by omega
            have hm := HM9.out
            rw [drop_at s (i + 1) hin1, drop_at s (i + 1 + 1) hin2] at hm
            have HM2 := Lib.hid hm
            have r1 := nib_range s[i + 1]
            have r2 := nib_range s[i + 1 + 1]
            obtain ⟨a, ha⟩ : ∃ a, nibI s[i + 1].toNat = a := ⟨_, rfl⟩
            obtain ⟨b, hb⟩ : ∃ b, nibI s[i + 1 + 1].toNat = b := ⟨_, rfl⟩
            rw [ha] at r1
            rw [hb] at r2
            have HA := Lib.hid ha
            have HBb := Lib.hid hb
            have c1 := fun W => nibble_any s[i + 1] W
            have c2 := fun W => nibble_any s[i + 1 + 1] W
            rw [ha] at c1
            rw [hb] at c2
            have C1 := Lib.hid c1
            have C2 := Lib.hid c2
            clear hm ha hb c1 c2
            go_wp2_with fail
            refine (C1.out _).mono ?_
            rintro e w1 ⟨rfl, rfl⟩
            go_wp2_with fail
            refine (C2.out _).mono ?_
            rintro e w1 ⟨rfl, rfl⟩
            by_cases hn : a < 0 ∨ b < 0
            · have HN := Lib.hid (esc_no HM2.out (by rw [HA.out, HBb.out]; exact hn))
              rcases hn with hn | hn
              · go_wp2
                go_ret2
                exact ⟨raw_no HN.out, HB.out⟩
              · by_cases hn2 : a < 0
                · go_wp2
                  go_ret2
                  exact ⟨raw_no HN.out, HB.out⟩
                · go_wp2
                  go_ret2
                  exact ⟨raw_no HN.out, HB.out⟩
            · have hna : 0 ≤ a := by omega
              have hnb : 0 ≤ b := by omega
              have hna' : ¬ a < 0 := by omega
              have hnb' : ¬ b < 0 := by omega
              obtain ⟨c, hc⟩ : ∃ c : UInt8, a * 16 + b = (c.toNat : Int) := ⟨UInt8.ofNat (a * 16 + b).toNat, by rw [UInt8.toNat_ofNat']; omega⟩
              have hcl : c.toNat < 256 := c.toNat_lt
              clear hn
              cases hpc : plainB (c.toNat : Int)
              · have HS := Lib.hid (esc_step (c := c) HM2.out (by rw [HA.out]; exact hna) (by rw [HBb.out]; exact hnb) (by rw [HA.out, HBb.out]; exact hc) hpc)
                have cq : Hid (∀ W, Calls Tryz.prog 95 #[.int .u8 c.toNat] W fun e w' => e = .returned (.bool false) ∧ W = w') := fun W => by have := refPlain_any c W; rw [hpc] at this; exact this
                clear hpc
                go_wp2_with fail
                refine (cq.out _).mono ?_
                rintro e w1 ⟨rfl, rfl⟩
                go_wp2_with (at_builtin; refine wpList_append_own _ rfl _ _ 61 rfl w.heap.size 5 i0 (.int .u8 0) 1 1 Tryz.underlying61 hi hz0 hz1 hz2 rfl (by decide) _ _ _ rfl (hrow.alloc _) ⟨wr.heap.size, 0, none⟩ 1 1 [.int .u8 c.toNat] rfl rfl (cell_one_new _ _ _) (by simp [Value.oneCell']) (by omega) (by omega) (by simp; omega) ?_; intro v' w3 hown' hgrow _)
                go_roundg (gk - 3)
                case measure => omega
                case rel => exact ⟨i + 3, pre ++ [c], by go_num, by omega, by omega, HS.out, by simp; omega, by simpa using hown', (HB.out.alloc hsz _).trans (row_low (hrow.alloc _) hgrow (by simp; omega)), by have := hgrow.size; simp at this; omega⟩
              · have HN := Lib.hid (esc_plain_no (c := c) HM2.out (by rw [HA.out, HBb.out]; exact hc) hpc)
                have cq : Hid (∀ W, Calls Tryz.prog 95 #[.int .u8 c.toNat] W fun e w' => e = .returned (.bool true) ∧ W = w') := fun W => by have := refPlain_any c W; rw [hpc] at this; exact this
                clear hpc
                go_wp2_with fail
                refine (cq.out _).mono ?_
                rintro e w1 ⟨rfl, rfl⟩
                go_wp2
                go_ret2
                exact ⟨raw_no HN.out, HB.out⟩
          · have h2i : (s.size : Int) < (i : Int) + 3 := by omega
            have HN := Lib.hid (esc_short HM9.out (by rw [List.length_drop, Array.length_toList]; show s.size - (i + 1) < 2; omega))
            go_wp2
            go_ret2
            exact ⟨raw_no HN.out, HB.out⟩
        · have hc92 : ((s[i].toNat : Int) != 92) = true := by
            have : s[i].toNat ≠ 92 := fun e => h92 (UInt8.toNat_inj.1 e)
            simp; omega
          have HN := Lib.hid (esc_mark HM1.out HP.out h92)
          clear h92
          go_wp2
          go_ret2
          exact ⟨raw_no HN.out, HB.out⟩
      · have HS := Lib.hid (plain_step HM1.out hp)
        have cp : Hid (∀ W, Calls Tryz.prog 95 #[.int .u8 s[i].toNat] W fun e w' => e = .returned (.bool true) ∧ W = w') := fun W => by have := refPlain_any s[i] W; rw [hp] at this; exact this
        clear hp
        go_wp2_with fail
        refine (cp.out _).mono ?_
        rintro e w1 ⟨rfl, rfl⟩
        go_wp2_with (at_builtin; refine wpList_append_own _ rfl _ _ 61 rfl w.heap.size 5 i0 (.int .u8 0) 1 1 Tryz.underlying61 hi hz0 hz1 hz2 rfl (by decide) _ _ _ rfl (hrow.alloc _) ⟨wr.heap.size, 0, none⟩ 1 1 [.int .u8 s[i].toNat] rfl rfl (cell_one_new _ _ _) (by simp [Value.oneCell']) (by omega) (by omega) (by simp; omega) ?_; intro v' w3 hown' hgrow _)
        go_roundg (gk - 1)
        case measure => omega
        case rel => exact ⟨i + 1, pre ++ [s[i]], by go_num, by omega, by omega, HS.out, by simp; omega, by simpa using hown', (HB.out.alloc hsz _).trans (row_low (hrow.alloc _) hgrow (by simp; omega)), by have := hgrow.size; simp at this; omega⟩

end Go.Proofs.YthbighnkohjfnaaGreatDoor

/-
  CONTRACT of the document's answer: Parse.
-/
namespace Go.Proofs.YthbighnkohjfnaaGreatDoor
open Go.RowKit Go.Shelf

/-- a block of three cells, known whole -/
def VBlk (W : World) (b : Nat) (x y z : Value) : Prop := W.heap[b]? = some (.cells #[x, y, z] 35 (0, 0))
theorem VBlk.c0 {W : World} {b : Nat} {x y z : Value} (h : VBlk W b x y z) : W.cell? ⟨b, 0, none⟩ = some x := by unfold VBlk at h; simp [World.cell?, h]
theorem VBlk.c1 {W : World} {b : Nat} {x y z : Value} (h : VBlk W b x y z) : W.cell? ⟨b, 1, none⟩ = some y := by unfold VBlk at h; simp [World.cell?, h]
theorem VBlk.c2 {W : World} {b : Nat} {x y z : Value} (h : VBlk W b x y z) : W.cell? ⟨b, 2, none⟩ = some z := by unfold VBlk at h; simp [World.cell?, h]
theorem VBlk.f {W : World} {b : Nat} {x y z : Value} (h : VBlk W b x y z) (j : Nat) : W.frozen? ⟨b, j, none⟩ = false := by unfold VBlk at h; simp [World.frozen?, h]
theorem VBlk.lt {W : World} {b : Nat} {x y z : Value} (h : VBlk W b x y z) : b < W.heap.size := (Array.getElem?_eq_some_iff.1 h).1
theorem VBlk.next {W W' : World} {b B : Nat} {x y z : Value} (h : VBlk W b x y z) (hb : Below B W W') (hB : b < B) : VBlk W' b x y z := (hb.block b hB).trans h
theorem VBlk.far {W : World} {b : Nat} {x y z : Value} (h : VBlk W b x y z) {p : Addr} (hp : b ≠ p.block) (u : Value) : VBlk (W.setCell p u) b x y z := (Below.heap_setCell W p u b hp).trans h
def set3 (W : World) (b : Nat) (x y z : Value) : World := ((W.setCell ⟨b, 0, none⟩ x).setCell ⟨b, 1, none⟩ y).setCell ⟨b, 2, none⟩ z
theorem VBlk.set {W : World} {b : Nat} {x y z : Value} (h : VBlk W b x y z) (x' y' z' : Value) : VBlk (set3 W b x' y' z') b x' y' z' := by
  unfold VBlk at h ⊢
  simp [set3, World.setCell, Array.getElem?_modify, h]
theorem size_set3 (W : World) (b : Nat) (x y z : Value) : (set3 W b x y z).heap.size = W.heap.size := by simp [set3, World.setCell]

/-- the result's own block, v's block, and all that lay before -/
structure St (w W : World) (x y z : Value) : Prop where
  r : VBlk W w.heap.size (.int .i64 0) (.int .i64 0) (.string ⟨#[]⟩)
  v : VBlk W (w.heap.size + 1) x y z
  low : Below w.heap.size w W
  size : w.heap.size + 2 ≤ W.heap.size
theorem St.next {w W W' : World} {x y z : Value} (h : St w W x y z) {B : Nat} (hb : Below B W W') (hB : w.heap.size + 2 ≤ B) : St w W' x y z :=
  ⟨h.r.next hb (by omega), h.v.next hb (by omega), h.low.trans (hb.mono (by omega)), Nat.le_trans h.size hb.size⟩
theorem St.set {w W : World} {x y z : Value} (h : St w W x y z) (x' y' z' : Value) : St w (set3 W (w.heap.size + 1) x' y' z') x' y' z' :=
  ⟨((h.r.far (p := ⟨w.heap.size + 1, 0, none⟩) (by show w.heap.size ≠ w.heap.size + 1; omega) _).far (p := ⟨w.heap.size + 1, 1, none⟩) (by show w.heap.size ≠ w.heap.size + 1; omega) _).far (p := ⟨w.heap.size + 1, 2, none⟩) (by show w.heap.size ≠ w.heap.size + 1; omega) _,
    h.v.set x' y' z', ((h.low.setCell (p := ⟨w.heap.size + 1, 0, none⟩) (by show w.heap.size ≤ w.heap.size + 1; omega) _).setCell (p := ⟨w.heap.size + 1, 1, none⟩) (by show w.heap.size ≤ w.heap.size + 1; omega) _).setCell (p := ⟨w.heap.size + 1, 2, none⟩) (by show w.heap.size ≤ w.heap.size + 1; omega) _,
    by rw [size_set3]; exact h.size⟩
theorem st_new (w : World) (x y z : Value) : St w ((w.alloc (.cells #[.int .i64 0, .int .i64 0, .string ⟨#[]⟩] 35)).alloc (.cells #[x, y, z] 35)) x y z := by
  have h1 := heap_alloc_new (w.alloc (.cells #[.int .i64 0, .int .i64 0, .string ⟨#[]⟩] 35)) (.cells #[x, y, z] 35)
  rw [World.size_alloc] at h1
  exact ⟨(Below.heap_alloc _ _ _ (by simp)).trans (heap_alloc_new w _), h1, ((Below.refl _ _).alloc (Nat.le_refl _) _).alloc (by simp) _, by simp⟩
theorem St.out {w W : World} {x y z : Value} (h : St w W x y z) (x' y' z' : Value) : Below w.heap.size w (set3 W w.heap.size x' y' z') :=
  ((h.low.setCell (p := ⟨w.heap.size, 0, none⟩) (Nat.le_refl _) _).setCell (p := ⟨w.heap.size, 1, none⟩) (Nat.le_refl _) _).setCell (p := ⟨w.heap.size, 2, none⟩) (Nat.le_refl _) _

theorem parse_hit {l : List UInt8} {k n : Int} {t : ByteArray} (hm : mayB k n t = true) (hn : inI64 n) (ht : t.size ≤ maxLen) (hl : txtL k n t = l) (hu : ∀ (k' n' : Int) (t' : ByteArray), mayB k' n' t' = true → inI64 n' → txtL k' n' t' = l → k = k' ∧ n = n' ∧ t = t') :
    ParseEnds l (.returned (.tuple #[.agg #[.int .i64 k, .int .i64 n, .string t], .int .i64 0])) := .inl ⟨k, n, t, rfl, hm, hn, ht, hl, hu⟩
theorem head_ne {s : ByteArray} (hp : 0 < s.size) {c : UInt8} {r : List UInt8} (h : s[0] ≠ c) : s.data.toList ≠ c :: r := by
  have hd := drop_at s 0 hp
  rw [List.drop_zero] at hd
  rw [hd]
  intro e
  injection e with e _
  exact h e
theorem cons_of {s : ByteArray} (hp : 0 < s.size) : s.data.toList = s[0] :: (s.extract 1 s.size).data.toList := by
  have hd := drop_at s 0 hp
  rw [List.drop_zero] at hd
  rw [drop_to]; exact hd

set_option maxRecDepth 100000 in
set_option maxHeartbeats 4000000 in
theorem refParse_ref (s : ByteArray) (w : World) (hs : s.size ≤ 20000) (hp : 0 < s.size) (hc : s[0].toNat = 64) :
    Calls Tryz.prog 57 #[.string s] w fun e w' => ParseEnds s.data.toList e ∧ Below w.heap.size w w' := by
  have hl := cons_of hp
  have st0 := st_new w (.int .i64 0) (.int .i64 0) (.string ⟨#[]⟩)
  obtain ⟨d, hd⟩ : ∃ d : ByteArray, s.extract 1 s.size = d := ⟨_, rfl⟩
  have hds : d.size = s.size - 1 := by rw [← hd, drop_to_size]
  have hp' : (0 : Int) < (s.size : Int) := by omega
  have hp1 : (1 : Int) ≤ (s.size : Int) := by omega
  have q1 : (s.toList == [116, 114, 117, 101]) = false := by rw [beq_eq_false_iff_ne, ByteArray.toList_eq]; exact head_ne hp (fun e => by rw [e] at hc; exact absurd hc (by decide))
  have q2 : (s.toList == [102, 97, 108, 115, 101]) = false := by rw [beq_eq_false_iff_ne, ByteArray.toList_eq]; exact head_ne hp (fun e => by rw [e] at hc; exact absurd hc (by decide))
  have t64 : ((s[0].toNat : Int) == 64) = true := by rw [hc]; rfl
  rw [hd] at hl
  have HL := Lib.hid hl
  have HC := Lib.hid hc
  have ST0 := Lib.hid st0
  clear hl hc st0
  go_enter Tryz.func57, Tryz.ntmps57
  go_wp2_with fail
  clear hd q1 q2 t64
  refine (refNumber_any d _ (by omega)).mono ?_
  rintro e w1 ⟨⟨n, ok, rfl, hn, hy, hu⟩, hb1⟩
  have HN := Lib.hid hn
  have HY := Lib.hid hy
  have HU := Lib.hid hu
  have S1 := Lib.hid (ST0.out.next hb1 (by simp))
  clear hn hy hu hb1
  cases ok
  · have HNO : Hid (∀ (k n : Int) (t : ByteArray), mayB k n t = true → inI64 n → txtL k n t ≠ s.data.toList) := fun k' n' t' a b c => by
      obtain ⟨_, _, h3⟩ := (heads_of a (c.trans HL.out)).r64 HC.out
      have := (HU.out n' b h3).2
      cases this
    have e0 := S1.out.r.c0
    have e1 := S1.out.r.c1
    have e2 := S1.out.r.c2
    have f0 := S1.out.r.f 0
    have f1 := S1.out.r.f 1
    have f2 := S1.out.r.f 2
    have g0 := S1.out.v.c0
    have g1 := S1.out.v.c1
    have g2 := S1.out.v.c2
    have h0 := S1.out.v.f 0
    have h1 := S1.out.v.f 1
    have h2 := S1.out.v.f 2
    go_wp2
    refine bodyPost_ret (v := .tuple #[.agg #[.int .i64 0, .int .i64 0, .string ⟨#[]⟩], .int .i64 11]) ?_ rfl ⟨parse_no HNO.out, ?_⟩
    · rw [results_cell_tmp rfl]; go_simp
    · exact St.out (S1.out.set _ _ _) _ _ _
  · have HT : Hid (txtL 5 n ⟨#[]⟩ = s.data.toList) := by
      show _ = _
      rw [HL.out, HY.out rfl]
      show (64 : UInt8) :: Lib.itoa n = _
      have : s[0] = 64 := UInt8.toNat_inj.1 HC.out
      rw [this]
    have HQ : Hid (∀ (k' n' : Int) (t' : ByteArray), mayB k' n' t' = true → inI64 n' → txtL k' n' t' = s.data.toList → 5 = k' ∧ n = n' ∧ (⟨#[]⟩ : ByteArray) = t') := fun k' n' t' a b c => by
      obtain ⟨h1, h2, h3⟩ := (heads_of a (c.trans HL.out)).r64 HC.out
      exact ⟨h1.symm, (HU.out n' b h3).1, h2.symm⟩
    have e0 := S1.out.r.c0
    have e1 := S1.out.r.c1
    have e2 := S1.out.r.c2
    have f0 := S1.out.r.f 0
    have f1 := S1.out.r.f 1
    have f2 := S1.out.r.f 2
    have g0 := S1.out.v.c0
    have g1 := S1.out.v.c1
    have g2 := S1.out.v.c2
    have h0 := S1.out.v.f 0
    have h1 := S1.out.v.f 1
    have h2 := S1.out.v.f 2
    go_wp2_with fail
    refine (refMay_any 5 n ⟨#[]⟩ _ (by decide)).mono ?_
    rintro e w3 ⟨rfl, hb3⟩
    have S3 := Lib.hid ((S1.out.set (.int .i64 5) (.int .i64 n) (.string ⟨#[]⟩)).next hb3 (by have h9 := S1.out.size; simpa [World.setCell] using h9))
    clear hb3 e0 e1 e2 f0 f1 f2 g0 g1 g2 h0 h1 h2
    cases hm : mayB 5 n ⟨#[]⟩
    · have HNO : Hid (∀ (k n : Int) (t : ByteArray), mayB k n t = true → inI64 n → txtL k n t ≠ s.data.toList) := fun k' n' t' a b c => by
        obtain ⟨rfl, rfl, rfl⟩ := HQ.out k' n' t' a b c
        rw [hm] at a; cases a
      clear hm
      have e0 := S3.out.r.c0
      have e1 := S3.out.r.c1
      have e2 := S3.out.r.c2
      have f0 := S3.out.r.f 0
      have f1 := S3.out.r.f 1
      have f2 := S3.out.r.f 2
      have g0 := S3.out.v.c0
      have g1 := S3.out.v.c1
      have g2 := S3.out.v.c2
      have h0 := S3.out.v.f 0
      have h1 := S3.out.v.f 1
      have h2 := S3.out.v.f 2
      go_wp2
      refine bodyPost_ret (v := .tuple #[.agg #[.int .i64 0, .int .i64 0, .string ⟨#[]⟩], .int .i64 11]) ?_ rfl ⟨parse_no HNO.out, ?_⟩
      · rw [results_cell_tmp rfl]; go_simp
      · exact St.out S3.out _ _ _
    · have HM := Lib.hid hm
      clear hm
      have e0 := S3.out.r.c0
      have e1 := S3.out.r.c1
      have e2 := S3.out.r.c2
      have f0 := S3.out.r.f 0
      have f1 := S3.out.r.f 1
      have f2 := S3.out.r.f 2
      have g0 := S3.out.v.c0
      have g1 := S3.out.v.c1
      have g2 := S3.out.v.c2
      have h0 := S3.out.v.f 0
      have h1 := S3.out.v.f 1
      have h2 := S3.out.v.f 2
      go_wp2
      refine bodyPost_ret (v := .tuple #[.agg #[.int .i64 5, .int .i64 n, .string ⟨#[]⟩], .int .i64 0]) ?_ rfl ⟨parse_hit HM.out HN.out (by decide) HT.out HQ.out, ?_⟩
      · rw [results_cell_tmp rfl]; go_simp
      · exact St.out S3.out _ _ _

set_option maxRecDepth 100000 in
set_option maxHeartbeats 4000000 in
theorem refParse_time (s : ByteArray) (w : World) (hs : s.size ≤ 20000) (hp : 0 < s.size) (hc : s[0].toNat = 33) :
    Calls Tryz.prog 57 #[.string s] w fun e w' => ParseEnds s.data.toList e ∧ Below w.heap.size w w' := by
  have hl := cons_of hp
  have st0 := st_new w (.int .i64 0) (.int .i64 0) (.string ⟨#[]⟩)
  obtain ⟨d, hd⟩ : ∃ d : ByteArray, s.extract 1 s.size = d := ⟨_, rfl⟩
  have hds : d.size = s.size - 1 := by rw [← hd, drop_to_size]
  have hp' : (0 : Int) < (s.size : Int) := by omega
  have hp1 : (1 : Int) ≤ (s.size : Int) := by omega
  have q1 : (s.toList == [116, 114, 117, 101]) = false := by rw [beq_eq_false_iff_ne, ByteArray.toList_eq]; exact head_ne hp (fun e => by rw [e] at hc; exact absurd hc (by decide))
  have q2 : (s.toList == [102, 97, 108, 115, 101]) = false := by rw [beq_eq_false_iff_ne, ByteArray.toList_eq]; exact head_ne hp (fun e => by rw [e] at hc; exact absurd hc (by decide))
  have t64 : ((s[0].toNat : Int) == 64) = false := by rw [hc]; rfl
  have t33 : ((s[0].toNat : Int) == 33) = true := by rw [hc]; rfl
  rw [hd] at hl
  have HL := Lib.hid hl
  have HC := Lib.hid hc
  have ST0 := Lib.hid st0
  clear hl hc st0
  go_enter Tryz.func57, Tryz.ntmps57
  go_wp2_with fail
  clear hd q1 q2 t64 t33
  refine (refNumber_any d _ (by omega)).mono ?_
  rintro e w1 ⟨⟨n, ok, rfl, hn, hy, hu⟩, hb1⟩
  have HN := Lib.hid hn
  have HY := Lib.hid hy
  have HU := Lib.hid hu
  have S1 := Lib.hid (ST0.out.next hb1 (by simp))
  clear hn hy hu hb1
  cases ok
  · have HNO : Hid (∀ (k n : Int) (t : ByteArray), mayB k n t = true → inI64 n → txtL k n t ≠ s.data.toList) := fun k' n' t' a b c => by
      obtain ⟨_, _, h3⟩ := (heads_of a (c.trans HL.out)).e33 HC.out
      have := (HU.out n' b h3).2
      cases this
    have e0 := S1.out.r.c0
    have e1 := S1.out.r.c1
    have e2 := S1.out.r.c2
    have f0 := S1.out.r.f 0
    have f1 := S1.out.r.f 1
    have f2 := S1.out.r.f 2
    have g0 := S1.out.v.c0
    have g1 := S1.out.v.c1
    have g2 := S1.out.v.c2
    have h0 := S1.out.v.f 0
    have h1 := S1.out.v.f 1
    have h2 := S1.out.v.f 2
    go_wp2
    refine bodyPost_ret (v := .tuple #[.agg #[.int .i64 0, .int .i64 0, .string ⟨#[]⟩], .int .i64 11]) ?_ rfl ⟨parse_no HNO.out, ?_⟩
    · rw [results_cell_tmp rfl]; go_simp
    · exact St.out (S1.out.set _ _ _) _ _ _
  · have HT : Hid (txtL 6 n ⟨#[]⟩ = s.data.toList) := by
      show _ = _
      rw [HL.out, HY.out rfl]
      show (33 : UInt8) :: Lib.itoa n = _
      have : s[0] = 33 := UInt8.toNat_inj.1 HC.out
      rw [this]
    have HQ : Hid (∀ (k' n' : Int) (t' : ByteArray), mayB k' n' t' = true → inI64 n' → txtL k' n' t' = s.data.toList → 6 = k' ∧ n = n' ∧ (⟨#[]⟩ : ByteArray) = t') := fun k' n' t' a b c => by
      obtain ⟨h1, h2, h3⟩ := (heads_of a (c.trans HL.out)).e33 HC.out
      exact ⟨h1.symm, (HU.out n' b h3).1, h2.symm⟩
    have e0 := S1.out.r.c0
    have e1 := S1.out.r.c1
    have e2 := S1.out.r.c2
    have f0 := S1.out.r.f 0
    have f1 := S1.out.r.f 1
    have f2 := S1.out.r.f 2
    have g0 := S1.out.v.c0
    have g1 := S1.out.v.c1
    have g2 := S1.out.v.c2
    have h0 := S1.out.v.f 0
    have h1 := S1.out.v.f 1
    have h2 := S1.out.v.f 2
    go_wp2_with fail
    refine (refMay_any 6 n ⟨#[]⟩ _ (by decide)).mono ?_
    rintro e w3 ⟨rfl, hb3⟩
    have S3 := Lib.hid ((S1.out.set (.int .i64 6) (.int .i64 n) (.string ⟨#[]⟩)).next hb3 (by have h9 := S1.out.size; simpa [World.setCell] using h9))
    clear hb3 e0 e1 e2 f0 f1 f2 g0 g1 g2 h0 h1 h2
    cases hm : mayB 6 n ⟨#[]⟩
    · have HNO : Hid (∀ (k n : Int) (t : ByteArray), mayB k n t = true → inI64 n → txtL k n t ≠ s.data.toList) := fun k' n' t' a b c => by
        obtain ⟨rfl, rfl, rfl⟩ := HQ.out k' n' t' a b c
        rw [hm] at a; cases a
      clear hm
      have e0 := S3.out.r.c0
      have e1 := S3.out.r.c1
      have e2 := S3.out.r.c2
      have f0 := S3.out.r.f 0
      have f1 := S3.out.r.f 1
      have f2 := S3.out.r.f 2
      have g0 := S3.out.v.c0
      have g1 := S3.out.v.c1
      have g2 := S3.out.v.c2
      have h0 := S3.out.v.f 0
      have h1 := S3.out.v.f 1
      have h2 := S3.out.v.f 2
      go_wp2
      refine bodyPost_ret (v := .tuple #[.agg #[.int .i64 0, .int .i64 0, .string ⟨#[]⟩], .int .i64 11]) ?_ rfl ⟨parse_no HNO.out, ?_⟩
      · rw [results_cell_tmp rfl]; go_simp
      · exact St.out S3.out _ _ _
    · have HM := Lib.hid hm
      clear hm
      have e0 := S3.out.r.c0
      have e1 := S3.out.r.c1
      have e2 := S3.out.r.c2
      have f0 := S3.out.r.f 0
      have f1 := S3.out.r.f 1
      have f2 := S3.out.r.f 2
      have g0 := S3.out.v.c0
      have g1 := S3.out.v.c1
      have g2 := S3.out.v.c2
      have h0 := S3.out.v.f 0
      have h1 := S3.out.v.f 1
      have h2 := S3.out.v.f 2
      go_wp2
      refine bodyPost_ret (v := .tuple #[.agg #[.int .i64 6, .int .i64 n, .string ⟨#[]⟩], .int .i64 0]) ?_ rfl ⟨parse_hit HM.out HN.out (by decide) HT.out HQ.out, ?_⟩
      · rw [results_cell_tmp rfl]; go_simp
      · exact St.out S3.out _ _ _

set_option maxRecDepth 100000 in
set_option maxHeartbeats 4000000 in
theorem refParse_word (s : ByteArray) (w : World) (hs : s.size ≤ 20000) (hp : 0 < s.size) (hc : s[0].toNat = 58) :
    Calls Tryz.prog 57 #[.string s] w fun e w' => ParseEnds s.data.toList e ∧ Below w.heap.size w w' := by
  have hl := cons_of hp
  have st0 := st_new w (.int .i64 0) (.int .i64 0) (.string ⟨#[]⟩)
  have hp' : (0 : Int) < (s.size : Int) := by omega
  obtain ⟨d, hd⟩ : ∃ d : ByteArray, s.extract 1 s.size = d := ⟨_, rfl⟩
  have hds : d.size = s.size - 1 := by rw [← hd, drop_to_size]
  have hp1 : (1 : Int) ≤ (s.size : Int) := by omega
  rw [hd] at hl
  have q1 : (s.toList == [116, 114, 117, 101]) = false := by rw [beq_eq_false_iff_ne, ByteArray.toList_eq]; exact head_ne hp (fun e => by rw [e] at hc; exact absurd hc (by decide))
  have q2 : (s.toList == [102, 97, 108, 115, 101]) = false := by rw [beq_eq_false_iff_ne, ByteArray.toList_eq]; exact head_ne hp (fun e => by rw [e] at hc; exact absurd hc (by decide))
  have t64 : ((s[0].toNat : Int) == 64) = false := by rw [hc]; rfl
  have t33 : ((s[0].toNat : Int) == 33) = false := by rw [hc]; rfl
  have t58 : ((s[0].toNat : Int) == 58) = true := by rw [hc]; rfl
  have HL := Lib.hid hl
  have HC := Lib.hid hc
  clear hl hc st0
  go_enter Tryz.func57, Tryz.ntmps57
  have hdm : d.size ≤ maxLen := by unfold maxLen; omega
  have HDM := Lib.hid hdm
  have HT : Hid (txtL 7 0 d = s.data.toList) := by
    show _ = _
    rw [HL.out]
    show (58 : UInt8) :: d.data.toList = _
    have : s[0] = 58 := UInt8.toNat_inj.1 HC.out
    rw [this]
  have HQ : Hid (∀ (k' n' : Int) (t' : ByteArray), mayB k' n' t' = true → inI64 n' → txtL k' n' t' = s.data.toList → 7 = k' ∧ 0 = n' ∧ d = t') := fun k' n' t' a b c => by
    obtain ⟨h1, h2, h3⟩ := (heads_of a (c.trans HL.out)).w58 HC.out
    exact ⟨h1.symm, h2.symm, ByteArray.ext (Array.toList_inj.1 h3)⟩
  clear hdm
  go_wp2_with fail
  clear hd q1 q2 t64 t33 t58
  refine (refMay_any 7 0 d _ HDM.out).mono ?_
  rintro e w3 ⟨rfl, hb3⟩
  have S3 := Lib.hid ((st_new w (.int .i64 7) (.int .i64 0) (.string d)).next hb3 (by simp))
  clear hb3
  cases hm : mayB 7 0 d
  · have HNO : Hid (∀ (k n : Int) (t : ByteArray), mayB k n t = true → inI64 n → txtL k n t ≠ s.data.toList) := fun k' n' t' a b c => by
      obtain ⟨rfl, rfl, rfl⟩ := HQ.out k' n' t' a b c
      rw [hm] at a; cases a
    clear hm
    have e0 := S3.out.r.c0
    have e1 := S3.out.r.c1
    have e2 := S3.out.r.c2
    have f0 := S3.out.r.f 0
    have f1 := S3.out.r.f 1
    have f2 := S3.out.r.f 2
    have g0 := S3.out.v.c0
    have g1 := S3.out.v.c1
    have g2 := S3.out.v.c2
    have h0 := S3.out.v.f 0
    have h1 := S3.out.v.f 1
    have h2 := S3.out.v.f 2
    go_wp2
    refine bodyPost_ret (v := .tuple #[.agg #[.int .i64 0, .int .i64 0, .string ⟨#[]⟩], .int .i64 11]) ?_ rfl ⟨parse_no HNO.out, ?_⟩
    · rw [results_cell_tmp rfl]; go_simp
    · exact St.out S3.out _ _ _
  · have HM := Lib.hid hm
    clear hm
    have e0 := S3.out.r.c0
    have e1 := S3.out.r.c1
    have e2 := S3.out.r.c2
    have f0 := S3.out.r.f 0
    have f1 := S3.out.r.f 1
    have f2 := S3.out.r.f 2
    have g0 := S3.out.v.c0
    have g1 := S3.out.v.c1
    have g2 := S3.out.v.c2
    have h0 := S3.out.v.f 0
    have h1 := S3.out.v.f 1
    have h2 := S3.out.v.f 2
    go_wp2
    refine bodyPost_ret (v := .tuple #[.agg #[.int .i64 7, .int .i64 0, .string d], .int .i64 0]) ?_ rfl ⟨parse_hit HM.out (by unfold inI64; omega) HDM.out HT.out HQ.out, ?_⟩
    · rw [results_cell_tmp rfl]; go_simp
    · exact St.out S3.out _ _ _

set_option maxRecDepth 100000 in
set_option maxHeartbeats 4000000 in
theorem refParse_bytes (s : ByteArray) (w : World) (hs : s.size ≤ 20000) (hp : 0 < s.size) (hc : s[0].toNat = 35) :
    Calls Tryz.prog 57 #[.string s] w fun e w' => ParseEnds s.data.toList e ∧ Below w.heap.size w w' := by
  have hl := cons_of hp
  have st0 := st_new w (.int .i64 0) (.int .i64 0) (.string ⟨#[]⟩)
  have hp' : (0 : Int) < (s.size : Int) := by omega
  obtain ⟨d, hd⟩ : ∃ d : ByteArray, s.extract 1 s.size = d := ⟨_, rfl⟩
  have hds : d.size = s.size - 1 := by rw [← hd, drop_to_size]
  have hp1 : (1 : Int) ≤ (s.size : Int) := by omega
  rw [hd] at hl
  have q1 : (s.toList == [116, 114, 117, 101]) = false := by rw [beq_eq_false_iff_ne, ByteArray.toList_eq]; exact head_ne hp (fun e => by rw [e] at hc; exact absurd hc (by decide))
  have q2 : (s.toList == [102, 97, 108, 115, 101]) = false := by rw [beq_eq_false_iff_ne, ByteArray.toList_eq]; exact head_ne hp (fun e => by rw [e] at hc; exact absurd hc (by decide))
  have t64 : ((s[0].toNat : Int) == 64) = false := by rw [hc]; rfl
  have t33 : ((s[0].toNat : Int) == 33) = false := by rw [hc]; rfl
  have t58 : ((s[0].toNat : Int) == 58) = false := by rw [hc]; rfl
  have t35 : ((s[0].toNat : Int) == 35) = true := by rw [hc]; rfl
  have HL := Lib.hid hl
  have HC := Lib.hid hc
  have ST0 := Lib.hid st0
  clear hl hc st0
  go_enter Tryz.func57, Tryz.ntmps57
  go_wp2_with fail
  clear hd q1 q2 t64 t33 t58 t35
  refine (raw_hex d _ (by omega)).mono ?_
  rintro e w1 ⟨⟨u, ok, rfl, hum, hy, hu⟩, hb1⟩
  have HUM := Lib.hid hum
  have HY := Lib.hid hy
  have HU := Lib.hid hu
  have S1 := Lib.hid (ST0.out.next hb1 (by simp))
  clear hum hy hu hb1
  have HQ0 : Hid (∀ (k' n' : Int) (t' : ByteArray), mayB k' n' t' = true → inI64 n' → txtL k' n' t' = s.data.toList → 4 = k' ∧ 0 = n' ∧ flatL hexL t'.data.toList = d.data.toList) := fun k' n' t' a b c => by
    obtain ⟨h1, h2, h3⟩ := (heads_of a (c.trans HL.out)).b35 HC.out
    exact ⟨h1.symm, h2.symm, h3⟩
  cases ok
  · have HNO : Hid (∀ (k n : Int) (t : ByteArray), mayB k n t = true → inI64 n → txtL k n t ≠ s.data.toList) := fun k' n' t' a b c => by
      obtain ⟨_, _, h3⟩ := HQ0.out k' n' t' a b c
      have := (HU.out _ h3).1
      cases this
    have e0 := S1.out.r.c0
    have e1 := S1.out.r.c1
    have e2 := S1.out.r.c2
    have f0 := S1.out.r.f 0
    have f1 := S1.out.r.f 1
    have f2 := S1.out.r.f 2
    have g0 := S1.out.v.c0
    have g1 := S1.out.v.c1
    have g2 := S1.out.v.c2
    have h0 := S1.out.v.f 0
    have h1 := S1.out.v.f 1
    have h2 := S1.out.v.f 2
    go_wp2
    refine bodyPost_ret (v := .tuple #[.agg #[.int .i64 0, .int .i64 0, .string ⟨#[]⟩], .int .i64 11]) ?_ rfl ⟨parse_no HNO.out, ?_⟩
    · rw [results_cell_tmp rfl]; go_simp
    · exact St.out (S1.out.set _ _ _) _ _ _
  · have HT : Hid (txtL 4 0 u = s.data.toList) := by
      show _ = _
      rw [HL.out]
      have h34 : s[0] = 35 := UInt8.toNat_inj.1 HC.out
      rw [h34]
      have h9 := HY.out rfl
      show [35] ++ flatL hexL u.data.toList ++ [] = _
      rw [h9]; simp
    have HQ : Hid (∀ (k' n' : Int) (t' : ByteArray), mayB k' n' t' = true → inI64 n' → txtL k' n' t' = s.data.toList → 4 = k' ∧ 0 = n' ∧ u = t') := fun k' n' t' a b c => by
      obtain ⟨h1, h2, h3⟩ := HQ0.out k' n' t' a b c
      exact ⟨h1, h2, (HU.out _ h3).2⟩
    have e0 := S1.out.r.c0
    have e1 := S1.out.r.c1
    have e2 := S1.out.r.c2
    have f0 := S1.out.r.f 0
    have f1 := S1.out.r.f 1
    have f2 := S1.out.r.f 2
    have g0 := S1.out.v.c0
    have g1 := S1.out.v.c1
    have g2 := S1.out.v.c2
    have h0 := S1.out.v.f 0
    have h1 := S1.out.v.f 1
    have h2 := S1.out.v.f 2
    go_wp2_with fail
    refine (refMay_any 4 0 u _ HUM.out).mono ?_
    rintro e w3 ⟨rfl, hb3⟩
    have S3 := Lib.hid ((S1.out.set (.int .i64 4) (.int .i64 0) (.string u)).next hb3 (by have h9 := S1.out.size; simpa [World.setCell] using h9))
    clear hb3 e0 e1 e2 f0 f1 f2 g0 g1 g2 h0 h1 h2
    cases hm : mayB 4 0 u
    · have HNO : Hid (∀ (k n : Int) (t : ByteArray), mayB k n t = true → inI64 n → txtL k n t ≠ s.data.toList) := fun k' n' t' a b c => by
        obtain ⟨rfl, rfl, rfl⟩ := HQ.out k' n' t' a b c
        rw [hm] at a; cases a
      clear hm
      have e0 := S3.out.r.c0
      have e1 := S3.out.r.c1
      have e2 := S3.out.r.c2
      have f0 := S3.out.r.f 0
      have f1 := S3.out.r.f 1
      have f2 := S3.out.r.f 2
      have g0 := S3.out.v.c0
      have g1 := S3.out.v.c1
      have g2 := S3.out.v.c2
      have h0 := S3.out.v.f 0
      have h1 := S3.out.v.f 1
      have h2 := S3.out.v.f 2
      go_wp2
      refine bodyPost_ret (v := .tuple #[.agg #[.int .i64 0, .int .i64 0, .string ⟨#[]⟩], .int .i64 11]) ?_ rfl ⟨parse_no HNO.out, ?_⟩
      · rw [results_cell_tmp rfl]; go_simp
      · exact St.out S3.out _ _ _
    · have HM := Lib.hid hm
      clear hm
      have e0 := S3.out.r.c0
      have e1 := S3.out.r.c1
      have e2 := S3.out.r.c2
      have f0 := S3.out.r.f 0
      have f1 := S3.out.r.f 1
      have f2 := S3.out.r.f 2
      have g0 := S3.out.v.c0
      have g1 := S3.out.v.c1
      have g2 := S3.out.v.c2
      have h0 := S3.out.v.f 0
      have h1 := S3.out.v.f 1
      have h2 := S3.out.v.f 2
      go_wp2
      refine bodyPost_ret (v := .tuple #[.agg #[.int .i64 4, .int .i64 0, .string u], .int .i64 0]) ?_ rfl ⟨parse_hit HM.out (by unfold inI64; omega) HUM.out HT.out HQ.out, ?_⟩
      · rw [results_cell_tmp rfl]; go_simp
      · exact St.out S3.out _ _ _

theorem quoted {s : ByteArray} (h2 : 1 < s.size) (hq : s[s.size - 1] = 34) : s.data.toList = s[0] :: ((s.extract 1 (s.size - 1)).data.toList ++ [34]) := by
  have hd := drop_at s 0 (by omega)
  rw [List.drop_zero] at hd
  have hl : s.data.toList.length = s.size := Array.length_toList
  have he : (s.extract 1 (s.size - 1)).data.toList = (s.data.toList.take (s.size - 1)).drop 1 := by rw [List.drop_take]; simp
  have ht := take_snoc s (s.size - 1) (by omega)
  rw [List.take_of_length_le (by omega), hq] at ht
  rw [he]
  have h3 : s.data.toList.take (s.size - 1) = s[0] :: (s.data.toList.take (s.size - 1)).drop 1 := by
    have h4 : s.data.toList.take (s.size - 1) = (s[0] :: s.data.toList.drop (0 + 1)).take (s.size - 1) := by rw [← hd]
    obtain ⟨m, hm⟩ : ∃ m, s.size - 1 = m + 1 := ⟨s.size - 2, by omega⟩
    rw [hm] at h4 ⊢
    rw [h4, List.take_succ_cons]; rfl
  exact ht.trans (congrArg (· ++ [34]) h3)

set_option maxRecDepth 100000 in
set_option maxHeartbeats 4000000 in
theorem refParse_text (s : ByteArray) (w : World) (hs : s.size ≤ 20000) (hp : 0 < s.size) (hc : s[0].toNat = 34) (h2 : 1 < s.size) (hq : s[s.size - 1].toNat = 34) :
    Calls Tryz.prog 57 #[.string s] w fun e w' => ParseEnds s.data.toList e ∧ Below w.heap.size w w' := by
  have hl := cons_of hp
  have st0 := st_new w (.int .i64 0) (.int .i64 0) (.string ⟨#[]⟩)
  have hp' : (0 : Int) < (s.size : Int) := by omega
  obtain ⟨d, hd⟩ : ∃ d : ByteArray, s.extract 1 (s.size - 1) = d := ⟨_, rfl⟩
  have hds : d.size = s.size - 2 := by rw [← hd, ByteArray.size_extract]; omega
  have hp1 : (1 : Int) < (s.size : Int) := by omega
  have hp2 : (1 : Int) ≤ (s.size : Int) - 1 := by omega
  have hlast : ((s[s.size - 1].toNat : Int) == 34) = true := by rw [hq]; rfl
  have hl : s.data.toList = s[0] :: (d.data.toList ++ [34]) := by rw [← hd]; exact quoted h2 (UInt8.toNat_inj.1 hq)
  have q1 : (s.toList == [116, 114, 117, 101]) = false := by rw [beq_eq_false_iff_ne, ByteArray.toList_eq]; exact head_ne hp (fun e => by rw [e] at hc; exact absurd hc (by decide))
  have q2 : (s.toList == [102, 97, 108, 115, 101]) = false := by rw [beq_eq_false_iff_ne, ByteArray.toList_eq]; exact head_ne hp (fun e => by rw [e] at hc; exact absurd hc (by decide))
  have t64 : ((s[0].toNat : Int) == 64) = false := by rw [hc]; rfl
  have t33 : ((s[0].toNat : Int) == 33) = false := by rw [hc]; rfl
  have t58 : ((s[0].toNat : Int) == 58) = false := by rw [hc]; rfl
  have t35 : ((s[0].toNat : Int) == 35) = false := by rw [hc]; rfl
  have t34 : ((s[0].toNat : Int) == 34) = true := by rw [hc]; rfl
  have HL := Lib.hid hl
  have HC := Lib.hid hc
  have ST0 := Lib.hid st0
  clear hl hc st0
  go_enter Tryz.func57, Tryz.ntmps57
  go_wp2_with fail
  clear hd q1 q2 t64 t33 t58 t35 t34 hlast
  refine (raw_esc d _ (by omega)).mono ?_
  rintro e w1 ⟨⟨u, ok, rfl, hum, hy, hu⟩, hb1⟩
  have HUM := Lib.hid hum
  have HY := Lib.hid hy
  have HU := Lib.hid hu
  have S1 := Lib.hid (ST0.out.next hb1 (by simp))
  clear hum hy hu hb1
  have HQ0 : Hid (∀ (k' n' : Int) (t' : ByteArray), mayB k' n' t' = true → inI64 n' → txtL k' n' t' = s.data.toList → 3 = k' ∧ 0 = n' ∧ flatL escL t'.data.toList = d.data.toList) := fun k' n' t' a b c => by
    obtain ⟨h1, h2, h3⟩ := (heads_of a (c.trans HL.out)).q34 HC.out
    exact ⟨h1.symm, h2.symm, List.append_cancel_right h3⟩
  cases ok
  · have HNO : Hid (∀ (k n : Int) (t : ByteArray), mayB k n t = true → inI64 n → txtL k n t ≠ s.data.toList) := fun k' n' t' a b c => by
      obtain ⟨_, _, h3⟩ := HQ0.out k' n' t' a b c
      have := (HU.out _ h3).1
      cases this
    have e0 := S1.out.r.c0
    have e1 := S1.out.r.c1
    have e2 := S1.out.r.c2
    have f0 := S1.out.r.f 0
    have f1 := S1.out.r.f 1
    have f2 := S1.out.r.f 2
    have g0 := S1.out.v.c0
    have g1 := S1.out.v.c1
    have g2 := S1.out.v.c2
    have h0 := S1.out.v.f 0
    have h1 := S1.out.v.f 1
    have h2 := S1.out.v.f 2
    go_wp2
    refine bodyPost_ret (v := .tuple #[.agg #[.int .i64 0, .int .i64 0, .string ⟨#[]⟩], .int .i64 11]) ?_ rfl ⟨parse_no HNO.out, ?_⟩
    · rw [results_cell_tmp rfl]; go_simp
    · exact St.out (S1.out.set _ _ _) _ _ _
  · have HT : Hid (txtL 3 0 u = s.data.toList) := by
      show _ = _
      rw [HL.out]
      have h34 : s[0] = 34 := UInt8.toNat_inj.1 HC.out
      rw [h34]
      have h9 := HY.out rfl
      show [34] ++ flatL escL u.data.toList ++ [34] = _
      rw [h9]; simp
    have HQ : Hid (∀ (k' n' : Int) (t' : ByteArray), mayB k' n' t' = true → inI64 n' → txtL k' n' t' = s.data.toList → 3 = k' ∧ 0 = n' ∧ u = t') := fun k' n' t' a b c => by
      obtain ⟨h1, h2, h3⟩ := HQ0.out k' n' t' a b c
      exact ⟨h1, h2, (HU.out _ h3).2⟩
    have e0 := S1.out.r.c0
    have e1 := S1.out.r.c1
    have e2 := S1.out.r.c2
    have f0 := S1.out.r.f 0
    have f1 := S1.out.r.f 1
    have f2 := S1.out.r.f 2
    have g0 := S1.out.v.c0
    have g1 := S1.out.v.c1
    have g2 := S1.out.v.c2
    have h0 := S1.out.v.f 0
    have h1 := S1.out.v.f 1
    have h2 := S1.out.v.f 2
    go_wp2_with fail
    refine (refMay_any 3 0 u _ HUM.out).mono ?_
    rintro e w3 ⟨rfl, hb3⟩
    have S3 := Lib.hid ((S1.out.set (.int .i64 3) (.int .i64 0) (.string u)).next hb3 (by have h9 := S1.out.size; simpa [World.setCell] using h9))
    clear hb3 e0 e1 e2 f0 f1 f2 g0 g1 g2 h0 h1 h2
    cases hm : mayB 3 0 u
    · have HNO : Hid (∀ (k n : Int) (t : ByteArray), mayB k n t = true → inI64 n → txtL k n t ≠ s.data.toList) := fun k' n' t' a b c => by
        obtain ⟨rfl, rfl, rfl⟩ := HQ.out k' n' t' a b c
        rw [hm] at a; cases a
      clear hm
      have e0 := S3.out.r.c0
      have e1 := S3.out.r.c1
      have e2 := S3.out.r.c2
      have f0 := S3.out.r.f 0
      have f1 := S3.out.r.f 1
      have f2 := S3.out.r.f 2
      have g0 := S3.out.v.c0
      have g1 := S3.out.v.c1
      have g2 := S3.out.v.c2
      have h0 := S3.out.v.f 0
      have h1 := S3.out.v.f 1
      have h2 := S3.out.v.f 2
      go_wp2
      refine bodyPost_ret (v := .tuple #[.agg #[.int .i64 0, .int .i64 0, .string ⟨#[]⟩], .int .i64 11]) ?_ rfl ⟨parse_no HNO.out, ?_⟩
      · rw [results_cell_tmp rfl]; go_simp
      · exact St.out S3.out _ _ _
    · have HM := Lib.hid hm
      clear hm
      have e0 := S3.out.r.c0
      have e1 := S3.out.r.c1
      have e2 := S3.out.r.c2
      have f0 := S3.out.r.f 0
      have f1 := S3.out.r.f 1
      have f2 := S3.out.r.f 2
      have g0 := S3.out.v.c0
      have g1 := S3.out.v.c1
      have g2 := S3.out.v.c2
      have h0 := S3.out.v.f 0
      have h1 := S3.out.v.f 1
      have h2 := S3.out.v.f 2
      go_wp2
      refine bodyPost_ret (v := .tuple #[.agg #[.int .i64 3, .int .i64 0, .string u], .int .i64 0]) ?_ rfl ⟨parse_hit HM.out (by unfold inI64; omega) HUM.out HT.out HQ.out, ?_⟩
      · rw [results_cell_tmp rfl]; go_simp
      · exact St.out S3.out _ _ _

theorem last_of {s : ByteArray} (h2 : 1 < s.size) (p : List UInt8) (h : p ++ [34] = (s.extract 1 s.size).data.toList) : s[s.size - 1].toNat = 34 := by
  rw [drop_to] at h
  have h1 : (s.data.toList.drop 1).getLast? = some 34 := by rw [← h]; simp
  have hl : s.data.toList.length = s.size := Array.length_toList
  rw [List.getLast?_drop, if_neg (by rw [hl]; omega), List.getLast?_eq_getElem?, hl] at h1
  rw [List.getElem?_eq_getElem (by rw [hl]; omega)] at h1
  have h3 : s.data.toList[s.size - 1]'(by rw [hl]; omega) = 34 := by injection h1
  have h4 : s[s.size - 1] = 34 := h3
  rw [h4]; rfl

set_option maxRecDepth 100000 in
set_option maxHeartbeats 4000000 in
theorem refParse_int (s : ByteArray) (w : World) (hs : s.size ≤ 20000) (hp : 0 < s.size) (n1 : s.data.toList ≠ [116, 114, 117, 101]) (n2 : s.data.toList ≠ [102, 97, 108, 115, 101]) (n64 : s[0].toNat ≠ 64) (n33 : s[0].toNat ≠ 33) (n58 : s[0].toNat ≠ 58) (n35 : s[0].toNat ≠ 35) (n34 : s[0].toNat ≠ 34) (h2 : 1 < s.size) :
    Calls Tryz.prog 57 #[.string s] w fun e w' => ParseEnds s.data.toList e ∧ Below w.heap.size w w' := by
  have hl := cons_of hp
  have st0 := st_new w (.int .i64 0) (.int .i64 0) (.string ⟨#[]⟩)
  have hp' : (0 : Int) < (s.size : Int) := by omega
  have q1 : (s.toList == [116, 114, 117, 101]) = false := by rw [beq_eq_false_iff_ne, ByteArray.toList_eq]; exact n1
  have q2 : (s.toList == [102, 97, 108, 115, 101]) = false := by rw [beq_eq_false_iff_ne, ByteArray.toList_eq]; exact n2
  have t64 : ((s[0].toNat : Int) == 64) = false := by rw [beq_eq_false_iff_ne]; omega
  have t33 : ((s[0].toNat : Int) == 33) = false := by rw [beq_eq_false_iff_ne]; omega
  have t58 : ((s[0].toNat : Int) == 58) = false := by rw [beq_eq_false_iff_ne]; omega
  have t35 : ((s[0].toNat : Int) == 35) = false := by rw [beq_eq_false_iff_ne]; omega
  have t1 : (1 : Int) < (s.size : Int) := by omega
  have t34 : ((s[0].toNat : Int) == 34) = false := by rw [beq_eq_false_iff_ne]; omega
  have HI : Hid (∀ (k' n' : Int) (t' : ByteArray), mayB k' n' t' = true → inI64 n' → txtL k' n' t' = s.data.toList → 1 = k' ∧ (⟨#[]⟩ : ByteArray) = t' ∧ s.data.toList = Lib.itoa n') := fun k' n' t' a b c => by
    have hh := heads_of a (c.trans hl)
    by_cases h116 : s[0].toNat = 116
    · obtain ⟨rfl, rfl, rfl⟩ := hh.t116 h116
      exact absurd c.symm n1
    by_cases h102 : s[0].toNat = 102
    · obtain ⟨rfl, rfl, rfl⟩ := hh.f102 h102
      exact absurd c.symm n2
    obtain ⟨h1, h2, h3⟩ := hh.i1 h116 h102 n64 n33 n58 n35 n34
    exact ⟨h1.symm, h2.symm, hl.trans h3⟩
  have ST0 := Lib.hid st0
  clear hl st0 n1 n2 n64 n33 n58 n35 n34
  go_enter Tryz.func57, Tryz.ntmps57
  go_wp2_with fail
  clear q1 q2 t64 t33 t58 t35 t34 t1
  refine (refNumber_any s _ (by omega)).mono ?_
  rintro e w1 ⟨⟨n, ok, rfl, hn, hy, hu⟩, hb1⟩
  have HN := Lib.hid hn
  have HY := Lib.hid hy
  have HU := Lib.hid hu
  have S1 := Lib.hid (ST0.out.next hb1 (by simp))
  clear hn hy hu hb1
  cases ok
  · have HNO : Hid (∀ (k n : Int) (t : ByteArray), mayB k n t = true → inI64 n → txtL k n t ≠ s.data.toList) := fun k' n' t' a b c => by
      have := (HU.out n' b (HI.out k' n' t' a b c).2.2).2
      cases this
    have e0 := S1.out.r.c0
    have e1 := S1.out.r.c1
    have e2 := S1.out.r.c2
    have f0 := S1.out.r.f 0
    have f1 := S1.out.r.f 1
    have f2 := S1.out.r.f 2
    have g0 := S1.out.v.c0
    have g1 := S1.out.v.c1
    have g2 := S1.out.v.c2
    have h0 := S1.out.v.f 0
    have h1 := S1.out.v.f 1
    have h2 := S1.out.v.f 2
    go_wp2
    refine bodyPost_ret (v := .tuple #[.agg #[.int .i64 0, .int .i64 0, .string ⟨#[]⟩], .int .i64 11]) ?_ rfl ⟨parse_no HNO.out, ?_⟩
    · rw [results_cell_tmp rfl]; go_simp
    · exact St.out (S1.out.set _ _ _) _ _ _
  · have HT : Hid (txtL 1 n ⟨#[]⟩ = s.data.toList) := (HY.out rfl).symm
    have HQ : Hid (∀ (k' n' : Int) (t' : ByteArray), mayB k' n' t' = true → inI64 n' → txtL k' n' t' = s.data.toList → 1 = k' ∧ n = n' ∧ (⟨#[]⟩ : ByteArray) = t') := fun k' n' t' a b c => by
      obtain ⟨h1, h2, h3⟩ := HI.out k' n' t' a b c
      exact ⟨h1, (HU.out n' b h3).1, h2⟩
    have e0 := S1.out.r.c0
    have e1 := S1.out.r.c1
    have e2 := S1.out.r.c2
    have f0 := S1.out.r.f 0
    have f1 := S1.out.r.f 1
    have f2 := S1.out.r.f 2
    have g0 := S1.out.v.c0
    have g1 := S1.out.v.c1
    have g2 := S1.out.v.c2
    have h0 := S1.out.v.f 0
    have h1 := S1.out.v.f 1
    have h2 := S1.out.v.f 2
    go_wp2_with fail
    refine (refMay_any 1 n ⟨#[]⟩ _ (by decide)).mono ?_
    rintro e w3 ⟨rfl, hb3⟩
    have S3 := Lib.hid ((S1.out.set (.int .i64 1) (.int .i64 n) (.string ⟨#[]⟩)).next hb3 (by have h9 := S1.out.size; simpa [World.setCell] using h9))
    clear hb3 e0 e1 e2 f0 f1 f2 g0 g1 g2 h0 h1 h2
    have HM : Hid (mayB 1 n ⟨#[]⟩ = true) := rfl
    rw [HM.out]
    have e0 := S3.out.r.c0
    have e1 := S3.out.r.c1
    have e2 := S3.out.r.c2
    have f0 := S3.out.r.f 0
    have f1 := S3.out.r.f 1
    have f2 := S3.out.r.f 2
    have g0 := S3.out.v.c0
    have g1 := S3.out.v.c1
    have g2 := S3.out.v.c2
    have h0 := S3.out.v.f 0
    have h1 := S3.out.v.f 1
    have h2 := S3.out.v.f 2
    go_wp2
    refine bodyPost_ret (v := .tuple #[.agg #[.int .i64 1, .int .i64 n, .string ⟨#[]⟩], .int .i64 0]) ?_ rfl ⟨parse_hit HM.out HN.out (by decide) HT.out HQ.out, ?_⟩
    · rw [results_cell_tmp rfl]; go_simp
    · exact St.out S3.out _ _ _

set_option maxRecDepth 100000 in
set_option maxHeartbeats 4000000 in
theorem refParse_one (s : ByteArray) (w : World) (hs : s.size ≤ 20000) (hp : 0 < s.size) (n1 : s.data.toList ≠ [116, 114, 117, 101]) (n2 : s.data.toList ≠ [102, 97, 108, 115, 101]) (n64 : s[0].toNat ≠ 64) (n33 : s[0].toNat ≠ 33) (n58 : s[0].toNat ≠ 58) (n35 : s[0].toNat ≠ 35) (hone : s.size = 1) :
    Calls Tryz.prog 57 #[.string s] w fun e w' => ParseEnds s.data.toList e ∧ Below w.heap.size w w' := by
  have hl := cons_of hp
  have st0 := st_new w (.int .i64 0) (.int .i64 0) (.string ⟨#[]⟩)
  have hp' : (0 : Int) < (s.size : Int) := by omega
  have q1 : (s.toList == [116, 114, 117, 101]) = false := by rw [beq_eq_false_iff_ne, ByteArray.toList_eq]; exact n1
  have q2 : (s.toList == [102, 97, 108, 115, 101]) = false := by rw [beq_eq_false_iff_ne, ByteArray.toList_eq]; exact n2
  have t64 : ((s[0].toNat : Int) == 64) = false := by rw [beq_eq_false_iff_ne]; omega
  have t33 : ((s[0].toNat : Int) == 33) = false := by rw [beq_eq_false_iff_ne]; omega
  have t58 : ((s[0].toNat : Int) == 58) = false := by rw [beq_eq_false_iff_ne]; omega
  have t35 : ((s[0].toNat : Int) == 35) = false := by rw [beq_eq_false_iff_ne]; omega
  have t1 : ¬ (1 : Int) < (s.size : Int) := by omega
  have hnil : (s.extract 1 s.size).data.toList = [] := by rw [drop_to]; exact drop_end s 1 (by omega)
  have HI : Hid (∀ (k' n' : Int) (t' : ByteArray), mayB k' n' t' = true → inI64 n' → txtL k' n' t' = s.data.toList → 1 = k' ∧ (⟨#[]⟩ : ByteArray) = t' ∧ s.data.toList = Lib.itoa n') := fun k' n' t' a b c => by
    have hh := heads_of a (c.trans hl)
    by_cases h116 : s[0].toNat = 116
    · obtain ⟨rfl, rfl, rfl⟩ := hh.t116 h116
      exact absurd c.symm n1
    by_cases h102 : s[0].toNat = 102
    · obtain ⟨rfl, rfl, rfl⟩ := hh.f102 h102
      exact absurd c.symm n2
    have n34 : s[0].toNat ≠ 34 := fun h34 => by
      obtain ⟨_, _, h3⟩ := hh.q34 h34
      rw [hnil] at h3; simp at h3
    obtain ⟨h1, h2, h3⟩ := hh.i1 h116 h102 n64 n33 n58 n35 n34
    exact ⟨h1.symm, h2.symm, hl.trans h3⟩
  have ST0 := Lib.hid st0
  clear hl st0 n1 n2 n64 n33 n58 n35 hone hnil
  go_enter Tryz.func57, Tryz.ntmps57
  go_wp2_with fail
  clear q1 q2 t64 t33 t58 t35 t1
  refine (refNumber_any s _ (by omega)).mono ?_
  rintro e w1 ⟨⟨n, ok, rfl, hn, hy, hu⟩, hb1⟩
  have HN := Lib.hid hn
  have HY := Lib.hid hy
  have HU := Lib.hid hu
  have S1 := Lib.hid (ST0.out.next hb1 (by simp))
  clear hn hy hu hb1
  cases ok
  · have HNO : Hid (∀ (k n : Int) (t : ByteArray), mayB k n t = true → inI64 n → txtL k n t ≠ s.data.toList) := fun k' n' t' a b c => by
      have := (HU.out n' b (HI.out k' n' t' a b c).2.2).2
      cases this
    have e0 := S1.out.r.c0
    have e1 := S1.out.r.c1
    have e2 := S1.out.r.c2
    have f0 := S1.out.r.f 0
    have f1 := S1.out.r.f 1
    have f2 := S1.out.r.f 2
    have g0 := S1.out.v.c0
    have g1 := S1.out.v.c1
    have g2 := S1.out.v.c2
    have h0 := S1.out.v.f 0
    have h1 := S1.out.v.f 1
    have h2 := S1.out.v.f 2
    go_wp2
    refine bodyPost_ret (v := .tuple #[.agg #[.int .i64 0, .int .i64 0, .string ⟨#[]⟩], .int .i64 11]) ?_ rfl ⟨parse_no HNO.out, ?_⟩
    · rw [results_cell_tmp rfl]; go_simp
    · exact St.out (S1.out.set _ _ _) _ _ _
  · have HT : Hid (txtL 1 n ⟨#[]⟩ = s.data.toList) := (HY.out rfl).symm
    have HQ : Hid (∀ (k' n' : Int) (t' : ByteArray), mayB k' n' t' = true → inI64 n' → txtL k' n' t' = s.data.toList → 1 = k' ∧ n = n' ∧ (⟨#[]⟩ : ByteArray) = t') := fun k' n' t' a b c => by
      obtain ⟨h1, h2, h3⟩ := HI.out k' n' t' a b c
      exact ⟨h1, (HU.out n' b h3).1, h2⟩
    have e0 := S1.out.r.c0
    have e1 := S1.out.r.c1
    have e2 := S1.out.r.c2
    have f0 := S1.out.r.f 0
    have f1 := S1.out.r.f 1
    have f2 := S1.out.r.f 2
    have g0 := S1.out.v.c0
    have g1 := S1.out.v.c1
    have g2 := S1.out.v.c2
    have h0 := S1.out.v.f 0
    have h1 := S1.out.v.f 1
    have h2 := S1.out.v.f 2
    go_wp2_with fail
    refine (refMay_any 1 n ⟨#[]⟩ _ (by decide)).mono ?_
    rintro e w3 ⟨rfl, hb3⟩
    have S3 := Lib.hid ((S1.out.set (.int .i64 1) (.int .i64 n) (.string ⟨#[]⟩)).next hb3 (by have h9 := S1.out.size; simpa [World.setCell] using h9))
    clear hb3 e0 e1 e2 f0 f1 f2 g0 g1 g2 h0 h1 h2
    have HM : Hid (mayB 1 n ⟨#[]⟩ = true) := rfl
    rw [HM.out]
    have e0 := S3.out.r.c0
    have e1 := S3.out.r.c1
    have e2 := S3.out.r.c2
    have f0 := S3.out.r.f 0
    have f1 := S3.out.r.f 1
    have f2 := S3.out.r.f 2
    have g0 := S3.out.v.c0
    have g1 := S3.out.v.c1
    have g2 := S3.out.v.c2
    have h0 := S3.out.v.f 0
    have h1 := S3.out.v.f 1
    have h2 := S3.out.v.f 2
    go_wp2
    refine bodyPost_ret (v := .tuple #[.agg #[.int .i64 1, .int .i64 n, .string ⟨#[]⟩], .int .i64 0]) ?_ rfl ⟨parse_hit HM.out HN.out (by decide) HT.out HQ.out, ?_⟩
    · rw [results_cell_tmp rfl]; go_simp
    · exact St.out S3.out _ _ _

set_option maxRecDepth 100000 in
set_option maxHeartbeats 4000000 in
theorem refParse_open (s : ByteArray) (w : World) (hs : s.size ≤ 20000) (hp : 0 < s.size) (n1 : s.data.toList ≠ [116, 114, 117, 101]) (n2 : s.data.toList ≠ [102, 97, 108, 115, 101]) (n64 : s[0].toNat ≠ 64) (n33 : s[0].toNat ≠ 33) (n58 : s[0].toNat ≠ 58) (n35 : s[0].toNat ≠ 35) (h34 : s[0].toNat = 34) (h2 : 1 < s.size) (nq : s[s.size - 1].toNat ≠ 34) :
    Calls Tryz.prog 57 #[.string s] w fun e w' => ParseEnds s.data.toList e ∧ Below w.heap.size w w' := by
  have hl := cons_of hp
  have st0 := st_new w (.int .i64 0) (.int .i64 0) (.string ⟨#[]⟩)
  have hp' : (0 : Int) < (s.size : Int) := by omega
  have q1 : (s.toList == [116, 114, 117, 101]) = false := by rw [beq_eq_false_iff_ne, ByteArray.toList_eq]; exact n1
  have q2 : (s.toList == [102, 97, 108, 115, 101]) = false := by rw [beq_eq_false_iff_ne, ByteArray.toList_eq]; exact n2
  have t64 : ((s[0].toNat : Int) == 64) = false := by rw [beq_eq_false_iff_ne]; omega
  have t33 : ((s[0].toNat : Int) == 33) = false := by rw [beq_eq_false_iff_ne]; omega
  have t58 : ((s[0].toNat : Int) == 58) = false := by rw [beq_eq_false_iff_ne]; omega
  have t35 : ((s[0].toNat : Int) == 35) = false := by rw [beq_eq_false_iff_ne]; omega
  have t34 : ((s[0].toNat : Int) == 34) = true := by rw [h34]; rfl
  have t1 : (1 : Int) < (s.size : Int) := by omega
  have hlast : ((s[s.size - 1].toNat : Int) == 34) = false := by rw [beq_eq_false_iff_ne]; omega
  have hend := last_of h2
  have HI : Hid (∀ (k' n' : Int) (t' : ByteArray), mayB k' n' t' = true → inI64 n' → txtL k' n' t' = s.data.toList → 1 = k' ∧ (⟨#[]⟩ : ByteArray) = t' ∧ s.data.toList = Lib.itoa n') := fun k' n' t' a b c => by
    have hh := heads_of a (c.trans hl)
    by_cases h116 : s[0].toNat = 116
    · obtain ⟨rfl, rfl, rfl⟩ := hh.t116 h116
      exact absurd c.symm n1
    by_cases h102 : s[0].toNat = 102
    · obtain ⟨rfl, rfl, rfl⟩ := hh.f102 h102
      exact absurd c.symm n2
    have n34 : s[0].toNat ≠ 34 := fun h34 => by
      obtain ⟨_, _, h3⟩ := hh.q34 h34
      exact nq (hend _ h3)
    obtain ⟨h1, h2, h3⟩ := hh.i1 h116 h102 n64 n33 n58 n35 n34
    exact ⟨h1.symm, h2.symm, hl.trans h3⟩
  have ST0 := Lib.hid st0
  clear hl st0 n1 n2 n64 n33 n58 n35 nq hend h34
  go_enter Tryz.func57, Tryz.ntmps57
  go_wp2_with fail
  clear q1 q2 t64 t33 t58 t35 t34 t1 hlast
  refine (refNumber_any s _ (by omega)).mono ?_
  rintro e w1 ⟨⟨n, ok, rfl, hn, hy, hu⟩, hb1⟩
  have HN := Lib.hid hn
  have HY := Lib.hid hy
  have HU := Lib.hid hu
  have S1 := Lib.hid (ST0.out.next hb1 (by simp))
  clear hn hy hu hb1
  cases ok
  · have HNO : Hid (∀ (k n : Int) (t : ByteArray), mayB k n t = true → inI64 n → txtL k n t ≠ s.data.toList) := fun k' n' t' a b c => by
      have := (HU.out n' b (HI.out k' n' t' a b c).2.2).2
      cases this
    have e0 := S1.out.r.c0
    have e1 := S1.out.r.c1
    have e2 := S1.out.r.c2
    have f0 := S1.out.r.f 0
    have f1 := S1.out.r.f 1
    have f2 := S1.out.r.f 2
    have g0 := S1.out.v.c0
    have g1 := S1.out.v.c1
    have g2 := S1.out.v.c2
    have h0 := S1.out.v.f 0
    have h1 := S1.out.v.f 1
    have h2 := S1.out.v.f 2
    go_wp2
    refine bodyPost_ret (v := .tuple #[.agg #[.int .i64 0, .int .i64 0, .string ⟨#[]⟩], .int .i64 11]) ?_ rfl ⟨parse_no HNO.out, ?_⟩
    · rw [results_cell_tmp rfl]; go_simp
    · exact St.out (S1.out.set _ _ _) _ _ _
  · have HT : Hid (txtL 1 n ⟨#[]⟩ = s.data.toList) := (HY.out rfl).symm
    have HQ : Hid (∀ (k' n' : Int) (t' : ByteArray), mayB k' n' t' = true → inI64 n' → txtL k' n' t' = s.data.toList → 1 = k' ∧ n = n' ∧ (⟨#[]⟩ : ByteArray) = t') := fun k' n' t' a b c => by
      obtain ⟨h1, h2, h3⟩ := HI.out k' n' t' a b c
      exact ⟨h1, (HU.out n' b h3).1, h2⟩
    have e0 := S1.out.r.c0
    have e1 := S1.out.r.c1
    have e2 := S1.out.r.c2
    have f0 := S1.out.r.f 0
    have f1 := S1.out.r.f 1
    have f2 := S1.out.r.f 2
    have g0 := S1.out.v.c0
    have g1 := S1.out.v.c1
    have g2 := S1.out.v.c2
    have h0 := S1.out.v.f 0
    have h1 := S1.out.v.f 1
    have h2 := S1.out.v.f 2
    go_wp2_with fail
    refine (refMay_any 1 n ⟨#[]⟩ _ (by decide)).mono ?_
    rintro e w3 ⟨rfl, hb3⟩
    have S3 := Lib.hid ((S1.out.set (.int .i64 1) (.int .i64 n) (.string ⟨#[]⟩)).next hb3 (by have h9 := S1.out.size; simpa [World.setCell] using h9))
    clear hb3 e0 e1 e2 f0 f1 f2 g0 g1 g2 h0 h1 h2
    have HM : Hid (mayB 1 n ⟨#[]⟩ = true) := rfl
    rw [HM.out]
    have e0 := S3.out.r.c0
    have e1 := S3.out.r.c1
    have e2 := S3.out.r.c2
    have f0 := S3.out.r.f 0
    have f1 := S3.out.r.f 1
    have f2 := S3.out.r.f 2
    have g0 := S3.out.v.c0
    have g1 := S3.out.v.c1
    have g2 := S3.out.v.c2
    have h0 := S3.out.v.f 0
    have h1 := S3.out.v.f 1
    have h2 := S3.out.v.f 2
    go_wp2
    refine bodyPost_ret (v := .tuple #[.agg #[.int .i64 1, .int .i64 n, .string ⟨#[]⟩], .int .i64 0]) ?_ rfl ⟨parse_hit HM.out HN.out (by decide) HT.out HQ.out, ?_⟩
    · rw [results_cell_tmp rfl]; go_simp
    · exact St.out S3.out _ _ _

set_option maxRecDepth 100000 in
set_option maxHeartbeats 4000000 in
theorem refParse_true (w : World) :
    Calls Tryz.prog 57 #[.string ⟨#[116, 114, 117, 101]⟩] w fun e w' => ParseEnds [116, 114, 117, 101] e ∧ Below w.heap.size w w' := by
  have HQ : Hid (∀ (k' n' : Int) (t' : ByteArray), mayB k' n' t' = true → inI64 n' → txtL k' n' t' = [116, 114, 117, 101] → 2 = k' ∧ 1 = n' ∧ (⟨#[]⟩ : ByteArray) = t') := fun k' n' t' a b c => by
    obtain ⟨h1, h2, h3⟩ := (heads_of a c).t116 rfl
    exact ⟨h1.symm, h2.symm, h3.symm⟩
  go_enter Tryz.func57, Tryz.ntmps57
  go_wp2
  refine bodyPost_ret (v := .tuple #[.agg #[.int .i64 2, .int .i64 1, .string ⟨#[]⟩], .int .i64 0]) ?_ rfl ⟨parse_hit (k := 2) (n := 1) (t := ⟨#[]⟩) rfl (by unfold inI64; omega) (by decide) rfl HQ.out, ?_⟩
  · rw [results_cell_tmp rfl]; go_simp
  · exact ((Below.refl _ _).alloc (Nat.le_refl _) _).alloc (by simp) _

set_option maxRecDepth 100000 in
set_option maxHeartbeats 4000000 in
theorem refParse_false (w : World) :
    Calls Tryz.prog 57 #[.string ⟨#[102, 97, 108, 115, 101]⟩] w fun e w' => ParseEnds [102, 97, 108, 115, 101] e ∧ Below w.heap.size w w' := by
  have HQ : Hid (∀ (k' n' : Int) (t' : ByteArray), mayB k' n' t' = true → inI64 n' → txtL k' n' t' = [102, 97, 108, 115, 101] → 2 = k' ∧ 0 = n' ∧ (⟨#[]⟩ : ByteArray) = t') := fun k' n' t' a b c => by
    obtain ⟨h1, h2, h3⟩ := (heads_of a c).f102 rfl
    exact ⟨h1.symm, h2.symm, h3.symm⟩
  go_enter Tryz.func57, Tryz.ntmps57
  go_wp2
  refine bodyPost_ret (v := .tuple #[.agg #[.int .i64 2, .int .i64 0, .string ⟨#[]⟩], .int .i64 0]) ?_ rfl ⟨parse_hit (k := 2) (n := 0) (t := ⟨#[]⟩) rfl (by unfold inI64; omega) (by decide) rfl HQ.out, ?_⟩
  · rw [results_cell_tmp rfl]; go_simp
  · exact ((Below.refl _ _).alloc (Nat.le_refl _) _).alloc (by simp) _

set_option maxRecDepth 100000 in
set_option maxHeartbeats 4000000 in
theorem refParse_nil (w : World) :
    Calls Tryz.prog 57 #[.string ⟨#[]⟩] w fun e w' => ParseEnds [] e ∧ Below w.heap.size w w' := by
  have ST0 := Lib.hid (st_new w (.int .i64 0) (.int .i64 0) (.string ⟨#[]⟩))
  go_enter Tryz.func57, Tryz.ntmps57
  go_wp2_with fail
  refine (refNumber_any ⟨#[]⟩ _ (by decide)).mono ?_
  rintro e w1 ⟨⟨n, ok, rfl, hn, hy, hu⟩, hb1⟩
  have HNO : Hid (∀ (k n : Int) (t : ByteArray), mayB k n t = true → inI64 n → txtL k n t ≠ []) := fun k n t a _ => txt_ne a
  have S1 := Lib.hid (ST0.out.next hb1 (by simp))
  cases ok
  · clear hn hy hu hb1
    have e0 := S1.out.r.c0
    have e1 := S1.out.r.c1
    have e2 := S1.out.r.c2
    have f0 := S1.out.r.f 0
    have f1 := S1.out.r.f 1
    have f2 := S1.out.r.f 2
    have g0 := S1.out.v.c0
    have g1 := S1.out.v.c1
    have g2 := S1.out.v.c2
    have h0 := S1.out.v.f 0
    have h1 := S1.out.v.f 1
    have h2 := S1.out.v.f 2
    go_wp2
    refine bodyPost_ret (v := .tuple #[.agg #[.int .i64 0, .int .i64 0, .string ⟨#[]⟩], .int .i64 11]) ?_ rfl ⟨parse_no HNO.out, ?_⟩
    · rw [results_cell_tmp rfl]; go_simp
    · exact St.out (S1.out.set _ _ _) _ _ _
  · have h9 : [] = Lib.itoa n := hy rfl
    exact absurd h9.symm (HNO.out 1 n ⟨#[]⟩ rfl hn)

theorem refParse_any (s : ByteArray) (w : World) (hs : s.size ≤ 20000) :
    Calls Tryz.prog 57 #[.string s] w fun e w' => ParseEnds s.data.toList e ∧ Below w.heap.size w w' := by
  by_cases h0 : s.size = 0
  · obtain rfl := size_zero h0
    exact refParse_nil w
  have hp : 0 < s.size := by omega
  by_cases n1 : s.data.toList = [116, 114, 117, 101]
  · obtain rfl : s = ⟨#[116, 114, 117, 101]⟩ := ByteArray.ext (Array.toList_inj.1 n1)
    exact refParse_true w
  by_cases n2 : s.data.toList = [102, 97, 108, 115, 101]
  · obtain rfl : s = ⟨#[102, 97, 108, 115, 101]⟩ := ByteArray.ext (Array.toList_inj.1 n2)
    exact refParse_false w
  by_cases n64 : s[0].toNat = 64
  · exact refParse_ref s w hs hp n64
  by_cases n33 : s[0].toNat = 33
  · exact refParse_time s w hs hp n33
  by_cases n58 : s[0].toNat = 58
  · exact refParse_word s w hs hp n58
  by_cases n35 : s[0].toNat = 35
  · exact refParse_bytes s w hs hp n35
  by_cases h2 : s.size = 1
  · exact refParse_one s w hs hp n1 n2 n64 n33 n58 n35 h2
  have h2' : 1 < s.size := by omega
  by_cases n34 : s[0].toNat = 34
  · by_cases nq : s[s.size - 1].toNat = 34
    · exact refParse_text s w hs hp n34 h2' nq
    · exact refParse_open s w hs hp n1 n2 n64 n33 n58 n35 n34 h2' nq
  · exact refParse_int s w hs hp n1 n2 n64 n33 n58 n35 n34 h2'

end Go.Proofs.YthbighnkohjfnaaGreatDoor
