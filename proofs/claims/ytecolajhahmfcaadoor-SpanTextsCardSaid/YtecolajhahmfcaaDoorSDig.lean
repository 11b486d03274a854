/-
  CONTRACTS of the document's answer: Digits (as in RefTxt), and a span's end, a set's text.
-/
import Derived.Test.YtecolajhahmfcaaDoorSText
import Derived.Test.YtecolajhahmfcaaDoorSRefSet
namespace Go.Proofs.YtecolajhahmfcaaDoor
open Go.RowKit Go.Shelf

theorem size_mk (l : List UInt8) : (⟨l.toArray⟩ : ByteArray).size = l.length := by simp [ByteArray.size]
theorem itoa_len (x : Int) (h0 : -9223372036854775808 ≤ x) (h1 : x ≤ 9223372036854775807) : (Lib.itoa x).length ≤ 1000 := Nat.le_trans (Lib.itoa_length_le x h0 h1) (by decide)
theorem decDigits_snoc {u : Nat} (h : ¬ u < 10) : Lib.decDigits u = Lib.decDigits (u / 10) ++ [UInt8.ofNat (48 + u % 10)] := by rw [Lib.decDigits, dif_neg h]

/-- What holds between two rounds of Digits. -/
def DigInv (N i u : Nat) (l : List UInt8) : Prop := u = N / 10 ^ i ∧ ((i = 0 ∧ l = []) ∨ (0 < i ∧ l ≠ [] ∧ (if u = 0 then l = Lib.decDigits N else Lib.decDigits u ++ l = Lib.decDigits N)))
theorem digInv_step {N i u : Nat} {l : List UInt8} (h : DigInv N i u l) (hu : i = 0 ∨ 0 < u) : DigInv N (i + 1) (u / 10) (UInt8.ofNat (48 + u % 10) :: l) := by
  obtain ⟨h1, h2⟩ := h
  refine ⟨by rw [h1, Nat.pow_succ, Nat.div_div_eq_div_mul], .inr ⟨by omega, by simp, ?_⟩⟩
  have hd : (if u / 10 = 0 then [UInt8.ofNat (48 + u % 10)] = Lib.decDigits u else Lib.decDigits (u / 10) ++ [UInt8.ofNat (48 + u % 10)] = Lib.decDigits u) := by
    by_cases hs : u < 10
    · rw [if_pos (by omega), Lib.decDigits_one hs, Nat.mod_eq_of_lt hs]
    · rw [if_neg (by omega), decDigits_snoc hs]
  have hl : Lib.decDigits u ++ l = Lib.decDigits N := by
    rcases h2 with ⟨rfl, rfl⟩ | ⟨hi, _, h3⟩
    · rw [List.append_nil, h1]; simp
    · have : u ≠ 0 := by omega
      rwa [if_neg this] at h3
  by_cases hz : u / 10 = 0
  · rw [if_pos hz] at hd ⊢
    rw [← hl, ← hd]; rfl
  · rw [if_neg hz] at hd ⊢
    rw [← hl, ← hd]; simp
theorem digInv_end {N i : Nat} {l : List UInt8} (h : DigInv N i 0 l) (hi : 0 < i) : l = Lib.decDigits N := by
  rcases h.2 with ⟨h0, _⟩ | ⟨_, _, h3⟩
  · omega
  · simpa using h3

theorem one_byte (W : World) (d : Nat) (x : Int) (hx : x = (UInt8.ofNat d).toNat) : (convert 36 9 (.slice (some ⟨W.heap.size, 0, none⟩) 1 1)).run Tryd.prog (W.alloc (.cells #[.int .u8 x] 5)) = .ok (.string ⟨#[UInt8.ofNat d]⟩) (W.alloc (.cells #[.int .u8 x] 5)) := by
  refine run_convert_bytes_back _ _ _ _ ⟨W.heap.size, 0, none⟩ 1 [UInt8.ofNat d] Tryd.underlying36 Tryd.underlying5 Tryd.underlying9 (fun j hj => ?_)
  have : j = 0 := by simpa using hj
  subst this
  rw [hx]
  have h := cell_one_new W (.int .u8 (UInt8.ofNat d).toNat) 5 0 _ rfl
  exact h
theorem dig_nat (u : Nat) : (48 + (u : Int) % 10) = (UInt8.ofNat (48 + u % 10)).toNat := by
  have : (UInt8.ofNat (48 + u % 10)).toNat = 48 + u % 10 := by rw [UInt8.toNat_ofNat']; omega
  rw [this]; omega
theorem cat_one (c : UInt8) (r : ByteArray) : ((⟨#[c]⟩ : ByteArray) ++ r).data.toList = c :: r.data.toList := by simp
theorem cat_one_size (c : UInt8) (r : ByteArray) : ((⟨#[c]⟩ : ByteArray) ++ r).size = r.size + 1 := by
  have h := congrArg List.length (cat_one c r)
  rw [List.length_cons] at h
  exact h
theorem digInv_lt {N i u : Nat} {l : List UInt8} (hN : N ≤ 9223372036854775807) (h : DigInv N i u l) (hu : 0 < u) : i < 20 := by
  rcases Nat.lt_or_ge i 20 with h2 | h2
  · exact h2
  · have h3 : 10 ^ 20 ≤ 10 ^ i := Nat.pow_le_pow_right (by decide) h2
    have h4 : N / 10 ^ i = 0 := Nat.div_eq_of_lt (by have : (10 : Nat) ^ 20 = 100000000000000000000 := by decide
                                                     omega)
    rw [h.1, h4] at hu
    omega

set_option maxHeartbeats 2000000 in
set_option maxRecDepth 100000 in
theorem refDigits_pos (N : Nat) (h1 : N ≤ 9223372036854775807) (w : World) : Calls Tryd.prog 21 #[.int .i64 N] w fun e w' => e = .returned (.string ⟨(Lib.decDigits N).toArray⟩) ∧ Below w.heap.size w w' := by
  have hn1 : ((N : Int) == -9223372036854775808) = false := by rw [beq_eq_false_iff_ne]; omega
  have hn2 : ¬ ((N : Int) < 0) := by omega
  go_enter Tryd.func21, Tryd.ntmps21
  go_wp2_with fail
  clear hn1 hn2
  go_loopg [0, 3, 4] 20 (fun g x y z wr => ∃ (u i : Nat) (r : ByteArray), x = .int .i64 u ∧ y = .string r ∧ z = .int .i64 i ∧ i + g = 20 ∧ u ≤ N ∧ r.size = i ∧ Hid (DigInv N i u r.data.toList) ∧ Below w.heap.size w wr)
  case atStart => exact ⟨N, 0, ⟨#[]⟩, rfl, rfl, rfl, rfl, Nat.le_refl _, rfl, ⟨by simp, .inl ⟨rfl, rfl⟩⟩, Below.refl _ _⟩
  case round =>
    obtain ⟨u, i, r, rfl, rfl, rfl, hi, hu, hrs, HI, hB⟩ := hrel
    have HB := Lib.hid hB
    clear hB
    by_cases hu0 : 0 < u
    · have hI2 := digInv_step HI.out (.inr hu0)
      have hi20 := digInv_lt h1 HI.out hu0
      have hi20' : (i : Int) < 20 := by omega
      have hc := one_byte wr (48 + u % 10) (48 + (u : Int) % 10) (dig_nat u)
      have hup : (0 : Int) < (u : Int) := by omega
      obtain ⟨d, hd⟩ : ∃ d : UInt8, UInt8.ofNat (48 + u % 10) = d := ⟨_, rfl⟩
      rw [hd] at hI2 hc
      have HI2 := Lib.hid hI2
      have hcs := cat_one_size d r
      have hcm : ((⟨#[d]⟩ : ByteArray) ++ r).size ≤ maxLen := by rw [hcs]; unfold maxLen; omega
      clear hd hI2
      go_wp2_with fail
      go_roundg (gk - 1)
      case rel => exact ⟨u / 10, i + 1, ⟨#[d]⟩ ++ r, by go_num, rfl, by go_num, by omega, by omega, by rw [hcs]; omega, by rw [cat_one]; exact HI2, HB.out.alloc HB.out.size _⟩
      case measure => omega
    · obtain rfl : u = 0 := by omega
      by_cases hi0 : i = 0
      · subst hi0
        have hr0 : r.data.toList = [] := by
          rcases HI.out.2 with ⟨_, h⟩ | ⟨h, _⟩
          · exact h
          · omega
        have hre : r.toList = [] := by rw [ByteArray.toList_eq]; exact hr0
        have HI2 := Lib.hid (digInv_step HI.out (.inl rfl))
        have hc : (convert 36 9 (.slice (some ⟨wr.heap.size, 0, none⟩) 1 1)).run Tryd.prog (wr.alloc (.cells #[.int .u8 48] 5)) = .ok (.string ⟨#[48]⟩) (wr.alloc (.cells #[.int .u8 48] 5)) := one_byte wr 48 48 rfl
        have hcs := cat_one_size 48 r
        have hcm : ((⟨#[48]⟩ : ByteArray) ++ r).size ≤ maxLen := by rw [hcs]; unfold maxLen; omega
        have HR0 := Lib.hid hr0
        clear hr0
        go_wp2_with fail
        go_roundg (gk - 1)
        case rel => exact ⟨0, 1, ⟨#[48]⟩ ++ r, rfl, rfl, rfl, by omega, by omega, by rw [hcs]; omega, by rw [cat_one]; exact HI2, HB.out.alloc HB.out.size _⟩
        case measure => omega
      · have HD := Lib.hid (digInv_end HI.out (by omega))
        have hr1 : r.data.toList ≠ [] := by
          rcases HI.out.2 with ⟨h, _⟩ | ⟨_, h, _⟩
          · omega
          · exact h
        have hre : r.toList.isEmpty = false := by rw [ByteArray.toList_eq]; simpa using hr1
        have hre2 : ¬ r.toList = [] := by rw [ByteArray.toList_eq]; exact hr1
        have hrr : (⟨(Lib.decDigits N).toArray⟩ : ByteArray) = r := ByteArray.ext (by rw [← HD.out])
        have HRR := Lib.hid hrr
        clear hr1 hrr
        go_wp2
        all_goals go_ret
        all_goals exact ⟨by rw [HRR.out]; rfl, HB.out⟩

theorem itoa_low : Lib.itoa (-9223372036854775808) = [45, 57, 50, 50, 51, 51, 55, 50, 48, 51, 54, 56, 53, 52, 55, 55, 53, 56, 48, 56] := by
  simp [Lib.itoa, Lib.decDigits]
set_option maxHeartbeats 1000000 in
set_option maxRecDepth 100000 in
theorem refDigits_any (n : Int) (h0 : -9223372036854775808 ≤ n) (h1 : n ≤ 9223372036854775807) (w : World) : Calls Tryd.prog 21 #[.int .i64 n] w fun e w' => e = .returned (.string ⟨(Lib.itoa n).toArray⟩) ∧ Below w.heap.size w w' := by
  by_cases hn : n < 0
  · obtain ⟨m, rfl⟩ : ∃ m : Nat, n = -(m : Int) := ⟨n.natAbs, by omega⟩
    by_cases hm : m = 9223372036854775808
    · subst hm
      have HL := Lib.hid itoa_low
      go_enter Tryd.func21, Tryd.ntmps21
      go_wp2
      go_ret
      exact ⟨by rw [show -((9223372036854775808 : Nat) : Int) = -9223372036854775808 from rfl, HL.out]; rfl, Below.refl _ _⟩
    · have hn1 : ((-(m : Int)) == -9223372036854775808) = false := by rw [beq_eq_false_iff_ne]; omega
      have hi : Hid (Lib.itoa (-(m : Int)) = 45 :: Lib.decDigits m) := Lib.itoa_neg m (by omega)
      have hl : (Lib.decDigits m).length ≤ 1000 := by
        have := itoa_len (m : Int) (by omega) (by omega)
        rwa [Lib.itoa_nonneg] at this
      obtain ⟨r, hr⟩ : ∃ r : ByteArray, (⟨(Lib.decDigits m).toArray⟩ : ByteArray) = r := ⟨_, rfl⟩
      have hrs : r.size ≤ 1000 := by rw [← hr, size_mk]; exact hl
      have hcs := cat_one_size 45 r
      have hcm : ((⟨#[45]⟩ : ByteArray) ++ r).size ≤ maxLen := by rw [hcs]; unfold maxLen; omega
      have hC := fun W => refDigits_pos m (by omega) W
      rw [hr] at hC
      have hx : (⟨(Lib.itoa (-(m : Int))).toArray⟩ : ByteArray) = ⟨#[45]⟩ ++ r := by
        rw [hi.out, ← hr]
        apply ByteArray.ext
        apply Array.toList_inj.1
        simp
      have HX := Lib.hid hx
      have HC := Lib.hid hC
      clear hr hx hi hl hC
      go_enter Tryd.func21, Tryd.ntmps21
      go_wp2_with fail
      refine (HC.out _).mono ?_
      rintro e w1 ⟨rfl, hb⟩
      go_wp2
      go_ret
      exact ⟨by rw [HX.out]; rfl, hb⟩
  · obtain ⟨m, rfl⟩ : ∃ m : Nat, n = (m : Int) := ⟨n.toNat, by omega⟩
    rw [Lib.itoa_nonneg]
    exact refDigits_pos m (by omega) w


set_option maxRecDepth 100000 in
theorem refEnd_any (x : Int) (hx : minT ≤ x ∧ x ≤ maxT) (w : World) : Calls Tryd.prog 14 #[.int .i64 x] w fun e w' => e = .returned (.string ⟨(endT x).toArray⟩) ∧ Below w.heap.size w w' := by
  by_cases h1 : x = minT
  · subst h1
    go_enter Tryd.func14, Tryd.ntmps14
    unfold minT
    go_wp2
    go_ret
    exact ⟨rfl, Below.refl _ _⟩
  · by_cases h2 : x = maxT
    · subst h2
      clear h1
      go_enter Tryd.func14, Tryd.ntmps14
      unfold maxT
      go_wp2
      go_ret
      exact ⟨rfl, Below.refl _ _⟩
    · have he : endT x = Lib.itoa x := by unfold endT; rw [if_neg h1, if_neg h2]
      rw [he]
      have q1 : (x == -9223372036854775808) = false := by rw [beq_eq_false_iff_ne]; exact h1
      have q2 : (x == 9223372036854775807) = false := by rw [beq_eq_false_iff_ne]; exact h2
      have HC := Lib.hid (fun w => refDigits_any x hx.1 hx.2 w)
      clear he h1 h2 hx
      go_enter Tryd.func14, Tryd.ntmps14
      go_wp2_with fail
      refine (HC.out _).mono ?_
      rintro e w1 ⟨rfl, hb⟩
      go_wp2
      go_ret
      exact ⟨rfl, hb⟩
end Go.Proofs.YtecolajhahmfcaaDoor
