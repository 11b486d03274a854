/-
  CONTRACTS: the class of a name's bytes; with how many a text begins; the document's in.
-/
import Derived.Test.YthdjlaombbeagaaTNLeaf
namespace Go.Proofs.Ythdjlaombbeagaa
open Go.RowKit

/-- where the closures of a name's class stand -/
structure NmAt (W : World) (Bc Bs b1 b2 b3 b4 b5 : Nat) : Prop where
  c : W.cell? ⟨Bc, 0, none⟩ = some (.slice (some ⟨Bs, 0, none⟩) 3 3)
  f0 : W.cell? ⟨Bs, 0, none⟩ = some (.func (.func 13) #[] #[.pointer (some ⟨b1, 0, none⟩), .pointer (some ⟨b2, 0, none⟩)])
  f1 : W.cell? ⟨Bs, 1, none⟩ = some (.func (.func 13) #[] #[.pointer (some ⟨b3, 0, none⟩), .pointer (some ⟨b4, 0, none⟩)])
  f2 : W.cell? ⟨Bs, 2, none⟩ = some (.func (.func 15) #[] #[.pointer (some ⟨b5, 0, none⟩)])
  p1 : W.cell? ⟨b1, 0, none⟩ = some (.int .u8 97)
  p2 : W.cell? ⟨b2, 0, none⟩ = some (.int .u8 122)
  p3 : W.cell? ⟨b3, 0, none⟩ = some (.int .u8 48)
  p4 : W.cell? ⟨b4, 0, none⟩ = some (.int .u8 57)
  p5 : W.cell? ⟨b5, 0, none⟩ = some (.string ⟨#[63, 95, 43, 45, 42, 47, 60, 62, 61, 33, 46, 37, 38]⟩)
/-- the first k classes -/
def clsK (c : UInt8) : Nat → Bool
  | 0 => lowC c
  | 1 => digC c
  | _ => sgs.contains c
set_option maxRecDepth 100000 in
set_option maxHeartbeats 1000000 in
theorem either1_any (Bc Bs b1 b2 b3 b4 b5 : Nat) (c : UInt8) (w : World) (h : NmAt w Bc Bs b1 b2 b3 b4 b5) :
    Calls Try.prog 14 #[.int .u8 (c.toNat : Int), .pointer (some ⟨Bc, 0, none⟩)] w fun e w' => e = .returned (.bool (clsC c)) ∧ w = w' := by
  obtain ⟨hc, f0, f1, f2, p1, p2, p3, p4, p5⟩ := h
  have H1 := Lib.hid (betw1_any 97 122 c b1 b2 w p1 p2)
  have H2 := Lib.hid (betw1_any 48 57 c b3 b4 w p3 p4)
  have H3 := Lib.hid (oneOf1_any ⟨#[63, 95, 43, 45, 42, 47, 60, 62, 61, 33, 46, 37, 38]⟩ c b5 w p5)
  clear p1 p2 p3 p4 p5
  have HC : Hid (clsC c = (lowC c || (digC c || sgs.contains c))) := rfl
  obtain ⟨r1, hr1⟩ : ∃ r, lowC c = r := ⟨_, rfl⟩
  obtain ⟨r2, hr2⟩ : ∃ r, digC c = r := ⟨_, rfl⟩
  obtain ⟨r3, hr3⟩ : ∃ r, sgs.contains c = r := ⟨_, rfl⟩
  have K1 : Hid (Calls Try.prog 13 #[.int .u8 (c.toNat : Int), .pointer (some ⟨b1, 0, none⟩), .pointer (some ⟨b2, 0, none⟩)] w fun e w' => e = .returned (.bool r1) ∧ w = w') := by rw [← hr1]; exact H1.out
  have K2 : Hid (Calls Try.prog 13 #[.int .u8 (c.toNat : Int), .pointer (some ⟨b3, 0, none⟩), .pointer (some ⟨b4, 0, none⟩)] w fun e w' => e = .returned (.bool r2) ∧ w = w') := by rw [← hr2]; exact H2.out
  have K3 : Hid (Calls Try.prog 15 #[.int .u8 (c.toNat : Int), .pointer (some ⟨b5, 0, none⟩)] w fun e w' => e = .returned (.bool r3) ∧ w = w') := by rw [← hr3]; exact H3.out
  rw [hr1, hr2, hr3] at HC
  clear hr1 hr2 hr3 H1 H2 H3
  go_enter Try.func14, Try.ntmps14
  go_wp2
  go_loopg [5, 8] 3 (fun g _ x8 wr => ∃ k : Nat, k + g = 3 ∧ x8 = .int .i64 k ∧ wr = w ∧ Hid ((0 < k → r1 = false) ∧ (1 < k → r2 = false) ∧ (2 < k → r3 = false)))
  case atStart => exact ⟨0, by omega, rfl, rfl, fun h => by omega, fun h => by omega, fun h => by omega⟩
  case round =>
    obtain ⟨k, hk, rfl, rfl, HF⟩ := hrel
    rcases (by omega : k = 0 ∨ k = 1 ∨ k = 2 ∨ k = 3) with rfl | rfl | rfl | rfl
    · obtain rfl : gk = 2 + 1 := by omega
      go_wp2_with fail
      refine K1.out.mono ?_
      rintro e w' ⟨rfl, rfl⟩
      cases r1 with
      | true =>
        go_wp2
        go_ret
        exact ⟨by rw [HC.out]; rfl, rfl⟩
      | false =>
        go_wp2
        go_roundg 2
        case measure => omega
        case rel => exact ⟨1, rfl, rfl, rfl, by intros; trivial, by intros; omega, by intros; omega⟩
    · obtain rfl : gk = 1 + 1 := by omega
      obtain rfl := HF.out.1 (by decide)
      go_wp2_with fail
      refine K2.out.mono ?_
      rintro e w' ⟨rfl, rfl⟩
      cases r2 with
      | true =>
        go_wp2
        go_ret
        exact ⟨by rw [HC.out]; rfl, rfl⟩
      | false =>
        go_wp2
        go_roundg 1
        case measure => omega
        case rel => exact ⟨2, rfl, rfl, rfl, by intros; trivial, by intros; trivial, by intros; omega⟩
    · obtain rfl : gk = 0 + 1 := by omega
      obtain rfl := HF.out.1 (by decide)
      obtain rfl := HF.out.2.1 (by decide)
      go_wp2_with fail
      refine K3.out.mono ?_
      rintro e w' ⟨rfl, rfl⟩
      cases r3 with
      | true =>
        go_wp2
        go_ret
        exact ⟨by rw [HC.out]; rfl, rfl⟩
      | false =>
        go_wp2
        go_roundg 0
        case measure => omega
        case rel => exact ⟨3, rfl, rfl, rfl, by intros; trivial, by intros; trivial, by intros; trivial⟩
    · obtain rfl := HF.out.1 (by decide)
      obtain rfl := HF.out.2.1 (by decide)
      obtain rfl := HF.out.2.2 (by decide)
      go_wp2
      go_ret
      exact ⟨by rw [HC.out]; rfl, rfl⟩

set_option maxRecDepth 100000 in
set_option maxHeartbeats 1000000 in
theorem begins_any' (Bc Bs b1 b2 b3 b4 b5 : Nat) (s : ByteArray) (w : World) (h : NmAt w Bc Bs b1 b2 b3 b4 b5) (hs : s.size ≤ 100000) :
    Calls Try.prog 11 #[.func (.func 14) #[] #[.pointer (some ⟨Bc, 0, none⟩)], .string s] w fun e w' => e = .returned (.int .i64 (beg s.data.toList : Int)) ∧ w = w' := by
  have HN := Lib.hid h
  clear h
  go_enter Try.func11, Try.ntmps11
  go_wp2
  go_loopg [5] s.size (fun g x wr => ∃ k : Nat, k + g = s.size ∧ x = .int .i64 k ∧ wr = w ∧ Hid (∀ (j : Nat) d, j < k → s.data.toList[j]? = some d → clsC d = true))
  case atStart => exact ⟨0, by omega, rfl, rfl, fun j d hj => by omega⟩
  case round =>
    obtain ⟨k, hk, rfl, rfl, HF⟩ := hrel
    cases gk with
    | zero =>
      have hks : ¬ ((k : Int) < (s.size : Int)) := by omega
      have HB : Hid (beg s.data.toList = k) := by
        have hl : s.data.toList.length = s.size := by simp
        have := (beg_all s.data.toList).2 fun j d hd => HF.out j d (by have := (List.getElem?_eq_some_iff.1 hd).1; omega) hd
        show _ = _
        omega
      go_wp2
      go_ret
      exact ⟨by rw [HB.out]; rfl, rfl⟩
    | succ g =>
      have hki : (k : Int) < (s.size : Int) := by omega
      have hkn : k < s.size := by omega
      have HD : Hid (s.data.toList[k]? = some s[k]) := by
        show _ = _
        rw [List.getElem?_eq_getElem (by simpa using hkn)]; rfl
      have HK := Lib.hid (either1_any Bc Bs b1 b2 b3 b4 b5 s[k] wr HN.out)
      obtain ⟨d, hd⟩ : ∃ d, s[k] = d := ⟨_, rfl⟩
      obtain ⟨r, hr⟩ : ∃ r, clsC s[k] = r := ⟨_, rfl⟩
      rw [hr] at HK
      have HR := Lib.hid hr
      clear hr hd
      go_wp2_with fail
      refine HK.out.mono ?_
      rintro e w' ⟨rfl, rfl⟩
      cases r with
      | true =>
        go_wp2
        go_roundg g
        case measure => omega
        case rel =>
          refine ⟨k + 1, by omega, by go_num, rfl, fun j d hj hd => ?_⟩
          by_cases e : j = k
          · subst e
            rw [HD.out] at hd
            rw [← Option.some.inj hd]; exact HR.out
          · exact HF.out j d (by omega) hd
      | false =>
        have HB : Hid (beg s.data.toList = k) := beg_step _ k s[k] HF.out HD.out HR.out
        go_wp2
        go_ret
        exact ⟨by rw [HB.out]; rfl, rfl⟩

set_option maxRecDepth 100000 in
set_option maxHeartbeats 1000000 in
theorem refIn_any (s : ByteArray) (c : UInt8) (w : World) (hs : s.size ≤ 100000) :
    Calls Try.prog 12 #[.string s, .int .u8 (c.toNat : Int)] w fun e w' => e = .returned (.bool (s.data.toList.contains c)) ∧ w = w' := by
  obtain ⟨r, hr⟩ : ∃ r, s.data.toList.contains c = r := ⟨_, rfl⟩
  rw [hr]
  have HR := Lib.hid hr
  clear hr
  go_enter Try.func12, Try.ntmps12
  go_wp2
  go_loopg [5] s.size (fun g x wr => ∃ k : Nat, k + g = s.size ∧ x = .int .i64 k ∧ wr = w ∧ Hid (∀ (j : Nat) d, j < k → s.data.toList[j]? = some d → d ≠ c))
  case atStart => exact ⟨0, by omega, rfl, rfl, fun j d hj => by omega⟩
  case round =>
    obtain ⟨k, hk, rfl, rfl, HF⟩ := hrel
    cases gk with
    | zero =>
      have hks : ¬ ((k : Int) < (s.size : Int)) := by omega
      have HB : Hid (r = false) := by
        show _ = _
        rw [← HR.out]
        rw [← Bool.not_eq_true]
        intro hc
        have hm : c ∈ s.data.toList := by simpa using hc
        obtain ⟨j, hj, rfl⟩ := List.mem_iff_getElem.1 hm
        have hl : s.data.toList.length = s.size := by simp
        exact HF.out j _ (by omega) (List.getElem?_eq_getElem hj) rfl
      go_wp2
      go_ret
      exact ⟨by rw [HB.out]; rfl, rfl⟩
    | succ g =>
      have hki : (k : Int) < (s.size : Int) := by omega
      have hkn : k < s.size := by omega
      have HD : Hid (s.data.toList[k]? = some s[k]) := by
        show _ = _
        rw [List.getElem?_eq_getElem (by simpa using hkn)]; rfl
      by_cases he : s[k] = c
      · have hei : ((s[k].toNat : Int) == (c.toNat : Int)) = true := by rw [he]; simp
        have HB : Hid (r = true) := by
          show _ = _
          rw [← HR.out]
          have hm : c ∈ s.data.toList := by
            rw [← he]
            exact List.mem_of_getElem? HD.out
          simpa using hm
        clear he
        go_wp2
        go_ret
        exact ⟨by rw [HB.out]; rfl, rfl⟩
      · have hei : ((s[k].toNat : Int) == (c.toNat : Int)) = false := by
          rw [beq_eq_false_iff_ne]
          intro h
          exact he (UInt8.toNat_inj.1 (by omega))
        have HE := Lib.hid he
        clear he
        go_wp2
        go_roundg g
        case measure => omega
        case rel =>
          refine ⟨k + 1, by omega, by go_num, rfl, fun j d hj hd => ?_⟩
          by_cases e : j = k
          · subst e
            rw [HD.out] at hd
            rw [← Option.some.inj hd]; exact HE.out
          · exact HF.out j d (by omega) hd
end Go.Proofs.Ythdjlaombbeagaa
