/-
  CONTRACTS: whether rows are as long, rise; whether a relation may be (the program's).
-/
import Derived.Test.YtofmfainhflmmaaZIdx
import Derived.Test.YtofmfainhflmmaaZComp
namespace Go.Proofs.Ytofmfainhflmmaa
open Go.RowKit

/-- is each as long? -/
def longB (n : Nat) (R : List Rw) : Bool := R.all fun r => decide (r.l.length = n)
theorem longB_no {n j : Nat} {R : List Rw} {r : Rw} (hr : R[j]? = some r) (h : r.l.length ≠ n) : longB n R = false := by
  unfold longB
  rw [List.all_eq_false]
  exact ⟨r, List.mem_of_getElem? hr, by simp [h]⟩
theorem longB_yes {n : Nat} {R : List Rw} (h : ∀ j (r : Rw), j < R.length → R[j]? = some r → r.l.length = n) : longB n R = true := by
  unfold longB
  rw [List.all_eq_true]
  intro r hr
  obtain ⟨j, hj⟩ := List.getElem?_of_mem hr
  simpa using h j r (List.getElem?_eq_some_iff.1 hj).1 hj
theorem SlR.at_ {W : World} {B : Nat} {A : Option Addr} {R : List Rw} (h : SlR W B A R) {j : Nat} (hj : j < R.length) : ∃ b o r, A = some ⟨b, o, none⟩ ∧ b < B ∧ R[j]? = some r ∧ W.cell? ⟨b, o + j, none⟩ = some (.slice r.A r.l.length r.c) ∧ RwOk W B r := by
  obtain ⟨b, o, e, hlt, hc⟩ := h.s.at_ hj
  exact ⟨b, o, R[j], e, hlt, List.getElem?_eq_getElem hj, hc, h.r _ (List.getElem_mem hj)⟩

set_option maxHeartbeats 400000 in
theorem long1_any (b : Nat) (n : Nat) (r : Rw) (w : World) (hc : w.cell? ⟨b, 0, none⟩ = some (.int .i64 n)) :
    Calls Try.prog 110 #[.slice r.A r.l.length r.c, .pointer (some ⟨b, 0, none⟩)] w fun e w' => e = .returned (.bool ((r.l.length : Int) != (n : Int))) ∧ w = w' := by
  obtain ⟨A, c, l⟩ := r
  simp only
  go_enter Try.func110, Try.ntmps110
  go_wp2
  go_ret
  exact ⟨ret_bool (by rfl), rfl⟩
set_option maxRecDepth 100000 in
set_option maxHeartbeats 1000000 in
theorem indexLong_any (b : Nat) (n : Nat) (A : Option Addr) (c : Nat) (R : List Rw) (w : World) (B : Nat) (hs : SlR w B A R) (hl : R.length ≤ 4611686018427387904) (hc : w.cell? ⟨b, 0, none⟩ = some (.int .i64 n)) :
    Calls Try.prog 119 #[.slice A R.length c, .func (.func 110) #[] #[.pointer (some ⟨b, 0, none⟩)]] w fun e w' => (∃ z : Int, e = .returned (.int .i64 z) ∧ decide (0 ≤ z) = !longB n R) ∧ w = w' := by
  have HS := Lib.hid hs
  have HC := Lib.hid hc
  clear hs hc
  go_enter Try.func119, Try.ntmps119
  go_wp2
  go_loopw [8] (fun i wr => ∃ j : Nat, j ≤ R.length ∧ i = .int .i64 j ∧ wr = w ∧ Hid (∀ i (r : Rw), i < j → R[i]? = some r → r.l.length = n)) (fun i _ => R.length - (intOf i).toNat)
  case atStart => exact ⟨0, Nat.zero_le _, rfl, rfl, fun i r h => absurd h (Nat.not_lt_zero _)⟩
  case round =>
    obtain ⟨j, hj, rfl, rfl, HJ⟩ := hrel
    by_cases h1 : j < R.length
    · have h1i : (j : Int) < (R.length : Int) := by omega
      obtain ⟨b', o, r, rfl, hb, hr, hp, hok⟩ := HS.out.at_ h1
      have HF := Lib.hid (long1_any b n r wr HC.out)
      have HR := Lib.hid hr
      clear hok hr
      by_cases h2 : r.l.length = n
      · have hq : ((r.l.length : Int) != (n : Int)) = false := by rw [h2]; simp
        rw [hq] at HF
        have HE : Hid (∀ i (q : Rw), i < j + 1 → R[i]? = some q → q.l.length = n) := fun i q hi hq => by
          by_cases e : i = j
          · subst e
            rw [HR.out] at hq
            rw [← Option.some.inj hq]; exact h2
          · exact HJ.out i q (by omega) hq
        clear h2 hq
        go_wp2_with fail
        refine HF.out.mono ?_
        rintro e w' ⟨rfl, rfl⟩
        go_wp2
        go_roundw
        case rel => exact ⟨j + 1, by omega, by go_num, trivial, HE.out⟩
        case measure => simp [intOf]; omega
      · have hq : ((r.l.length : Int) != (n : Int)) = true := by rw [bne_iff_ne]; omega
        rw [hq] at HF
        have HE : Hid (longB n R = false) := longB_no HR.out h2
        clear h2 hq
        go_wp2_with fail
        refine HF.out.mono ?_
        rintro e w' ⟨rfl, rfl⟩
        go_wp2
        go_ret
        refine ⟨⟨_, rfl, ?_⟩, rfl⟩
        rw [HE.out, decide_eq_true (by omega)]; rfl
    · have h1i : ¬ (j : Int) < (R.length : Int) := by omega
      have HE : Hid (longB n R = true) := longB_yes fun i r hi hr => HJ.out i r (by omega) hr
      go_wp2
      go_ret
      refine ⟨⟨_, rfl, ?_⟩, rfl⟩
      rw [HE.out]; rfl
set_option maxHeartbeats 1000000 in
theorem areAsLong_any (n : Nat) (A : Option Addr) (c : Nat) (R : List Rw) (w : World) (B : Nat) (hs : SlR w B A R) (hB : B ≤ w.heap.size) (hl : R.length ≤ 4611686018427387904) :
    Calls Try.prog 73 #[.slice A R.length c, .int .i64 n] w fun e w' => e = .returned (.bool (longB n R)) ∧ Below w.heap.size w w' := by
  have HS := Lib.hid (hs.next ((Below.refl w.heap.size w).alloc (Nat.le_refl _) (.cells #[.int .i64 n] 3)) hB)
  have HCF := Lib.hid (fun b hc => indexLong_any b n A c R (w.alloc (.cells #[.int .i64 n] 3)) B HS.out hl hc)
  have HBA := Lib.hid ((Below.refl w.heap.size w).alloc (Nat.le_refl _) (.cells #[.int .i64 n] 3))
  have HCC : Hid (∀ (b : Nat), (w.alloc (.cells #[.int .i64 n] 3)).cell? ⟨b, 0, none⟩ = some (.int .i64 n) → Calls Try.prog 109 #[.slice A R.length c, .func (.func 110) #[] #[.pointer (some ⟨b, 0, none⟩)]] (w.alloc (.cells #[.int .i64 n] 3)) fun e w' => e = .returned (.bool (!longB n R)) ∧ (w.alloc (.cells #[.int .i64 n] 3)) = w') := fun b hc => by
    have HF := Lib.hid (HCF.out b hc)
    generalize (w.alloc (.cells #[.int .i64 n] 3)) = W at HF ⊢
    generalize longB n R = q at HF ⊢
    clear hs HS HCF HBA hc
    go_enter Try.func109, Try.ntmps109
    go_wp2_with fail
    refine HF.out.mono ?_
    rintro e w' ⟨⟨z, rfl, hz⟩, rfl⟩
    have HZ := Lib.hid hz
    clear hz
    go_wp2
    go_ret
    exact ⟨ret_bool HZ.out, rfl⟩
  generalize longB n R = q at HCC ⊢
  clear hs HS HCF
  go_enter Try.func73, Try.ntmps73
  go_wp2_with fail
  refine (HCC.out w.heap.size (by rw [World.cell?_alloc_new]; rfl)).mono ?_
  rintro e w' ⟨rfl, rfl⟩
  go_wp2
  go_ret
  exact ⟨ret_bool (by simp), HBA.out⟩
end Go.Proofs.Ytofmfainhflmmaa
