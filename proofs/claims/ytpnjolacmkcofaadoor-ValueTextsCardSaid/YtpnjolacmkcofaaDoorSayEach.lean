/-
  CONTRACTS of what hands bytes on to a loop: sayEach, with hex and with escaped.
-/
import Derived.Test.YtpnjolacmkcofaaDoorSay
namespace Go.Proofs.YtpnjolacmkcofaaDoor
open Go.RowKit Go.Shelf
attribute [local go_sem] Oper.semAt_some

theorem grown_of_below {w w' : World} (h : Below w.heap.size w w') : w.grownBy w' none := ⟨h.os, h.tape, h.output, h.size, fun k hk _ => h.block k hk⟩
theorem abides_below {B : Nat} {J : List UInt8 → World → Prop} (hJ : AbidesFrom B J) {p : List UInt8} {w w' : World} (h : J p w) (hb : Below w.heap.size w w') : J p w' :=
  hJ p w w' none h (grown_of_below hb) (fun r e => by cases e)

/-- what a text becomes, byte by byte -/
def flatL (b : UInt8 → List UInt8) (l : List UInt8) : List UInt8 := l.flatMap b
theorem flatL_snoc (b : UInt8 → List UInt8) (s : ByteArray) (k : Nat) (h : k < s.size) : flatL b (s.data.toList.take (k + 1)) = flatL b (s.data.toList.take k) ++ b s[k] := by
  unfold flatL; rw [take_snoc s k h]; simp
theorem flatL_pre (b : UInt8 → List UInt8) (s : ByteArray) (k : Nat) : flatL b (s.data.toList.take k) <+: flatL b s.data.toList := by
  have h : flatL b s.data.toList = flatL b (s.data.toList.take k) ++ flatL b (s.data.toList.drop k) := by
    unfold flatL; rw [← List.flatMap_append, List.take_append_drop]
  rw [h]; exact List.prefix_append _ _
theorem flatL_len (b : UInt8 → List UInt8) (h : ∀ c, (b c).length ≤ 3) (l : List UInt8) : (flatL b l).length ≤ 3 * l.length := by
  unfold flatL
  induction l with
  | nil => simp
  | cons c r ih => have := h c; simp only [List.flatMap_cons, List.length_append, List.length_cons]; omega
theorem size_mk (l : List UInt8) : (⟨l.toArray⟩ : ByteArray).size = l.length := by simp [ByteArray.size]
theorem three_le : 3 ≤ maxLen := by decide
theorem hexL_len (c : UInt8) : (hexL c).length ≤ 3 := by simp [hexL]
theorem escL_len (c : UInt8) : (escL c).length ≤ 3 := by unfold escL; split <;> simp [hexL]

set_option maxRecDepth 100000 in
set_option maxHeartbeats 2000000 in
theorem sayHex_in (l n₀ Bt N : Nat) (J Jx : List UInt8 → World → Prop) (hY : Hands l n₀ Bt N J Jx) (n B : Nat) (hA : AbidesFrom B J) (o s c : ByteArray) (ho : o.size ≤ maxLen) (hs : s.size ≤ maxLen) (hc : c.size ≤ maxLen) (W : World) (hJ : J [] W)
    (hN : (o.data.toList ++ flatL hexL s.data.toList ++ c.data.toList).length ≤ N) :
    CallsIn Fence.wide n Tryd.prog 34 #[.string o, .string s, .string c, .func (.func 35) #[] #[], .func (.yield l) #[] #[]] W fun e W' => (∃ v, e = .returned v) ∧
      ((J (o.data.toList ++ flatL hexL s.data.toList ++ c.data.toList) W') ∨ (∃ q, q <+: (o.data.toList ++ flatL hexL s.data.toList ++ c.data.toList) ∧ Jx q W')) := by
  have hs' := hs
  unfold maxLen at hs'
  have hl : s.data.toList.length = s.size := Array.length_toList
  have hol : o.data.toList.length = o.size := Array.length_toList
  have hcl : c.data.toList.length = c.size := Array.length_toList
  simp only [List.length_append] at hN
  have hp1 := say_in l n₀ Bt N J Jx hY (n - 1) o ho [] W hJ (by simp; omega)
  refine callsIn_of_wp Tryd.func34 rfl trivial ?_ rfl
  simp only [Tryd.ntmps34, List.size_toArray, List.length_cons, List.length_nil, Nat.reduceAdd, Nat.reduceSub, Array.replicate_succ, Array.replicate_zero, List.push_toArray, List.append_toArray, List.nil_append, List.cons_append]
  gi_wp2_with fail
  refine ⟨trivial, wide_deep _, ?_⟩
  refine hp1.mono ?_
  clear hp1
  rintro e W1 (⟨rfl, hJ1, hB1⟩ | ⟨rfl, q, hq, hx⟩)
  · gi_wp2_with fail
    gi_loopw [17] (fun i wr => ∃ k : Nat, k ≤ s.size ∧ i = .int .i64 k ∧ J (o.data.toList ++ flatL hexL (s.data.toList.take k)) wr) (fun i _ => s.size - (intOf i).toNat)
    case atStart => exact ⟨0, by omega, rfl, by simpa [flatL] using hJ1⟩
    case round =>
      obtain ⟨k, hk, rfl, hJk⟩ := hrel
      by_cases hlt : k < s.size
      · gi_wp2_with fail
        refine ⟨trivial, wide_deep _, ?_⟩
        refine (callsIn_wide.2 (hex_any _ _)).mono ?_
        rintro e W2 ⟨rfl, hb2⟩
        have hJ2 := abides_below hA hJk hb2
        gi_wp2_with fail
        refine ⟨trivial, wide_deep _, ?_⟩
        have hlen : (flatL hexL (s.data.toList.take k)).length + (hexL s[k]).length ≤ (flatL hexL s.data.toList).length := by
          rw [← List.length_append, ← flatL_snoc hexL s k hlt]
          exact (flatL_pre hexL s (k + 1)).length_le
        refine (say_in l n₀ Bt N J Jx hY (n - 1) ⟨(hexL s[k]).toArray⟩ (by rw [size_mk]; exact Nat.le_trans (hexL_len s[k]) three_le) _ _ hJ2 (by
          simp only [List.length_append]
          have := size_mk (hexL s[k])
          omega)).mono ?_
        rintro e W3 (⟨rfl, hJ3, hB3⟩ | ⟨rfl, q, hq, hx⟩)
        · gi_wp2
          go_roundw
          case rel => exact ⟨k + 1, by omega, by go_num, by rw [flatL_snoc hexL s k hlt, ← List.append_assoc]; exact hJ3⟩
          case measure => simp [intOf]; omega
        · gi_wp2
          refine bodyPost_ret (results_none rfl _ _ _) rfl ?_
          refine ⟨⟨_, rfl⟩, .inr ⟨_, ?_, hx⟩⟩
          rw [List.append_assoc, List.append_assoc]
          refine (List.prefix_append_right_inj _).2 ?_
          have h1 : flatL hexL (s.data.toList.take k) ++ q <+: flatL hexL (s.data.toList.take (k + 1)) := by
            rw [flatL_snoc hexL s k hlt]; exact (List.prefix_append_right_inj _).2 hq
          exact (h1.trans (flatL_pre hexL s (k + 1))).trans (List.prefix_append _ _)
      · obtain rfl : k = s.size := by omega
        rw [List.take_of_length_le (by omega)] at hJk
        gi_wp2_with fail
        refine ⟨trivial, wide_deep _, ?_⟩
        refine (say_in l n₀ Bt N J Jx hY (n - 1) c hc _ _ hJk (by simp only [List.length_append]; omega)).mono ?_
        rintro e W3 (⟨rfl, hJ3, hB3⟩ | ⟨rfl, q, hq, hx⟩)
        · gi_wp2
          go_end0
          exact ⟨⟨_, rfl⟩, .inl hJ3⟩
        · gi_wp2
          go_end0
          exact ⟨⟨_, rfl⟩, .inr ⟨_, (List.prefix_append_right_inj _).2 hq, hx⟩⟩
  · gi_wp2_with fail
    refine bodyPost_ret (results_none rfl _ _ _) rfl ?_
    exact ⟨⟨_, rfl⟩, .inr ⟨q, by rw [List.append_assoc]; exact hq.trans (List.prefix_append _ _), by simpa using hx⟩⟩

set_option maxRecDepth 100000 in
set_option maxHeartbeats 2000000 in
theorem sayEsc_in (l n₀ Bt N : Nat) (J Jx : List UInt8 → World → Prop) (hY : Hands l n₀ Bt N J Jx) (n B : Nat) (hA : AbidesFrom B J) (o s c : ByteArray) (ho : o.size ≤ maxLen) (hs : s.size ≤ maxLen) (hc : c.size ≤ maxLen) (W : World) (hJ : J [] W)
    (hN : (o.data.toList ++ flatL escL s.data.toList ++ c.data.toList).length ≤ N) :
    CallsIn Fence.wide n Tryd.prog 34 #[.string o, .string s, .string c, .func (.func 36) #[] #[], .func (.yield l) #[] #[]] W fun e W' => (∃ v, e = .returned v) ∧
      ((J (o.data.toList ++ flatL escL s.data.toList ++ c.data.toList) W') ∨ (∃ q, q <+: (o.data.toList ++ flatL escL s.data.toList ++ c.data.toList) ∧ Jx q W')) := by
  have hs' := hs
  unfold maxLen at hs'
  have hl : s.data.toList.length = s.size := Array.length_toList
  have hol : o.data.toList.length = o.size := Array.length_toList
  have hcl : c.data.toList.length = c.size := Array.length_toList
  simp only [List.length_append] at hN
  have hp1 := say_in l n₀ Bt N J Jx hY (n - 1) o ho [] W hJ (by simp; omega)
  refine callsIn_of_wp Tryd.func34 rfl trivial ?_ rfl
  simp only [Tryd.ntmps34, List.size_toArray, List.length_cons, List.length_nil, Nat.reduceAdd, Nat.reduceSub, Array.replicate_succ, Array.replicate_zero, List.push_toArray, List.append_toArray, List.nil_append, List.cons_append]
  gi_wp2_with fail
  refine ⟨trivial, wide_deep _, ?_⟩
  refine hp1.mono ?_
  clear hp1
  rintro e W1 (⟨rfl, hJ1, hB1⟩ | ⟨rfl, q, hq, hx⟩)
  · gi_wp2_with fail
    gi_loopw [17] (fun i wr => ∃ k : Nat, k ≤ s.size ∧ i = .int .i64 k ∧ J (o.data.toList ++ flatL escL (s.data.toList.take k)) wr) (fun i _ => s.size - (intOf i).toNat)
    case atStart => exact ⟨0, by omega, rfl, by simpa [flatL] using hJ1⟩
    case round =>
      obtain ⟨k, hk, rfl, hJk⟩ := hrel
      by_cases hlt : k < s.size
      · gi_wp2_with fail
        refine ⟨trivial, wide_deep _, ?_⟩
        refine (callsIn_wide.2 (escaped_any _ _)).mono ?_
        rintro e W2 ⟨rfl, hb2⟩
        have hJ2 := abides_below hA hJk hb2
        gi_wp2_with fail
        refine ⟨trivial, wide_deep _, ?_⟩
        have hlen : (flatL escL (s.data.toList.take k)).length + (escL s[k]).length ≤ (flatL escL s.data.toList).length := by
          rw [← List.length_append, ← flatL_snoc escL s k hlt]
          exact (flatL_pre escL s (k + 1)).length_le
        refine (say_in l n₀ Bt N J Jx hY (n - 1) ⟨(escL s[k]).toArray⟩ (by rw [size_mk]; exact Nat.le_trans (escL_len s[k]) three_le) _ _ hJ2 (by
          simp only [List.length_append]
          have := size_mk (escL s[k])
          omega)).mono ?_
        rintro e W3 (⟨rfl, hJ3, hB3⟩ | ⟨rfl, q, hq, hx⟩)
        · gi_wp2
          go_roundw
          case rel => exact ⟨k + 1, by omega, by go_num, by rw [flatL_snoc escL s k hlt, ← List.append_assoc]; exact hJ3⟩
          case measure => simp [intOf]; omega
        · gi_wp2
          refine bodyPost_ret (results_none rfl _ _ _) rfl ?_
          refine ⟨⟨_, rfl⟩, .inr ⟨_, ?_, hx⟩⟩
          rw [List.append_assoc, List.append_assoc]
          refine (List.prefix_append_right_inj _).2 ?_
          have h1 : flatL escL (s.data.toList.take k) ++ q <+: flatL escL (s.data.toList.take (k + 1)) := by
            rw [flatL_snoc escL s k hlt]; exact (List.prefix_append_right_inj _).2 hq
          exact (h1.trans (flatL_pre escL s (k + 1))).trans (List.prefix_append _ _)
      · obtain rfl : k = s.size := by omega
        rw [List.take_of_length_le (by omega)] at hJk
        gi_wp2_with fail
        refine ⟨trivial, wide_deep _, ?_⟩
        refine (say_in l n₀ Bt N J Jx hY (n - 1) c hc _ _ hJk (by simp only [List.length_append]; omega)).mono ?_
        rintro e W3 (⟨rfl, hJ3, hB3⟩ | ⟨rfl, q, hq, hx⟩)
        · gi_wp2
          go_end0
          exact ⟨⟨_, rfl⟩, .inl hJ3⟩
        · gi_wp2
          go_end0
          exact ⟨⟨_, rfl⟩, .inr ⟨_, (List.prefix_append_right_inj _).2 hq, hx⟩⟩
  · gi_wp2_with fail
    refine bodyPost_ret (results_none rfl _ _ _) rfl ?_
    exact ⟨⟨_, rfl⟩, .inr ⟨q, by rw [List.append_assoc]; exact hq.trans (List.prefix_append _ _), by simpa using hx⟩⟩

end Go.Proofs.YtpnjolacmkcofaaDoor
