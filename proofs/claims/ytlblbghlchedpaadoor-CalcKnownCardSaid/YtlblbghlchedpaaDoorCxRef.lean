/-
  CONTRACTS: the document's in, Names, Known.
-/
import Derived.Test.YtlblbghlchedpaaDoorCxKn
import Derived.BigQuiet
namespace Go.Proofs.YtlblbghlchedpaaDoor
open Go.RowKit Go.Shelf

/-- a slice that reads as these texts -/
def SlB (W : World) (B : Nat) (A : Option Addr) (l : List Bt) : Prop := ∃ b o, A = some ⟨b, o, none⟩ ∧ b < B ∧ ∀ (j : Nat) (s : Bt), l[j]? = some s → W.cell? ⟨b, o + j, none⟩ = some (.string (strB s))
theorem SlB.next {W W' : World} {B B' : Nat} {A : Option Addr} {l : List Bt} (h : SlB W B A l) (hb : Below B' W W') (hB : B ≤ B') : SlB W' B A l := by
  obtain ⟨b, o, e, hlt, hc⟩ := h
  exact ⟨b, o, e, hlt, fun j s hs => (hb.cell (p := ⟨b, o + j, none⟩) (by show b < B'; omega)).trans (hc j s hs)⟩
/-- a block of texts, just laid -/
theorem slB_new (W : World) (l : List Bt) (cs : Array Value) (t : TypeId) (h : cs = (l.map fun s => Value.string (strB s)).toArray) : SlB (W.alloc (.cells cs t)) (W.heap.size + 1) (some ⟨W.heap.size, 0, none⟩) l := by
  subst h
  refine ⟨_, _, rfl, Nat.lt_succ_self _, fun j s hs => ?_⟩
  rw [Nat.zero_add, World.cell?_alloc_new]
  simp [hs]
def inL (s : ByteArray) (l : List Bt) : Bool := l.any fun a => a == s.data.toList

set_option maxRecDepth 100000 in
set_option maxHeartbeats 1000000 in
theorem in_any (A : Option Addr) (c : Nat) (l : List Bt) (s : ByteArray) (w : World) (B : Nat) (hs : SlB w B A l) (hl : l.length ≤ 1000) :
    Calls Tryd.prog 13 #[.string s, .slice A l.length c] w fun e w' => e = .returned (.bool (inL s l)) ∧ w = w' := by
  obtain ⟨b, o, rfl, hlt, hc⟩ := hs
  have HC := Lib.hid hc
  clear hc
  go_enter Tryd.func13, Tryd.ntmps13
  go_wp2
  go_loopw [5] (fun i wr => ∃ j : Nat, j ≤ l.length ∧ i = .int .i64 j ∧ wr = w ∧ Hid (inL s (l.take j) = false)) (fun i _ => l.length - (intOf i).toNat)
  case atStart => exact ⟨0, Nat.zero_le _, rfl, rfl, rfl⟩
  case round =>
    obtain ⟨j, hj, rfl, rfl, HJ⟩ := hrel
    by_cases h1 : j < l.length
    · have h1i : (j : Int) < (l.length : Int) := by omega
      obtain ⟨a, ha⟩ : ∃ a, l[j]? = some a := ⟨l[j], List.getElem?_eq_getElem h1⟩
      have hp := HC.out j a ha
      have HT : Hid (l.take (j + 1) = l.take j ++ [a]) := by show _ = _; rw [List.take_add_one, ha]; rfl
      have HD : Hid (l = l.take j ++ a :: l.drop (j + 1)) := by
        show l = _
        have h9 := List.getElem?_eq_some_iff.1 ha
        rw [← h9.2, ← List.drop_eq_getElem_cons, List.take_append_drop]
      clear ha
      by_cases he : (a == s.data.toList) = true
      · have hq : ((strB a).toList == s.toList) = true := by rw [str_eq]; exact he
        have HE : Hid (inL s l = true) := by
          show _ = _
          rw [HD.out]; unfold inL; rw [List.any_append, List.any_cons, he]; simp
        clear he
        go_wp2
        go_ret
        exact ⟨ret_bool (by rw [HE.out]), rfl⟩
      · rw [Bool.not_eq_true] at he
        have hq : ((strB a).toList == s.toList) = false := by rw [str_eq]; exact he
        have HE : Hid (inL s (l.take (j + 1)) = false) := by
          show _ = _
          have h8 := HJ.out
          unfold inL at h8 ⊢
          rw [HT.out, List.any_append, h8]; simp [he]
        clear he
        go_wp2
        go_roundw
        case rel => exact ⟨j + 1, by omega, by go_num, trivial, HE.out⟩
        case measure => simp [intOf]; omega
    · have h1i : ¬ (j : Int) < (l.length : Int) := by omega
      have HE : Hid (inL s l = false) := by
        show _ = _
        have := HJ.out
        rwa [List.take_of_length_le (by omega)] at this
      go_wp2
      go_ret
      exact ⟨ret_bool (by rw [HE.out]), rfl⟩
set_option maxRecDepth 100000 in
set_option maxHeartbeats 1000000 in
theorem refNames_any (w : World) :
    Calls Tryd.prog 8 #[] w fun e w' => e = .returned (.slice (some ⟨w.heap.size, 0, none⟩) 27 27) ∧ SlB w' (w.heap.size + 1) (some ⟨w.heap.size, 0, none⟩) namesC ∧ w.heap.size + 1 = w'.heap.size ∧ Below w.heap.size w w' := by
  go_enter Tryd.func8, Tryd.ntmps8
  go_wp2
  go_ret
  exact ⟨rfl, slB_new w namesC _ _ rfl, by simp, (Below.refl _ _).alloc (Nat.le_refl _) _⟩
/-- what the document says of a name -/
theorem known_doc (s : ByteArray) : knownC s.data.toList = if inL s namesC then (if inL s fam2 then (1, false, true) else if (s.data.toList == [115, 117, 98]) then (3, false, true) else (2, inL s fam0, true)) else (0, false, false) := by
  have hh : ∀ b : Bt, b ∈ namesC → knownC b = if (fam2.any fun a => a == b) then (1, false, true) else if (b == [115, 117, 98]) then (3, false, true) else (2, fam0.any fun a => a == b, true) := by decide +kernel
  by_cases h : s.data.toList ∈ namesC
  · have hi : inL s namesC = true := by unfold inL; rw [List.any_eq_true]; exact ⟨_, h, by simp⟩
    rw [hi, if_pos rfl, hh _ h]
    rfl
  · have hi : inL s namesC = false := by
      unfold inL
      rw [Bool.eq_false_iff]
      intro h2
      obtain ⟨a, ha, he⟩ := List.any_eq_true.1 h2
      exact h ((by simpa using he : a = s.data.toList) ▸ ha)
    rw [hi, known_none h]
    rfl
set_option maxRecDepth 100000 in
set_option maxHeartbeats 1000000 in
theorem refKnown_any (s : ByteArray) (w : World) :
    Calls Tryd.prog 6 #[.string s] w fun e w' => e = .returned (.tuple #[.int .i64 (knownC s.data.toList).1, .bool (knownC s.data.toList).2.1, .bool (knownC s.data.toList).2.2]) ∧ Below w.heap.size w w' := by
  have HK := Lib.hid (known_doc s)
  have HN := Lib.hid (fun X => refNames_any X)
  have hsub : ((s.toList == [115, 117, 98]) : Bool) = (s.data.toList == [115, 117, 98]) := by rw [ByteArray.toList_eq]
  obtain ⟨v1, h1⟩ : ∃ v, inL s namesC = v := ⟨_, rfl⟩
  obtain ⟨v2, h2⟩ : ∃ v, inL s fam2 = v := ⟨_, rfl⟩
  obtain ⟨v3, h3⟩ : ∃ v, inL s fam0 = v := ⟨_, rfl⟩
  obtain ⟨v4, h4⟩ : ∃ v, (s.data.toList == [115, 117, 98]) = v := ⟨_, rfl⟩
  rw [h1, h2, h3, h4] at HK
  rw [h4] at hsub
  have HI2 : Hid (∀ X : World, Calls Tryd.prog 13 #[.string s, .slice (some ⟨X.heap.size, 0, none⟩) 8 8] (X.alloc (.cells #[.string ⟨#[110, 101, 103]⟩, .string ⟨#[97, 98, 115]⟩, .string ⟨#[108, 101, 110]⟩, .string ⟨#[116, 101, 120, 116]⟩, .string ⟨#[118, 97, 108, 117, 101]⟩, .string ⟨#[110, 117, 109, 98, 101, 114]⟩, .string ⟨#[116, 105, 109, 101]⟩, .string ⟨#[110, 97, 109, 101]⟩] 9)) fun e w' => e = .returned (.bool v2) ∧ (X.alloc (.cells #[.string ⟨#[110, 101, 103]⟩, .string ⟨#[97, 98, 115]⟩, .string ⟨#[108, 101, 110]⟩, .string ⟨#[116, 101, 120, 116]⟩, .string ⟨#[118, 97, 108, 117, 101]⟩, .string ⟨#[110, 117, 109, 98, 101, 114]⟩, .string ⟨#[116, 105, 109, 101]⟩, .string ⟨#[110, 97, 109, 101]⟩] 9)) = w') := fun X => by
    have h9 := in_any (some ⟨X.heap.size, 0, none⟩) 8 fam2 s _ _ (slB_new X fam2 #[.string ⟨#[110, 101, 103]⟩, .string ⟨#[97, 98, 115]⟩, .string ⟨#[108, 101, 110]⟩, .string ⟨#[116, 101, 120, 116]⟩, .string ⟨#[118, 97, 108, 117, 101]⟩, .string ⟨#[110, 117, 109, 98, 101, 114]⟩, .string ⟨#[116, 105, 109, 101]⟩, .string ⟨#[110, 97, 109, 101]⟩] 9 rfl) (by decide)
    rw [h2] at h9
    exact h9
  have HI0 : Hid (∀ (X : World) (b : Nat), X.heap.size = b → Calls Tryd.prog 13 #[.string s, .slice (some ⟨b, 0, none⟩) 10 10] (X.alloc (.cells #[.string ⟨#[61]⟩, .string ⟨#[33, 61]⟩, .string ⟨#[60]⟩, .string ⟨#[60, 61]⟩, .string ⟨#[62]⟩, .string ⟨#[62, 61]⟩, .string ⟨#[98, 101, 103, 105, 110, 115]⟩, .string ⟨#[101, 110, 100, 115]⟩, .string ⟨#[104, 97, 115]⟩, .string ⟨#[107, 105, 110, 100]⟩] 9)) fun e w' => e = .returned (.bool v3) ∧ (X.alloc (.cells #[.string ⟨#[61]⟩, .string ⟨#[33, 61]⟩, .string ⟨#[60]⟩, .string ⟨#[60, 61]⟩, .string ⟨#[62]⟩, .string ⟨#[62, 61]⟩, .string ⟨#[98, 101, 103, 105, 110, 115]⟩, .string ⟨#[101, 110, 100, 115]⟩, .string ⟨#[104, 97, 115]⟩, .string ⟨#[107, 105, 110, 100]⟩] 9)) = w') := fun X b hb => by
    subst hb
    have h9 := in_any (some ⟨X.heap.size, 0, none⟩) 10 fam0 s _ _ (slB_new X fam0 #[.string ⟨#[61]⟩, .string ⟨#[33, 61]⟩, .string ⟨#[60]⟩, .string ⟨#[60, 61]⟩, .string ⟨#[62]⟩, .string ⟨#[62, 61]⟩, .string ⟨#[98, 101, 103, 105, 110, 115]⟩, .string ⟨#[101, 110, 100, 115]⟩, .string ⟨#[104, 97, 115]⟩, .string ⟨#[107, 105, 110, 100]⟩] 9 rfl) (by decide)
    rw [h3] at h9
    exact h9
  have HI : Hid (∀ (X : World) (b B : Nat), SlB X B (some ⟨b, 0, none⟩) namesC → Calls Tryd.prog 13 #[.string s, .slice (some ⟨b, 0, none⟩) 27 27] X fun e w' => e = .returned (.bool v1) ∧ X = w') := fun X b B h => by
    have h9 := in_any (some ⟨b, 0, none⟩) 27 namesC s X B h (by decide)
    rw [h1] at h9
    exact h9
  clear h1 h2 h3 h4
  go_enter Tryd.func6, Tryd.ntmps6
  go_wp2_with fail
  refine (HN.out _).mono ?_
  rintro e w1 ⟨rfl, hs1, hz1, hb1⟩
  go_wp2_with fail
  refine (HI.out w1 _ _ hs1).mono ?_
  rintro e w2 ⟨rfl, rfl⟩
  have HB1 := Lib.hid hb1
  have HZ1 := Lib.hid hz1
  clear hb1 hs1 hz1
  cases v1 with
  | false =>
    go_wp2
    go_ret3
    exact ⟨by rw [HK.out]; rfl, HB1.out⟩
  | true =>
    go_wp2_with fail
    refine (HI2.out w1).mono ?_
    rintro e w2 ⟨rfl, rfl⟩
    go_wp2_with fail
    refine (HI0.out _ _ (by simp)).mono ?_
    rintro e w3 ⟨rfl, rfl⟩
    have HB2 := Lib.hid ((HB1.out.alloc HB1.out.size (.cells #[.string ⟨#[110, 101, 103]⟩, .string ⟨#[97, 98, 115]⟩, .string ⟨#[108, 101, 110]⟩, .string ⟨#[116, 101, 120, 116]⟩, .string ⟨#[118, 97, 108, 117, 101]⟩, .string ⟨#[110, 117, 109, 98, 101, 114]⟩, .string ⟨#[116, 105, 109, 101]⟩, .string ⟨#[110, 97, 109, 101]⟩] 9)).alloc (by have := HB1.out.size; simp; omega) (.cells #[.string ⟨#[61]⟩, .string ⟨#[33, 61]⟩, .string ⟨#[60]⟩, .string ⟨#[60, 61]⟩, .string ⟨#[62]⟩, .string ⟨#[62, 61]⟩, .string ⟨#[98, 101, 103, 105, 110, 115]⟩, .string ⟨#[101, 110, 100, 115]⟩, .string ⟨#[104, 97, 115]⟩, .string ⟨#[107, 105, 110, 100]⟩] 9))
    cases v2 with
    | true =>
      go_wp2
      go_ret3
      exact ⟨by rw [HK.out]; rfl, HB2.out⟩
    | false =>
      cases v4 with
      | true =>
        go_wp2
        go_ret3
        exact ⟨by rw [HK.out]; rfl, HB2.out⟩
      | false =>
        go_wp2
        go_ret3
        exact ⟨by rw [HK.out]; rfl, HB2.out⟩
end Go.Proofs.YtlblbghlchedpaaDoor
