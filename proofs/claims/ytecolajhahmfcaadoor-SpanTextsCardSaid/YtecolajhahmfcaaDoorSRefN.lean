/-
  CONTRACT of the document's answer: a number at a place of a text, up to a byte.
-/
import Derived.Test.YtecolajhahmfcaaDoorSNum
import Derived.Test.YtecolajhahmfcaaDoorSRefPP
namespace Go.Proofs.YtecolajhahmfcaaDoor
open Go.RowKit Go.Shelf

/-- what stands at a place of a text -/
def at_ (s : ByteArray) (i : Nat) : List UInt8 := s.data.toList.drop i
/-- What reading a number answers. -/
def NumS (s : ByteArray) (i : Nat) (c : UInt8) (e : Ending) : Prop :=
  (∃ (n : Int) (m : Nat), e = .returned (.tuple #[.int .i64 n, .int .i64 (m : Int)]) ∧ (minT ≤ n ∧ n ≤ maxT) ∧ i < m ∧ m ≤ s.size ∧ at_ s i = endT n ++ c :: at_ s m) ∨
  (e = .returned (.tuple #[.int .i64 0, .int .i64 (-1)]) ∧ ∀ x q, minT ≤ x ∧ x ≤ maxT → at_ s i ≠ endT x ++ c :: q)
theorem at_split (s : ByteArray) {i j : Nat} (hij : i ≤ j) (hj : j < s.size) : at_ s i = (s.data.toList.drop i).take (j - i) ++ s[j] :: at_ s (j + 1) := by
  have h1 := drop_at s j hj
  unfold at_
  rw [← h1, show s.data.toList.drop j = (s.data.toList.drop i).drop (j - i) by rw [List.drop_drop]; congr 1; omega, List.take_append_drop]
theorem ext_is (s : ByteArray) {i j : Nat} : (s.extract i j).data.toList = (s.data.toList.drop i).take (j - i) := by
  rw [ByteArray.data_extract, Array.toList_extract, List.extract_eq_take_drop]
theorem byte_at (s : ByteArray) {i j k : Nat} (hk : k < s.size) (h1 : i ≤ k) (h2 : k < j) : s[k] ∈ (s.data.toList.drop i).take (j - i) := by
  have : ((s.data.toList.drop i).take (j - i))[k - i]? = some s[k] := by
    rw [List.getElem?_take_of_lt (by omega), List.getElem?_drop, show i + (k - i) = k by omega]
    exact List.getElem?_eq_getElem (by rw [Array.length_toList]; exact hk)
  exact List.mem_of_getElem? this
theorem mem_between (s : ByteArray) {i j : Nat} {z : UInt8} (hj : j ≤ s.size) (h : z ∈ (s.data.toList.drop i).take (j - i)) : ∃ k, ∃ hk : k < s.size, i ≤ k ∧ k < j ∧ s[k] = z := by
  obtain ⟨n, hn, rfl⟩ := List.mem_iff_getElem.1 h
  rw [List.length_take, List.length_drop] at hn
  have hl : s.data.toList.length = s.size := Array.length_toList
  refine ⟨i + n, by omega, by omega, by omega, ?_⟩
  rw [List.getElem_take, List.getElem_drop]; rfl

set_option maxRecDepth 100000 in
set_option maxHeartbeats 2000000 in
theorem numS_any (s : ByteArray) (i : Nat) (c : UInt8) (w : World) (hs : s.size ≤ 5000) (hi : i ≤ s.size) (hc : c = 44 ∨ c = 41) :
    Calls Tryd.prog 17 #[.string s, .int .i64 (i : Int), .int .u8 (c.toNat : Int)] w fun e w' => NumS s i c e ∧ Below w.heap.size w w' := by
  have HC := Lib.hid hc
  have hmx : 5000 ≤ maxLen := by decide
  clear hc
  go_enter Tryd.func17, Tryd.ntmps17
  go_wp2_with fail
  go_loopg [8] (s.size - i) (fun g x wr => ∃ (j : Nat), x = .int .i64 j ∧ j + g = s.size ∧ i ≤ j ∧ Hid (∀ k (hk : k < s.size), i ≤ k → k < j → s[k] ≠ c) ∧ w = wr)
  case atStart => exact ⟨i, rfl, by omega, Nat.le_refl _, (fun k hk h1 h2 => by omega), rfl⟩
  case round =>
    obtain ⟨j, rfl, hj, hij, HN, rfl⟩ := hrel
    cases gk with
    | zero =>
      have hjz : ¬ ((j : Int) < (s.size : Int)) := by omega
      have hje : ((j : Int) == (s.size : Int)) = true := by rw [beq_iff_eq]; omega
      have HE : Hid (NumS s i c (.returned (.tuple #[.int .i64 0, .int .i64 (-1)]))) := .inr ⟨rfl, fun x q _ e => by
        have hm : c ∈ at_ s i := by rw [e]; simp
        have hm2 : c ∈ (s.data.toList.drop i).take (s.size - i) := by
          rw [List.take_of_length_le (by rw [List.length_drop, Array.length_toList]; exact Nat.le_refl _)]; exact hm
        obtain ⟨k, hk, h1, h2, h3⟩ := mem_between s (Nat.le_refl _) hm2
        exact HN.out k hk h1 (by omega) h3⟩
      go_wp2
      go_ret2
      exact ⟨HE.out, Below.refl _ _⟩
    | succ g =>
      have hjz : (j : Int) < (s.size : Int) := by omega
      have hjn : j < s.size := by omega
      by_cases hst : s[j] = c
      · have hq : ((s[j].toNat : Int) == (c.toNat : Int)) = true := by rw [hst]; simp
        have hq2 : ((s[j].toNat : Int) != (c.toNat : Int)) = false := by rw [hst]; simp
        have hje : ((j : Int) == (s.size : Int)) = false := by rw [beq_eq_false_iff_ne]; omega
        have c1 : (0 : Int) ≤ (i : Int) := by omega
        have c2 : (i : Int) ≤ (j : Int) := by omega
        have c3 : (j : Int) ≤ (s.size : Int) := by omega
        have hw1 : IntKind.i64.wrap ((j : Int) + 1) = (j : Int) + 1 := IntWalk.i64_in _ (by omega)
        have hsp := at_split s hij hjn
        rw [hst] at hsp
        have hno : ∀ z ∈ (s.data.toList.drop i).take (j - i), z ≠ c := fun z hz e => by
          obtain ⟨k, hk, h1, h2, h3⟩ := mem_between s (by omega) hz
          exact HN.out k hk h1 h2 (h3.trans e)
        obtain ⟨T, hT⟩ : ∃ T, s.extract i j = T := ⟨_, rfl⟩
        have hTl : T.data.toList = (s.data.toList.drop i).take (j - i) := by rw [← hT]; exact ext_is s
        have hTs : T.size ≤ 5000 := by rw [← hT, ByteArray.size_extract]; omega
        rw [← hTl] at hsp hno
        have HSP := Lib.hid hsp
        have HYES : Hid (∀ n : Int, minT ≤ n ∧ n ≤ maxT → T.data.toList = endT n → NumS s i c (.returned (.tuple #[.int .i64 n, .int .i64 ((j : Int) + 1)]))) := fun n hn e =>
          .inl ⟨n, j + 1, rfl, hn, by omega, by omega, by rw [hsp, e]⟩
        have HNO : Hid ((∀ n : Int, minT ≤ n ∧ n ≤ maxT → T.data.toList ≠ endT n) → NumS s i c (.returned (.tuple #[.int .i64 0, .int .i64 (-1)]))) := fun h =>
          .inr ⟨rfl, fun x q hx e => by
            rw [hsp] at e
            exact h x hx (stop_inj hno (end_stop HC.out) e).1⟩
        clear hTl hsp hno hst
        subst hT
        by_cases t1 : (s.extract i j).data.toList = [45]
        · have hb1 : ((s.extract i j).toList == [45]) = true := by rw [beq_iff_eq, ByteArray.toList_eq]; exact t1
          have HF := Lib.hid (HYES.out minT (by decide) (by rw [t1]; rfl))
          clear t1
          go_wp2
          go_ret2
          exact ⟨HF.out, Below.refl _ _⟩
        by_cases t2 : (s.extract i j).data.toList = [43]
        · have hb1 : ((s.extract i j).toList == [45]) = false := by rw [beq_eq_false_iff_ne, ByteArray.toList_eq]; exact t1
          have hb2 : ((s.extract i j).toList == [43]) = true := by rw [beq_iff_eq, ByteArray.toList_eq]; exact t2
          have HF := Lib.hid (HYES.out maxT (by decide) (by rw [t2]; rfl))
          clear t1 t2
          go_wp2
          go_ret2
          exact ⟨HF.out, Below.refl _ _⟩
        have hb1 : ((s.extract i j).toList == [45]) = false := by rw [beq_eq_false_iff_ne, ByteArray.toList_eq]; exact t1
        have hb2 : ((s.extract i j).toList == [43]) = false := by rw [beq_eq_false_iff_ne, ByteArray.toList_eq]; exact t2
        have T1 := Lib.hid t1
        have T2 := Lib.hid t2
        clear t1 t2
        go_wp2_with fail
        refine (refNumber_any (s.extract i j) _ (by omega)).mono ?_
        rintro e w1 ⟨⟨n, ok, rfl, hn, ho1, ho2⟩, hb⟩
        have HB := Lib.hid hb
        clear hb
        have itoa_end : ∀ x, minT ≤ x ∧ x ≤ maxT → (s.extract i j).data.toList = endT x → (s.extract i j).data.toList = Lib.itoa x := fun x hx e => by
          unfold endT at e
          split at e
          · exact absurd e T1.out
          · split at e
            · exact absurd e T2.out
            · exact e
        cases ok with
        | false =>
          have HF := Lib.hid (HNO.out (fun x hx e => by have := (ho2 x hx (itoa_end x hx e)).2; cases this))
          clear ho1 ho2 itoa_end
          go_wp2
          go_ret2
          exact ⟨HF.out, HB.out⟩
        | true =>
          obtain ⟨E, hE⟩ : ∃ E : ByteArray, (⟨(endT n).toArray⟩ : ByteArray) = E := ⟨_, rfl⟩
          have HC2 := Lib.hid (fun w => refEnd_any n hn w)
          rw [hE] at HC2
          have hEl : E.data.toList = endT n := by rw [← hE]
          clear hE
          by_cases hq9 : E.data.toList = (s.extract i j).data.toList
          · have hb3 : (E.toList == (s.extract i j).toList) = true := by rw [beq_iff_eq, ByteArray.toList_eq, ByteArray.toList_eq]; exact hq9
            have HF := Lib.hid (HYES.out n hn (by rw [← hq9, hEl]))
            clear ho1 ho2 itoa_end hEl hq9
            go_wp2_with fail
            refine (HC2.out _).mono ?_
            rintro e w2 ⟨rfl, hb⟩
            have HB2 := Lib.hid (HB.out.trans (hb.mono HB.out.size))
            clear hb
            go_wp2
            go_ret2
            exact ⟨HF.out, HB2.out⟩
          · have hb3 : (E.toList == (s.extract i j).toList) = false := by rw [beq_eq_false_iff_ne, ByteArray.toList_eq, ByteArray.toList_eq]; exact hq9
            have HF := Lib.hid (HNO.out (fun x hx e => by
              have h1 := (ho2 x hx (itoa_end x hx e)).1
              subst h1
              exact hq9 (by rw [hEl, e])))
            clear ho1 ho2 itoa_end hEl hq9
            go_wp2_with fail
            refine (HC2.out _).mono ?_
            rintro e w2 ⟨rfl, hb⟩
            have HB2 := Lib.hid (HB.out.trans (hb.mono HB.out.size))
            clear hb
            go_wp2
            go_ret2
            exact ⟨HF.out, HB2.out⟩
      · have hq2 : ((s[j].toNat : Int) != (c.toNat : Int)) = true := by
          rw [bne_iff_ne]
          intro e
          exact hst (UInt8.toNat_inj.1 (by omega))
        have HN2 : Hid (∀ k (hk : k < s.size), i ≤ k → k < j + 1 → s[k] ≠ c) := fun k hk h1 h2 => by
          by_cases h3 : k < j
          · exact HN.out k hk h1 h3
          · have : k = j := by omega
            subst this; exact hst
        clear hst
        go_wp2
        go_roundg g
        case measure => omega
        case rel => exact ⟨j + 1, by go_num, by omega, by omega, HN2, rfl⟩
end Go.Proofs.YtecolajhahmfcaaDoor
