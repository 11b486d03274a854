/-
  CONTRACTS of the document's own answer: Two (what two sets are together).
-/
import Derived.Test.YtefekkcmoambhaaSOf
import Derived.Test.YtefekkcmoambhaaSOfAnd
import Derived.Test.YtefekkcmoambhaaSOfNot
import Derived.Test.YtefekkcmoambhaaSRefSet
namespace Go.Proofs.Ytefekkcmoambhaa
open Go.RowKit

/-- the document's answer for two sets -/
def twoL (f : Bool → Bool → Bool) (a b : List Sp) : List Sp := if setB a && setB b then ofL f a b [] (endsL (a ++ b)) else []
def twoE (a b : List Sp) : Int := if setB a && setB b then 0 else 30

set_option maxRecDepth 100000 in
set_option maxHeartbeats 1000000 in
theorem twoOr_any (A A' : Option Addr) (c c' : Nat) (a b : List Sp) (w : World) (hs : SlS w w.heap.size A a) (hs' : SlS w w.heap.size A' b) (hA : A = none → a.length = 0 ∧ c = 0) (hA' : A' = none → b.length = 0 ∧ c' = 0) (hla : a.length ≤ 100) (hlb : b.length ≤ 100) :
    Calls Try.prog 18 #[.slice A a.length c, .slice A' b.length c', .int .i64 0] w fun e w' => ∃ v, e = .returned (.tuple #[v, .int .i64 (twoE a b)]) ∧ OwnS w' w.heap.size v (twoL orF a b) ∧ Below w.heap.size w w' := by
  have HSA := Lib.hid hs
  have HSB := Lib.hid hs'
  have HNA := Lib.hid hA
  have HNB := Lib.hid hA'
  have h1 := refSet_any A c a w w.heap.size hs (by omega)
  have h2 := fun n => refSet_any A' c' b (w.drewN n) w.heap.size (hs'.drewN n) (by omega)
  obtain ⟨x, hx⟩ : ∃ x, setB a = x := ⟨_, rfl⟩
  obtain ⟨y, hy⟩ : ∃ y, setB b = y := ⟨_, rfl⟩
  unfold twoE twoL
  rw [hx] at h1
  rw [hy] at h2
  rw [hx, hy]
  clear hs hs' hA hA' hx hy
  go_enter Try.func18, Try.ntmps18
  go_wp2_with fail
  refine h1.mono ?_
  rintro e w1 ⟨rfl, n1, rfl⟩
  go_wp2_with fail
  refine (h2 n1).mono ?_
  rintro e w2 ⟨rfl, n2, rfl⟩
  clear h1 h2
  rcases x with _ | _ <;> rcases y with _ | _
  · go_wp2_with fail
    go_ret2
    exact ⟨_, rfl, ownS_nil _ _, below_ind (Below.refl _ _) _⟩
  · go_wp2_with fail
    go_ret2
    exact ⟨_, rfl, ownS_nil _ _, below_ind (Below.refl _ _) _⟩
  · go_wp2_with fail
    go_ret2
    exact ⟨_, rfl, ownS_nil _ _, below_ind (Below.refl _ _) _⟩
  · go_wp2_with fail
    refine (ofOr_any A A' c c' a b (w.drewN (n1 + n2)) (HSA.out.drewN (n1 + n2)) (HSB.out.drewN (n1 + n2)) HNA.out HNB.out hla hlb).mono ?_
    rintro e w3 ⟨v, rfl, ho, hb⟩
    have HO := Lib.hid ho
    have HB := Lib.hid ((below_ind (Below.refl w.heap.size w) (n1 + n2)).trans hb)
    clear ho hb
    go_wp2_with fail
    go_ret2
    exact ⟨_, rfl, HO.out, HB.out⟩

set_option maxRecDepth 100000 in
set_option maxHeartbeats 1000000 in
theorem twoAnd_any (A A' : Option Addr) (c c' : Nat) (a b : List Sp) (w : World) (hs : SlS w w.heap.size A a) (hs' : SlS w w.heap.size A' b) (hA : A = none → a.length = 0 ∧ c = 0) (hA' : A' = none → b.length = 0 ∧ c' = 0) (hla : a.length ≤ 100) (hlb : b.length ≤ 100) :
    Calls Try.prog 18 #[.slice A a.length c, .slice A' b.length c', .int .i64 1] w fun e w' => ∃ v, e = .returned (.tuple #[v, .int .i64 (twoE a b)]) ∧ OwnS w' w.heap.size v (twoL andF a b) ∧ Below w.heap.size w w' := by
  have HSA := Lib.hid hs
  have HSB := Lib.hid hs'
  have HNA := Lib.hid hA
  have HNB := Lib.hid hA'
  have h1 := refSet_any A c a w w.heap.size hs (by omega)
  have h2 := fun n => refSet_any A' c' b (w.drewN n) w.heap.size (hs'.drewN n) (by omega)
  obtain ⟨x, hx⟩ : ∃ x, setB a = x := ⟨_, rfl⟩
  obtain ⟨y, hy⟩ : ∃ y, setB b = y := ⟨_, rfl⟩
  unfold twoE twoL
  rw [hx] at h1
  rw [hy] at h2
  rw [hx, hy]
  clear hs hs' hA hA' hx hy
  go_enter Try.func18, Try.ntmps18
  go_wp2_with fail
  refine h1.mono ?_
  rintro e w1 ⟨rfl, n1, rfl⟩
  go_wp2_with fail
  refine (h2 n1).mono ?_
  rintro e w2 ⟨rfl, n2, rfl⟩
  clear h1 h2
  rcases x with _ | _ <;> rcases y with _ | _
  · go_wp2_with fail
    go_ret2
    exact ⟨_, rfl, ownS_nil _ _, below_ind (Below.refl _ _) _⟩
  · go_wp2_with fail
    go_ret2
    exact ⟨_, rfl, ownS_nil _ _, below_ind (Below.refl _ _) _⟩
  · go_wp2_with fail
    go_ret2
    exact ⟨_, rfl, ownS_nil _ _, below_ind (Below.refl _ _) _⟩
  · go_wp2_with fail
    refine (ofAnd_any A A' c c' a b (w.drewN (n1 + n2)) (HSA.out.drewN (n1 + n2)) (HSB.out.drewN (n1 + n2)) HNA.out HNB.out hla hlb).mono ?_
    rintro e w3 ⟨v, rfl, ho, hb⟩
    have HO := Lib.hid ho
    have HB := Lib.hid ((below_ind (Below.refl w.heap.size w) (n1 + n2)).trans hb)
    clear ho hb
    go_wp2_with fail
    go_ret2
    exact ⟨_, rfl, HO.out, HB.out⟩

set_option maxRecDepth 100000 in
set_option maxHeartbeats 1000000 in
theorem twoNot_any (A A' : Option Addr) (c c' : Nat) (a b : List Sp) (w : World) (hs : SlS w w.heap.size A a) (hs' : SlS w w.heap.size A' b) (hA : A = none → a.length = 0 ∧ c = 0) (hA' : A' = none → b.length = 0 ∧ c' = 0) (hla : a.length ≤ 100) (hlb : b.length ≤ 100) :
    Calls Try.prog 18 #[.slice A a.length c, .slice A' b.length c', .int .i64 2] w fun e w' => ∃ v, e = .returned (.tuple #[v, .int .i64 (twoE a b)]) ∧ OwnS w' w.heap.size v (twoL notF a b) ∧ Below w.heap.size w w' := by
  have HSA := Lib.hid hs
  have HSB := Lib.hid hs'
  have HNA := Lib.hid hA
  have HNB := Lib.hid hA'
  have h1 := refSet_any A c a w w.heap.size hs (by omega)
  have h2 := fun n => refSet_any A' c' b (w.drewN n) w.heap.size (hs'.drewN n) (by omega)
  obtain ⟨x, hx⟩ : ∃ x, setB a = x := ⟨_, rfl⟩
  obtain ⟨y, hy⟩ : ∃ y, setB b = y := ⟨_, rfl⟩
  unfold twoE twoL
  rw [hx] at h1
  rw [hy] at h2
  rw [hx, hy]
  clear hs hs' hA hA' hx hy
  go_enter Try.func18, Try.ntmps18
  go_wp2_with fail
  refine h1.mono ?_
  rintro e w1 ⟨rfl, n1, rfl⟩
  go_wp2_with fail
  refine (h2 n1).mono ?_
  rintro e w2 ⟨rfl, n2, rfl⟩
  clear h1 h2
  rcases x with _ | _ <;> rcases y with _ | _
  · go_wp2_with fail
    go_ret2
    exact ⟨_, rfl, ownS_nil _ _, below_ind (Below.refl _ _) _⟩
  · go_wp2_with fail
    go_ret2
    exact ⟨_, rfl, ownS_nil _ _, below_ind (Below.refl _ _) _⟩
  · go_wp2_with fail
    go_ret2
    exact ⟨_, rfl, ownS_nil _ _, below_ind (Below.refl _ _) _⟩
  · go_wp2_with fail
    refine (ofNot_any A A' c c' a b (w.drewN (n1 + n2)) (HSA.out.drewN (n1 + n2)) (HSB.out.drewN (n1 + n2)) HNA.out HNB.out hla hlb).mono ?_
    rintro e w3 ⟨v, rfl, ho, hb⟩
    have HO := Lib.hid ho
    have HB := Lib.hid ((below_ind (Below.refl w.heap.size w) (n1 + n2)).trans hb)
    clear ho hb
    go_wp2_with fail
    go_ret2
    exact ⟨_, rfl, HO.out, HB.out⟩
end Go.Proofs.Ytefekkcmoambhaa
