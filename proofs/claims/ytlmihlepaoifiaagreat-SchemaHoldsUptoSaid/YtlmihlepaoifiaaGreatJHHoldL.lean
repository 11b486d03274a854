import Derived.Shelf.RegionOpen
import Derived.RangeFuncNested
import Derived.WalkMore
import Derived.BigQuiet
import Derived.Deep.Slices
import Derived.JoinedCond
import Derived.Test.YtlmihlepaoifiaaGreatJFTgL
import Derived.Test.YtlmihlepaoifiaaGreatJVSl
import Derived.Test.YtlmihlepaoifiaaGreatJFSame
import Derived.Test.YtlmihlepaoifiaaGreatJFLastP
import Derived.Test.YtlmihlepaoifiaaGreatJDComp
import Derived.Test.YtlmihlepaoifiaaGreatJOArgs
import Derived.Test.YtlmihlepaoifiaaGreatJSArgs
import Derived.Test.YtlmihlepaoifiaaGreatJFMay
import Derived.Test.YtlmihlepaoifiaaGreatJHDocH
import Derived.Test.YtlmihlepaoifiaaGreatJHDocP
/-
  PLAIN FACTS: datoms, and behind them the changes from their fold to some facts, are folded to these.
-/
namespace Go.Proofs.YtlmihlepaoifiaaGreat
open VOrd (IsOrd lexO lex_is ordI_is ordT_is ordT)

end Go.Proofs.YtlmihlepaoifiaaGreat

/-
  CONTRACT: the document's Great of facts; how many spans a fold has, and how many changes there are.
-/
namespace Go.Proofs.YtlmihlepaoifiaaGreat
open Go.RowKit Go.Shelf

def costF (l : List FactP) : Int := (l.map fun f => (20 + (f.s.size : Int) + 4 * (f.l.length : Int))).sum
theorem costF_take {l : List FactP} {j : Nat} (h : j < l.length) : costF (l.take (j + 1)) = costF (l.take j) + 20 + (l[j].s.size : Int) + 4 * (l[j].l.length : Int) := by
  have ht : l.take (j + 1) = l.take j ++ [l[j]] := by rw [List.take_add_one, List.getElem?_eq_getElem h]; rfl
  unfold costF
  rw [ht, List.map_append, List.sum_append]
  simp
  omega
theorem costF_le (l : List FactP) (hs : ∀ p ∈ l, p.s.size + p.l.length ≤ 1048576) : costF l ≤ l.length * 4194324 ∧ (l.length : Int) * 20 + 4 * (sumS l : Int) ≤ costF l := by
  induction l with
  | nil => simp [costF, sumS]
  | cons p r ih =>
    have h1 := ih (fun q hq => hs q (by simp [hq]))
    have h2 := hs p (by simp)
    unfold costF sumS at h1 ⊢
    simp only [List.map_cons, List.sum_cons, List.length_cons]
    omega
set_option maxRecDepth 100000 in
set_option maxHeartbeats 2000000 in
theorem greatF_upto (A : Option Addr) (c : Nat) (l : List FactP) (w : World) (hs : FVa w (.slice A l.length c) l) (hl : l.length ≤ 1048576) (hz : ∀ f ∈ l, f.s.size + f.l.length ≤ 1048576) :
    Calls Tryz.prog 4 #[.slice A l.length c] w fun e w' => ((e = .returned (.int .i64 0) ∧ l.length ≤ 150 ∧ sumS l ≤ 750) ∨ e = .returned (.int .i64 1)) ∧ Below w.heap.size w w' := by
  have HS := Lib.hid hs
  have HZ := Lib.hid hz
  clear hs hz
  go_enter Tryz.func4, Tryz.ntmps4
  go_wp2
  go_loopg [3, 4] l.length (fun g x y wr => ∃ j q : Nat, x = .int .i64 (costF (l.take j)) ∧ y = .int .i64 j ∧ j + g = l.length ∧ wr = w.drewN q)
  case atStart => exact ⟨0, 0, rfl, rfl, by omega, rfl⟩
  case round =>
    obtain ⟨j, q, rfl, rfl, hj, rfl⟩ := hrel
    cases gk with
    | succ g =>
      have hji : (j : Int) < (l.length : Int) := by omega
      have hjn : j < l.length := by omega
      obtain ⟨b, o, sv, rfl, _, hc, hsv⟩ := fva_at HS.out hjn
      obtain ⟨As, cs, rfl, _⟩ := hsv
      have hcs := Lib.hid (costF_take hjn)
      have hcl := costF_le (l.take j) (fun p hp => HZ.out p (List.mem_of_mem_take hp))
      have htl : (l.take j).length ≤ 1048576 := by rw [List.length_take]; omega
      obtain ⟨T, hT⟩ : ∃ T, costF (l.take j) = T := ⟨_, rfl⟩
      rw [hT] at hcl
      rw [hT]
      have hsz := HZ.out _ (List.getElem_mem hjn)
      obtain ⟨f, hf⟩ : ∃ f, l[j] = f := ⟨_, rfl⟩
      rw [hf] at hc hcs hsz
      have hTT : T ≤ 5000000000000 := by omega
      have hT0 : 0 ≤ T := by omega
      have hs1 : f.s.size ≤ 1048576 := by omega
      have hs2 : f.l.length ≤ 1048576 := by omega
      have HT := Lib.hid hT
      have c4 := hc.2.2.2.2.1
      have c5 := hc.2.2.2.2.2
      clear hc hT hcl htl hf hsz
      go_wp2
      go_big_quiet (fail)
      go_wp2
      go_roundg g
      case measure => omega
      case rel => exact ⟨j + 1, _, by rw [hcs.out, HT.out], by go_num, by omega, rfl⟩
    | zero =>
      have hji : ¬ (j : Int) < (l.length : Int) := by omega
      have ht : l.take j = l := List.take_of_length_le (by omega)
      have hcl := costF_le l HZ.out
      rw [ht]
      obtain ⟨T, hT⟩ : ∃ T, costF l = T := ⟨_, rfl⟩
      rw [hT] at hcl ⊢
      have HB : Hid (Below w.heap.size w (w.drewN q)) := below_ind (Below.refl _ w) q
      clear ht hT
      by_cases hn : 3000 < T
      · go_wp2
        go_ret
        exact ⟨.inr rfl, HB.out⟩
      · have hl2 : l.length ≤ 150 := by omega
        have hl3 : sumS l ≤ 750 := by omega
        clear hcl
        go_wp2
        go_ret
        first | exact ⟨.inl ⟨rfl, hl2, hl3⟩, HB.out⟩ | exact ⟨.inl rfl, HB.out⟩

end Go.Proofs.YtlmihlepaoifiaaGreat

/-
  THE LAW SchemaHolds.
-/
namespace Go.Proofs.YtlmihlepaoifiaaGreat
open Go.RowKit Go.Shelf

/-- what the law asks of its facts -/
structure InA (w : World) (A : Option Addr) (c : Nat) (fs : List FactP) : Prop where
  f : FVa w (.slice A fs.length c) fs
  u : fs.length ≤ 1048576 ∧ ∀ f ∈ fs, f.s.size + f.l.length ≤ 1048576
  z : ∀ f ∈ fs, f.s.size ≤ maxLen
  k : ∀ f ∈ fs, ∀ s ∈ f.l, SpOk s
set_option maxRecDepth 100000 in
set_option maxHeartbeats 4000000 in
theorem holdsL_any (A : Option Addr) (c : Nat) (fs : List FactP) (w : World) (H : InA w A c fs) :
    Calls Tryz.prog 3 #[.slice A fs.length c] w fun e w' => e = .returned (.bool true) ∧ Below w.heap.size w w' := by
  have HA := Lib.hid H
  have HGR := Lib.hid (greatF_upto A c fs w H.f H.u.1 H.u.2)
  clear H
  go_enter Tryz.func3, Tryz.ntmps3
  go_wp2_with fail
  refine HGR.out.mono ?_
  rintro e w2 ⟨⟨rfl, hl1, hs1⟩ | rfl, hb2⟩
  rotate_left
  · have HB2 := Lib.hid hb2
    clear hb2 HGR
    go_wp2
    go_ret
    exact ⟨rfl, HB2.out⟩
  · have HB2 := Lib.hid hb2
    have HL1 := Lib.hid (And.intro hl1 hs1)
    have hz : ∀ f ∈ fs, f.s.size ≤ maxLen ∧ f.l.length ≤ 9223372036854775807 := fun f hf => ⟨HA.out.z f hf, by have := sumS_mem hf; omega⟩
    have hz2 : ∀ f ∈ fs, f.s.size ≤ maxLen ∧ f.l.length ≤ 1000 := fun f hf => ⟨HA.out.z f hf, by have := sumS_mem hf; omega⟩
    have HH1 := Lib.hid (holds_any A c fs w2 (HA.out.f.next HB2.out) (by omega) (by omega) hz HA.out.k)
    have HH2 := Lib.hid (fun X (hX : Below w.heap.size w X) => refHolds_any A c fs X (HA.out.f.next hX) (by omega) hz2 HA.out.k)
    obtain ⟨R, hR⟩ : ∃ R, holdsE fs = R := ⟨_, rfl⟩
    rw [hR] at HH1 HH2
    have hRR : (R == R) = true := beq_self_eq_true R
    clear hb2 HGR hz hz2 hl1 hs1 hR
    go_wp2_with fail
    refine HH1.out.mono ?_
    rintro e w3 ⟨rfl, hb3⟩
    have HB3 := Lib.hid (HB2.out.trans (hb3.mono HB2.out.size))
    clear hb3 HH1
    go_wp2_with fail
    refine (HH2.out w3 HB3.out).mono ?_
    rintro e w4 ⟨rfl, hb4⟩
    have HB4 := Lib.hid (HB3.out.trans (hb4.mono HB3.out.size))
    clear hb4 HH2
    go_wp2
    go_ret
    exact ⟨rfl, HB4.out⟩
end Go.Proofs.YtlmihlepaoifiaaGreat
