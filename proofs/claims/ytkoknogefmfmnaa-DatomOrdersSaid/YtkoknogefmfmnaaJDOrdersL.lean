import Derived.Test.YtkoknogefmfmnaaJDRefR3
import Derived.Test.YtkoknogefmfmnaaJOKeyW
import Derived.Test.YtkoknogefmfmnaaJDSortsL
/-
  CONTRACT of the document's own answer over datoms: Read, in order 4.
-/
namespace Go.Proofs.Ytkoknogefmfmnaa
open Go.RowKit

def st4 (ps : List PartP) : Nat → Dat
  | 0 => (startD ps)
  | 1 => ({ startD ps with k := (pAt ps 0).k, m := (pAt ps 0).m, s := (pAt ps 0).s } : Dat)
  | 2 => ({ startD ps with k := (pAt ps 0).k, m := (pAt ps 0).m, s := (pAt ps 0).s, a := (pAt ps 1).n } : Dat)
  | _ => ({ startD ps with k := (pAt ps 0).k, m := (pAt ps 0).m, s := (pAt ps 0).s, a := (pAt ps 1).n, e := (pAt ps 2).n } : Dat)
end Go.Proofs.Ytkoknogefmfmnaa

/-
  CONTRACT of the document's own answer over datoms: Read.
-/
namespace Go.Proofs.Ytkoknogefmfmnaa
open Go.RowKit
end Go.Proofs.Ytkoknogefmfmnaa

/-
  THE LAW DatomTells: its walk.
-/
namespace Go.Proofs.Ytkoknogefmfmnaa
open Go.RowKit

def keyDL (o : Int) (d : Dat) : List UInt8 := if fitD o d = true then keyD o d else []
def keyDN (o : Int) (d : Dat) : Int := if isO o = true then if fitD o d = true then 0 else 40 else 2
def rdD (o : Int) (b : List UInt8) : Dat := if isO o = true then (readD o b).getD zeroD else zeroD
def rdN (o : Int) (b : List UInt8) : Int := if isO o = true then if (readD o b).isSome = true then 0 else 40 else 2
theorem dKeyEnd_is {W w' : World} {o : Int} {d : Dat} {e : Ending} (h : DKeyEnd W o d e w') : ∃ A c, e = .returned (.tuple #[.slice A (keyDL o d).length c, .int .i64 (keyDN o d)]) ∧ SlB w' w'.heap.size A (keyDL o d) ∧ (keyDL o d).length ≤ c ∧ c ≤ maxLen ∧ Below W.heap.size W w' := by
  obtain ⟨⟨ho, rfl⟩ | ⟨ho, hf, rfl⟩ | ⟨hf, v, rfl, hown⟩, hb⟩ := h
  · have hf : fitD o d = false := by
      cases hh : fitD o d with
      | false => rfl
      | true => rw [fitD_isO hh] at ho; cases ho
    unfold keyDL keyDN
    rw [ho, hf]
    exact ⟨none, 0, rfl, fun h => absurd rfl h, Nat.le_refl _, Nat.zero_le _, hb⟩
  · unfold keyDL keyDN
    rw [ho, hf]
    exact ⟨none, 0, rfl, fun h => absurd rfl h, Nat.le_refl _, Nat.zero_le _, hb⟩
  · obtain ⟨A, c, rfl⟩ := ownB_form hown
    obtain ⟨h1, h2⟩ := ownB_cap hown
    unfold keyDL keyDN
    rw [if_pos hf, if_pos (fitD_isO hf), if_pos hf]
    exact ⟨A, c, rfl, (SlB.of_own hown).2, h1, h2, hb⟩
theorem dReadEnd_is {W w' : World} {o : Int} {b : List UInt8} {e : Ending} (h : DReadEnd W o b e w') : e = .returned (.tuple #[dV (rdD o b), .int .i64 (rdN o b)]) ∧ Below W.heap.size W w' := by
  obtain ⟨⟨ho, rfl⟩ | ⟨ho, hf, rfl⟩ | ⟨ho, d, hf, rfl⟩, hb⟩ := h
  · unfold rdD rdN
    rw [ho]
    exact ⟨rfl, hb⟩
  · unfold rdD rdN
    rw [ho, hf]
    exact ⟨rfl, hb⟩
  · unfold rdD rdN
    rw [ho, hf]
    exact ⟨rfl, hb⟩
theorem dReadEnd_at {W w' : World} {o : Int} {b : List UInt8} {e : Ending} {R : Dat} (hR : rdD o b = R) (h : DReadEnd W o b e w') : e = .returned (.tuple #[.agg #[.int .i64 R.e, .int .i64 R.a, .int .i64 R.k, .int .i64 R.m, .string R.s, .int .i64 R.t, .bool R.add, .int .i64 R.fr, .int .i64 R.til], .int .i64 (rdN o b)]) ∧ Below W.heap.size W w' := by
  obtain ⟨h1, h2⟩ := dReadEnd_is h
  rw [hR] at h1
  exact ⟨h1, h2⟩
theorem eqlD (d : Dat) (w : World) : (binOp .eql 36 (.agg #[.int .i64 d.e, .int .i64 d.a, .int .i64 d.k, .int .i64 d.m, .string d.s, .int .i64 d.t, .bool d.add, .int .i64 d.fr, .int .i64 d.til]) (.agg #[.int .i64 d.e, .int .i64 d.a, .int .i64 d.k, .int .i64 d.m, .string d.s, .int .i64 d.t, .bool d.add, .int .i64 d.fr, .int .i64 d.til])).run Try.prog w = .ok (.bool true) w := by
  have u4 := Try.underlying4
  have u3 := Try.underlying3
  have u2 := Try.underlying2
  have u9 := Try.underlying9
  have a4 := Try.isAgg4
  have a3 := Try.isAgg3
  have a2 := Try.isAgg2
  have a9 := Try.isAgg9
  have aV := Try.isAgg24
  have hS : Try.prog.underlying 36 = some (.struct (Try.prog.fieldsOf 36)) := by kernel_rfl
  have hp : Try.prog.stoodInHeld 36 = false := by kernel_rfl
  have hS' : Try.prog.underlying 24 = some (.struct (Try.prog.fieldsOf 24)) := by kernel_rfl
  have hp' : Try.prog.stoodInHeld 24 = false := by kernel_rfl
  have hV : ∀ w, (Op.equalIn 9999 24 (.agg #[.int .i64 d.k, .int .i64 d.m, .string d.s]) (.agg #[.int .i64 d.k, .int .i64 d.m, .string d.s])).run Try.prog w = .ok true w := fun w => by
    rw [show (9999 : Nat) = 9998 + 1 from rfl, run_equalIn_agg w 9998 24 _ _ hS' hp']
    simp only [Program.fieldsOf, Try.underlying24]
    go_simp
  rw [run_eql_struct, show (10000 : Nat) = 9999 + 1 from rfl, run_equalIn_agg w 9999 36 _ _ hS hp]
  simp only [Program.fieldsOf, Try.underlying36]
  go_simp
/-- what the last region reads -/
def TS (N ba bb b1 b2 : Nat) (a b D : Dat) (X Y : Option Addr) (K : List UInt8) (W : World) : Prop :=
  (DatAt W ba a ∧ DatAt W bb b) ∧ (DatAt W b1 D ∧ DatAt W b2 D) ∧ (SlB W N X K ∧ SlB W N Y K) ∧ N ≤ W.heap.size
theorem TS.next {N ba bb b1 b2 : Nat} {a b D : Dat} {X Y : Option Addr} {K : List UInt8} {W W' : World} (h : TS N ba bb b1 b2 a b D X Y K W) (hb : Below W.heap.size W W') : TS N ba bb b1 b2 a b D X Y K W' :=
  ⟨⟨h.1.1.next hb h.1.1.lt, h.1.2.next hb h.1.2.lt⟩, ⟨h.2.1.1.next hb h.2.1.1.lt, h.2.1.2.next hb h.2.1.2.lt⟩, ⟨h.2.2.1.1.next hb h.2.2.2, h.2.2.1.2.next hb h.2.2.2⟩, Nat.le_trans h.2.2.2 hb.size⟩

end Go.Proofs.Ytkoknogefmfmnaa

/-
  CONTRACT: alive (the chapter's first example).
-/
namespace Go.Proofs.Ytkoknogefmfmnaa
open Go.RowKit

def fewD : Dat := ⟨5, 10, 5, 7, ⟨#[]⟩, 1, true, -9223372036854775808, 9223372036854775807⟩
theorem few_ok : DatOk fewD := ⟨by unfold i64B fewD; decide, by unfold i64B fewD; decide, by unfold i64B fewD; decide, by unfold i64B fewD; decide, by unfold i64B fewD; decide, by unfold i64B fewD; decide, by unfold i64B fewD; decide⟩
theorem few_fit : fitD 4 fewD = true := by decide +kernel
set_option maxHeartbeats 400000 in
theorem few_any (w : World) : Calls Try.prog 17 #[] w fun e w' => e = .returned (.agg #[.int .i64 fewD.e, .int .i64 fewD.a, .int .i64 fewD.k, .int .i64 fewD.m, .string fewD.s, .int .i64 fewD.t, .bool fewD.add, .int .i64 fewD.fr, .int .i64 fewD.til]) ∧ Below w.heap.size w w' := by
  show Calls _ _ _ _ fun e w' => e = .returned (.agg #[.int .i64 5, .int .i64 10, .int .i64 5, .int .i64 7, .string ⟨#[]⟩, .int .i64 1, .bool true, .int .i64 (-9223372036854775808), .int .i64 9223372036854775807]) ∧ Below w.heap.size w w'
  go_enter Try.func17, Try.ntmps17
  go_wp2
  refine bodyPost_ret (v := .agg #[.int .i64 5, .int .i64 10, .int .i64 5, .int .i64 7, .string ⟨#[]⟩, .int .i64 1, .bool true, .int .i64 (-9223372036854775808), .int .i64 9223372036854775807]) ?_ rfl ⟨rfl, ?_⟩
  · rw [results_cell_only rfl]
    go_simp
  · exact (Below.refl _ _).alloc (Nat.le_refl _) _
set_option maxRecDepth 100000 in
set_option maxHeartbeats 1000000 in
theorem dAlive_any (w : World) : Calls Try.prog 15 #[] w fun e w' => e = .returned (.bool true) ∧ Below w.heap.size w w' := by
  have HF := Lib.hid (few_any w)
  have HK := Lib.hid (fun X => keyD_any 4 fewD X (by decide) few_ok)
  go_enter Try.func15, Try.ntmps15
  go_wp2_with fail
  refine HF.out.mono ?_
  rintro e w1 ⟨rfl, hb⟩
  have HB1 := Lib.hid hb
  clear hb
  go_wp2_with fail
  refine (HK.out _).mono ?_
  rintro e w2 ⟨⟨hno, _⟩ | ⟨_, hf, _⟩ | ⟨_, v, rfl, hown⟩, hb⟩
  · exact absurd hno (by decide)
  · rw [few_fit] at hf; cases hf
  · have hlen : (keyD 4 fewD).length = 56 + 1 := by decide +kernel
    have hr : w2.ownsRow w1.heap.size 5 1 v (keyD 4 fewD).length (cellsL (keyD 4 fewD)) := hown
    rw [hlen] at hr
    obtain ⟨g, cap, rfl⟩ := ownsRow_succ hr
    have b0 : w2.cell? ⟨g, 0, none⟩ = some (.int .u8 5) := (hr.cellAt 0 (by omega)).trans (by kernel_rfl)
    have b1 : w2.cell? ⟨g, 8, none⟩ = some (.int .u8 7) := (hr.cellAt 8 (by omega)).trans (by kernel_rfl)
    have b2 : w2.cell? ⟨g, 16, none⟩ = some (.int .u8 10) := (hr.cellAt 16 (by omega)).trans (by kernel_rfl)
    have b3 : w2.cell? ⟨g, 24, none⟩ = some (.int .u8 5) := (hr.cellAt 24 (by omega)).trans (by kernel_rfl)
    have HB2 := Lib.hid (HB1.out.trans (hb.mono HB1.out.size))
    clear hb hr hown hlen
    go_wp2
    go_ret
    exact ⟨rfl, HB2.out⟩
end Go.Proofs.Ytkoknogefmfmnaa

/-
  THE LAW DatomOrders.
-/
namespace Go.Proofs.Ytkoknogefmfmnaa
open Go.RowKit Go.Shelf

theorem hasD_all {o : Int} (h1 : 1 ≤ o) (h3 : o ≤ 3) (d : Dat) : hasD o d = true := by
  unfold hasD
  rw [decide_eq_true_eq]
  exact .inl ⟨h1, h3⟩
theorem filter_all {o : Int} (h1 : 1 ≤ o) (h3 : o ≤ 3) (l : List Dat) : l.filter (hasD o) = l := List.filter_eq_self.2 fun d _ => hasD_all h1 h3 d
theorem isO_of {o : Int} (h1 : 1 ≤ o) (h4 : o ≤ 4) : isO o = true := by
  unfold isO
  rw [decide_eq_true_eq]
  exact ⟨h1, h4⟩
theorem sortsD_ups {p : Int} (hp : isO p = true) (l : List Dat) : Ups (ordD p) (sortsD p l) ∧ ∀ z, z ∈ sortsD p l ↔ z ∈ l.filter (hasD p) := by
  unfold sortsD
  rw [if_pos hp]
  obtain ⟨h1, h2⟩ := putsG_from (ordD_is hp) (l.filter (hasD p)) [] List.Pairwise.nil
  exact ⟨h1, fun z => (h2 z).trans (by simp)⟩
theorem sorts_again {o p : Int} (h1 : 1 ≤ o) (h3 : o ≤ 3) (hp : isO p = true) (l : List Dat) : sortsD p (sortsD o l) = sortsD p l := by
  obtain ⟨u1, m1⟩ := sortsD_ups hp (sortsD o l)
  obtain ⟨u2, m2⟩ := sortsD_ups hp l
  obtain ⟨_, m3⟩ := sortsD_ups (isO_of h1 (by omega)) l
  refine ups_uniq (ordD_is hp) _ _ u1 u2 fun z => ?_
  rw [m1, m2, List.mem_filter, List.mem_filter, m3, filter_all h1 h3]
theorem nodup_le {α : Type} : ∀ (a b : List α), a.Nodup → (∀ x ∈ a, x ∈ b) → a.length ≤ b.length
  | [], b, _, _ => Nat.zero_le _
  | x :: r, b, hn, hm => by
    obtain ⟨hx, hr⟩ := List.nodup_cons.1 hn
    obtain ⟨b1, b2, rfl⟩ := List.append_of_mem (hm x (by simp))
    have := nodup_le r (b1 ++ b2) hr fun y hy => by
      have h1 := hm y (by simp [hy])
      have hne : y ≠ x := fun e => hx (by rw [← e]; exact hy)
      simp only [List.mem_append, List.mem_cons] at h1 ⊢
      rcases h1 with h | h | h
      · exact .inl h
      · exact absurd h hne
      · exact .inr h
    simp at this ⊢
    omega
theorem ups_nodup {α : Type} {o : α → α → Int} (h : VOrd.IsOrd o) {l : List α} (hu : Ups o l) : l.Nodup :=
  hu.imp fun {a b} hab e => by
    subst e
    have := (h.zero a a).2 rfl
    omega
theorem sorts_len {o p : Int} (h1 : 1 ≤ o) (h3 : o ≤ 3) (k1 : 1 ≤ p) (k3 : p ≤ 3) (l : List Dat) : (sortsD o l).length = (sortsD p l).length := by
  have io := isO_of h1 (Int.le_trans h3 (by decide))
  have ip := isO_of k1 (Int.le_trans k3 (by decide))
  obtain ⟨u1, m1⟩ := sortsD_ups io l
  obtain ⟨u2, m2⟩ := sortsD_ups ip l
  rw [filter_all h1 h3] at m1
  rw [filter_all k1 k3] at m2
  exact Nat.le_antisymm (nodup_le _ _ (ups_nodup (ordD_is io) u1) fun x hx => (m2 x).2 ((m1 x).1 hx)) (nodup_le _ _ (ups_nodup (ordD_is ip) u2) fun x hx => (m1 x).2 ((m2 x).1 hx))
theorem ups_at {α : Type} {o : α → α → Int} {l : List α} (hu : Ups o l) {j : Nat} (h1 : 1 ≤ j) (hj : j < l.length) : o (l[j - 1]'(by omega)) l[j] < 0 :=
  List.pairwise_iff_getElem.1 hu (j - 1) j (by omega) hj (by omega)

set_option maxRecDepth 100000 in
set_option maxHeartbeats 4000000 in
theorem dOrders_any (o p : Int) (A : Option Addr) (c : Nat) (l : List Dat) (w : World) (hs : SlD w w.heap.size A l) (_hA : A = none → l.length = 0 ∧ c = 0) (hl : l.length * 80 ≤ 140737488355328) (_hz : ∀ v ∈ l, v.s.size ≤ maxLen) :
    Calls Try.prog 5 #[.int .i64 o, .int .i64 p, .slice A l.length c] w fun e w' => e = .returned (.bool true) ∧ Below w.heap.size w w' := by
  have HS := Lib.hid hs
  clear hs
  go_enter Try.func5, Try.ntmps5
  go_wp2_with fail
  refine (dAlive_any _).mono ?_
  rintro e w1 ⟨rfl, hb1⟩
  have HB1 := Lib.hid hb1
  have HS1 := Lib.hid ((HS.out.next hb1 (Nat.le_refl _)).more hb1.size)
  clear hb1
  have HGR := Lib.hid (greatD_any A c l w1 w1.heap.size HS1.out (by omega))
  go_wp2_with fail
  refine HGR.out.mono ?_
  rintro e w' ⟨rfl | rfl, rfl⟩
  · by_cases h1 : o < 1
    · go_wp2
      go_ret
      exact ⟨rfl, HB1.out⟩
    by_cases h3 : 3 < o
    · go_wp2
      go_ret
      exact ⟨rfl, HB1.out⟩
    by_cases k1 : p < 1
    · go_wp2
      go_ret
      exact ⟨rfl, HB1.out⟩
    by_cases k4 : 4 < p
    · go_wp2
      go_ret
      exact ⟨rfl, HB1.out⟩
    have hip : isO p = true := isO_of (by omega) (by omega)
    have HIP := Lib.hid hip
    have HAG := Lib.hid (sorts_again (o := o) (p := p) (by omega) (by omega) hip l)
    have HLN : Hid (p ≠ 4 → (sortsD o l).length = (sortsD p l).length) := fun h => sorts_len (by omega) (by omega) (by omega) (by omega) l
    have HUP := Lib.hid (sortsD_ups hip l).1
    have HN1 := Lib.hid (sortsD_len o l)
    have HN2 := Lib.hid (sortsD_len p l)
    have HC := Lib.hid (sortedD_any o A c l w1 HS1.out hl)
    clear hip
    go_wp2_with fail
    refine HC.out.mono ?_
    rintro e w2 ⟨A2, c2, rfl, hs2, hb2⟩
    have HS2 := Lib.hid hs2
    have HB2 := Lib.hid (HB1.out.trans (hb2.mono HB1.out.size))
    clear hs2 hb2 HC
    obtain ⟨X, hX⟩ : ∃ X, sortsD o l = X := ⟨_, rfl⟩
    rw [hX] at HS2 HAG HLN HN1 ⊢
    have HC := Lib.hid (sortedD_any p A2 c2 X w2 HS2.out (by have := HN1.out; omega))
    rw [HAG.out] at HC
    clear hX HAG
    go_wp2_with fail
    refine HC.out.mono ?_
    rintro e w3 ⟨A3, c3, rfl, hs3, hb3⟩
    have HS3 := Lib.hid hs3
    have HB3 := Lib.hid (HB2.out.trans (hb3.mono HB2.out.size))
    have HSl := Lib.hid ((HS.out.next HB3.out (Nat.le_refl _)).more HB3.out.size)
    clear hs3 hb3 HC
    have HC := Lib.hid (sortedD_any p A c l w3 HSl.out hl)
    go_wp2_with fail
    refine HC.out.mono ?_
    rintro e w4 ⟨A4, c4, rfl, hs4, hb4⟩
    have HS4 := Lib.hid hs4
    have HB4 := Lib.hid (HB3.out.trans (hb4.mono HB3.out.size))
    have HS34 := Lib.hid ((HS3.out.next hb4 (Nat.le_refl _)).more hb4.size)
    clear hs4 hb4 HC
    obtain ⟨C, hC⟩ : ∃ C, sortsD p l = C := ⟨_, rfl⟩
    rw [hC] at HS4 HS34 HUP HLN HN2 ⊢
    have hCl : C.length ≤ 2000000000000 := by have := HN2.out; omega
    clear hC
    go_wp2
    go_loopg [11] C.length (fun g x wr => ∃ j : Nat, 1 ≤ j ∧ C.length - j ≤ g ∧ j ≤ C.length + 1 ∧ x = .int .i64 j ∧ Hid (Below w4.heap.size w4 wr))
    case atStart => exact ⟨1, Nat.le_refl _, by omega, by omega, rfl, Below.refl _ _⟩
    case round =>
      obtain ⟨j, hj1, hg, hjl, rfl, HBr⟩ := hrel
      by_cases hlt : j < C.length
      · have hji : (j : Int) < (C.length : Int) := by omega
        obtain ⟨b, q, rfl, hbl, hp1⟩ := (HS4.out.next HBr.out (Nat.le_refl _)).at_ hlt
        obtain ⟨b', q', he, _, hp0⟩ := (HS4.out.next HBr.out (Nat.le_refl _)).at_ (show j - 1 < C.length by omega)
        cases he
        have hO := ups_at HUP.out hj1 hlt
        obtain ⟨x, hx⟩ : ∃ x, C[j - 1]'(by omega) = x := ⟨_, rfl⟩
        obtain ⟨y, hy⟩ : ∃ y, C[j] = y := ⟨_, rfl⟩
        rw [hx, hy] at hO
        rw [hx] at hp0
        rw [hy] at hp1
        obtain ⟨O, hOe⟩ : ∃ O, ordD p x y = O := ⟨_, rfl⟩
        rw [hOe] at hO
        have hcm := fun X => cmpD_yes p x y X HIP.out
        rw [hOe] at hcm
        have HCM := Lib.hid hcm
        have hw1 : IntKind.i64.wrap ((j : Int) - 1) = ((j - 1 : Nat) : Int) := by
          rw [show ((j - 1 : Nat) : Int) = (j : Int) - 1 from by omega]; exact IntWalk.i64_in _ (by omega)
        have hOn : ¬ 0 ≤ O := by omega
        have HSD : Hid (CsD wr.heap.size b (q + (j - 1) * 9) b (q + j * 9) x y wr.drew) := ⟨hp0.drew, hp1.drew, by have := HBr.out.size; omega, Nat.le_refl _⟩
        have hj0 : (0 : Int) ≤ (j : Int) - 1 := by omega
        have hjm : (j : Int) - 1 < (C.length : Int) := by omega
        have hjN : j - 1 < C.length := by omega
        obtain ⟨wd, hwd⟩ : ∃ wd, wr.drew = wd := ⟨_, rfl⟩
        have HBD : Hid (Below w4.heap.size w4 wd) := by rw [← hwd]; exact HBr.out.drew
        rw [hwd] at HSD
        clear hx hy hOe hcm hp0 hp1 hO
        go_wp2_with fail
        refine wp_region_held_drew (S := CsD wr.heap.size b (q + (j - 1) * 9) b (q + j * 9) x y) (by kernel_rfl) (by rw [hwd]; exact HSD.out) (fun hHeld => ?_)
        rw [hwd] at hHeld ⊢
        clear hwd
        refine takeV 0 (some 52) ((.int .i64 p)) rfl rfl (by kernel_rfl) (by kernel_rfl) (by kernel_rfl) (fun _ _ _ h => h) (by rfl) (by (intro _w _hSw; (try dsimp only at _hSw); go_simp)) (by assumption) ?_
        simp only [Act.put, List.setIfInBounds_toArray, List.set_cons_zero, List.set_cons_succ]
        refine takeV 1 (some 53) ((.slice (some ⟨b, q, none⟩) C.length c4)) rfl rfl (by kernel_rfl) (by kernel_rfl) (by kernel_rfl) (fun _ _ _ h => h) (by rfl) (by (intro _w _hSw; (try dsimp only at _hSw); go_simp)) (by assumption) ?_
        simp only [Act.put, List.setIfInBounds_toArray, List.set_cons_zero, List.set_cons_succ]
        refine takeV 2 (some 54) ((.int .i64 j)) rfl rfl (by kernel_rfl) (by kernel_rfl) (by kernel_rfl) (fun _ _ _ h => h) (by rfl) (by (intro _w _hSw; (try dsimp only at _hSw); go_simp)) (by assumption) ?_
        simp only [Act.put, List.setIfInBounds_toArray, List.set_cons_zero, List.set_cons_succ]
        refine takeV 3 (some 55) ((.int .i64 ((j - 1 : Nat) : Int))) rfl rfl (by kernel_rfl) (by kernel_rfl) (by kernel_rfl) (fun _ _ _ h => h) (by rfl) (by (intro _w _hSw; (try dsimp only at _hSw); go_simp)) (by assumption) ?_
        simp only [Act.put, List.setIfInBounds_toArray, List.set_cons_zero, List.set_cons_succ]
        refine takeV 4 (some 56) ((.pointer (some ⟨b, q + (j - 1) * 9, none⟩))) rfl rfl (by kernel_rfl) (by kernel_rfl) (by kernel_rfl) (fun _ _ _ h => h) (by rfl) (by (intro _w _hSw; (try dsimp only at _hSw); go_simp)) (by assumption) ?_
        simp only [Act.put, List.setIfInBounds_toArray, List.set_cons_zero, List.set_cons_succ]
        refine takeV 5 (some 57) ((.agg #[.int .i64 x.e, .int .i64 x.a, .int .i64 x.k, .int .i64 x.m, .string x.s, .int .i64 x.t, .bool x.add, .int .i64 x.fr, .int .i64 x.til])) rfl rfl (by kernel_rfl) (by kernel_rfl) (by kernel_rfl) (fun _ _ _ h => h) (by rfl) (by (intro _w hSw; have k0 := hSw.1.c0; have k1 := hSw.1.c1; have k2 := hSw.1.c2; have k3 := hSw.1.c3; have k4 := hSw.1.c4; have k5 := hSw.1.c5; have k6 := hSw.1.c6; have k7 := hSw.1.c7; have k8 := hSw.1.c8; clear hSw; go_simp)) (by assumption) ?_
        simp only [Act.put, List.setIfInBounds_toArray, List.set_cons_zero, List.set_cons_succ]
        refine takeV 6 (some 58) ((.slice (some ⟨b, q, none⟩) C.length c4)) rfl rfl (by kernel_rfl) (by kernel_rfl) (by kernel_rfl) (fun _ _ _ h => h) (by rfl) (by (intro _w _hSw; (try dsimp only at _hSw); go_simp)) (by assumption) ?_
        simp only [Act.put, List.setIfInBounds_toArray, List.set_cons_zero, List.set_cons_succ]
        refine takeV 7 (some 59) ((.int .i64 j)) rfl rfl (by kernel_rfl) (by kernel_rfl) (by kernel_rfl) (fun _ _ _ h => h) (by rfl) (by (intro _w _hSw; (try dsimp only at _hSw); go_simp)) (by assumption) ?_
        simp only [Act.put, List.setIfInBounds_toArray, List.set_cons_zero, List.set_cons_succ]
        refine takeV 8 (some 60) ((.pointer (some ⟨b, q + j * 9, none⟩))) rfl rfl (by kernel_rfl) (by kernel_rfl) (by kernel_rfl) (fun _ _ _ h => h) (by rfl) (by (intro _w _hSw; (try dsimp only at _hSw); go_simp)) (by assumption) ?_
        simp only [Act.put, List.setIfInBounds_toArray, List.set_cons_zero, List.set_cons_succ]
        refine takeV 9 (some 61) ((.agg #[.int .i64 y.e, .int .i64 y.a, .int .i64 y.k, .int .i64 y.m, .string y.s, .int .i64 y.t, .bool y.add, .int .i64 y.fr, .int .i64 y.til])) rfl rfl (by kernel_rfl) (by kernel_rfl) (by kernel_rfl) (fun _ _ _ h => h) (by rfl) (by (intro _w hSw; have k0 := hSw.2.1.c0; have k1 := hSw.2.1.c1; have k2 := hSw.2.1.c2; have k3 := hSw.2.1.c3; have k4 := hSw.2.1.c4; have k5 := hSw.2.1.c5; have k6 := hSw.2.1.c6; have k7 := hSw.2.1.c7; have k8 := hSw.2.1.c8; clear hSw; go_simp)) (by assumption) ?_
        simp only [Act.put, List.setIfInBounds_toArray, List.set_cons_zero, List.set_cons_succ]
        refine callV 10 rfl (by kernel_rfl) (by rfl) (fun K hK => ?_)
        go_simp
        refine (HCM.out _).mono ?_
        rintro e w5 ⟨rfl, hb5⟩
        have HB5 := Lib.hid (HBD.out.trans (hb5.mono HBD.out.size))
        refine hK.out _ _ (CsD.next hHeld hb5) (fun hHeld2 => ?_)
        clear hK K hHeld hb5
        try simp only [Act.put, List.setIfInBounds_toArray, List.set_cons_zero, List.set_cons_succ]
        refine takeV 11 (some 63) ((.bool false)) rfl rfl (by kernel_rfl) (by kernel_rfl) (by kernel_rfl) (fun _ _ _ h => h) (by rfl) (by (intro _w _hSw; (try dsimp only at _hSw); go_simp)) (by assumption) ?_
        simp only [Act.put, List.setIfInBounds_toArray, List.set_cons_zero, List.set_cons_succ]
        refine wpAnyH_done (by kernel_rfl) ?_ _
        clear hHeld2 HSD
        go_wp2
        go_roundg (C.length - (j + 1))
        case measure => omega
        case rel => exact ⟨j + 1, by omega, Nat.le_refl _, by omega, by go_num, HB5.out⟩
      · have hji : ¬ (j : Int) < (C.length : Int) := by omega
        have HSa := Lib.hid ((HS34.out.next HBr.out (Nat.le_refl _)).more HBr.out.size)
        have HSb := Lib.hid ((HS4.out.next HBr.out (Nat.le_refl _)).more HBr.out.size)
        have HBE := Lib.hid (HB4.out.trans (HBr.out.mono HB4.out.size))
        go_wp2_with fail
        refine (sameD_any A3 A4 c3 c4 C _ _ HSa.out HSb.out hCl).mono ?_
        rintro e w5 ⟨rfl, n5, rfl⟩
        have HBF := Lib.hid (HBE.out.trans (below_drewN wr n5))
        by_cases h4 : p = 4
        · have h4b : (p == 4) = true := by rw [h4]; rfl
          clear h4
          go_wp2
          go_ret
          exact ⟨rfl, HBF.out⟩
        · have h4b : (p == 4) = false := beq_eq_false_iff_ne.2 h4
          have hle : ((X.length : Int) == (C.length : Int)) = true := by rw [HLN.out h4]; simp
          clear h4
          go_wp2
          go_ret
          exact ⟨rfl, HBF.out⟩
  · go_wp2
    go_ret
    exact ⟨rfl, HB1.out⟩
end Go.Proofs.Ytkoknogefmfmnaa
