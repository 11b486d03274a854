import Derived.Test.YtkoknogefmfmnaaJDRefR3
import Derived.Test.YtkoknogefmfmnaaJOKeyW
/-
  CONTRACT of the document's own answer over datoms: Read, in order 4.
-/
namespace Go.Proofs.Ytkoknogefmfmnaa
open Go.RowKit

def st4 (ps : List PartP) : Nat → Dat
  | 0 => (startD ps)
  | 1 => ({ startD ps with k := (pAt ps 0).k, m := (pAt ps 0).m, s := (pAt ps 0).s } : Dat)
  | 2 => ({ startD ps with k := (pAt ps 0).k, m := (pAt ps 0).m, s := (pAt ps 0).s, a := (pAt ps 1).n } : Dat)
  | _ => ({ startD ps with k := (pAt ps 0).k, m := (pAt ps 0).m, s := (pAt ps 0).s, a := (pAt ps 1).n, e := (pAt ps 2).n } : Dat)
end Go.Proofs.Ytkoknogefmfmnaa

/-
  CONTRACT of the document's own answer over datoms: Read.
-/
namespace Go.Proofs.Ytkoknogefmfmnaa
open Go.RowKit
end Go.Proofs.Ytkoknogefmfmnaa

/-
  THE LAW DatomTells: its walk.
-/
namespace Go.Proofs.Ytkoknogefmfmnaa
open Go.RowKit

def keyDL (o : Int) (d : Dat) : List UInt8 := if fitD o d = true then keyD o d else []
def keyDN (o : Int) (d : Dat) : Int := if isO o = true then if fitD o d = true then 0 else 40 else 2
def rdD (o : Int) (b : List UInt8) : Dat := if isO o = true then (readD o b).getD zeroD else zeroD
def rdN (o : Int) (b : List UInt8) : Int := if isO o = true then if (readD o b).isSome = true then 0 else 40 else 2
theorem dKeyEnd_is {W w' : World} {o : Int} {d : Dat} {e : Ending} (h : DKeyEnd W o d e w') : ∃ A c, e = .returned (.tuple #[.slice A (keyDL o d).length c, .int .i64 (keyDN o d)]) ∧ SlB w' w'.heap.size A (keyDL o d) ∧ (keyDL o d).length ≤ c ∧ c ≤ maxLen ∧ Below W.heap.size W w' := by
  obtain ⟨⟨ho, rfl⟩ | ⟨ho, hf, rfl⟩ | ⟨hf, v, rfl, hown⟩, hb⟩ := h
  · have hf : fitD o d = false := by
      cases hh : fitD o d with
      | false => rfl
      | true => rw [fitD_isO hh] at ho; cases ho
    unfold keyDL keyDN
    rw [ho, hf]
    exact ⟨none, 0, rfl, fun h => absurd rfl h, Nat.le_refl _, Nat.zero_le _, hb⟩
  · unfold keyDL keyDN
    rw [ho, hf]
    exact ⟨none, 0, rfl, fun h => absurd rfl h, Nat.le_refl _, Nat.zero_le _, hb⟩
  · obtain ⟨A, c, rfl⟩ := ownB_form hown
    obtain ⟨h1, h2⟩ := ownB_cap hown
    unfold keyDL keyDN
    rw [if_pos hf, if_pos (fitD_isO hf), if_pos hf]
    exact ⟨A, c, rfl, (SlB.of_own hown).2, h1, h2, hb⟩
theorem dReadEnd_is {W w' : World} {o : Int} {b : List UInt8} {e : Ending} (h : DReadEnd W o b e w') : e = .returned (.tuple #[dV (rdD o b), .int .i64 (rdN o b)]) ∧ Below W.heap.size W w' := by
  obtain ⟨⟨ho, rfl⟩ | ⟨ho, hf, rfl⟩ | ⟨ho, d, hf, rfl⟩, hb⟩ := h
  · unfold rdD rdN
    rw [ho]
    exact ⟨rfl, hb⟩
  · unfold rdD rdN
    rw [ho, hf]
    exact ⟨rfl, hb⟩
  · unfold rdD rdN
    rw [ho, hf]
    exact ⟨rfl, hb⟩
theorem dReadEnd_at {W w' : World} {o : Int} {b : List UInt8} {e : Ending} {R : Dat} (hR : rdD o b = R) (h : DReadEnd W o b e w') : e = .returned (.tuple #[.agg #[.int .i64 R.e, .int .i64 R.a, .int .i64 R.k, .int .i64 R.m, .string R.s, .int .i64 R.t, .bool R.add, .int .i64 R.fr, .int .i64 R.til], .int .i64 (rdN o b)]) ∧ Below W.heap.size W w' := by
  obtain ⟨h1, h2⟩ := dReadEnd_is h
  rw [hR] at h1
  exact ⟨h1, h2⟩
theorem eqlD (d : Dat) (w : World) : (binOp .eql 36 (.agg #[.int .i64 d.e, .int .i64 d.a, .int .i64 d.k, .int .i64 d.m, .string d.s, .int .i64 d.t, .bool d.add, .int .i64 d.fr, .int .i64 d.til]) (.agg #[.int .i64 d.e, .int .i64 d.a, .int .i64 d.k, .int .i64 d.m, .string d.s, .int .i64 d.t, .bool d.add, .int .i64 d.fr, .int .i64 d.til])).run Try.prog w = .ok (.bool true) w := by
  have u4 := Try.underlying4
  have u3 := Try.underlying3
  have u2 := Try.underlying2
  have u9 := Try.underlying9
  have a4 := Try.isAgg4
  have a3 := Try.isAgg3
  have a2 := Try.isAgg2
  have a9 := Try.isAgg9
  have aV := Try.isAgg24
  have hS : Try.prog.underlying 36 = some (.struct (Try.prog.fieldsOf 36)) := by kernel_rfl
  have hp : Try.prog.stoodInHeld 36 = false := by kernel_rfl
  have hS' : Try.prog.underlying 24 = some (.struct (Try.prog.fieldsOf 24)) := by kernel_rfl
  have hp' : Try.prog.stoodInHeld 24 = false := by kernel_rfl
  have hV : ∀ w, (Op.equalIn 9999 24 (.agg #[.int .i64 d.k, .int .i64 d.m, .string d.s]) (.agg #[.int .i64 d.k, .int .i64 d.m, .string d.s])).run Try.prog w = .ok true w := fun w => by
    rw [show (9999 : Nat) = 9998 + 1 from rfl, run_equalIn_agg w 9998 24 _ _ hS' hp']
    simp only [Program.fieldsOf, Try.underlying24]
    go_simp
  rw [run_eql_struct, show (10000 : Nat) = 9999 + 1 from rfl, run_equalIn_agg w 9999 36 _ _ hS hp]
  simp only [Program.fieldsOf, Try.underlying36]
  go_simp
/-- what the last region reads -/
def TS (N ba bb b1 b2 : Nat) (a b D : Dat) (X Y : Option Addr) (K : List UInt8) (W : World) : Prop :=
  (DatAt W ba a ∧ DatAt W bb b) ∧ (DatAt W b1 D ∧ DatAt W b2 D) ∧ (SlB W N X K ∧ SlB W N Y K) ∧ N ≤ W.heap.size
theorem TS.next {N ba bb b1 b2 : Nat} {a b D : Dat} {X Y : Option Addr} {K : List UInt8} {W W' : World} (h : TS N ba bb b1 b2 a b D X Y K W) (hb : Below W.heap.size W W') : TS N ba bb b1 b2 a b D X Y K W' :=
  ⟨⟨h.1.1.next hb h.1.1.lt, h.1.2.next hb h.1.2.lt⟩, ⟨h.2.1.1.next hb h.2.1.1.lt, h.2.1.2.next hb h.2.1.2.lt⟩, ⟨h.2.2.1.1.next hb h.2.2.2, h.2.2.1.2.next hb h.2.2.2⟩, Nat.le_trans h.2.2.2 hb.size⟩

end Go.Proofs.Ytkoknogefmfmnaa

/-
  CONTRACT: alive (the chapter's first example).
-/
namespace Go.Proofs.Ytkoknogefmfmnaa
open Go.RowKit

def fewD : Dat := ⟨5, 10, 5, 7, ⟨#[]⟩, 1, true, -9223372036854775808, 9223372036854775807⟩
theorem few_ok : DatOk fewD := ⟨by unfold i64B fewD; decide, by unfold i64B fewD; decide, by unfold i64B fewD; decide, by unfold i64B fewD; decide, by unfold i64B fewD; decide, by unfold i64B fewD; decide, by unfold i64B fewD; decide⟩
theorem few_fit : fitD 4 fewD = true := by decide +kernel
set_option maxHeartbeats 400000 in
theorem few_any (w : World) : Calls Try.prog 17 #[] w fun e w' => e = .returned (.agg #[.int .i64 fewD.e, .int .i64 fewD.a, .int .i64 fewD.k, .int .i64 fewD.m, .string fewD.s, .int .i64 fewD.t, .bool fewD.add, .int .i64 fewD.fr, .int .i64 fewD.til]) ∧ Below w.heap.size w w' := by
  show Calls _ _ _ _ fun e w' => e = .returned (.agg #[.int .i64 5, .int .i64 10, .int .i64 5, .int .i64 7, .string ⟨#[]⟩, .int .i64 1, .bool true, .int .i64 (-9223372036854775808), .int .i64 9223372036854775807]) ∧ Below w.heap.size w w'
  go_enter Try.func17, Try.ntmps17
  go_wp2
  refine bodyPost_ret (v := .agg #[.int .i64 5, .int .i64 10, .int .i64 5, .int .i64 7, .string ⟨#[]⟩, .int .i64 1, .bool true, .int .i64 (-9223372036854775808), .int .i64 9223372036854775807]) ?_ rfl ⟨rfl, ?_⟩
  · rw [results_cell_only rfl]
    go_simp
  · exact (Below.refl _ _).alloc (Nat.le_refl _) _
set_option maxRecDepth 100000 in
set_option maxHeartbeats 1000000 in
theorem dAlive_any (w : World) : Calls Try.prog 15 #[] w fun e w' => e = .returned (.bool true) ∧ Below w.heap.size w w' := by
  have HF := Lib.hid (few_any w)
  have HK := Lib.hid (fun X => keyD_any 4 fewD X (by decide) few_ok)
  go_enter Try.func15, Try.ntmps15
  go_wp2_with fail
  refine HF.out.mono ?_
  rintro e w1 ⟨rfl, hb⟩
  have HB1 := Lib.hid hb
  clear hb
  go_wp2_with fail
  refine (HK.out _).mono ?_
  rintro e w2 ⟨⟨hno, _⟩ | ⟨_, hf, _⟩ | ⟨_, v, rfl, hown⟩, hb⟩
  · exact absurd hno (by decide)
  · rw [few_fit] at hf; cases hf
  · have hlen : (keyD 4 fewD).length = 56 + 1 := by decide +kernel
    have hr : w2.ownsRow w1.heap.size 5 1 v (keyD 4 fewD).length (cellsL (keyD 4 fewD)) := hown
    rw [hlen] at hr
    obtain ⟨g, cap, rfl⟩ := ownsRow_succ hr
    have b0 : w2.cell? ⟨g, 0, none⟩ = some (.int .u8 5) := (hr.cellAt 0 (by omega)).trans (by kernel_rfl)
    have b1 : w2.cell? ⟨g, 8, none⟩ = some (.int .u8 7) := (hr.cellAt 8 (by omega)).trans (by kernel_rfl)
    have b2 : w2.cell? ⟨g, 16, none⟩ = some (.int .u8 10) := (hr.cellAt 16 (by omega)).trans (by kernel_rfl)
    have b3 : w2.cell? ⟨g, 24, none⟩ = some (.int .u8 5) := (hr.cellAt 24 (by omega)).trans (by kernel_rfl)
    have HB2 := Lib.hid (HB1.out.trans (hb.mono HB1.out.size))
    clear hb hr hown hlen
    go_wp2
    go_ret
    exact ⟨rfl, HB2.out⟩
end Go.Proofs.Ytkoknogefmfmnaa
