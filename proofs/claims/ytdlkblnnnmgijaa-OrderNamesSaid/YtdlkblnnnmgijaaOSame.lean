/-
  CONTRACT: Same (of two lists of parts that are equal); an own row of parts reads as parts.
-/
import Derived.Test.YtdlkblnnnmgijaaORdRead
import Derived.Test.YtdlkblnnnmgijaaOParts
import Derived.Laws.StructEq
namespace Go.Proofs.Ytdlkblnnnmgijaa
open Go.RowKit Go.Shelf

theorem flatK {α : Type} (f : α → List Value) (k : Nat) (hk : ∀ x, (f x).length = k) : ∀ (l : List α) (j i : Nat), i < k → (l.flatMap f)[j * k + i]? = l[j]?.bind fun x => (f x)[i]?
  | [], j, i, _ => by simp
  | x :: l, 0, i, hi => by
    rw [List.flatMap_cons, List.getElem?_append_left (by rw [hk]; omega)]
    simp
  | x :: l, j + 1, i, hi => by
    have e : (j + 1) * k + i = k + (j * k + i) := by rw [Nat.succ_mul]; omega
    rw [List.flatMap_cons, e, List.getElem?_append_right (by rw [hk]; omega), hk, Nat.add_sub_cancel_left, flatK f k hk l j i hi]
    simp
theorem OwnP.slp {W : World} {B : Nat} {v : Value} {l : List PartP} (h : OwnP W B v l) : ∃ A c, v = .slice A l.length c ∧ SlP W W.heap.size A l := by
  rcases h.2 with ⟨rfl, h0⟩ | ⟨g, cap, cur, rfl, _, hgb, _⟩
  · exact ⟨none, 0, by rw [h0], fun hl => absurd (List.length_eq_zero_iff.1 h0) hl⟩
  · refine ⟨_, _, rfl, fun _ => ⟨g, 0, rfl, (Array.getElem?_eq_some_iff.1 hgb).1, fun j p hp => ?_⟩⟩
    have hr : W.ownsRow B 40 5 (.slice (some ⟨g, 0, none⟩) l.length cap) l.length (l.flatMap cellsP) := h
    have hj : j < l.length := (List.getElem?_eq_some_iff.1 hp).1
    have hc : ∀ i, i < 5 → W.cell? ⟨g, j * 5 + i, none⟩ = (cellsP p)[i]? := fun i hi => by
      rw [hr.cellAt (j * 5 + i) (by omega), flatK cellsP 5 (fun _ => rfl) l j i hi, hp]; rfl
    rw [Nat.zero_add]
    exact ⟨hc 0 (by omega), hc 1 (by omega), hc 2 (by omega), hc 3 (by omega), hc 4 (by omega)⟩

def aggP (p : PartP) : Value := .agg #[.bool p.v, .int .i64 p.n, .int .i64 p.k, .int .i64 p.m, .string p.s]
theorem eqP (p : PartP) (w : World) : (binOp .neq 40 (.agg #[.bool p.v, .int .i64 p.n, .int .i64 p.k, .int .i64 p.m, .string p.s]) (.agg #[.bool p.v, .int .i64 p.n, .int .i64 p.k, .int .i64 p.m, .string p.s])).run Try.prog w = .ok (.bool false) w := by
  have u4 := Try.underlying4
  have u3 := Try.underlying3
  have u2 := Try.underlying2
  have u9 := Try.underlying9
  have a4 := Try.isAgg4
  have a3 := Try.isAgg3
  have a2 := Try.isAgg2
  have a9 := Try.isAgg9
  have aV := Try.isAgg24
  have hS : Try.prog.underlying 40 = some (.struct (Try.prog.fieldsOf 40)) := by kernel_rfl
  have hp : Try.prog.stoodInHeld 40 = false := by kernel_rfl
  have hS' : Try.prog.underlying 24 = some (.struct (Try.prog.fieldsOf 24)) := by kernel_rfl
  have hp' : Try.prog.stoodInHeld 24 = false := by kernel_rfl
  have hV : ∀ w, (Op.equalIn 9999 24 (.agg #[.int .i64 p.k, .int .i64 p.m, .string p.s]) (.agg #[.int .i64 p.k, .int .i64 p.m, .string p.s])).run Try.prog w = .ok true w := fun w => by
    rw [show (9999 : Nat) = 9998 + 1 from rfl, run_equalIn_agg w 9998 24 _ _ hS' hp']
    simp only [Program.fieldsOf, Try.underlying24]
    go_simp
  rw [run_neq_struct, show (10000 : Nat) = 9999 + 1 from rfl, run_equalIn_agg w 9999 40 _ _ hS hp]
  simp only [Program.fieldsOf, Try.underlying40]
  go_simp

set_option maxRecDepth 100000 in
set_option maxHeartbeats 2000000 in
theorem same_any (A A' : Option Addr) (c c' : Nat) (l : List PartP) (w : World) (B : Nat) (hs : SlP w B A l) (hs' : SlP w B A' l) (hl : l.length ≤ 1048576) :
    Calls Try.prog 26 #[.slice A l.length c, .slice A' l.length c'] w fun e w' => e = .returned (.bool true) ∧ ∃ n, w' = w.drewN n := by
  go_enter Try.func26, Try.ntmps26
  go_wp2
  go_loopw [5] (fun i wr => ∃ j n : Nat, j ≤ l.length ∧ i = .int .i64 j ∧ wr = w.drewN n) (fun i _ => l.length - (intOf i).toNat)
  case atStart => exact ⟨0, 0, by omega, rfl, rfl⟩
  case round =>
    obtain ⟨j, n, hj, rfl, rfl⟩ := hrel
    by_cases h1 : j < l.length
    · have hji : (j : Int) < (l.length : Int) := by omega
      obtain ⟨b, o, rfl, _, hp⟩ := hs.at_ h1
      obtain ⟨b', o', rfl, _, hp'⟩ := hs'.at_ h1
      obtain ⟨p, hpe⟩ : ∃ p, l[j] = p := ⟨_, rfl⟩
      rw [hpe] at hp hp'
      have c0 := hp.c0
      have c1 := hp.c1
      have c2 := hp.c2
      have c3 := hp.c3
      have c4 := hp.c4
      have d0 := hp'.c0
      have d1 := hp'.c1
      have d2 := hp'.c2
      have d3 := hp'.c3
      have d4 := hp'.c4
      have hq := eqP p
      clear hp hp' hpe hs hs'
      go_wp2
      go_quiet (fail)
      go_wp2
      go_roundw
      case rel => exact ⟨j + 1, _, by omega, by go_num, rfl⟩
      case measure => simp [intOf]; omega
    · have hji : ¬ (j : Int) < (l.length : Int) := by omega
      go_wp2
      go_ret
      exact ⟨rfl, n, rfl⟩
end Go.Proofs.Ytdlkblnnnmgijaa
