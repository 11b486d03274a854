/-
  CONTRACTS: few and alive of the law's package; Great, of datoms whose texts are small.
-/
import Derived.Test.YthhkabbgghepbaaGreatJFFoldM
import Derived.Test.YthhkabbgghepbaaGreatJSSame
import Derived.Test.YthhkabbgghepbaaGreatJFSame
import Derived.Test.YthhkabbgghepbaaGreatJDSameD
namespace Go.Proofs.YthhkabbgghepbaaGreat
open Go.RowKit Go.Shelf

def oneV : Value := .agg #[.int .i64 1, .int .i64 1, .string ⟨#[]⟩]
theorem one_any (w : World) : Calls Tryz.prog 19 #[] w fun e w' => e = .returned (.agg #[.int .i64 1, .int .i64 1, .string ⟨#[]⟩]) ∧ Below w.heap.size w w' := by
  go_enter Tryz.func19, Tryz.ntmps19
  go_wp2
  first
  | (go_ret; exact ⟨rfl, Below.refl _ _⟩)
  | (refine bodyPost_ret (v := .agg #[.int .i64 1, .int .i64 1, .string ⟨#[]⟩]) ?_ rfl ⟨rfl, ?_⟩
     · rw [results_cell_only rfl]; go_simp
     · exact (Below.refl _ _).alloc (Nat.le_refl _) _)
theorem fewF_any (w : World) : Calls Tryz.prog 18 #[] w fun e w' => ∃ A c, e = .returned (.slice A [few1, few2].length c) ∧ SlD w' w'.heap.size A [few1, few2] ∧ Below w.heap.size w w' := by
  have HO := Lib.hid one_any
  go_enter Tryz.func18, Tryz.ntmps18
  go_wp2_with fail
  refine (HO.out _).mono ?_
  rintro e w1 ⟨rfl, hb1⟩
  have HB1 := Lib.hid hb1
  clear hb1
  go_wp2_with fail
  refine (HO.out _).mono ?_
  rintro e w2 ⟨rfl, hb2⟩
  have HB2 := Lib.hid (HB1.out.trans (hb2.mono HB1.out.size))
  clear hb2
  go_wp2
  go_ret
  refine ⟨_, _, rfl, fun _ => ⟨w2.heap.size, 0, rfl, by simp, fun j v hv => ?_⟩, HB2.out.alloc HB2.out.size _⟩
  intro i hi
  have hc := heap_alloc_new w2 (.cells #[.int .i64 5, .int .i64 10, .int .i64 1, .int .i64 1, .string ⟨#[]⟩, .int .i64 1, .bool true, .int .i64 0, .int .i64 10, .int .i64 5, .int .i64 10, .int .i64 1, .int .i64 1, .string ⟨#[]⟩, .int .i64 2, .bool false, .int .i64 4, .int .i64 6] 46)
  match j, hv with
  | 0, hv =>
    cases hv
    simp only [World.cell?, hc]
    match i, hi with
    | 0, _ | 1, _ | 2, _ | 3, _ | 4, _ | 5, _ | 6, _ | 7, _ | 8, _ => rfl
  | 1, hv =>
    cases hv
    simp only [World.cell?, hc]
    match i, hi with
    | 0, _ | 1, _ | 2, _ | 3, _ | 4, _ | 5, _ | 6, _ | 7, _ | 8, _ => rfl
  | j + 2, hv => cases hv

def costD (l : List Dat) : Int := (l.map fun d => (20 + (d.s.size : Int))).sum
theorem costD_take {l : List Dat} {j : Nat} (h : j < l.length) : costD (l.take (j + 1)) = costD (l.take j) + 20 + (l[j].s.size : Int) := by
  have ht : l.take (j + 1) = l.take j ++ [l[j]] := by rw [List.take_add_one, List.getElem?_eq_getElem h]; rfl
  unfold costD
  rw [ht, List.map_append, List.sum_append]
  simp
  omega
theorem costD_le (l : List Dat) (hs : ∀ p ∈ l, p.s.size ≤ 1000) : costD l ≤ l.length * 1020 ∧ (l.length : Int) * 20 ≤ costD l := by
  induction l with
  | nil => simp [costD]
  | cons p r ih =>
    have h1 := ih (fun q hq => hs q (by simp [hq]))
    have h2 := hs p (by simp)
    unfold costD at h1 ⊢
    simp only [List.map_cons, List.sum_cons, List.length_cons]
    omega
set_option maxRecDepth 100000 in
set_option maxHeartbeats 2000000 in
theorem greatD_few (A : Option Addr) (c : Nat) (l : List Dat) (w : World) (B : Nat) (hs : SlD w B A l) (hl : l.length ≤ 2000000000000) (hz : ∀ d ∈ l, d.s.size ≤ 1000) :
    Calls Tryz.prog 9 #[.slice A l.length c] w fun e w' => ((e = .returned (.int .i64 0) ∧ l.length ≤ 200) ∨ e = .returned (.int .i64 1)) ∧ w = w' := by
  have HS := Lib.hid hs
  have HZ := Lib.hid hz
  clear hs hz
  go_enter Tryz.func9, Tryz.ntmps9
  go_wp2
  go_loopg [3, 4] l.length (fun g x y wr => ∃ j : Nat, x = .int .i64 (costD (l.take j)) ∧ y = .int .i64 j ∧ j + g = l.length ∧ wr = w)
  case atStart => exact ⟨0, rfl, rfl, by omega, rfl⟩
  case round =>
    obtain ⟨j, rfl, rfl, hj, rfl⟩ := hrel
    cases gk with
    | succ g =>
      have hji : (j : Int) < (l.length : Int) := by omega
      have hjn : j < l.length := by omega
      obtain ⟨b, o, rfl, _, hp⟩ := HS.out.at_ hjn
      have c4 : wr.cell? ⟨b, o + j * 9 + 2 + 2, none⟩ = some (.string l[j].s) := hp.c4
      have hcs := Lib.hid (costD_take hjn)
      have hcl := costD_le (l.take j) (fun p hp => HZ.out p (List.mem_of_mem_take hp))
      have htl : (l.take j).length ≤ 2000000000000 := by rw [List.length_take]; omega
      obtain ⟨T, hT⟩ : ∃ T, costD (l.take j) = T := ⟨_, rfl⟩
      rw [hT] at hcl
      rw [hT]
      have hTT : T ≤ 2040000000000000 := by omega
      have hT0 : 0 ≤ T := by omega
      have hsz := HZ.out _ (List.getElem_mem hjn)
      have HT := Lib.hid hT
      clear hp hT hcl htl
      go_wp2
      go_roundg g
      case measure => omega
      case rel => exact ⟨j + 1, by rw [hcs.out, HT.out], by go_num, by omega, rfl⟩
    | zero =>
      have hji : ¬ (j : Int) < (l.length : Int) := by omega
      have ht : l.take j = l := List.take_of_length_le (by omega)
      have hcl := costD_le l HZ.out
      rw [ht]
      obtain ⟨T, hT⟩ : ∃ T, costD l = T := ⟨_, rfl⟩
      rw [hT] at hcl ⊢
      clear ht hT
      by_cases hn : 4000 < T
      · go_wp2
        go_ret
        exact ⟨.inr rfl, rfl⟩
      · have hl2 : l.length ≤ 200 := by omega
        clear hcl
        go_wp2
        go_ret
        exact ⟨.inl rfl, rfl⟩
theorem few_sorts : sortsD 1 [few1, few2] = [few1, few2] := by decide +kernel
set_option maxRecDepth 100000 in
set_option maxHeartbeats 2000000 in
theorem fAlive_any (w : World) : Calls Tryz.prog 22 #[] w fun e w' => e = .returned (.bool true) ∧ Below w.heap.size w w' := by
  have HF := Lib.hid (fewF_any w)
  go_enter Tryz.func22, Tryz.ntmps22
  go_wp2_with fail
  refine HF.out.mono ?_
  rintro e w1 ⟨A, c, rfl, hs, hb⟩
  have HB1 := Lib.hid hb
  have HC := Lib.hid (fold_any A c [few1, few2] w1 hs (by decide) (by rw [few_sorts]; decide) (by decide) (by intro d hd; rcases List.mem_cons.1 hd with rfl | hd; (exact ⟨⟨by decide, by decide⟩, by decide, by decide⟩); (rw [List.mem_singleton.1 hd]; exact ⟨⟨by decide, by decide⟩, by decide, by decide⟩)) (by decide))
  clear hs hb
  go_wp2_with fail
  refine HC.out.mono ?_
  rintro e w2 ⟨⟨v, ec, rfl, ⟨rfl, _, fs, hf, hv, _⟩ | ⟨_, _, hn⟩⟩, hb2⟩
  · rw [few_sorts] at hf
    obtain rfl := few_to hf
    obtain ⟨b, o, c2, sv, rfl, hlt, hc, hsv⟩ : ∃ b o c2 sv, v = .slice (some ⟨b, o, none⟩) 1 c2 ∧ b < w2.heap.size ∧ FcV w2 b o ⟨5, 10, 1, 1, ⟨#[]⟩, [(0, 4), (6, 10)]⟩ sv ∧ SV w2 sv [(0, 4), (6, 10)] := by
      obtain ⟨A2, c2, rfl, h1, h2⟩ := id hv
      obtain ⟨b, o, sv, e, q1, q2, q3⟩ := fv_at (j := 0) hv (by decide)
      exact ⟨b, o, c2, sv, by rw [e]; rfl, q1, by simpa using q2, q3⟩
    obtain ⟨As, cs, rfl, hss, _⟩ := hsv
    obtain ⟨bs, os, rfl, _, hcs⟩ := hss (by simp)
    have s0 := (hcs 0 _ rfl).c0
    have s1 := (hcs 0 _ rfl).c1
    have s2 := (hcs 1 _ rfl).c0
    have s3 := (hcs 1 _ rfl).c1
    have c5 := hc.2.2.2.2.2
    simp only [Nat.zero_mul, Nat.one_mul, Nat.add_zero] at s0 s1 s2 s3
    have HB2 := Lib.hid (HB1.out.trans (hb2.mono HB1.out.size))
    clear hc hcs hss hv hf hb2 hlt
    go_wp2
    go_ret
    exact ⟨rfl, HB2.out⟩
  · rw [few_sorts] at hn
    exact absurd few_goes hn
end Go.Proofs.YthhkabbgghepbaaGreat
