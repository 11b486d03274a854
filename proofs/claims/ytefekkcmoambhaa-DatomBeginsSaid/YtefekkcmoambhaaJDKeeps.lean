import Derived.Test.YtefekkcmoambhaaJDTells
import Derived.Test.YtefekkcmoambhaaJOBytes
/-
  CONTRACT: alive (the chapter's first example).
-/
namespace Go.Proofs.Ytefekkcmoambhaa
open Go.RowKit

def fewD : Dat := ⟨5, 10, 5, 7, ⟨#[]⟩, 1, true, -9223372036854775808, 9223372036854775807⟩
theorem few_ok : DatOk fewD := ⟨by unfold i64B fewD; decide, by unfold i64B fewD; decide, by unfold i64B fewD; decide, by unfold i64B fewD; decide, by unfold i64B fewD; decide, by unfold i64B fewD; decide, by unfold i64B fewD; decide⟩
theorem few_fit : fitD 4 fewD = true := by decide +kernel
set_option maxHeartbeats 400000 in
theorem few_any (w : World) : Calls Try.prog 44 #[] w fun e w' => e = .returned (.agg #[.int .i64 fewD.e, .int .i64 fewD.a, .int .i64 fewD.k, .int .i64 fewD.m, .string fewD.s, .int .i64 fewD.t, .bool fewD.add, .int .i64 fewD.fr, .int .i64 fewD.til]) ∧ Below w.heap.size w w' := by
  show Calls _ _ _ _ fun e w' => e = .returned (.agg #[.int .i64 5, .int .i64 10, .int .i64 5, .int .i64 7, .string ⟨#[]⟩, .int .i64 1, .bool true, .int .i64 (-9223372036854775808), .int .i64 9223372036854775807]) ∧ Below w.heap.size w w'
  go_enter Try.func44, Try.ntmps44
  go_wp2
  refine bodyPost_ret (v := .agg #[.int .i64 5, .int .i64 10, .int .i64 5, .int .i64 7, .string ⟨#[]⟩, .int .i64 1, .bool true, .int .i64 (-9223372036854775808), .int .i64 9223372036854775807]) ?_ rfl ⟨rfl, ?_⟩
  · rw [results_cell_only rfl]
    go_simp
  · exact (Below.refl _ _).alloc (Nat.le_refl _) _
set_option maxRecDepth 100000 in
set_option maxHeartbeats 1000000 in
theorem dAlive_any (w : World) : Calls Try.prog 45 #[] w fun e w' => e = .returned (.bool true) ∧ Below w.heap.size w w' := by
  have HF := Lib.hid (few_any w)
  have HK := Lib.hid (fun X => keyD_any 4 fewD X (by decide) few_ok)
  go_enter Try.func45, Try.ntmps45
  go_wp2_with fail
  refine HF.out.mono ?_
  rintro e w1 ⟨rfl, hb⟩
  have HB1 := Lib.hid hb
  clear hb
  go_wp2_with fail
  refine (HK.out _).mono ?_
  rintro e w2 ⟨⟨hno, _⟩ | ⟨_, hf, _⟩ | ⟨_, v, rfl, hown⟩, hb⟩
  · exact absurd hno (by decide)
  · rw [few_fit] at hf; cases hf
  · have hlen : (keyD 4 fewD).length = 56 + 1 := by decide +kernel
    have hr : w2.ownsRow w1.heap.size 5 1 v (keyD 4 fewD).length (cellsL (keyD 4 fewD)) := hown
    rw [hlen] at hr
    obtain ⟨g, cap, rfl⟩ := ownsRow_succ hr
    have b0 : w2.cell? ⟨g, 0, none⟩ = some (.int .u8 5) := (hr.cellAt 0 (by omega)).trans (by kernel_rfl)
    have b1 : w2.cell? ⟨g, 8, none⟩ = some (.int .u8 7) := (hr.cellAt 8 (by omega)).trans (by kernel_rfl)
    have b2 : w2.cell? ⟨g, 16, none⟩ = some (.int .u8 10) := (hr.cellAt 16 (by omega)).trans (by kernel_rfl)
    have b3 : w2.cell? ⟨g, 24, none⟩ = some (.int .u8 5) := (hr.cellAt 24 (by omega)).trans (by kernel_rfl)
    have HB2 := Lib.hid (HB1.out.trans (hb.mono HB1.out.size))
    clear hb hr hown hlen
    go_wp2
    go_ret
    exact ⟨rfl, HB2.out⟩
end Go.Proofs.Ytefekkcmoambhaa

/-
  THE LAW DatomKeeps: its walk.
-/
namespace Go.Proofs.Ytefekkcmoambhaa
open Go.RowKit

theorem key_yes {o : Int} {d : Dat} (h : fitD o d = true) : keyDL o d = keyD o d ∧ keyDN o d = 0 := by
  unfold keyDL keyDN
  rw [if_pos h, if_pos (fitD_isO h), if_pos h]
  exact ⟨rfl, rfl⟩
theorem key_not {o : Int} {d : Dat} (h : fitD o d = false) : (keyDN o d == 0) = false := by
  unfold keyDN
  rw [h]
  cases isO o <;> rfl
theorem rd_cases (o : Int) (b : List UInt8) : (∃ d, isO o = true ∧ readD o b = some d ∧ rdD o b = d ∧ rdN o b = 0) ∨ ((rdN o b == 0) = false ∧ (rdN o b != 0) = true ∧ rdD o b = zeroD) := by
  unfold rdD rdN
  cases ho : isO o
  · exact .inr ⟨rfl, rfl, rfl⟩
  · cases hr : readD o b with
    | none => exact .inr ⟨rfl, rfl, rfl⟩
    | some d => exact .inl ⟨d, rfl, rfl, rfl, rfl⟩
theorem zeroD_ok : DatOk zeroD := ⟨by unfold i64B zeroD; decide, by unfold i64B zeroD; decide, by unfold i64B zeroD; decide, by unfold i64B zeroD; decide, by unfold i64B zeroD; decide, by unfold i64B zeroD; decide, by unfold i64B zeroD; decide⟩
theorem rdD_fine (o : Int) (b : List UInt8) : DatOk (rdD o b) ∧ (rdD o b).s.size ≤ 1000 := by
  rcases rd_cases o b with ⟨d, ho, hr, hd, _⟩ | ⟨_, _, hd⟩
  · rw [hd]
    obtain ⟨_, _, h1, h2⟩ := readD_back ho hr
    exact ⟨h1, h2⟩
  · rw [hd]
    exact ⟨zeroD_ok, Nat.zero_le _⟩
theorem keyDL_len (o : Int) (d : Dat) : (keyDL o d).length ≤ 140 + 2 * d.s.size := by
  unfold keyDL
  split
  · rename_i hf
    have h1 := keyB_len (partsD o d)
    rw [partsD_cost (fitD_isO hf)] at h1
    show (keyB (partsD o d)).length ≤ _
    omega
  · exact Nat.zero_le _
theorem neqlD (d : Dat) (w : World) : (binOp .neq 42 (.agg #[.int .i64 d.e, .int .i64 d.a, .int .i64 d.k, .int .i64 d.m, .string d.s, .int .i64 d.t, .bool d.add, .int .i64 d.fr, .int .i64 d.til]) (.agg #[.int .i64 d.e, .int .i64 d.a, .int .i64 d.k, .int .i64 d.m, .string d.s, .int .i64 d.t, .bool d.add, .int .i64 d.fr, .int .i64 d.til])).run Try.prog w = .ok (.bool false) w := by
  have u4 := Try.underlying4
  have u3 := Try.underlying3
  have u2 := Try.underlying2
  have u9 := Try.underlying9
  have a4 := Try.isAgg4
  have a3 := Try.isAgg3
  have a2 := Try.isAgg2
  have a9 := Try.isAgg9
  have aV := Try.isAgg24
  have hS : Try.prog.underlying 42 = some (.struct (Try.prog.fieldsOf 42)) := by kernel_rfl
  have hp : Try.prog.stoodInHeld 42 = false := by kernel_rfl
  have hS' : Try.prog.underlying 24 = some (.struct (Try.prog.fieldsOf 24)) := by kernel_rfl
  have hp' : Try.prog.stoodInHeld 24 = false := by kernel_rfl
  have hV : ∀ w, (Op.equalIn 9999 24 (.agg #[.int .i64 d.k, .int .i64 d.m, .string d.s]) (.agg #[.int .i64 d.k, .int .i64 d.m, .string d.s])).run Try.prog w = .ok true w := fun w => by
    rw [show (9999 : Nat) = 9998 + 1 from rfl, run_equalIn_agg w 9998 24 _ _ hS' hp']
    simp only [Program.fieldsOf, Try.underlying24]
    go_simp
  rw [run_neq_struct, show (10000 : Nat) = 9999 + 1 from rfl, run_equalIn_agg w 9999 42 _ _ hS hp]
  simp only [Program.fieldsOf, Try.underlying42]
  go_simp
/-- what stays, from world to world -/
def KS (N ba bb : Nat) (a b : Dat) (X Y A : Option Addr) (K L l : List UInt8) (W : World) : Prop :=
  (DatAt W ba a ∧ DatAt W bb b) ∧ (SlB W N X K ∧ SlB W N Y L ∧ SlB W N A l) ∧ N ≤ W.heap.size
theorem KS.next {N ba bb : Nat} {a b : Dat} {X Y A : Option Addr} {K L l : List UInt8} {W W' : World} (h : KS N ba bb a b X Y A K L l W) (hb : Below W.heap.size W W') : KS N ba bb a b X Y A K L l W' :=
  ⟨⟨h.1.1.next hb h.1.1.lt, h.1.2.next hb h.1.2.lt⟩, ⟨h.2.1.1.next hb h.2.2, h.2.1.2.1.next hb h.2.2, h.2.1.2.2.next hb h.2.2⟩, Nat.le_trans h.2.2 hb.size⟩
theorem SlB.wide {W : World} {B B' : Nat} {A : Option Addr} {l : List UInt8} (h : SlB W B A l) (hB : B ≤ B') : SlB W B' A l := h.more hB

set_option maxRecDepth 100000 in
set_option maxHeartbeats 8000000 in
theorem dKeeps_any (o : Int) (a b : Dat) (A : Option Addr) (c : Nat) (l : List UInt8) (w : World) (hoa : DatOk a) (hob : DatOk b) (hsa : a.s.size ≤ maxLen) (hsb : b.s.size ≤ maxLen) (hs : SlB w w.heap.size A l) (hlc : l.length ≤ c) (hc : c ≤ maxLen) :
    Calls Try.prog 9 #[.int .i64 o, .agg #[.int .i64 a.e, .int .i64 a.a, .int .i64 a.k, .int .i64 a.m, .string a.s, .int .i64 a.t, .bool a.add, .int .i64 a.fr, .int .i64 a.til], .agg #[.int .i64 b.e, .int .i64 b.a, .int .i64 b.k, .int .i64 b.m, .string b.s, .int .i64 b.t, .bool b.add, .int .i64 b.fr, .int .i64 b.til], .slice A l.length c] w fun e w' => e = .returned (.bool true) ∧ Below w.heap.size w w' := by
  have hmx : 50000 ≤ maxLen := by decide
  have HBw : Hid (Below w.heap.size w ((w.alloc (.cells #[.int .i64 a.e, .int .i64 a.a, .int .i64 a.k, .int .i64 a.m, .string a.s, .int .i64 a.t, .bool a.add, .int .i64 a.fr, .int .i64 a.til] 42)).alloc (.cells #[.int .i64 b.e, .int .i64 b.a, .int .i64 b.k, .int .i64 b.m, .string b.s, .int .i64 b.t, .bool b.add, .int .i64 b.fr, .int .i64 b.til] 42))) := ((Below.refl _ _).alloc (Nat.le_refl _) _).alloc (by simp) _
  have hAa : DatAt ((w.alloc (.cells #[.int .i64 a.e, .int .i64 a.a, .int .i64 a.k, .int .i64 a.m, .string a.s, .int .i64 a.t, .bool a.add, .int .i64 a.fr, .int .i64 a.til] 42)).alloc (.cells #[.int .i64 b.e, .int .i64 b.a, .int .i64 b.k, .int .i64 b.m, .string b.s, .int .i64 b.t, .bool b.add, .int .i64 b.fr, .int .i64 b.til] 42)) w.heap.size a := (datAt_new w a).alloc _
  have hBb : DatAt ((w.alloc (.cells #[.int .i64 a.e, .int .i64 a.a, .int .i64 a.k, .int .i64 a.m, .string a.s, .int .i64 a.t, .bool a.add, .int .i64 a.fr, .int .i64 a.til] 42)).alloc (.cells #[.int .i64 b.e, .int .i64 b.a, .int .i64 b.k, .int .i64 b.m, .string b.s, .int .i64 b.t, .bool b.add, .int .i64 b.fr, .int .i64 b.til] 42)) (w.heap.size + 1) b := by
    have := datAt_new (w.alloc (.cells #[.int .i64 a.e, .int .i64 a.a, .int .i64 a.k, .int .i64 a.m, .string a.s, .int .i64 a.t, .bool a.add, .int .i64 a.fr, .int .i64 a.til] 42)) b
    rwa [World.size_alloc] at this
  have HA0 := Lib.hid (And.intro hAa hBb)
  have HS := Lib.hid hs
  have HLC := Lib.hid (And.intro hlc hc)
  have hm1 : a.s.size ≤ 9223372036854775807 := hsa
  have hm2 : b.s.size ≤ 9223372036854775807 := hsb
  have HOK := Lib.hid (And.intro hoa hob)
  have HSZ := Lib.hid (And.intro hsa hsb)
  clear hAa hBb hs hlc hc hoa hob hsa hsb
  go_enter Try.func9, Try.ntmps9
  go_wp2_with fail
  refine (dAlive_any _).mono ?_
  rintro e w1 ⟨rfl, hb⟩
  have HB1 := Lib.hid (HBw.out.trans (hb.mono HBw.out.size))
  have HA1 := Lib.hid (And.intro (HA0.out.1.next hb HA0.out.1.lt) (HA0.out.2.next hb HA0.out.2.lt))
  have q4 := HA1.out.1.c4
  have r4 := HA1.out.2.c4
  clear hb HA0 HBw
  by_cases h1 : (2000 : Int) < (a.s.size : Int)
  · go_wp2
    go_ret
    exact ⟨rfl, HB1.out⟩
  have h1' : decide ((2000 : Int) < (a.s.size : Int)) = false := decide_eq_false h1
  by_cases h2 : (2000 : Int) < (b.s.size : Int)
  · go_wp2
    go_ret
    exact ⟨rfl, HB1.out⟩
  have h2' : decide ((2000 : Int) < (b.s.size : Int)) = false := decide_eq_false h2
  by_cases h3 : (3000 : Int) < (l.length : Int)
  · go_wp2
    go_ret
    exact ⟨rfl, HB1.out⟩
  have h3' : decide ((3000 : Int) < (l.length : Int)) = false := decide_eq_false h3
  have HZA : Hid (a.s.size ≤ 2000) := by show _ ≤ _; omega
  have HZB : Hid (b.s.size ≤ 2000) := by show _ ≤ _; omega
  have HZL : Hid (l.length ≤ 3000) := by show _ ≤ _; omega

  clear q4
  have q0 := HA1.out.1.c0
  have q1 := HA1.out.1.c1
  have q2 := HA1.out.1.c2
  have q3 := HA1.out.1.c3
  have q4 := HA1.out.1.c4
  have q5 := HA1.out.1.c5
  have q6 := HA1.out.1.c6
  have q7 := HA1.out.1.c7
  have q8 := HA1.out.1.c8
  go_wp2_with fail
  refine (keyD_any o a w1 HSZ.out.1 HOK.out.1).mono ?_
  rintro e w2 he
  obtain ⟨X, xc, rfl, hx, hxl, hxc, hb⟩ := dKeyEnd_is he
  clear q0 q1 q2 q3 q4 q5 q6 q7 q8 r4
  have HB2 := Lib.hid (HB1.out.trans (hb.mono HB1.out.size))
  have HA2 := Lib.hid (And.intro (HA1.out.1.next hb HA1.out.1.lt) (HA1.out.2.next hb HA1.out.2.lt))
  have HX := Lib.hid hx
  have HXC := Lib.hid (And.intro hxl hxc)
  clear hb he hx hxl hxc HA1
  have r0 := HA2.out.2.c0
  have r1 := HA2.out.2.c1
  have r2 := HA2.out.2.c2
  have r3 := HA2.out.2.c3
  have r4 := HA2.out.2.c4
  have r5 := HA2.out.2.c5
  have r6 := HA2.out.2.c6
  have r7 := HA2.out.2.c7
  have r8 := HA2.out.2.c8
  go_wp2_with fail
  refine (keyD_any o b w2 HSZ.out.2 HOK.out.2).mono ?_
  rintro e w3 he
  obtain ⟨Y, yc, rfl, hy, hyl, hyc, hb⟩ := dKeyEnd_is he
  clear r0 r1 r2 r3 r4 r5 r6 r7 r8
  have HB3 := Lib.hid (HB2.out.trans (hb.mono HB2.out.size))
  have HKS : Hid (KS w3.heap.size w.heap.size (w.heap.size + 1) a b X Y A (keyDL o a) (keyDL o b) l w3) := ⟨⟨HA2.out.1.next hb HA2.out.1.lt, HA2.out.2.next hb HA2.out.2.lt⟩, ⟨(HX.out.next hb (Nat.le_refl _)).more hb.size, hy, (HS.out.next HB3.out (Nat.le_refl _)).more HB3.out.size⟩, Nat.le_refl _⟩
  clear hb he hy hyl hyc HA2 HX
  have HLX := Lib.hid (keyDL_len o a)
  have HLY := Lib.hid (keyDL_len o b)
  have HKY := Lib.hid (fun h => key_yes (o := o) (d := a) h)
  have HKX := Lib.hid (fun h => key_not (o := o) (d := a) h)
  have HLYY := Lib.hid (fun h => key_yes (o := o) (d := b) h)
  have HLYN := Lib.hid (fun h => key_not (o := o) (d := b) h)
  have HORD := Lib.hid (fun h h' => keyD_ord (o := o) h h' HOK.out.1 HOK.out.2)
  have HRK := Lib.hid (fun h => readD_key (o := o) (d := a) h HOK.out.1)
  obtain ⟨KA, hKA⟩ : ∃ K, keyDL o a = K := ⟨_, rfl⟩
  obtain ⟨NA, hNA⟩ : ∃ K, keyDN o a = K := ⟨_, rfl⟩
  obtain ⟨KB, hKB⟩ : ∃ K, keyDL o b = K := ⟨_, rfl⟩
  obtain ⟨NB, hNB⟩ : ∃ K, keyDN o b = K := ⟨_, rfl⟩
  rw [hKA] at HKS HLX HXC HKY
  rw [hKB] at HKS HLY HLYY
  rw [hNA] at HKY HKX
  rw [hNB] at HLYY HLYN
  rw [hKA, hNA, hKB, hNB]
  clear hKA hNA hKB hNB
  obtain ⟨CV, hCV⟩ : ∃ K, ordD o a b = K := ⟨_, rfl⟩
  have hcmp := fun X => cmpD_any o a b X
  rw [hCV] at hcmp HORD
  have HCMP := Lib.hid hcmp
  clear hcmp hCV
  cases hfa : fitD o a
  · have n0 := HKX.out hfa
    clear hfa
    go_wp2_with fail
    have HSD : Hid (KS w3.heap.size w.heap.size (w.heap.size + 1) a b X Y A KA KB l w3.drew) := HKS.out
    have HBD0 : Hid (Below w.heap.size w w3.drew) := HB3.out.drew
    obtain ⟨wd, hwd⟩ : ∃ wd, w3.drew = wd := ⟨_, rfl⟩
    rw [hwd] at HSD HBD0
    refine wp_region_held_drew (S := KS w3.heap.size w.heap.size (w.heap.size + 1) a b X Y A KA KB l) (by kernel_rfl) (by rw [hwd]; exact HSD.out) (fun hHeld => ?_)
    rw [hwd] at hHeld ⊢
    clear hwd
    refine takeV 0 (some 70) ((.int .i64 NA)) rfl rfl (by kernel_rfl) (by kernel_rfl) (by kernel_rfl) (fun _ _ _ h => h) (by rfl) (by (intro _w _hSw; (try dsimp only at _hSw); go_simp)) (by assumption) ?_
    simp only [Act.put, List.setIfInBounds_toArray, List.set_cons_zero, List.set_cons_succ]
    refine takeV 1 (some 71) ((.bool false)) rfl rfl (by kernel_rfl) (by kernel_rfl) (by kernel_rfl) (fun _ _ _ h => h) (by rfl) (by (intro _w _hSw; (try dsimp only at _hSw); go_simp)) (by assumption) ?_
    simp only [Act.put, List.setIfInBounds_toArray, List.set_cons_zero, List.set_cons_succ]
    refine takeV 2 (some 72) ((.bool false)) rfl rfl (by kernel_rfl) (by kernel_rfl) (by kernel_rfl) (fun _ _ _ h => h) (by rfl) (by (intro _w _hSw; (try dsimp only at _hSw); go_simp)) (by assumption) ?_
    simp only [Act.put, List.setIfInBounds_toArray, List.set_cons_zero, List.set_cons_succ]
    refine skipV 3 (some 73) rfl rfl (by kernel_rfl) (by kernel_rfl) (by kernel_rfl) (fun _ _ _ h => h) (by rfl) (by assumption) ?_
    simp only [Act.put, List.setIfInBounds_toArray, List.set_cons_zero, List.set_cons_succ]
    refine skipV 4 (some 74) rfl rfl (by kernel_rfl) (by kernel_rfl) (by kernel_rfl) (fun _ _ _ h => h) (by rfl) (by assumption) ?_
    simp only [Act.put, List.setIfInBounds_toArray, List.set_cons_zero, List.set_cons_succ]
    refine takeV 5 (some 75) ((.bool false)) rfl rfl (by kernel_rfl) (by kernel_rfl) (by kernel_rfl) (fun _ _ _ h => h) (by rfl) (by (intro _w _hSw; (try dsimp only at _hSw); go_simp)) (by assumption) ?_
    simp only [Act.put, List.setIfInBounds_toArray, List.set_cons_zero, List.set_cons_succ]
    refine takeV 6 (some 76) ((.bool false)) rfl rfl (by kernel_rfl) (by kernel_rfl) (by kernel_rfl) (fun _ _ _ h => h) (by rfl) (by (intro _w _hSw; (try dsimp only at _hSw); go_simp)) (by assumption) ?_
    simp only [Act.put, List.setIfInBounds_toArray, List.set_cons_zero, List.set_cons_succ]
    refine skipV 7 (some 77) rfl rfl (by kernel_rfl) (by kernel_rfl) (by kernel_rfl) (fun _ _ _ h => h) (by rfl) (by assumption) ?_
    simp only [Act.put, List.setIfInBounds_toArray, List.set_cons_zero, List.set_cons_succ]
    refine skipV 8 (some 78) rfl rfl (by kernel_rfl) (by kernel_rfl) (by kernel_rfl) (fun _ _ _ h => h) (by rfl) (by assumption) ?_
    simp only [Act.put, List.setIfInBounds_toArray, List.set_cons_zero, List.set_cons_succ]
    refine skipV 9 (some 79) rfl rfl (by kernel_rfl) (by kernel_rfl) (by kernel_rfl) (fun _ _ _ h => h) (by rfl) (by assumption) ?_
    simp only [Act.put, List.setIfInBounds_toArray, List.set_cons_zero, List.set_cons_succ]
    refine skipV 10 (some 80) rfl rfl (by kernel_rfl) (by kernel_rfl) (by kernel_rfl) (fun _ _ _ h => h) (by rfl) (by assumption) ?_
    simp only [Act.put, List.setIfInBounds_toArray, List.set_cons_zero, List.set_cons_succ]
    refine skipV 11 (some 81) rfl rfl (by kernel_rfl) (by kernel_rfl) (by kernel_rfl) (fun _ _ _ h => h) (by rfl) (by assumption) ?_
    simp only [Act.put, List.setIfInBounds_toArray, List.set_cons_zero, List.set_cons_succ]
    refine skipV 12 (some 82) rfl rfl (by kernel_rfl) (by kernel_rfl) (by kernel_rfl) (fun _ _ _ h => h) (by rfl) (by assumption) ?_
    simp only [Act.put, List.setIfInBounds_toArray, List.set_cons_zero, List.set_cons_succ]
    refine skipV 13 (some 83) rfl rfl (by kernel_rfl) (by kernel_rfl) (by kernel_rfl) (fun _ _ _ h => h) (by rfl) (by assumption) ?_
    simp only [Act.put, List.setIfInBounds_toArray, List.set_cons_zero, List.set_cons_succ]
    refine skipV 14 (some 84) rfl rfl (by kernel_rfl) (by kernel_rfl) (by kernel_rfl) (fun _ _ _ h => h) (by rfl) (by assumption) ?_
    simp only [Act.put, List.setIfInBounds_toArray, List.set_cons_zero, List.set_cons_succ]
    refine takeV 15 (some 85) ((.bool false)) rfl rfl (by kernel_rfl) (by kernel_rfl) (by kernel_rfl) (fun _ _ _ h => h) (by rfl) (by (intro _w _hSw; (try dsimp only at _hSw); go_simp)) (by assumption) ?_
    simp only [Act.put, List.setIfInBounds_toArray, List.set_cons_zero, List.set_cons_succ]
    refine wpAnyH_done (by kernel_rfl) ?_ _
    have HSL := Lib.hid (HSD.out.2.1.2.2.more HSD.out.2.2)
    go_wp2_with fail
    refine (dRead_any o A c l wd HSL.out (by have := HZL.out; omega) HLC.out.1 HLC.out.2).mono ?_
    rintro e v1 he
    obtain ⟨R, hR⟩ : ∃ R, rdD o l = R := ⟨_, rfl⟩
    obtain ⟨rfl, hb⟩ := dReadEnd_at hR he
    have HFN := Lib.hid (rdD_fine o l)
    have HRC := Lib.hid (rd_cases o l)
    rw [hR] at HFN HRC
    obtain ⟨RN, hRN⟩ : ∃ K, rdN o l = K := ⟨_, rfl⟩
    rw [hRN] at HRC
    rw [hRN]
    have HBv := Lib.hid ((HBD0.out.trans (hb.mono HBD0.out.size)).alloc (Nat.le_trans HBD0.out.size hb.size) (.cells #[.int .i64 R.e, .int .i64 R.a, .int .i64 R.k, .int .i64 R.m, .string R.s, .int .i64 R.t, .bool R.add, .int .i64 R.fr, .int .i64 R.til] 42))
    have HSv := Lib.hid ((HSD.out.next hb).next ((Below.refl v1.heap.size v1).alloc (Nat.le_refl _) (.cells #[.int .i64 R.e, .int .i64 R.a, .int .i64 R.k, .int .i64 R.m, .string R.s, .int .i64 R.t, .bool R.add, .int .i64 R.fr, .int .i64 R.til] 42)))
    have HRB := Lib.hid (datAt_new v1 R)
    clear hR hb he hRN HSL
    go_wp2_with fail
    have hsz := HFN.out.2
    refine (keyD_any o R _ (Nat.le_trans hsz (by decide)) HFN.out.1).mono ?_
    rintro e v2 he
    obtain ⟨Z, zc, rfl, hz, _, _, hb⟩ := dKeyEnd_is he
    have HBz := Lib.hid (HBv.out.trans (hb.mono HBv.out.size))
    have HSz := Lib.hid (HSv.out.next hb)
    have HZ := Lib.hid hz
    clear hb he hz hsz
    rcases HRC.out with ⟨d, ho, hr, rfl, rfl⟩ | ⟨hn1, hn2, hz⟩
    · obtain ⟨hf, hk, _, _⟩ := readD_back ho hr
      obtain ⟨g1, g2⟩ := key_yes hf
      rw [g1, hk] at HZ
      rw [g1, g2, hk]
      have hc1 := slB_string HZ.out zc
      have hc2 := slB_string (HSz.out.2.1.2.2.more HSz.out.2.2) c
      clear hf hk g1 g2 ho hr
      go_wp2
      go_ret
      exact ⟨rfl, HBz.out⟩
    · obtain ⟨n9, hn9⟩ : ∃ n9 : Int, keyDN o R = n9 := ⟨_, rfl⟩
      obtain ⟨k9, hk9⟩ : ∃ n9 : Nat, (keyDL o R).length = n9 := ⟨_, rfl⟩
      rw [hn9, hk9]
      clear hn9 hk9 hz
      go_wp2
      go_ret
      exact ⟨rfl, HBz.out⟩
  · obtain ⟨g1, g2⟩ := HKY.out hfa
    subst g2
    have HR1 := Lib.hid (HRK.out hfa)
    rw [← g1] at HR1
    have HFA := Lib.hid hfa
    have HG1 := Lib.hid g1
    clear hfa g1
    go_wp2_with fail
    refine (dRead_any o X xc KA w3 (HKS.out.2.1.1.more HKS.out.2.2) (by have := HLX.out; have := HZA.out; omega) HXC.out.1 HXC.out.2).mono ?_
    rintro e w4 he
    have ha : rdD o KA = a ∧ rdN o KA = 0 := by
      unfold rdD rdN
      rw [fitD_isO HFA.out, HR1.out]
      exact ⟨rfl, rfl⟩
    obtain ⟨rfl, hb⟩ := dReadEnd_at ha.1 he
    rw [ha.2]
    have HB4 := Lib.hid ((HB3.out.trans (hb.mono HB3.out.size)).alloc (Nat.le_trans HB3.out.size hb.size) (.cells #[.int .i64 a.e, .int .i64 a.a, .int .i64 a.k, .int .i64 a.m, .string a.s, .int .i64 a.t, .bool a.add, .int .i64 a.fr, .int .i64 a.til] 42))
    have HS4 := Lib.hid ((HKS.out.next hb).next ((Below.refl w4.heap.size w4).alloc (Nat.le_refl _) (.cells #[.int .i64 a.e, .int .i64 a.a, .int .i64 a.k, .int .i64 a.m, .string a.s, .int .i64 a.t, .bool a.add, .int .i64 a.fr, .int .i64 a.til] 42)))
    have hne := neqlD a
    have q0 := HS4.out.1.1.c0
    have q1 := HS4.out.1.1.c1
    have q2 := HS4.out.1.1.c2
    have q3 := HS4.out.1.1.c3
    have q4 := HS4.out.1.1.c4
    have q5 := HS4.out.1.1.c5
    have q6 := HS4.out.1.1.c6
    have q7 := HS4.out.1.1.c7
    have q8 := HS4.out.1.1.c8
    clear hb he ha
    go_wp2_with fail
    obtain ⟨w5, hw5⟩ : ∃ w5, w4.alloc (.cells #[.int .i64 a.e, .int .i64 a.a, .int .i64 a.k, .int .i64 a.m, .string a.s, .int .i64 a.t, .bool a.add, .int .i64 a.fr, .int .i64 a.til] 42) = w5 := ⟨_, rfl⟩
    rw [hw5] at HS4 HB4
    (try rw [hw5])
    clear q0 q1 q2 q3 q4 q5 q6 q7 q8 hne hw5
    cases hfb : fitD o b
    · have n0 := HLYN.out hfb
      clear hfb
      have HSD : Hid (KS w3.heap.size w.heap.size (w.heap.size + 1) a b X Y A KA KB l w5.drew) := HS4.out
      have HBD0 : Hid (Below w.heap.size w w5.drew) := HB4.out.drew
      obtain ⟨wd, hwd⟩ : ∃ wd, w5.drew = wd := ⟨_, rfl⟩
      rw [hwd] at HSD HBD0
      refine wp_region_held_drew (S := KS w3.heap.size w.heap.size (w.heap.size + 1) a b X Y A KA KB l) (by kernel_rfl) (by rw [hwd]; exact HSD.out) (fun hHeld => ?_)
      rw [hwd] at hHeld ⊢
      clear hwd
      refine takeV 0 (some 70) ((.int .i64 0)) rfl rfl (by kernel_rfl) (by kernel_rfl) (by kernel_rfl) (fun _ _ _ h => h) (by rfl) (by (intro _w _hSw; (try dsimp only at _hSw); go_simp)) (by assumption) ?_
      simp only [Act.put, List.setIfInBounds_toArray, List.set_cons_zero, List.set_cons_succ]
      refine takeV 1 (some 71) ((.bool true)) rfl rfl (by kernel_rfl) (by kernel_rfl) (by kernel_rfl) (fun _ _ _ h => h) (by rfl) (by (intro _w _hSw; (try dsimp only at _hSw); go_simp)) (by assumption) ?_
      simp only [Act.put, List.setIfInBounds_toArray, List.set_cons_zero, List.set_cons_succ]
      refine takeV 2 (some 72) ((.bool true)) rfl rfl (by kernel_rfl) (by kernel_rfl) (by kernel_rfl) (fun _ _ _ h => h) (by rfl) (by (intro _w _hSw; (try dsimp only at _hSw); go_simp)) (by assumption) ?_
      simp only [Act.put, List.setIfInBounds_toArray, List.set_cons_zero, List.set_cons_succ]
      refine takeV 3 (some 73) ((.int .i64 NB)) rfl rfl (by kernel_rfl) (by kernel_rfl) (by kernel_rfl) (fun _ _ _ h => h) (by rfl) (by (intro _w _hSw; (try dsimp only at _hSw); go_simp)) (by assumption) ?_
      simp only [Act.put, List.setIfInBounds_toArray, List.set_cons_zero, List.set_cons_succ]
      refine takeV 4 (some 74) ((.bool false)) rfl rfl (by kernel_rfl) (by kernel_rfl) (by kernel_rfl) (fun _ _ _ h => h) (by rfl) (by (intro _w _hSw; (try dsimp only at _hSw); go_simp)) (by assumption) ?_
      simp only [Act.put, List.setIfInBounds_toArray, List.set_cons_zero, List.set_cons_succ]
      refine takeV 5 (some 75) ((.bool false)) rfl rfl (by kernel_rfl) (by kernel_rfl) (by kernel_rfl) (fun _ _ _ h => h) (by rfl) (by (intro _w _hSw; (try dsimp only at _hSw); go_simp)) (by assumption) ?_
      simp only [Act.put, List.setIfInBounds_toArray, List.set_cons_zero, List.set_cons_succ]
      refine takeV 6 (some 76) ((.bool false)) rfl rfl (by kernel_rfl) (by kernel_rfl) (by kernel_rfl) (fun _ _ _ h => h) (by rfl) (by (intro _w _hSw; (try dsimp only at _hSw); go_simp)) (by assumption) ?_
      simp only [Act.put, List.setIfInBounds_toArray, List.set_cons_zero, List.set_cons_succ]
      refine skipV 7 (some 77) rfl rfl (by kernel_rfl) (by kernel_rfl) (by kernel_rfl) (fun _ _ _ h => h) (by rfl) (by assumption) ?_
      simp only [Act.put, List.setIfInBounds_toArray, List.set_cons_zero, List.set_cons_succ]
      refine skipV 8 (some 78) rfl rfl (by kernel_rfl) (by kernel_rfl) (by kernel_rfl) (fun _ _ _ h => h) (by rfl) (by assumption) ?_
      simp only [Act.put, List.setIfInBounds_toArray, List.set_cons_zero, List.set_cons_succ]
      refine skipV 9 (some 79) rfl rfl (by kernel_rfl) (by kernel_rfl) (by kernel_rfl) (fun _ _ _ h => h) (by rfl) (by assumption) ?_
      simp only [Act.put, List.setIfInBounds_toArray, List.set_cons_zero, List.set_cons_succ]
      refine skipV 10 (some 80) rfl rfl (by kernel_rfl) (by kernel_rfl) (by kernel_rfl) (fun _ _ _ h => h) (by rfl) (by assumption) ?_
      simp only [Act.put, List.setIfInBounds_toArray, List.set_cons_zero, List.set_cons_succ]
      refine skipV 11 (some 81) rfl rfl (by kernel_rfl) (by kernel_rfl) (by kernel_rfl) (fun _ _ _ h => h) (by rfl) (by assumption) ?_
      simp only [Act.put, List.setIfInBounds_toArray, List.set_cons_zero, List.set_cons_succ]
      refine skipV 12 (some 82) rfl rfl (by kernel_rfl) (by kernel_rfl) (by kernel_rfl) (fun _ _ _ h => h) (by rfl) (by assumption) ?_
      simp only [Act.put, List.setIfInBounds_toArray, List.set_cons_zero, List.set_cons_succ]
      refine skipV 13 (some 83) rfl rfl (by kernel_rfl) (by kernel_rfl) (by kernel_rfl) (fun _ _ _ h => h) (by rfl) (by assumption) ?_
      simp only [Act.put, List.setIfInBounds_toArray, List.set_cons_zero, List.set_cons_succ]
      refine skipV 14 (some 84) rfl rfl (by kernel_rfl) (by kernel_rfl) (by kernel_rfl) (fun _ _ _ h => h) (by rfl) (by assumption) ?_
      simp only [Act.put, List.setIfInBounds_toArray, List.set_cons_zero, List.set_cons_succ]
      refine takeV 15 (some 85) ((.bool false)) rfl rfl (by kernel_rfl) (by kernel_rfl) (by kernel_rfl) (fun _ _ _ h => h) (by rfl) (by (intro _w _hSw; (try dsimp only at _hSw); go_simp)) (by assumption) ?_
      simp only [Act.put, List.setIfInBounds_toArray, List.set_cons_zero, List.set_cons_succ]
      refine wpAnyH_done (by kernel_rfl) ?_ _
      have HSL := Lib.hid (HSD.out.2.1.2.2.more HSD.out.2.2)
      go_wp2_with fail
      refine (dRead_any o A c l wd HSL.out (by have := HZL.out; omega) HLC.out.1 HLC.out.2).mono ?_
      rintro e v1 he
      obtain ⟨R, hR⟩ : ∃ R, rdD o l = R := ⟨_, rfl⟩
      obtain ⟨rfl, hb⟩ := dReadEnd_at hR he
      have HFN := Lib.hid (rdD_fine o l)
      have HRC := Lib.hid (rd_cases o l)
      rw [hR] at HFN HRC
      obtain ⟨RN, hRN⟩ : ∃ K, rdN o l = K := ⟨_, rfl⟩
      rw [hRN] at HRC
      rw [hRN]
      have HBv := Lib.hid ((HBD0.out.trans (hb.mono HBD0.out.size)).alloc (Nat.le_trans HBD0.out.size hb.size) (.cells #[.int .i64 R.e, .int .i64 R.a, .int .i64 R.k, .int .i64 R.m, .string R.s, .int .i64 R.t, .bool R.add, .int .i64 R.fr, .int .i64 R.til] 42))
      have HSv := Lib.hid ((HSD.out.next hb).next ((Below.refl v1.heap.size v1).alloc (Nat.le_refl _) (.cells #[.int .i64 R.e, .int .i64 R.a, .int .i64 R.k, .int .i64 R.m, .string R.s, .int .i64 R.t, .bool R.add, .int .i64 R.fr, .int .i64 R.til] 42)))
      have HRB := Lib.hid (datAt_new v1 R)
      clear hR hb he hRN HSL
      go_wp2_with fail
      have hsz := HFN.out.2
      refine (keyD_any o R _ (Nat.le_trans hsz (by decide)) HFN.out.1).mono ?_
      rintro e v2 he
      obtain ⟨Z, zc, rfl, hz, _, _, hb⟩ := dKeyEnd_is he
      have HBz := Lib.hid (HBv.out.trans (hb.mono HBv.out.size))
      have HSz := Lib.hid (HSv.out.next hb)
      have HZ := Lib.hid hz
      clear hb he hz hsz
      rcases HRC.out with ⟨d, ho, hr, rfl, rfl⟩ | ⟨hn1, hn2, hz⟩
      · obtain ⟨hf, hk, _, _⟩ := readD_back ho hr
        obtain ⟨g1, g2⟩ := key_yes hf
        rw [g1, hk] at HZ
        rw [g1, g2, hk]
        have hc1 := slB_string HZ.out zc
        have hc2 := slB_string (HSz.out.2.1.2.2.more HSz.out.2.2) c
        clear hf hk g1 g2 ho hr
        go_wp2
        go_ret
        exact ⟨rfl, HBz.out⟩
      · obtain ⟨n9, hn9⟩ : ∃ n9 : Int, keyDN o R = n9 := ⟨_, rfl⟩
        obtain ⟨k9, hk9⟩ : ∃ n9 : Nat, (keyDL o R).length = n9 := ⟨_, rfl⟩
        rw [hn9, hk9]
        clear hn9 hk9 hz
        go_wp2
        go_ret
        exact ⟨rfl, HBz.out⟩
    · obtain ⟨g1, g2⟩ := HLYY.out hfb
      subst g2
      have HEQ : Hid (ordL KA KB = CV) := by
        show _ = _
        rw [HG1.out, g1]
        exact HORD.out HFA.out hfb
      clear hfb g1
      have HSD : Hid (KS w3.heap.size w.heap.size (w.heap.size + 1) a b X Y A KA KB l w5.drew) := HS4.out
      have HBD0 : Hid (Below w.heap.size w w5.drew) := HB4.out.drew
      obtain ⟨wd, hwd⟩ : ∃ wd, w5.drew = wd := ⟨_, rfl⟩
      rw [hwd] at HSD HBD0
      refine wp_region_held_drew (S := KS w3.heap.size w.heap.size (w.heap.size + 1) a b X Y A KA KB l) (by kernel_rfl) (by rw [hwd]; exact HSD.out) (fun hHeld => ?_)
      rw [hwd] at hHeld ⊢
      clear hwd
      refine takeV 0 (some 70) ((.int .i64 0)) rfl rfl (by kernel_rfl) (by kernel_rfl) (by kernel_rfl) (fun _ _ _ h => h) (by rfl) (by (intro _w _hSw; (try dsimp only at _hSw); go_simp)) (by assumption) ?_
      simp only [Act.put, List.setIfInBounds_toArray, List.set_cons_zero, List.set_cons_succ]
      refine takeV 1 (some 71) ((.bool true)) rfl rfl (by kernel_rfl) (by kernel_rfl) (by kernel_rfl) (fun _ _ _ h => h) (by rfl) (by (intro _w _hSw; (try dsimp only at _hSw); go_simp)) (by assumption) ?_
      simp only [Act.put, List.setIfInBounds_toArray, List.set_cons_zero, List.set_cons_succ]
      refine takeV 2 (some 72) ((.bool true)) rfl rfl (by kernel_rfl) (by kernel_rfl) (by kernel_rfl) (fun _ _ _ h => h) (by rfl) (by (intro _w _hSw; (try dsimp only at _hSw); go_simp)) (by assumption) ?_
      simp only [Act.put, List.setIfInBounds_toArray, List.set_cons_zero, List.set_cons_succ]
      refine takeV 3 (some 73) ((.int .i64 0)) rfl rfl (by kernel_rfl) (by kernel_rfl) (by kernel_rfl) (fun _ _ _ h => h) (by rfl) (by (intro _w _hSw; (try dsimp only at _hSw); go_simp)) (by assumption) ?_
      simp only [Act.put, List.setIfInBounds_toArray, List.set_cons_zero, List.set_cons_succ]
      refine takeV 4 (some 74) ((.bool true)) rfl rfl (by kernel_rfl) (by kernel_rfl) (by kernel_rfl) (fun _ _ _ h => h) (by rfl) (by (intro _w _hSw; (try dsimp only at _hSw); go_simp)) (by assumption) ?_
      simp only [Act.put, List.setIfInBounds_toArray, List.set_cons_zero, List.set_cons_succ]
      refine takeV 5 (some 75) ((.bool true)) rfl rfl (by kernel_rfl) (by kernel_rfl) (by kernel_rfl) (fun _ _ _ h => h) (by rfl) (by (intro _w _hSw; (try dsimp only at _hSw); go_simp)) (by assumption) ?_
      simp only [Act.put, List.setIfInBounds_toArray, List.set_cons_zero, List.set_cons_succ]
      refine takeV 6 (some 76) ((.bool true)) rfl rfl (by kernel_rfl) (by kernel_rfl) (by kernel_rfl) (fun _ _ _ h => h) (by rfl) (by (intro _w _hSw; (try dsimp only at _hSw); go_simp)) (by assumption) ?_
      simp only [Act.put, List.setIfInBounds_toArray, List.set_cons_zero, List.set_cons_succ]
      refine takeV 7 (some 77) ((.slice X KA.length xc)) rfl rfl (by kernel_rfl) (by kernel_rfl) (by kernel_rfl) (fun _ _ _ h => h) (by rfl) (by (intro _w _hSw; (try dsimp only at _hSw); go_simp)) (by assumption) ?_
      simp only [Act.put, List.setIfInBounds_toArray, List.set_cons_zero, List.set_cons_succ]
      refine takeV 8 (some 78) ((.slice Y KB.length yc)) rfl rfl (by kernel_rfl) (by kernel_rfl) (by kernel_rfl) (fun _ _ _ h => h) (by rfl) (by (intro _w _hSw; (try dsimp only at _hSw); go_simp)) (by assumption) ?_
      simp only [Act.put, List.setIfInBounds_toArray, List.set_cons_zero, List.set_cons_succ]
      refine takeV 10 (some 80) ((.int .i64 o)) rfl rfl (by kernel_rfl) (by kernel_rfl) (by kernel_rfl) (fun _ _ _ h => h) (by rfl) (by (intro _w _hSw; (try dsimp only at _hSw); go_simp)) (by assumption) ?_
      simp only [Act.put, List.setIfInBounds_toArray, List.set_cons_zero, List.set_cons_succ]
      refine takeV 11 (some 81) ((.agg #[.int .i64 a.e, .int .i64 a.a, .int .i64 a.k, .int .i64 a.m, .string a.s, .int .i64 a.t, .bool a.add, .int .i64 a.fr, .int .i64 a.til])) rfl rfl (by kernel_rfl) (by kernel_rfl) (by kernel_rfl) (fun _ _ _ h => h) (by rfl) (by (intro _w hSw; have q0 := hSw.1.1.c0; have q1 := hSw.1.1.c1; have q2 := hSw.1.1.c2; have q3 := hSw.1.1.c3; have q4 := hSw.1.1.c4; have q5 := hSw.1.1.c5; have q6 := hSw.1.1.c6; have q7 := hSw.1.1.c7; have q8 := hSw.1.1.c8; clear hSw; go_simp)) (by assumption) ?_
      simp only [Act.put, List.setIfInBounds_toArray, List.set_cons_zero, List.set_cons_succ]
      refine takeV 12 (some 82) ((.agg #[.int .i64 b.e, .int .i64 b.a, .int .i64 b.k, .int .i64 b.m, .string b.s, .int .i64 b.t, .bool b.add, .int .i64 b.fr, .int .i64 b.til])) rfl rfl (by kernel_rfl) (by kernel_rfl) (by kernel_rfl) (fun _ _ _ h => h) (by rfl) (by (intro _w hSw; have q0 := hSw.1.2.c0; have q1 := hSw.1.2.c1; have q2 := hSw.1.2.c2; have q3 := hSw.1.2.c3; have q4 := hSw.1.2.c4; have q5 := hSw.1.2.c5; have q6 := hSw.1.2.c6; have q7 := hSw.1.2.c7; have q8 := hSw.1.2.c8; clear hSw; go_simp)) (by assumption) ?_
      simp only [Act.put, List.setIfInBounds_toArray, List.set_cons_zero, List.set_cons_succ]
      refine callV 9 rfl (by kernel_rfl) (by rfl) (fun K hK => ?_)
      go_simp
      refine (bytes_any X Y xc yc KA KB wd w3.heap.size hHeld.2.1.1 hHeld.2.1.2.1 (by have := HLX.out; have := HZA.out; omega) (by have := HLY.out; have := HZB.out; omega)).mono ?_
      rintro e w8 ⟨rfl, n8, rfl⟩
      rw [HEQ.out]
      have hb8 : Below wd.heap.size wd (wd.drewN n8) := below_dn (Below.refl _ _) n8
      have HB8 := Lib.hid (HBD0.out.trans (hb8.mono HBD0.out.size))
      refine hK.out _ _ (KS.next hHeld hb8) (fun hHeld2 => ?_)
      clear hK K hHeld hb8
      try simp only [Act.put, List.setIfInBounds_toArray, List.set_cons_zero, List.set_cons_succ]
      refine callV 13 rfl (by kernel_rfl) (by rfl) (fun K hK => ?_)
      go_simp
      refine (HCMP.out _).mono ?_
      rintro e w9 ⟨rfl, hb⟩
      have HB9 := Lib.hid (HB8.out.trans (hb.mono HB8.out.size))
      refine hK.out _ _ (KS.next hHeld2 hb) (fun hHeld3 => ?_)
      have HS9 := Lib.hid hHeld3
      clear hK K hHeld2 hb
      try simp only [Act.put, List.setIfInBounds_toArray, List.set_cons_zero, List.set_cons_succ]
      refine takeV 14 (some 84) ((.bool false)) rfl rfl (by kernel_rfl) (by kernel_rfl) (by kernel_rfl) (fun _ _ _ h => h) (by rfl) (by (intro _w _hSw; (try dsimp only at _hSw); go_simp)) (by assumption) ?_
      simp only [Act.put, List.setIfInBounds_toArray, List.set_cons_zero, List.set_cons_succ]
      refine takeV 15 (some 85) ((.bool false)) rfl rfl (by kernel_rfl) (by kernel_rfl) (by kernel_rfl) (fun _ _ _ h => h) (by rfl) (by (intro _w _hSw; (try dsimp only at _hSw); go_simp)) (by assumption) ?_
      simp only [Act.put, List.setIfInBounds_toArray, List.set_cons_zero, List.set_cons_succ]
      refine wpAnyH_done (by kernel_rfl) ?_ _
      have HSL := Lib.hid (HS9.out.2.1.2.2.more HS9.out.2.2)
      go_wp2_with fail
      refine (dRead_any o A c l w9 HSL.out (by have := HZL.out; omega) HLC.out.1 HLC.out.2).mono ?_
      rintro e v1 he
      obtain ⟨R, hR⟩ : ∃ R, rdD o l = R := ⟨_, rfl⟩
      obtain ⟨rfl, hb⟩ := dReadEnd_at hR he
      have HFN := Lib.hid (rdD_fine o l)
      have HRC := Lib.hid (rd_cases o l)
      rw [hR] at HFN HRC
      obtain ⟨RN, hRN⟩ : ∃ K, rdN o l = K := ⟨_, rfl⟩
      rw [hRN] at HRC
      rw [hRN]
      have HBv := Lib.hid ((HB9.out.trans (hb.mono HB9.out.size)).alloc (Nat.le_trans HB9.out.size hb.size) (.cells #[.int .i64 R.e, .int .i64 R.a, .int .i64 R.k, .int .i64 R.m, .string R.s, .int .i64 R.t, .bool R.add, .int .i64 R.fr, .int .i64 R.til] 42))
      have HSv := Lib.hid ((HS9.out.next hb).next ((Below.refl v1.heap.size v1).alloc (Nat.le_refl _) (.cells #[.int .i64 R.e, .int .i64 R.a, .int .i64 R.k, .int .i64 R.m, .string R.s, .int .i64 R.t, .bool R.add, .int .i64 R.fr, .int .i64 R.til] 42)))
      have HRB := Lib.hid (datAt_new v1 R)
      clear hR hb he hRN HSL
      go_wp2_with fail
      have hsz := HFN.out.2
      refine (keyD_any o R _ (Nat.le_trans hsz (by decide)) HFN.out.1).mono ?_
      rintro e v2 he
      obtain ⟨Z, zc, rfl, hz, _, _, hb⟩ := dKeyEnd_is he
      have HBz := Lib.hid (HBv.out.trans (hb.mono HBv.out.size))
      have HSz := Lib.hid (HSv.out.next hb)
      have HZ := Lib.hid hz
      clear hb he hz hsz
      rcases HRC.out with ⟨d, ho, hr, rfl, rfl⟩ | ⟨hn1, hn2, hz⟩
      · obtain ⟨hf, hk, _, _⟩ := readD_back ho hr
        obtain ⟨g1, g2⟩ := key_yes hf
        rw [g1, hk] at HZ
        rw [g1, g2, hk]
        have hc1 := slB_string HZ.out zc
        have hc2 := slB_string (HSz.out.2.1.2.2.more HSz.out.2.2) c
        clear hf hk g1 g2 ho hr
        go_wp2
        go_ret
        exact ⟨rfl, HBz.out⟩
      · obtain ⟨n9, hn9⟩ : ∃ n9 : Int, keyDN o R = n9 := ⟨_, rfl⟩
        obtain ⟨k9, hk9⟩ : ∃ n9 : Nat, (keyDL o R).length = n9 := ⟨_, rfl⟩
        rw [hn9, hk9]
        clear hn9 hk9 hz
        go_wp2
        go_ret
        exact ⟨rfl, HBz.out⟩
end Go.Proofs.Ytefekkcmoambhaa
