/-
  CONTRACTS: find, at, rank.
-/
import Derived.Test.YtohpilamoglhcaaQAt
import Derived.LoopTactic
import Derived.Deep.LoopGhost
import Derived.BigQuiet
import Derived.OwnWalk
namespace Go.Proofs.Ytohpilamoglhcaa
open Go.RowKit

set_option maxRecDepth 100000 in
set_option maxHeartbeats 4000000 in
theorem find_any [LT Gb] (t : Tr) (B : Nat) (A : Option Addr) (c : Nat) (k : By) (w : World) (ht : TreeAt w t) (hk : SlB w B A k) :
    Calls Try.prog 32 #[t.ptr, .slice A k.length c] w fun e w' => e = .returned (findT t k).ptr ∧ w = w' := by
  have HT := Lib.hid ht
  have HK := Lib.hid hk
  clear ht hk
  go_enter Try.func32, Try.ntmps32
  go_wp2
  go_step3
  go_wp2
  go_step3
  go_wp2_with fail
  go_loopg [0] t.cnt (fun g x wr => ∃ s : Tr, x = s.ptr ∧ s.cnt ≤ g ∧ wr = w ∧ Hid (TreeAt w s) ∧ Hid (findT s k = findT t k))
  case atStart => exact ⟨t, rfl, Nat.le_refl _, rfl, HT.out, rfl⟩
  case round =>
    obtain ⟨s, rfl, hs, rfl, HS, HE⟩ := hrel
    cases s with
    | nil =>
      have hf : Ending.returned (.pointer none) = Ending.returned (findT t k).ptr := by rw [← HE.out]; rfl
      simp only [Tr.ptr]
      go_wp2
      rw [Exit.noGoto_ret]
      go_ret
      exact ⟨hf, rfl⟩
    | nd b p l r =>
      cases gk with
      | zero => simp only [Tr.cnt] at hs; omega
      | succ g =>
        simp only [Tr.cnt] at hs
        obtain ⟨⟨pb, hnd, hp⟩, hl, hr⟩ := id HS.out
        obtain ⟨A2, c2, A2', c2', hpb, hpk, _⟩ := id hp
        replace hpk := hpk.1
        have HCM := Lib.hid (cmpB_any A A2 c c2 k p.1 wr HK.out hpk)
        have p0 : wr.cell? ⟨pb, 0, none⟩ = some (.slice A2 p.1.length c2) := by simp [World.cell?, hpb]
        obtain ⟨ul, hul⟩ := l.ptr_pointer
        obtain ⟨ur, hur⟩ := r.ptr_pointer
        have hnd' := hnd
        rw [hul, hur] at hnd'
        have c0 := hnd'.c0
        have c1 := hnd'.c1
        have c2 := hnd'.c2
        have HL := Lib.hid hl
        have HR := Lib.hid hr
        have HUL := Lib.hid hul
        have HUR := Lib.hid hur
        clear hl hr hp hpb hpk hnd hnd' hul hur
        have HFD : Hid (findT (.nd b p l r) k = if ordL k p.1 = -1 then findT l k else if ordL k p.1 = 1 then findT r k else .nd b p l r) := rfl
        obtain ⟨o, ho⟩ : ∃ o, ordL k p.1 = o := ⟨_, rfl⟩
        have ho3 : o = -1 ∨ o = 0 ∨ o = 1 := by rw [← ho]; exact ordL_range _ _
        rw [ho] at HCM HFD
        clear ho
        simp only [Tr.ptr]
        go_wp2_with fail
        refine HCM.out.mono ?_
        rintro e w' ⟨rfl, rfl⟩
        by_cases g1 : o < 0
        · have g1' : decide (o < 0) = true := decide_eq_true g1
          have HFE : Hid (findT l k = findT t k) := by show _ = _; rw [← HE.out, HFD.out, if_pos (by omega)]
          go_wp2_with fail
          go_roundg g
          case measure => omega
          case rel => exact ⟨l, HUL.out.symm, by omega, rfl, HL.out, HFE.out⟩
        · have g1' : decide (o < 0) = false := decide_eq_false g1
          by_cases g2 : 0 < o
          · have g2' : decide (0 < o) = true := decide_eq_true g2
            have HFE : Hid (findT r k = findT t k) := by show _ = _; rw [← HE.out, HFD.out, if_neg (by omega), if_pos (by omega)]
            go_wp2_with fail
            go_roundg g
            case measure => omega
            case rel => exact ⟨r, HUR.out.symm, by omega, rfl, HR.out, HFE.out⟩
          · have g2' : decide (0 < o) = false := decide_eq_false g2
            have HFE : Hid (Ending.returned (.pointer (some ⟨b, 0, none⟩)) = Ending.returned (findT t k).ptr) := by show _ = _; rw [← HE.out, HFD.out, if_neg (by omega), if_neg (by omega)]; rfl
            go_wp2_with fail
            rw [Exit.noGoto_ret]
            go_ret
            exact ⟨HFE.out, rfl⟩
set_option maxRecDepth 100000 in
set_option maxHeartbeats 4000000 in
theorem at_any [LT Gb] (t : Tr) (i : Int) (w : World) (ht : TreeAt w t) (hn : t.cnt ≤ 2000000) (hi0 : -9223372036854775808 ≤ i) (hi1 : i ≤ 9223372036854775807) :
    Calls Try.prog 84 #[t.ptr, .int .i64 i] w fun e w' => e = .returned (atT t i).ptr ∧ w = w' := by
  have HT := Lib.hid ht
  have HI : Hid ((-9223372036854775808 ≤ i ∧ i ≤ 9223372036854775807) ∧ t.cnt ≤ 2000000) := ⟨⟨hi0, hi1⟩, hn⟩
  clear ht hi0 hi1 hn
  go_enter Try.func84, Try.ntmps84
  go_wp2
  go_step3
  go_wp2
  go_step3
  go_wp2_with fail
  go_loopg [0, 1] t.cnt (fun g x y wr => ∃ (s : Tr) (j : Int), x = s.ptr ∧ y = .int .i64 j ∧ s.cnt ≤ g ∧ wr = w ∧ Hid (TreeAt w s) ∧ Hid (atT s j = atT t i) ∧ Hid ((-9223372036854775808 ≤ j ∧ j ≤ 9223372036854775807) ∧ s.cnt ≤ 2000000))
  case atStart => exact ⟨t, i, rfl, rfl, Nat.le_refl _, rfl, HT.out, rfl, HI.out⟩
  case round =>
    obtain ⟨s, j, rfl, rfl, hs, rfl, HS, HE, HJ⟩ := hrel
    cases s with
    | nil =>
      have hf : Ending.returned (.pointer none) = Ending.returned (atT t i).ptr := by rw [← HE.out]; rfl
      simp only [Tr.ptr]
      go_wp2
      rw [Exit.noGoto_ret]
      go_ret
      exact ⟨hf, rfl⟩
    | nd b p l r =>
      cases gk with
      | zero => simp only [Tr.cnt] at hs; omega
      | succ g =>
        simp only [Tr.cnt] at hs
        obtain ⟨⟨pb, hnd, _⟩, hl, hr⟩ := id HS.out
        have hj := HJ.out.1
        have hsn : l.cnt + r.cnt ≤ 2000000 := by have := HJ.out.2; simp only [Tr.cnt] at this; omega
        have HCM := Lib.hid (count_any l wr hl)
        obtain ⟨ul, hul⟩ := l.ptr_pointer
        obtain ⟨ur, hur⟩ := r.ptr_pointer
        have hnd' := hnd
        rw [hul, hur] at hnd'
        rw [hul] at HCM
        have c1 := hnd'.c1
        have c2 := hnd'.c2
        have HL := Lib.hid hl
        have HR := Lib.hid hr
        have HUL := Lib.hid hul
        have HUR := Lib.hid hur
        clear hl hr hnd hnd' hul hur
        have HFD : Hid (atT (.nd b p l r) j = if j < l.cnt then atT l j else if (l.cnt : Int) < j then atT r (j - (l.cnt + 1)) else .nd b p l r) := rfl
        have h1 := hj.1
        have h2 := hj.2
        simp only [Tr.ptr]
        go_wp2_with fail
        refine HCM.out.mono ?_
        rintro e w' ⟨rfl, rfl⟩
        by_cases g1 : j < (l.cnt : Int)
        · have g1' : decide (j < (l.cnt : Int)) = true := decide_eq_true g1
          have HFE : Hid (atT l j = atT t i) := by show _ = _; rw [← HE.out, HFD.out, if_pos g1]
          go_wp2_with fail
          go_roundg g
          case measure => omega
          case rel => exact ⟨l, j, HUL.out.symm, rfl, by omega, rfl, HL.out, HFE.out, hj, by omega⟩
        · have g1' : decide (j < (l.cnt : Int)) = false := decide_eq_false g1
          by_cases g2 : (l.cnt : Int) < j
          · have g2' : decide ((l.cnt : Int) < j) = true := decide_eq_true g2
            have HFE : Hid (atT r (j - ((l.cnt : Int) + 1)) = atT t i) := by show _ = _; rw [← HE.out, HFD.out, if_neg g1, if_pos g2]
            go_wp2_with fail
            go_roundg g
            case measure => omega
            case rel => exact ⟨r, j - ((l.cnt : Int) + 1), HUR.out.symm, by go_num, by omega, rfl, HR.out, HFE.out, by show _ ∧ _; omega⟩
          · have g2' : decide ((l.cnt : Int) < j) = false := decide_eq_false g2
            have HFE : Hid (Ending.returned (.pointer (some ⟨b, 0, none⟩)) = Ending.returned (atT t i).ptr) := by show _ = _; rw [← HE.out, HFD.out, if_neg g1, if_neg g2]; rfl
            go_wp2_with fail
            rw [Exit.noGoto_ret]
            go_ret
            exact ⟨HFE.out, rfl⟩
theorem rankT_le : ∀ (t : Tr) (k : By), rankT t k ≤ t.cnt
  | .nil, _ => Nat.le_refl _
  | .nd _ p l r, k => by
    have := rankT_le l k
    have := rankT_le r k
    unfold rankT
    simp only [Tr.cnt]
    split <;> omega
set_option maxRecDepth 100000 in
set_option maxHeartbeats 4000000 in
theorem rank_any [LT Gb] (t : Tr) (B : Nat) (A : Option Addr) (c : Nat) (k : By) (w : World) (ht : TreeAt w t) (hk : SlB w B A k) (hn : t.cnt ≤ 2000000) :
    Calls Try.prog 83 #[t.ptr, .slice A k.length c] w fun e w' => e = .returned (.int .i64 (rankT t k : Nat)) ∧ w = w' := by
  have HT := Lib.hid ht
  have HK := Lib.hid hk
  have HN : Hid (rankT t k ≤ 2000000) := by show _ ≤ _; have := rankT_le t k; omega
  clear ht hk hn
  go_enter Try.func83, Try.ntmps83
  go_wp2
  go_step3
  go_wp2
  go_step3
  go_wp2_with fail
  go_loopg [0, 5] t.cnt (fun g x y wr => ∃ (s : Tr) (n : Nat), x = s.ptr ∧ y = .int .i64 n ∧ s.cnt ≤ g ∧ wr = w ∧ Hid (TreeAt w s) ∧ Hid (n + rankT s k = rankT t k))
  case atStart => exact ⟨t, 0, rfl, rfl, Nat.le_refl _, rfl, HT.out, by show _ = _; omega⟩
  case round =>
    obtain ⟨s, n, rfl, rfl, hs, rfl, HS, HE⟩ := hrel
    cases s with
    | nil =>
      have hf : Ending.returned (.int .i64 n) = Ending.returned (.int .i64 (rankT t k : Nat)) := by rw [← HE.out]; rfl
      simp only [Tr.ptr]
      go_wp2
      rw [Exit.noGoto_ret]
      go_ret
      exact ⟨hf, rfl⟩
    | nd b p l r =>
      cases gk with
      | zero => simp only [Tr.cnt] at hs; omega
      | succ g =>
        simp only [Tr.cnt] at hs
        obtain ⟨⟨pb, hnd, hp⟩, hl, hr⟩ := id HS.out
        obtain ⟨A2, c2, A2', c2', hpb, hpk, _⟩ := id hp
        replace hpk := hpk.1
        have HCM := Lib.hid (cmpB_any A2 A c2 c p.1 k wr hpk HK.out)
        have HCN := Lib.hid (count_any l wr hl)
        have p0 : wr.cell? ⟨pb, 0, none⟩ = some (.slice A2 p.1.length c2) := by simp [World.cell?, hpb]
        obtain ⟨ul, hul⟩ := l.ptr_pointer
        obtain ⟨ur, hur⟩ := r.ptr_pointer
        have hnd' := hnd
        rw [hul, hur] at hnd'
        rw [hul] at HCN
        have c0 := hnd'.c0
        have c1 := hnd'.c1
        have c2 := hnd'.c2
        have HL := Lib.hid hl
        have HR := Lib.hid hr
        have HUL := Lib.hid hul
        have HUR := Lib.hid hur
        clear hl hr hp hpb hpk hnd hnd' hul hur
        have HFD : Hid (rankT (.nd b p l r) k = if 0 ≤ ordL p.1 k then rankT l k else l.cnt + 1 + rankT r k) := rfl
        obtain ⟨o, ho⟩ : ∃ o, ordL p.1 k = o := ⟨_, rfl⟩
        rw [ho] at HCM HFD
        clear ho
        simp only [Tr.ptr]
        go_wp2_with fail
        refine HCM.out.mono ?_
        rintro e w' ⟨rfl, rfl⟩
        by_cases g1 : 0 ≤ o
        · have g1' : decide (0 ≤ o) = true := decide_eq_true g1
          have HFE : Hid (n + rankT l k = rankT t k) := by show _ = _; rw [← HE.out, HFD.out, if_pos g1]
          go_wp2_with fail
          go_roundg g
          case measure => omega
          case rel => exact ⟨l, n, HUL.out.symm, rfl, by omega, rfl, HL.out, HFE.out⟩
        · have g1' : decide (0 ≤ o) = false := decide_eq_false g1
          have HFE : Hid (n + (l.cnt + 1) + rankT r k = rankT t k) := by show _ = _; rw [← HE.out, HFD.out, if_neg g1]; omega
          have hb1 : n + (l.cnt + 1) ≤ 2000000 := by have := HFE.out; have := HN.out; omega
          go_wp2_with fail
          refine HCN.out.mono ?_
          rintro e w' ⟨rfl, rfl⟩
          go_wp2_with fail
          go_roundg g
          case measure => omega
          case rel => exact ⟨r, n + (l.cnt + 1), HUR.out.symm, by go_num, by omega, rfl, HR.out, HFE.out⟩
end Go.Proofs.Ytohpilamoglhcaa
