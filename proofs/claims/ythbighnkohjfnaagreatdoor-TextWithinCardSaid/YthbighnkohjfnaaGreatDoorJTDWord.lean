import Derived.BigQuiet
import Derived.Test.YthbighnkohjfnaaGreatDoorJTCur
import Derived.Test.YthbighnkohjfnaaGreatDoorJTNMid
/-
  CONTRACT: the document's reader (layer 5): skip.
-/
namespace Go.Proofs.YthbighnkohjfnaaGreatDoor
open Go.RowKit

theorem below_dnD {B : Nat} {a w : World} (h : Below B a w) : ∀ n, Below B a (w.drewN n)
  | 0 => h
  | n + 1 => (below_dnD h n).drew
theorem Only.drewN {b : Nat} {W W' : World} (h : Only b W W') (n : Nat) : Only b W (W'.drewN n) := ⟨below_dnD h.bel n, h.oth⟩
/-- the document's reader in its block -/
def BxD (W : World) (b : Nat) (s : ByteArray) (at_ deep many : Nat) (bad : Int) : Prop := W.heap[b]? = some (.cells #[.string s, .int .i64 (at_ : Int), .int .i64 (deep : Int), .int .i64 (many : Int), .int .i64 bad] 50 (0, 0))
section
variable {W W' : World} {b : Nat} {s : ByteArray} {at_ deep many : Nat} {bad : Int}
theorem BxD.cell (h : BxD W b s at_ deep many bad) (j : Nat) : W.cell? ⟨b, j, none⟩ = (#[Value.string s, .int .i64 (at_ : Int), .int .i64 (deep : Int), .int .i64 (many : Int), .int .i64 bad])[j]? := by unfold BxD at h; simp [World.cell?, h]
theorem BxD.fz (h : BxD W b s at_ deep many bad) (j : Nat) : W.frozen? ⟨b, j, none⟩ = false := by unfold BxD at h; simp [World.frozen?, h]
theorem BxD.lt (h : BxD W b s at_ deep many bad) : b < W.heap.size := (Array.getElem?_eq_some_iff.1 h).1
theorem BxD.next (h : BxD W b s at_ deep many bad) (hb : Below W.heap.size W W') : BxD W' b s at_ deep many bad := (hb.block b h.lt).trans h
theorem BxD.setAt (h : BxD W b s at_ deep many bad) (n : Nat) : BxD (W.setCell ⟨b, 1, none⟩ (.int .i64 (n : Int))) b s n deep many bad := (heap_setCell_same _ _ _ _ _ _ h).trans (by simp)
theorem BxD.setDeep (h : BxD W b s at_ deep many bad) (n : Nat) : BxD (W.setCell ⟨b, 2, none⟩ (.int .i64 (n : Int))) b s at_ n many bad := (heap_setCell_same _ _ _ _ _ _ h).trans (by simp)
theorem BxD.setMany (h : BxD W b s at_ deep many bad) (n : Nat) : BxD (W.setCell ⟨b, 3, none⟩ (.int .i64 (n : Int))) b s at_ deep n bad := (heap_setCell_same _ _ _ _ _ _ h).trans (by simp)
theorem BxD.setBad (h : BxD W b s at_ deep many bad) (n : Int) : BxD (W.setCell ⟨b, 4, none⟩ (.int .i64 n)) b s at_ deep many n := (heap_setCell_same _ _ _ _ _ _ h).trans (by simp)
end
theorem drop_get {l : Bs} {j : Nat} {c : UInt8} (h : l[j]? = some c) : l.drop j = c :: l.drop (j + 1) := by
  obtain ⟨hj, e⟩ := List.getElem?_eq_some_iff.1 h
  rw [List.drop_eq_getElem_cons hj, e]
theorem skip_rem1 (r : Bs) : skipN false (59 :: r) = skipN true (59 :: r) := by
  have h1 : skipN false (59 :: r) = skipN true r + 1 := by rw [skipN]; exact if_pos rfl
  have h2 : skipN true (59 :: r) = skipN true r + 1 := by rw [skipN]; exact if_neg (by decide)
  rw [h1, h2]
theorem skip_nl (r : Bs) : skipN true (10 :: r) = skipN false (10 :: r) := by
  have h1 : skipN true (10 :: r) = skipN false r + 1 := by rw [skipN]; exact if_pos rfl
  have h2 : skipN false (10 :: r) = skipN false r + 1 := by rw [skipN]; exact (if_neg (by decide)).trans (if_pos (by decide))
  rw [h1, h2]
theorem skip_in {c : UInt8} (r : Bs) (h : c ≠ 10) : skipN true (c :: r) = skipN true r + 1 := by rw [skipN]; exact if_neg h
theorem skip_bl {c : UInt8} (r : Bs) (h1 : c ≠ 59) (h2 : blankC c = true) : skipN false (c :: r) = skipN false r + 1 := by rw [skipN]; exact (if_neg h1).trans (if_pos h2)
theorem skip_no {c : UInt8} (r : Bs) (h1 : c ≠ 59) (h2 : blankC c = false) : skipN false (c :: r) = 0 := by rw [skipN]; exact (if_neg h1).trans (if_neg (by rw [h2]; exact Bool.false_ne_true))
theorem byteF {c : UInt8} {n : Nat} (h : c ≠ UInt8.ofNat n) (hn : n < 256) : ((c.toNat : Int) == (n : Int)) = false := by
  rw [beq_eq_false_iff_ne]
  intro e
  refine h (UInt8.toNat_inj.1 ?_)
  rw [UInt8.toNat_ofNat_of_lt' hn]
  omega
set_option maxRecDepth 100000 in
set_option maxHeartbeats 4000000 in
theorem docSkip_any (b : Nat) (s : ByteArray) (at_ deep many : Nat) (bad : Int) (w : World) (hB : BxD w b s at_ deep many bad) (ha : at_ ≤ s.size) (hs : s.size ≤ 50000) :
    Calls Tryz.prog 38 #[.pointer (some ⟨b, 0, none⟩)] w fun e w' => e = .returned (.tuple #[]) ∧ at_ + skipN false (s.data.toList.drop at_) ≤ s.size ∧ BxD w' b s (at_ + skipN false (s.data.toList.drop at_)) deep many bad ∧ Only b w w' := by
  have hl : s.data.toList.length = s.size := Array.length_toList
  obtain ⟨T, hT⟩ : ∃ T, at_ + skipN false (s.data.toList.drop at_) = T := ⟨_, rfl⟩
  rw [hT]
  have HT := Lib.hid hT
  have HB := Lib.hid hB
  have HL := Lib.hid hl
  have hlt := hB.lt
  clear hT hB hl
  go_enter Tryz.func38, Tryz.ntmps38
  go_wp2
  go_loopg [2] (s.size - at_) (fun g _ wr => ∃ j : Nat, j + g = s.size ∧ Hid (BxD wr b s j deep many bad) ∧ Hid (Only b w wr) ∧ Hid (j + skipN false (s.data.toList.drop j) = T))
  case atStart => exact ⟨at_, by omega, HB, Only.refl _ _, HT⟩
  case round =>
    obtain ⟨j, hj, HB, HO, HT⟩ := hrel
    have c0 := HB.out.cell 0
    have c1 := HB.out.cell 1
    cases gk with
    | zero =>
      have hji : decide ((j : Int) < (s.size : Int)) = false := decide_eq_false (by omega)
      have hT0 : T = j := by have := HT.out; rw [List.drop_eq_nil_of_le (by have := HL.out; omega)] at this; exact this.symm
      go_wp2_with fail
      go_quiet (fail)
      go_wp2
      go_end0
      subst hT0
      exact ⟨rfl, by omega, HB.out, HO.out.drewN _⟩
    | succ g =>
      have hjn : j < s.size := by omega
      have hji : decide ((j : Int) < (s.size : Int)) = true := decide_eq_true (by omega)
      have hjs : (j : Int) < (s.size : Int) := by omega
      have hget : s.data.toList[j]? = some s[j] := by rw [List.getElem?_eq_getElem (by have := HL.out; omega)]; rfl
      have HG := Lib.hid (drop_get hget)
      have f1 := HB.out.fz 1
      clear hget
      by_cases h59 : s[j] = 59
      · have hb : ((s[j].toNat : Int) == 59) = true := by rw [h59]; rfl
        have HT2 : Hid (j + skipN true (s.data.toList.drop j) = T) := by show _ = _; rw [HG.out, h59, ← skip_rem1, ← h59, ← HG.out]; exact HT.out
        go_wp2_with fail
        go_quiet (fail)
        go_wp2_with fail
        go_quiet (fail)
        go_wp2
        have hj0 : s[j] ≠ 10 := by rw [h59]; decide
        have HJ0 := Lib.hid hj0
        clear hb h59 hji hjs hj0
        have HBo := HB
        have HOo := HO
        clear c0 c1 f1 HB HO
        go_loopg [24] (s.size - j) (fun h _ wi => ∃ i : Nat, i + h = s.size ∧ j ≤ i ∧ Hid (BxD wi b s i deep many bad) ∧ Hid (Only b w wi) ∧ Hid (i + skipN true (s.data.toList.drop i) = T))
        case atStart => exact ⟨j, by omega, Nat.le_refl _, HBo, HOo.out.drewN _, HT2⟩
        case round =>
          obtain ⟨i, hi, hij, HB, HO, HT⟩ := hrel
          have c0 := HB.out.cell 0
          have c1 := HB.out.cell 1
          cases gk with
          | zero =>
            have hii : decide ((i : Int) < (s.size : Int)) = false := decide_eq_false (by omega)
            have hii2 : decide (i < s.size) = false := decide_eq_false (by omega)
            have hii3 : ¬ i < s.size := by omega
            have hTi : Hid (i + skipN false (s.data.toList.drop i) = T) := by
              have := HT.out
              rw [List.drop_eq_nil_of_le (by have := HL.out; omega)] at this ⊢
              exact this
            go_wp2_with fail
            go_quiet (fail)
            go_wp2
            go_roundg 0
            case measure => omega
            case rel => exact ⟨i, by omega, HB, HO.out.drewN _, hTi⟩
          | succ h =>
            have hin : i < s.size := by omega
            have hii : decide ((i : Int) < (s.size : Int)) = true := decide_eq_true (by omega)
            have his : (i : Int) < (s.size : Int) := by omega
            have hget : s.data.toList[i]? = some s[i] := by rw [List.getElem?_eq_getElem (by have := HL.out; omega)]; rfl
            have HG2 := Lib.hid (drop_get hget)
            have f1 := HB.out.fz 1
            clear hget
            by_cases h10 : s[i] = 10
            · have p : ((s[i].toNat : Int) != 10) = false := by rw [h10]; rfl
              have hTi : Hid (i + skipN false (s.data.toList.drop i) = T) := by
                have := HT.out
                rw [HG2.out, h10, skip_nl] at this
                show _ = _
                rw [HG2.out, h10]
                exact this
              have hne : i ≠ j := fun e => by subst e; exact HJ0.out h10
              clear h10
              go_wp2_with fail
              go_quiet (fail)
              go_wp2
              go_roundg (h + 1)
              case measure => omega
              case rel => exact ⟨i, by omega, HB, HO.out.drewN _, hTi⟩
            · have p0 : ((s[i].toNat : Int) == 10) = false := byteF (n := 10) h10 (by decide)
              have p : ((s[i].toNat : Int) != 10) = true := by rw [bne, p0]; rfl
              have hwr : IntKind.i64.wrap ((i : Int) + 1) = (i : Int) + 1 := IntWalk.i64_in _ (by omega)
              have hbs : ∀ W : World, (W.setCell ⟨b, 1, none⟩ (.int .i64 ((i : Int) + 1)) : World) = W.setCell ⟨b, 1, none⟩ (.int .i64 ((i + 1 : Nat) : Int)) := fun W => by rw [Int.natCast_add]; rfl
              have hTi : Hid (i + 1 + skipN true (s.data.toList.drop (i + 1)) = T) := by
                have := HT.out
                rw [HG2.out, skip_in _ h10] at this
                show _ = _
                omega
              clear h10 p0
              go_wp2_with fail
              go_quiet (fail)
              go_wp2
              go_roundg h
              case measure => omega
              case rel => exact ⟨i + 1, by omega, by omega, (BxD.setAt (W := wr.drewN _) HB.out (i + 1)), (HO.out.drewN _).setCell 1 _, hTi⟩
      · have hb : ((s[j].toNat : Int) == 59) = false := byteF (n := 59) h59 (by decide)
        by_cases hbl : blankC s[j] = true
        · have HT2 : Hid (j + 1 + skipN false (s.data.toList.drop (j + 1)) = T) := by
            have := HT.out
            rw [HG.out, skip_bl _ h59 hbl] at this
            show _ = _
            omega
          have hways : s[j] = 32 ∨ s[j] = 9 ∨ s[j] = 10 ∨ s[j] = 13 := by
            unfold blankC at hbl
            simpa [or_assoc] using hbl
          have hwr : IntKind.i64.wrap ((j : Int) + 1) = (j : Int) + 1 := IntWalk.i64_in _ (by omega)
          have hbs : ∀ W : World, (W.setCell ⟨b, 1, none⟩ (.int .i64 ((j : Int) + 1)) : World) = W.setCell ⟨b, 1, none⟩ (.int .i64 ((j + 1 : Nat) : Int)) := fun W => by rw [Int.natCast_add]; rfl
          rcases hways with e | e | e | e
          · have p0 : ((s[j].toNat : Int) != 32) = false := by rw [e]; rfl
            clear e
            go_wp2_with fail
            go_quiet (fail)
            go_wp2_with fail
            go_quiet (fail)
            go_wp2
            go_roundg g
            case measure => omega
            case rel => exact ⟨j + 1, by omega, (BxD.setAt (W := wr.drewN _) HB.out (j + 1)), (HO.out.drewN _).setCell 1 _, HT2⟩
          · have p0 : ((s[j].toNat : Int) != 32) = true := by rw [e]; rfl
            have p1 : ((s[j].toNat : Int) != 9) = false := by rw [e]; rfl
            clear e
            go_wp2_with fail
            go_quiet (fail)
            go_wp2_with fail
            go_quiet (fail)
            go_wp2
            go_roundg g
            case measure => omega
            case rel => exact ⟨j + 1, by omega, (BxD.setAt (W := wr.drewN _) HB.out (j + 1)), (HO.out.drewN _).setCell 1 _, HT2⟩
          · have p0 : ((s[j].toNat : Int) != 32) = true := by rw [e]; rfl
            have p1 : ((s[j].toNat : Int) != 9) = true := by rw [e]; rfl
            have p2 : ((s[j].toNat : Int) != 10) = false := by rw [e]; rfl
            clear e
            go_wp2_with fail
            go_quiet (fail)
            go_wp2_with fail
            go_quiet (fail)
            go_wp2
            go_roundg g
            case measure => omega
            case rel => exact ⟨j + 1, by omega, (BxD.setAt (W := wr.drewN _) HB.out (j + 1)), (HO.out.drewN _).setCell 1 _, HT2⟩
          · have p0 : ((s[j].toNat : Int) != 32) = true := by rw [e]; rfl
            have p1 : ((s[j].toNat : Int) != 9) = true := by rw [e]; rfl
            have p2 : ((s[j].toNat : Int) != 10) = true := by rw [e]; rfl
            have p3 : ((s[j].toNat : Int) != 13) = false := by rw [e]; rfl
            clear e
            go_wp2_with fail
            go_quiet (fail)
            go_wp2_with fail
            go_quiet (fail)
            go_wp2
            go_roundg g
            case measure => omega
            case rel => exact ⟨j + 1, by omega, (BxD.setAt (W := wr.drewN _) HB.out (j + 1)), (HO.out.drewN _).setCell 1 _, HT2⟩
        · have hbl' : blankC s[j] = false := by simpa using hbl
          have hT0 : T = j := by have := HT.out; rw [HG.out, skip_no _ h59 hbl'] at this; exact this.symm
          have hn : s[j] ≠ 32 ∧ s[j] ≠ 9 ∧ s[j] ≠ 10 ∧ s[j] ≠ 13 := by
            unfold blankC at hbl'
            simpa [and_assoc] using hbl'
          have n0 : ((s[j].toNat : Int) == 32) = false := byteF (n := 32) hn.1 (by decide)
          have n1 : ((s[j].toNat : Int) == 9) = false := byteF (n := 9) hn.2.1 (by decide)
          have n2 : ((s[j].toNat : Int) == 10) = false := byteF (n := 10) hn.2.2.1 (by decide)
          have n3 : ((s[j].toNat : Int) == 13) = false := byteF (n := 13) hn.2.2.2 (by decide)
          have m0 : ((s[j].toNat : Int) != 32) = true := by rw [bne, n0]; rfl
          have m1 : ((s[j].toNat : Int) != 9) = true := by rw [bne, n1]; rfl
          have m2 : ((s[j].toNat : Int) != 10) = true := by rw [bne, n2]; rfl
          have m3 : ((s[j].toNat : Int) != 13) = true := by rw [bne, n3]; rfl
          go_wp2_with fail
          go_quiet (fail)
          go_wp2_with fail
          go_quiet (fail)
          go_wp2
          refine bodyPost_ret (results_none rfl _ _ _) rfl ?_
          subst hT0
          exact ⟨rfl, by omega, HB.out, HO.out.drewN _⟩
end Go.Proofs.YthbighnkohjfnaaGreatDoor

/-
  CONTRACT: the document's reader (layer 5): word.
-/
namespace Go.Proofs.YthbighnkohjfnaaGreatDoor
open Go.RowKit

/-- how long a word is, as the document tells it -/
def wordI (l : Bs) : Int := match wordN l with
  | none => -1
  | some n => (n : Int)
theorem tw_step {p : UInt8 → Bool} {c : UInt8} {r : Bs} (h : p c = true) : ((c :: r).takeWhile p).length = (r.takeWhile p).length + 1 := by rw [List.takeWhile_cons_of_pos h]; rfl
theorem tw_stop {p : UInt8 → Bool} {c : UInt8} {r : Bs} (h : p c = false) : ((c :: r).takeWhile p).length = 0 := by rw [List.takeWhile_cons_of_neg (by rw [h]; exact Bool.false_ne_true)]; rfl
def brk : ByteArray := ⟨#[40, 41, 91, 93, 123, 125, 34, 59]⟩
theorem wordC_ref (c : UInt8) : wordC c = (decide (33 ≤ (c.toNat : Int)) && (decide ((c.toNat : Int) ≤ 126) && !brk.data.toList.contains c)) := by
  unfold wordC brk
  rw [Bool.eq_iff_iff]
  simp only [Bool.and_eq_true, decide_eq_true_eq]
  constructor
  · rintro ⟨⟨h1, h2⟩, h3⟩
    exact ⟨by omega, by omega, h3⟩
  · rintro ⟨h1, h2, h3⟩
    exact ⟨⟨by omega, by omega⟩, h3⟩
set_option maxRecDepth 100000 in
set_option maxHeartbeats 4000000 in
theorem docWord_any (b : Nat) (s : ByteArray) (at_ deep many : Nat) (bad : Int) (w : World) (hB : BxD w b s at_ deep many bad) (ha : at_ < s.size) (hs : s.size ≤ 50000) :
    Calls Tryz.prog 56 #[.pointer (some ⟨b, 0, none⟩)] w fun e w' => e = .returned (.int .i64 (wordI (s.data.toList.drop at_))) ∧ ∃ n, w' = w.drewN n := by
  have hl : s.data.toList.length = s.size := Array.length_toList
  have hji : (at_ : Int) < (s.size : Int) := by omega
  have hget : ∀ j (h : j < s.size), s.data.toList[j]? = some s[j] := fun j h => by rw [List.getElem?_eq_getElem (by omega)]; rfl
  have HG := Lib.hid hget
  have HL := Lib.hid hl
  have hd := drop_get (hget at_ ha)
  have HD := Lib.hid hd
  have HB := Lib.hid hB
  have c0 := hB.cell 0
  have c1 := hB.cell 1
  clear hget hl hd hB
  by_cases h34 : s[at_] = 34
  · have p : ((s[at_].toNat : Int) == 34) = true := by rw [h34]; rfl
    have hwr : IntKind.i64.wrap ((at_ : Int) + 1) = ((at_ + 1 : Nat) : Int) := IntWalk.i64_in _ (by omega)
    have HW : Hid (wordN (s.data.toList.drop at_) = if (s.data.toList.drop (at_ + 1)).contains 34 then some (((s.data.toList.drop (at_ + 1)).takeWhile (fun b => b != 34)).length + 2) else none) := by
      show _ = _
      rw [HD.out, h34, wordN]
      exact if_pos rfl
    clear h34
    go_enter Tryz.func56, Tryz.ntmps56
    go_wp2_with fail
    go_quiet (fail)
    go_wp2
    have HT : Hid (wordI (s.data.toList.drop at_) = if (s.data.toList.drop (at_ + 1)).contains 34 then ((((s.data.toList.drop (at_ + 1)).takeWhile (fun b => b != 34)).length + 2 : Nat) : Int) else -1) := by
      show wordI _ = _
      unfold wordI
      rw [HW.out]
      by_cases hc : (s.data.toList.drop (at_ + 1)).contains 34 = true
      · rw [if_pos hc, if_pos hc]
      · rw [if_neg hc, if_neg hc]
    obtain ⟨T, hT⟩ : ∃ T, wordI (s.data.toList.drop at_) = T := ⟨_, rfl⟩
    rw [hT] at HT
    have HTT := Lib.hid hT
    clear HW hT c0 c1 p hwr
    go_loopg [4] (s.size - (at_ + 1)) (fun g x wr => ∃ k n : Nat, x = .int .i64 (k : Int) ∧ k + g = s.size ∧ at_ + 1 ≤ k ∧ wr = w.drewN n ∧ Hid (T = if (s.data.toList.drop k).contains 34 then ((((s.data.toList.drop k).takeWhile (fun b => b != 34)).length + 2 + (k - at_ - 1) : Nat) : Int) else -1))
    case atStart => exact ⟨at_ + 1, _, by go_num, by omega, Nat.le_refl _, rfl, by rw [show at_ + 1 - at_ - 1 = 0 by omega]; exact HT⟩
    case round =>
      obtain ⟨k, n, rfl, hk, hka, rfl, HT⟩ := hrel
      have c0 := HB.out.cell 0
      have c1 := HB.out.cell 1
      cases gk with
      | zero =>
        have hki : decide ((k : Int) < (s.size : Int)) = false := decide_eq_false (by omega)
        go_wp2
        go_ret
        refine ⟨?_, n, rfl⟩
        rw [HTT.out, HT.out, List.drop_eq_nil_of_le (by have := HL.out; omega)]
        rfl
      | succ g =>
        have hkn : k < s.size := by omega
        have hki : decide ((k : Int) < (s.size : Int)) = true := decide_eq_true (by omega)
        have hks : (k : Int) < (s.size : Int) := by omega
        have HG2 := Lib.hid (drop_get (HG.out k hkn))
        by_cases hq : s[k] = 34
        · have p : ((s[k].toNat : Int) == 34) = true := by rw [hq]; rfl
          have hw1 : IntKind.i64.wrap ((k : Int) + 1) = (k : Int) + 1 := IntWalk.i64_in _ (by omega)
          have hw2 : IntKind.i64.wrap ((k : Int) + 1 - (at_ : Int)) = (k : Int) + 1 - (at_ : Int) := IntWalk.i64_in _ (by omega)
          have HE : Hid (T = (k : Int) + 1 - (at_ : Int)) := by
            show _ = _
            rw [HT.out, HG2.out, hq, if_pos (by simp), List.takeWhile_cons_of_neg (by decide), List.length_nil]
            omega
          clear hq
          go_wp2
          go_ret
          exact ⟨by rw [HTT.out, HE.out]; rfl, n, rfl⟩
        · have p : ((s[k].toNat : Int) == 34) = false := byteF (n := 34) hq (by decide)
          have hw1 : IntKind.i64.wrap ((k : Int) + 1) = (k : Int) + 1 := IntWalk.i64_in _ (by omega)
          have HE : Hid (T = if (s.data.toList.drop (k + 1)).contains 34 then ((((s.data.toList.drop (k + 1)).takeWhile (fun b => b != 34)).length + 2 + (k + 1 - at_ - 1) : Nat) : Int) else -1) := by
            show _ = _
            rw [HT.out, HG2.out]
            have hc : (s[k] :: s.data.toList.drop (k + 1)).contains 34 = (s.data.toList.drop (k + 1)).contains 34 := by
              rw [List.contains_cons]
              rw [show ((34 : UInt8) == s[k]) = false by rw [beq_eq_false_iff_ne]; exact fun e => hq e.symm]
              rfl
            rw [hc, tw_step (by simpa using hq)]
            by_cases hcc : (s.data.toList.drop (k + 1)).contains 34 = true
            · rw [if_pos hcc, if_pos hcc]; omega
            · rw [if_neg hcc, if_neg hcc]
          clear hq
          go_wp2
          go_roundg g
          case measure => omega
          case rel => exact ⟨k + 1, n, by go_num, by omega, by omega, rfl, HE⟩
  · have p : ((s[at_].toNat : Int) == 34) = false := byteF (n := 34) h34 (by decide)
    have HW : Hid (wordN (s.data.toList.drop at_) = some ((s.data.toList.drop at_).takeWhile wordC).length) := by
      show _ = _
      rw [HD.out, wordN]
      exact if_neg h34
    clear h34
    go_enter Tryz.func56, Tryz.ntmps56
    go_wp2_with fail
    go_quiet (fail)
    go_wp2
    obtain ⟨T, hT⟩ : ∃ T, wordI (s.data.toList.drop at_) = T := ⟨_, rfl⟩
    have HT : Hid (T = (((s.data.toList.drop at_).takeWhile wordC).length : Nat)) := by
      rw [← hT]
      show wordI _ = _
      unfold wordI
      rw [HW.out]
    have HTT := Lib.hid hT
    clear HW hT c0 c1 p
    go_loopg [3, 5] (s.size - at_) (fun g x y wr => ∃ k m n : Nat, x = .int .i64 (m : Int) ∧ y = .int .i64 (k : Int) ∧ Hid (k = at_ + m) ∧ k + g = s.size ∧ wr = w.drewN n ∧ Hid (T = (m + ((s.data.toList.drop k).takeWhile wordC).length : Nat)))
    case atStart => exact ⟨at_, 0, _, rfl, rfl, rfl, by omega, rfl, by rw [Nat.zero_add]; exact HT⟩
    case round =>
      obtain ⟨k, m, n, rfl, rfl, HKM, hk, rfl, HT⟩ := hrel
      have c0 := HB.out.cell 0
      cases gk with
      | zero =>
        have hki : decide ((k : Int) < (s.size : Int)) = false := decide_eq_false (by omega)
        have HE : Hid (T = (m : Int)) := by
          show _ = _
          rw [HT.out, List.drop_eq_nil_of_le (by have := HL.out; omega)]
          rfl
        go_wp2
        go_ret
        exact ⟨by rw [HTT.out, HE.out]; rfl, n, rfl⟩
      | succ g =>
        have hkn : k < s.size := by omega
        have hki : decide ((k : Int) < (s.size : Int)) = true := decide_eq_true (by omega)
        have hks : (k : Int) < (s.size : Int) := by omega
        have HG2 := Lib.hid (drop_get (HG.out k hkn))
        have hws := wordC_ref s[k]
        obtain ⟨sb, hsb⟩ : ∃ sb, brk.data.toList.contains s[k] = sb := ⟨_, rfl⟩
        rw [hsb] at hws
        have hin := fun W => refIn_any brk s[k] W (by decide)
        rw [hsb] at hin
        have HIN := Lib.hid hin
        clear hin hsb
        by_cases hwc : wordC s[k] = true
        · have HE : Hid (T = (m + 1 + ((s.data.toList.drop (k + 1)).takeWhile wordC).length : Nat)) := by
            show _ = _
            rw [HT.out, HG2.out, tw_step hwc]
            omega
          rw [hwc] at hws
          obtain ⟨a1, a2, a3⟩ : decide (33 ≤ (s[k].toNat : Int)) = true ∧ decide ((s[k].toNat : Int) ≤ 126) = true ∧ sb = false := by
            cases h1 : decide (33 ≤ (s[k].toNat : Int)) <;> cases h2 : decide ((s[k].toNat : Int) ≤ 126) <;> cases sb <;> simp [h1, h2] at hws ⊢
          subst a3
          have p1 : decide ((s[k].toNat : Int) < 33) = false := decide_eq_false (by have := of_decide_eq_true a1; omega)
          have p2 : decide ((126 : Int) < (s[k].toNat : Int)) = false := decide_eq_false (by have := of_decide_eq_true a2; omega)
          have hw1 : IntKind.i64.wrap ((k : Int) + 1) = (k : Int) + 1 := IntWalk.i64_in _ (by omega)
          have hw2 : IntKind.i64.wrap ((m : Int) + 1) = (m : Int) + 1 := IntWalk.i64_in _ (by have := HKM.out; omega)
          clear hws hwc a1 a2
          go_wp2_with fail
          refine (HIN.out _).mono ?_
          rintro e w2 ⟨rfl, rfl⟩
          go_wp2
          go_roundg g
          case measure => omega
          case rel => exact ⟨k + 1, m + 1, n, by go_num, by go_num, by (have := HKM.out; show _ = _; omega), by omega, rfl, HE⟩
        · have hwf : wordC s[k] = false := by simpa using hwc
          have HE : Hid (T = (m : Int)) := by
            show _ = _
            rw [HT.out, HG2.out, tw_stop hwf]
            rfl
          rw [hwf] at hws
          have hcase : decide ((s[k].toNat : Int) < 33) = true ∨ (decide ((s[k].toNat : Int) < 33) = false ∧ decide ((126 : Int) < (s[k].toNat : Int)) = true) ∨ (decide ((s[k].toNat : Int) < 33) = false ∧ decide ((126 : Int) < (s[k].toNat : Int)) = false ∧ sb = true) := by
            by_cases b1 : (s[k].toNat : Int) < 33
            · exact .inl (decide_eq_true b1)
            · by_cases b2 : (126 : Int) < (s[k].toNat : Int)
              · exact .inr (.inl ⟨decide_eq_false b1, decide_eq_true b2⟩)
              · refine .inr (.inr ⟨decide_eq_false b1, decide_eq_false b2, ?_⟩)
                rw [decide_eq_true (show 33 ≤ (s[k].toNat : Int) by omega), decide_eq_true (show (s[k].toNat : Int) ≤ 126 by omega)] at hws
                cases sb
                · cases hws
                · rfl
          clear hws hwc hwf
          rcases hcase with p1 | ⟨p1, p2⟩ | ⟨p1, p2, rfl⟩
          all_goals
            go_wp2_with fail
            refine (HIN.out _).mono ?_
            rintro e w2 ⟨rfl, rfl⟩
            go_wp2
            go_ret
            exact ⟨by rw [HTT.out, HE.out]; rfl, n, rfl⟩
end Go.Proofs.YthbighnkohjfnaaGreatDoor
