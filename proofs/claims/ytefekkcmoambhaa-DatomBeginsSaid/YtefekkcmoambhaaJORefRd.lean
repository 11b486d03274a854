/-
  CONTRACT: Read (the document's).
-/
import Derived.Test.YtefekkcmoambhaaJORefO
import Derived.Test.YtefekkcmoambhaaJDPure
namespace Go.Proofs.Ytefekkcmoambhaa
open Go.RowKit Go.Shelf

theorem txtR_suf : ∀ {l s u : List UInt8}, txtR l = some (s, u) → u <:+ l
  | [], _, _, h => by cases h
  | [_], _, _, h => by cases h
  | c :: d :: r, s, u, h => by
    rw [txtR] at h
    by_cases hc : c = 0
    · rw [if_pos hc] at h
      by_cases h1 : d = 1
      · rw [if_pos h1] at h
        cases h
        exact ⟨[c, d], rfl⟩
      · rw [if_neg h1] at h
        by_cases h2 : d = 255
        · rw [if_pos h2] at h
          cases hr : txtR r with
          | none => rw [hr] at h; cases h
          | some p =>
            obtain ⟨s', u'⟩ := p
            rw [hr] at h
            have := txtR_suf hr
            cases h
            exact this.trans ⟨[c, d], rfl⟩
        · rw [if_neg h2] at h; cases h
    · rw [if_neg hc] at h
      cases hr : txtR (d :: r) with
      | none => rw [hr] at h; cases h
      | some p =>
        obtain ⟨s', u'⟩ := p
        rw [hr] at h
        have := txtR_suf hr
        cases h
        exact this.trans ⟨[c], rfl⟩
theorem oneR_suf {l t : List UInt8} {x : Int × Int × List UInt8} (h : oneR l = some (x, t)) : t <:+ l ∧ t.length < l.length := by
  cases l with
  | nil => cases h
  | cons c r =>
    simp only [oneR] at h
    by_cases h2 : c = 2
    · rw [if_pos h2] at h
      cases r with
      | nil => cases h
      | cons d u =>
        simp only at h
        split at h
        · cases h; exact ⟨⟨[c, d], rfl⟩, by simp only [List.length_cons]; omega⟩
        · cases h
    · rw [if_neg h2] at h
      by_cases h1 : c = 1 ∨ c = 5 ∨ c = 6
      · rw [if_pos h1] at h
        split at h
        · cases h; exact ⟨(List.drop_suffix 8 r).trans ⟨[c], rfl⟩, by simp only [List.length_cons, List.length_drop]; omega⟩
        · cases h
      · rw [if_neg h1] at h
        by_cases h3 : c = 3 ∨ c = 4 ∨ c = 7
        · rw [if_pos h3] at h
          cases hr : txtR r with
          | none => rw [hr] at h; cases h
          | some p =>
            obtain ⟨s, u⟩ := p
            rw [hr] at h
            simp only at h
            have h5 := txtR_suf hr
            have h6 := h5.length_le
            split at h
            · cases h; exact ⟨h5.trans ⟨[c], rfl⟩, by simp only [List.length_cons]; omega⟩
            · cases h
        · rw [if_neg h3] at h; cases h
theorem suf_drop {l t : List UInt8} (h : t <:+ l) : t = l.drop (l.length - t.length) := List.suffix_iff_eq_drop.1 h

/-- what was read up to a place -/
def RdAt (ks : List Bool) (b : List UInt8) (i at_ : Nat) (acc : List PartP) : Prop :=
  ∃ pre : List (PartP × List UInt8), pre.length = i ∧ pre.map (·.1) = acc ∧ pre ++ tellL (ks.drop i) (b.drop at_) = tellL ks b ∧ (pre.getLast?.map (·.2)).getD b = b.drop at_
theorem rdAt_start (ks : List Bool) (b : List UInt8) : RdAt ks b 0 0 [] := ⟨[], rfl, rfl, rfl, rfl⟩
theorem rdAt_step {ks : List Bool} {b t : List UInt8} {i at_ at' : Nat} {acc : List PartP} {p : PartP} (h : RdAt ks b i at_ acc) (hi : i < ks.length) (hp : partR ks[i] (b.drop at_) = some (p, t)) (ht : t = b.drop at') : RdAt ks b (i + 1) at' (acc ++ [p]) := by
  obtain ⟨pre, h1, h2, h3, _⟩ := h
  rw [List.drop_eq_getElem_cons hi, tellL, hp] at h3
  refine ⟨pre ++ [(p, t)], by rw [List.length_append, h1]; rfl, by rw [List.map_append, h2]; rfl, ?_, ?_⟩
  · rw [← h3, ← ht, List.append_assoc]; rfl
  · rw [List.getLast?_append]; simp [ht]
theorem rdAt_fail {ks : List Bool} {b : List UInt8} {i at_ : Nat} {acc : List PartP} (h : RdAt ks b i at_ acc) (hi : i < ks.length) (hp : partR ks[i] (b.drop at_) = none) : readL ks b = none := by
  obtain ⟨pre, h1, h2, h3, _⟩ := h
  rw [List.drop_eq_getElem_cons hi, tellL, hp, List.append_nil] at h3
  unfold readL
  rw [if_neg]
  intro h
  rw [← h3] at h
  omega
theorem rdAt_end {ks : List Bool} {b : List UInt8} {i at_ : Nat} {acc : List PartP} (h : RdAt ks b i at_ acc) (hi : i = ks.length) : readL ks b = if b.length ≤ at_ then some acc else none := by
  obtain ⟨pre, h1, h2, h3, h4⟩ := h
  rw [List.drop_of_length_le (by omega), tellL, List.append_nil] at h3
  unfold readL
  rw [← h3, h4, h2]
  by_cases hb : b.length ≤ at_
  · rw [if_pos hb, if_pos ⟨by omega, List.drop_of_length_le hb⟩]
  · rw [if_neg hb, if_neg]
    intro h
    have := congrArg List.length h.2
    rw [List.length_drop] at this
    simp at this
    omega

/-- where a slice's rest stands -/
def cutA (A : Option Addr) (c k : Nat) : Option Addr := if c = k then A else A.map (·.add k)
theorem slice8_from (A : Option Addr) (n c k : Nat) (hk : k ≤ n) (w : World) : (Instr.slice 43 (.slice A n c) (some (.int .i64 (k : Int))) none none).run Try.prog w = .ok (.slice (cutA A c k) (n - k) (c - k)) w := by
  have hT : Try.prog.underlying 43 = some (.slice (Try.prog.elem 43)) := by kernel_rfl
  have hS : (Go.sizeOf (Try.prog.elem 43)).run Try.prog w = .ok 1 w := by kernel_rfl
  rw [run_slice_l (w := w) 43 A n c hT .i64 (k : Int) (by omega) (by omega), hS]
  simp [Result.andThen, sliced, cutA]
theorem SlB.cutAt {W : World} {B : Nat} {A : Option Addr} {l : List UInt8} (h : SlB W B A l) {c : Nat} (hlc : l.length ≤ c) (k : Nat) : SlB W B (cutA A c k) (l.drop k) := by
  cases A with
  | none =>
    have h0 : l = [] := by
      by_cases hl : l = []
      · exact hl
      · obtain ⟨a, e, _⟩ := h hl
        cases e
    subst h0
    intro hl
    simp at hl
  | some a =>
    unfold cutA
    intro hl
    have hk : k < l.length := by
      refine Nat.lt_of_not_le fun e => hl ?_
      rw [List.drop_of_length_le e]
    have hck : c ≠ k := by omega
    rw [if_neg hck]
    obtain ⟨a', e, hlt, hc⟩ := h (by intro e; rw [e] at hk; simp at hk)
    cases e
    refine ⟨a.add k, rfl, by rw [add_block]; exact hlt, fun j x hx => ?_⟩
    rw [List.getElem?_drop] at hx
    rw [Go.Deep.add_add]
    exact hc _ x hx

theorem below_ownP {W w1 : World} {B : Nat} {v : Value} {l : List PartP} (h : OwnP W B v l) (hg : W.grownBy w1 v.ownBlock) (hB : B ≤ W.heap.size) : Below B W w1 :=
  (Below.refl B W).grown hg hB (fun k hk => (World.ownsRow.lt h k hk).1)
theorem OwnP.next {W W' : World} {B : Nat} {v : Value} {l : List PartP} (h : OwnP W B v l) (hb : Below W.heap.size W W') : OwnP W' B v l := h.kept (row := none) ⟨hb.os, hb.tape, hb.output, hb.size, fun k hk _ => hb.block k hk⟩ (fun r e => (by cases e))
theorem ownP_snoc {W : World} {B : Nat} {v : Value} {l : List PartP} {p : PartP} (h : W.ownsRow B 58 5 v (l.length + 1) (l.flatMap cellsP ++ cellsP p)) : OwnP W B v (l ++ [p]) := by
  show World.ownsRow _ _ _ _ _ _ _
  simpa using h

set_option maxRecDepth 100000 in
set_option maxHeartbeats 4000000 in
theorem refRead_any (A A' : Option Addr) (c c' : Nat) (b : List UInt8) (ks : List Bool) (w : World) (hs : SlB w w.heap.size A b) (hsk : SlK w w.heap.size A' ks) (hl : b.length ≤ 5000) (hk : ks.length ≤ 100) (hlc : b.length ≤ c) (hc : c ≤ maxLen) :
    Calls Try.prog 80 #[.slice A b.length c, .slice A' ks.length c'] w (ReadEnd w ks b) := by
  obtain ⟨i0, hi, hz0, hz1, hz2⟩ := info_parts info44
  have hmx : 50000 ≤ maxLen := by decide
  have HCM := Lib.hid hc
  have HS := Lib.hid hs
  clear hs hc
  go_enter Try.func80, Try.ntmps80
  go_wp2
  go_loopg [6, 7, 8] ks.length (fun g x y z wr => ∃ (i at_ : Nat) (acc : List PartP) (v : Value), x = v ∧ y = .int .i64 at_ ∧ z = .int .i64 i ∧ i + g = ks.length ∧ at_ ≤ b.length ∧ acc.length ≤ i ∧ Hid (RdAt ks b i at_ acc) ∧ Hid (OwnP wr w.heap.size v acc) ∧ Hid (Below w.heap.size w wr) ∧ w.heap.size ≤ wr.heap.size)
  case atStart => exact ⟨0, 0, [], _, rfl, rfl, rfl, by omega, by omega, by simp, rdAt_start ks b, World.ownsRow_nil _ _ _ _, Below.refl _ _, Nat.le_refl _⟩
  case round =>
    obtain ⟨i, at_, acc, v, rfl, rfl, rfl, hg, hat, hal, HRA, HO, HB, hsz⟩ := hrel
    have hati : ¬ ((b.length : Int) < (at_ : Int)) := by omega
    cases gk with
    | zero =>
      have hiz : ¬ ((i : Int) < (ks.length : Int)) := by omega
      have HE := Lib.hid (rdAt_end HRA.out (by omega))
      by_cases hend : b.length ≤ at_
      · have he : ¬ ((at_ : Int) < (b.length : Int)) := by omega
        have HY : Hid (readL ks b = some acc) := by show _ = _; rw [HE.out, if_pos hend]
        go_wp2
        go_ret2
        exact readEnd_yes HY.out HO.out HB.out
      · have he : (at_ : Int) < (b.length : Int) := by omega
        have HN : Hid (readL ks b = none) := by show _ = _; rw [HE.out, if_neg hend]
        go_wp2
        go_ret2
        exact readEnd_no HN.out rfl rfl HB.out
    | succ g =>
      have hii : (i : Int) < (ks.length : Int) := by omega
      have hil : i < ks.length := by omega
      obtain ⟨ak, rfl, hakl, hkc⟩ := hsk (by intro e; rw [e] at hil; simp at hil)
      have hkk := (HB.out.cell (p := ak.add i) (by rw [add_block]; exact hakl)).trans (hkc i _ (List.getElem?_eq_getElem hil))
      have HFAIL := Lib.hid (fun hp => rdAt_fail HRA.out hil hp)
      have HSTEP := Lib.hid (fun (p : PartP) (t : List UInt8) (at' : Nat) hp ht => rdAt_step (p := p) (t := t) (at' := at') HRA.out hil hp ht)
      have hsl := slice8_from A b.length c at_ hat
      have HA2 : Hid (SlB wr w.heap.size (cutA A c at_) (b.drop at_)) := (HS.out.cutAt hlc at_).next HB.out (Nat.le_refl _)
      have hld : (b.drop at_).length = b.length - at_ := List.length_drop
      have HLD := Lib.hid hld
      obtain ⟨kv, hkv⟩ : ∃ kv, ks[i] = kv := ⟨_, rfl⟩
      rw [hkv] at hkk HFAIL HSTEP
      clear hkc hkv hld
      cases kv
      · by_cases h8 : (b.length : Int) - (at_ : Int) < 8
        · have hp : partR false (b.drop at_) = none := by unfold partR; rw [if_neg (by decide), if_neg (by rw [HLD.out]; omega)]
          have HN := Lib.hid (HFAIL.out hp)
          clear hp
          go_wp2
          go_ret2
          exact readEnd_no HN.out rfl rfl HB.out
        · have hcall := refNum_any (cutA A c at_) (c - at_) (b.drop at_) wr w.heap.size HA2.out (by rw [HLD.out]; omega) (by rw [HLD.out]; omega)
          rw [HLD.out] at hcall
          have HCALL := Lib.hid hcall
          clear hcall
          have hp : partR false (b.drop at_) = some (⟨false, numR (b.drop at_), 0, 0, ⟨#[]⟩⟩, (b.drop at_).drop 8) := by unfold partR; rw [if_neg (by decide), if_pos (by rw [HLD.out]; omega)]
          have HNX := Lib.hid (HSTEP.out _ _ (at_ + 8) hp (by rw [List.drop_drop]))
          clear hp
          go_wp2_with fail
          refine HCALL.out.mono ?_
          rintro e w3 ⟨rfl, rfl⟩
          go_wp2_with (at_builtin; refine wpList_append_own _ rfl _ _ 56 rfl w.heap.size 58 i0 (.agg #[.bool false, .int .i64 0, .int .i64 0, .int .i64 0, .string ⟨#[]⟩]) 5 48 Try.underlying56 hi hz0 hz1 hz2 rfl (by decide) _ _ _ rfl (HO.out.alloc _) ⟨w3.heap.size, 0, none⟩ 1 1 (cellsP (PartP.mk false (numR (b.drop at_)) 0 0 ⟨#[]⟩)) rfl rfl (fun j u h => cell_lit _ _ _ j u h) (cellsP_one (PartP.mk false (numR (b.drop at_)) 0 0 ⟨#[]⟩)) (by omega) (by omega) (by simp; omega) ?_; intro v' w4 hown' hgrow _)
          have hB4 := (HB.out.alloc hsz _).trans (below_ownP (HO.out.alloc _) hgrow (by simp; omega))
          go_roundg g
          case measure => omega
          case rel => exact ⟨i + 1, at_ + 8, acc ++ [PartP.mk false (numR (b.drop at_)) 0 0 ⟨#[]⟩], _, rfl, by go_num, by go_num, by omega, by omega, by rw [List.length_append]; simp; omega, HNX.out, ownP_snoc hown', hB4, hB4.size⟩
      · have hcall := refOne_any (cutA A c at_) (c - at_) (b.drop at_) wr w.heap.size hsz HA2.out (by rw [HLD.out]; omega) (by have := HCM.out; omega) (by rw [HLD.out]; omega)
        rw [HLD.out] at hcall
        have HCALL := Lib.hid hcall
        clear hcall
        go_wp2_with fail
        refine HCALL.out.mono ?_
        rintro e w3 ⟨⟨k, n, s, t, hp, rfl⟩ | ⟨hp, x9, y9, z9, rfl⟩, hb3⟩
        · have hsf := oneR_suf hp
          have htl : t.length < (b.drop at_).length := hsf.2
          have HTL := Lib.hid htl
          obtain ⟨m, hm⟩ : ∃ m, (b.drop at_).length - t.length = m := ⟨_, rfl⟩
          have hm0 : ¬ ((m : Int) = 0) := by omega
          have hml : at_ + m ≤ b.length := by have := HLD.out; omega
          have HTD : Hid (t = b.drop (at_ + m)) := by
            show _ = _
            have := suf_drop hsf.1
            rw [hm, List.drop_drop] at this
            exact this
          have hpp : partR true (b.drop at_) = some (⟨true, 0, k, n, ⟨s.toArray⟩⟩, t) := by unfold partR; rw [if_pos rfl, hp]; rfl
          have HNX := Lib.hid (HSTEP.out _ _ (at_ + m) hpp HTD.out)
          rw [hm]
          have HOw : Hid (OwnP w3 w.heap.size _ acc) := HO.out.next hb3
          have HBw := Lib.hid (HB.out.trans (hb3.mono hsz))
          have hszw : w.heap.size ≤ w3.heap.size := by have := hb3.size; omega
          clear hsf htl hm hpp hp hb3
          unfold valV
          go_wp2_with (at_builtin; refine wpList_append_own _ rfl _ _ 56 rfl w.heap.size 58 i0 (.agg #[.bool false, .int .i64 0, .int .i64 0, .int .i64 0, .string ⟨#[]⟩]) 5 48 Try.underlying56 hi hz0 hz1 hz2 rfl (by decide) _ _ _ rfl ((HOw.out.alloc _).alloc _) ⟨w3.heap.size + 1, 0, none⟩ 1 1 (cellsP (PartP.mk true 0 k n ⟨s.toArray⟩)) rfl rfl (fun j u h => by have h9 := cell_lit (w3.alloc (.cells #[.int .i64 k, .int .i64 n, .string ⟨s.toArray⟩] 24)) #[.bool true, .int .i64 0, .int .i64 k, .int .i64 n, .string ⟨s.toArray⟩] 58 j u h; rw [World.size_alloc] at h9; exact h9) (cellsP_one (PartP.mk true 0 k n ⟨s.toArray⟩)) (by omega) (by omega) (by simp; omega) ?_; intro v' w4 hown' hgrow _)
          have hB4 := ((HBw.out.alloc hszw _).alloc (by simp; omega) _).trans (below_ownP ((HOw.out.alloc _).alloc _) hgrow (by simp; omega))
          go_roundg g
          case measure => omega
          case rel => exact ⟨i + 1, at_ + m, acc ++ [PartP.mk true 0 k n ⟨s.toArray⟩], _, rfl, by go_num, by go_num, by omega, by omega, by rw [List.length_append]; simp; omega, HNX.out, ownP_snoc hown', hB4, hB4.size⟩
        · have hpp : partR true (b.drop at_) = none := by unfold partR; rw [if_pos rfl, hp]; rfl
          have HN := Lib.hid (HFAIL.out hpp)
          have HBw := Lib.hid (HB.out.trans (hb3.mono hsz))
          have hszw : w.heap.size ≤ w3.heap.size := by have := hb3.size; omega
          clear hpp hp hb3
          go_wp2
          go_ret2
          exact readEnd_no HN.out rfl rfl (HBw.out.alloc hszw _)
end Go.Proofs.Ytefekkcmoambhaa
