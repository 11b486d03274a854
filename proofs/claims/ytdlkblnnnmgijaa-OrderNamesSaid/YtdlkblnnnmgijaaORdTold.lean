/-
  CONTRACT: told (the program's iterator over parts).
-/
import Derived.Test.YtdlkblnnnmgijaaORdPart
import Derived.Test.YtdlkblnnnmgijaaOBack
namespace Go.Proofs.Ytdlkblnnnmgijaa
open Go.RowKit Go.Shelf
attribute [local go_sem] Oper.semAt_some

theorem Rest.back {W W' : World} {B B' : Nat} {v : Value} {l : List UInt8} (h : Rest W' B v l) (hb : Below B' W W') (hB : B ≤ B') : Rest W B v l := by
  obtain ⟨A, c, e, hs, h1, h2⟩ := h
  refine ⟨A, c, e, fun hl => ?_, h1, h2⟩
  obtain ⟨a, ea, hlt, hc⟩ := hs hl
  exact ⟨a, ea, hlt, fun j x hx => (hb.cell (p := a.add j) (by rw [add_block]; omega)).symm.trans (hc j x hx)⟩
theorem abides_at {α : Type} {B : Nat} {J : List α → World → Prop} (hJ : AbidesFrom B J) {p : List α} {w w' : World} (h : J p w) (hb : Below w.heap.size w w') : J p w' :=
  hJ p w w' none h ⟨hb.os, hb.tape, hb.output, hb.size, fun k hk _ => hb.block k hk⟩ (fun r e => by cases e)

/-- a part, and what stands behind it -/
structure Tl (w : World) (B : Nat) where
  p : PartP
  t : List UInt8
  r : Value
  ok : Rest w B r t
def Tl.pt {w : World} {B : Nat} (x : Tl w B) : PartP × List UInt8 := (x.p, x.t)
/-- the parts that bytes begin with -/
def tellL : List Bool → List UInt8 → List (PartP × List UInt8)
  | [], _ => []
  | v :: ks, b => match partR v b with
    | none => []
    | some (p, t) => (p, t) :: tellL ks t
theorem txtR_rest : ∀ {l s u : List UInt8}, txtR l = some (s, u) → u.length ≤ l.length
  | [], _, _, h => by cases h
  | [_], _, _, h => by cases h
  | c :: d :: r, s, u, h => by
    rw [txtR] at h
    by_cases hc : c = 0
    · rw [if_pos hc] at h
      by_cases h1 : d = 1
      · rw [if_pos h1] at h
        cases h
        simp; omega
      · rw [if_neg h1] at h
        by_cases h2 : d = 255
        · rw [if_pos h2] at h
          cases hr : txtR r with
          | none => rw [hr] at h; cases h
          | some p =>
            obtain ⟨s', u'⟩ := p
            rw [hr] at h
            have := txtR_rest hr
            cases h
            simp; omega
        · rw [if_neg h2] at h; cases h
    · rw [if_neg hc] at h
      cases hr : txtR (d :: r) with
      | none => rw [hr] at h; cases h
      | some p =>
        obtain ⟨s', u'⟩ := p
        rw [hr] at h
        have := txtR_rest hr
        cases h
        simp at this ⊢; omega
theorem oneR_rest {l t : List UInt8} {x : Int × Int × List UInt8} (h : oneR l = some (x, t)) : t.length ≤ l.length := by
  cases l with
  | nil => cases h
  | cons c r =>
    simp only [oneR] at h
    by_cases h2 : c = 2
    · rw [if_pos h2] at h
      cases r with
      | nil => cases h
      | cons d u =>
        simp only at h
        split at h
        · cases h; simp; omega
        · cases h
    · rw [if_neg h2] at h
      by_cases h1 : c = 1 ∨ c = 5 ∨ c = 6
      · rw [if_pos h1] at h
        split at h
        · cases h; simp; omega
        · cases h
      · rw [if_neg h1] at h
        by_cases h3 : c = 3 ∨ c = 4 ∨ c = 7
        · rw [if_pos h3] at h
          cases hr : txtR r with
          | none => rw [hr] at h; cases h
          | some p =>
            obtain ⟨s, u⟩ := p
            rw [hr] at h
            simp only at h
            have := txtR_rest hr
            split at h
            · cases h; simp; omega
            · cases h
        · rw [if_neg h3] at h; cases h
theorem partR_rest {v : Bool} {l t : List UInt8} {p : PartP} (h : partR v l = some (p, t)) : t.length ≤ l.length := by
  unfold partR at h
  split at h
  · cases ho : oneR l with
    | none => rw [ho] at h; cases h
    | some x =>
      obtain ⟨x, u⟩ := x
      rw [ho] at h
      cases h
      exact oneR_rest ho
  · split at h
    · cases h; simp
    · cases h

/-- a slice that reads as these kinds -/
def SlK (W : World) (B : Nat) (A : Option Addr) (l : List Bool) : Prop :=
  l ≠ [] → ∃ a, A = some a ∧ a.block < B ∧ ∀ (j : Nat) (x : Bool), l[j]? = some x → W.cell? (a.add j) = some (.bool x)
theorem SlK.next {W W' : World} {B : Nat} {A : Option Addr} {l : List Bool} (h : SlK W B A l) {B' : Nat} (hb : Below B' W W') (hB : B ≤ B') : SlK W' B A l := fun hl => by
  obtain ⟨a, e, hlt, hc⟩ := h hl
  exact ⟨a, e, hlt, fun j x hx => (hb.cell (p := a.add j) (by rw [add_block]; omega)).trans (hc j x hx)⟩

/-- One round of the loop that is handed parts. -/
def HandsT (w : World) (B : Nat) (l N : Nat) (J Jx : List (Tl w B) → World → Prop) : Prop :=
  ∀ m pre (x : Tl w B) W, J pre W → pre.length < N → YieldAt Fence.wide m Try.prog l #[partV x.p, x.r] W fun e W' =>
    (e = .returned (.bool true) ∧ J (pre ++ [x]) W' ∧ Below B W W') ∨ (e = .returned (.bool false) ∧ Jx (pre ++ [x]) W')

set_option maxRecDepth 100000 in
set_option maxHeartbeats 2000000 in
theorem told_in (w : World) (B : Nat) (lp C Bt Bk : Nat) (A A' : Option Addr) (c c' : Nat) (b : List UInt8) (ks : List Bool) (J Jx : List (Tl w B) → World → Prop) (hA : AbidesFrom C J) (hY : HandsT w B lp ks.length J Jx) (n : Nat)
    (hl : b.length ≤ 10000) (hk : ks.length ≤ 1200) (W : World) (hBW : B ≤ W.heap.size) (hwW : Below B w W) (hs : SlB w B A b) (hsk : SlK w B A' ks) (hlc : b.length ≤ c) (hc : c ≤ maxLen)
    (hb : W.cell? ⟨Bt, 0, none⟩ = some (.slice A b.length c)) (hkb : W.cell? ⟨Bk, 0, none⟩ = some (.slice A' ks.length c')) (hJ : J [] W) :
    CallsIn Fence.wide n Try.prog 84 #[.func (.yield lp) #[] #[], .pointer (some ⟨Bt, 0, none⟩), .pointer (some ⟨Bk, 0, none⟩)] W fun e W' =>
      (∃ v, e = .returned v) ∧ ((∃ ys, ys.map Tl.pt = tellL ks b ∧ J ys W') ∨ ∃ q, q.map Tl.pt <+: tellL ks b ∧ Jx q W') := by
  refine callsIn_of_wp Try.func84 rfl trivial ?_ rfl
  simp only [Try.ntmps84, List.size_toArray, List.length_cons, List.length_nil, Nat.reduceAdd, Nat.reduceSub, Array.replicate_succ, Array.replicate_zero, List.push_toArray, List.append_toArray, List.nil_append, List.cons_append]
  have HR0 : Hid (Rest w B (.slice A b.length c) b) := ⟨A, c, rfl, hs, hlc, hc⟩
  gi_wp2
  gi_loopw [4, 13] (fun x y wr => ∃ (j : Nat) (pre : List (Tl w B)) (cur : List UInt8), y = .int .i64 (j : Int) ∧ j ≤ ks.length ∧ pre.length = j ∧ Hid (Rest w B x cur) ∧ cur.length ≤ 10000 ∧ Hid (pre.map Tl.pt ++ tellL (ks.drop j) cur = tellL ks b) ∧ J pre wr ∧ Hid (Below B w wr) ∧ B ≤ wr.heap.size) (fun _ y _ => ks.length - (intOf y).toNat)
  case atStart => exact ⟨0, [], b, rfl, by omega, rfl, HR0.out, hl, (by show _ = _; simp), hJ, hwW, hBW⟩
  case round =>
    obtain ⟨j, pre, cur, rfl, hj, hpl, HR, hcl, HT, hJk, HB, hBr⟩ := hrel
    clear hJ HR0
    by_cases hjl : j < ks.length
    · have hji : (j : Int) < (ks.length : Int) := by omega
      have hst : ks.drop j = ks[j] :: ks.drop (j + 1) := List.drop_eq_getElem_cons hjl
      obtain ⟨a, rfl, hal, hcells⟩ := hsk (by intro e; rw [e] at hjl; simp at hjl)
      have hkc := (HB.out.cell (p := a.add j) (by rw [add_block]; exact hal)).trans (hcells j _ (List.getElem?_eq_getElem hjl))
      obtain ⟨v, hv⟩ : ∃ v, ks[j] = v := ⟨_, rfl⟩
      rw [hv] at hkc hst
      rw [hst] at HT
      obtain ⟨X, x, rfl, hxs, hx1, hx2⟩ := HR.out
      have HX := Lib.hid (hxs.next HB.out (Nat.le_refl _))
      clear hst hcells hv hb hkb hxs
      gi_wp2_with fail
      refine ⟨trivial, wide_deep _, ?_⟩
      refine (callsIn_wide.2 (readPart_any v X x cur _ B hBr HX.out hx1 hx2 hcl)).mono ?_
      rintro e w3 ⟨h3, hb3⟩
      rcases h3 with ⟨p, t, r, hp, rfl, hr⟩ | ⟨hp, p, r, rfl⟩
      · have hbw := HB.out.trans (hb3.mono hBr)
        have HBW := Lib.hid hbw
        have hok := hr.back hbw (Nat.le_refl _)
        have HRT := Lib.hid hok
        have htl := partR_rest hp
        have HT2 : Hid (pre.map Tl.pt ++ (p, t) :: tellL (ks.drop (j + 1)) t = tellL ks b) := by
          show _ = _
          have := HT.out
          rw [tellL, hp] at this
          exact this
        have hJ4 : J pre (w3.alloc (.cells #[.bool p.v, .int .i64 p.n, .int .i64 p.k, .int .i64 p.m, .string p.s] 40)) := abides_at hA (abides_at hA hJk hb3) ((Below.refl _ _).alloc (Nat.le_refl _) _)
        have HB4 : Hid (Below B w (w3.alloc (.cells #[.bool p.v, .int .i64 p.n, .int .i64 p.k, .int .i64 p.m, .string p.s] 40))) := hbw.alloc (Nat.le_trans hBr hb3.size) _
        obtain ⟨fn, tmps, assign, body, hy, hR⟩ := hY (n - 1) pre ⟨p, t, r, hok⟩ (w3.alloc (.cells #[.bool p.v, .int .i64 p.n, .int .i64 p.k, .int .i64 p.m, .string p.s] 40)) hJ4 (by omega)
        have hy' : (Instr.yield lp #[.agg #[.bool p.v, .int .i64 p.n, .int .i64 p.k, .int .i64 p.m, .string p.s], r]).run Try.prog (w3.alloc (.cells #[.bool p.v, .int .i64 p.n, .int .i64 p.k, .int .i64 p.m, .string p.s] 40)) = .ok (.round lp fn tmps assign body) (w3.alloc (.cells #[.bool p.v, .int .i64 p.n, .int .i64 p.k, .int .i64 p.m, .string p.s] 40)) := hy
        unfold partV
        have hsz4 : B ≤ (w3.alloc (.cells #[.bool p.v, .int .i64 p.n, .int .i64 p.k, .int .i64 p.m, .string p.s] 40)).heap.size := by simp; have := hb3.size; omega
        clear hy hbw hr hp hJ4 hb3 HT hkc
        gi_wp2
        refine ⟨wide_deep _, ?_⟩
        refine hR.mono ?_
        rintro e W5 (⟨rfl, hJ5, hk5⟩ | ⟨rfl, hJx5⟩)
        · gi_wp2
          go_roundw
          case rel => exact ⟨j + 1, pre ++ [⟨p, t, r, hok⟩], t, by go_num, by omega, by rw [List.length_append]; simp; omega, HRT.out, by omega, (by show _ = _; rw [← HT2.out, List.map_append, List.append_assoc]; rfl), hJ5, HB4.out.trans hk5, by have := hk5.size; omega⟩
          case measure => simp [intOf]; omega
        · gi_wp2
          refine bodyPost_ret (results_none rfl _ _ _) rfl ?_
          exact ⟨⟨_, rfl⟩, .inr ⟨pre ++ [⟨p, t, r, hok⟩], ⟨tellL (ks.drop (j + 1)) t, by rw [← HT2.out, List.map_append, List.append_assoc]; rfl⟩, hJx5⟩⟩
      · have HE : Hid (pre.map Tl.pt = tellL ks b) := by
          show _ = _
          have := HT.out
          rw [tellL, hp] at this
          simpa using this
        have hJ3 := abides_at hA hJk hb3
        have HJ4 : Hid (J pre (w3.alloc (.cells #[.bool p.v, .int .i64 p.n, .int .i64 p.k, .int .i64 p.m, .string p.s] 40))) := abides_at hA hJ3 ((Below.refl _ _).alloc (Nat.le_refl _) _)
        unfold partV
        clear hp hb3 HT hkc hJ3
        gi_wp2
        refine ⟨fun f h => (by cases h), ?_⟩
        gi_wp2
        refine bodyPost_ret (results_none rfl _ _ _) rfl ?_
        exact ⟨⟨_, rfl⟩, .inl ⟨pre, HE.out, HJ4.out⟩⟩
    · have hji : ¬ (j : Int) < (ks.length : Int) := by omega
      have HE : Hid (pre.map Tl.pt = tellL ks b) := by
        show _ = _
        have := HT.out
        rw [List.drop_of_length_le (by omega), tellL] at this
        simpa using this
      gi_wp2
      go_end0
      exact ⟨⟨_, rfl⟩, .inl ⟨pre, HE.out, hJk⟩⟩

/-- told's value hands on the parts that bytes begin with, or some of them. -/
theorem told_stops (n : Nat) (B Bt Bk : Nat) (A A' : Option Addr) (c c' : Nat) (b : List UInt8) (ks : List Bool) (hl : b.length ≤ 10000) (hk : ks.length ≤ 1200) (w : World) (hB : B ≤ w.heap.size) (hBt : Bt < w.heap.size) (hBk : Bk < w.heap.size) (hs : SlB w B A b) (hsk : SlK w B A' ks) (hlc : b.length ≤ c) (hc : c ≤ maxLen)
    (hb : w.cell? ⟨Bt, 0, none⟩ = some (.slice A b.length c)) (hkb : w.cell? ⟨Bk, 0, none⟩ = some (.slice A' ks.length c')) :
    SeqStopsK Fence.wide n Try.prog 84 #[.pointer (some ⟨Bt, 0, none⟩), .pointer (some ⟨Bk, 0, none⟩)] (fun x : Tl w B => #[partV x.p, x.r]) (Below B) (fun ys => ys.map Tl.pt = tellL ks b) (fun pre => pre.map Tl.pt <+: tellL ks b) ks.length w := fun lp J Jx W hW hA _ hY h0' => by
  have hH : HandsT w B lp ks.length J Jx := fun m pre x W1 hj hl => YieldAt.anyDepth m (hY pre x W1 hj hl)
  have g0 := (hW.cell (p := ⟨Bt, 0, none⟩) hBt).trans hb
  have g1 := (hW.cell (p := ⟨Bk, 0, none⟩) hBk).trans hkb
  refine (told_in w B lp W.heap.size Bt Bk A A' c c' b ks J Jx hA hH n hl hk W (Nat.le_trans hB hW.size) (hW.mono hB) hs hsk hlc hc g0 g1 h0').mono ?_
  rintro e W' ⟨hv, ⟨ys, hys, hj⟩ | ⟨q, hq, hx⟩⟩
  · exact ⟨hv, .inl ⟨ys, hys, hj⟩⟩
  · exact ⟨hv, .inr ⟨q, hq, hx⟩⟩

set_option maxHeartbeats 400000 in
theorem toldOf_any (A A' : Option Addr) (n c n' c' : Nat) (w : World) :
    Calls Try.prog 58 #[.slice A n c, .slice A' n' c'] w fun e w' => e = .returned (.func (.func 84) #[] #[.pointer (some ⟨w.heap.size, 0, none⟩), .pointer (some ⟨w.heap.size + 1, 0, none⟩)]) ∧ w' = (w.alloc (.cells #[.slice A n c] 29)).alloc (.cells #[.slice A' n' c'] 44) := by
  go_enter Try.func58, Try.ntmps58
  go_wp2
  go_ret
  exact ⟨rfl, rfl⟩
end Go.Proofs.Ytdlkblnnnmgijaa
