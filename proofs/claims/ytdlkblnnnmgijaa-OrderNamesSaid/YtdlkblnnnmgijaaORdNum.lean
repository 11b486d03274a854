/-
  CONTRACTS: readNumber, readByte (the program's), number (the document's).
-/
import Derived.Test.YtdlkblnnnmgijaaORdPure
import Derived.Test.YtdlkblnnnmgijaaOEndsL
import Derived.Laws.CopyRow
import Derived.Laws.CopyOwn
import Derived.Laws.IdiomCopy
import Derived.Lib.SlBuf
namespace Go.Proofs.Ytdlkblnnnmgijaa
open Go.RowKit Go.Shelf

theorem SlB.drop {W : World} {B : Nat} {a : Addr} {l : List UInt8} (h : SlB W B (some a) l) (k : Nat) : SlB W B (some (a.add k)) (l.drop k) := fun hl => by
  have h0 : l ≠ [] := fun e => hl (by rw [e]; simp)
  obtain ⟨a', e, hlt, hc⟩ := h h0
  injection e with e
  subst e
  refine ⟨_, rfl, by rw [add_block]; exact hlt, fun j x hx => ?_⟩
  rw [List.getElem?_drop] at hx
  rw [Addr.add_add]
  exact hc _ x hx

theorem copy8 (W : World) (A : Option Addr) (c : Nat) (l : List UInt8) (hs : SlB W W.heap.size A l) (ty : TypeId) :
    ∃ w', (Builtin.copy_ #[29, 29] ty #[.slice (some ⟨W.heap.size, 0, none⟩) 8 8, .slice A l.length c]).run Try.prog (W.alloc (.cells #[.int .u8 0, .int .u8 0, .int .u8 0, .int .u8 0, .int .u8 0, .int .u8 0, .int .u8 0, .int .u8 0] 79)) = .ok (.int .i64 (Nat.min l.length 8 : Nat)) w' ∧ Below W.heap.size W w' ∧ (8 ≤ l.length → w'.heap[W.heap.size]? = some (.cells (cellsL (l.take 8)).toArray 79 (0, 0))) := by
  obtain ⟨i0, hi, hz0, hz1, hz2⟩ := info_parts info8
  have hsz : (Try.prog.info? 5).map (·.size) = some 1 := by rw [hi]; simp [hz1]
  have hb : Below W.heap.size W (W.alloc (.cells #[.int .u8 0, .int .u8 0, .int .u8 0, .int .u8 0, .int .u8 0, .int .u8 0, .int .u8 0, .int .u8 0] 79)) := (Below.refl _ _).alloc (Nat.le_refl _) _
  by_cases hl : l = []
  · subst hl
    exact ⟨_, run_copy_none _ _ _ ty 5 (some ⟨W.heap.size, 0, none⟩) A 8 8 0 c Try.underlying29 hsz rfl, hb, fun h => absurd h (by decide)⟩
  · have HB := hb
    obtain ⟨a, rfl, hlt, hc⟩ := hs hl
    have hlen : (cellsL (l.take 8)).length = Nat.min l.length 8 := by rw [cellsL_len, List.length_take, Nat.min_comm]
    have h8 : (cellsL (l.take 8)).length ≤ 8 := by rw [hlen]; exact Nat.min_le_right _ _
    have hrun := run_copy_row (P := Try.prog) (W.alloc (.cells #[.int .u8 0, .int .u8 0, .int .u8 0, .int .u8 0, .int .u8 0, .int .u8 0, .int .u8 0, .int .u8 0] 79)) 29 29 ty 5 W.heap.size 0 8 8 a l.length c _ 79 (cellsL (l.take 8)) Try.underlying29 hsz (heap_alloc_new W _) hlen (fun j u hu => by
        obtain ⟨x, hx, rfl⟩ := cellsL_at hu
        rw [List.getElem?_take] at hx
        split at hx
        · exact (hb.cell (p := a.add j) (by rw [add_block]; exact hlt)).trans (hc j x hx)
        · cases hx) (by rw [Nat.zero_add]; exact h8) (cellsL_one _)
    rw [hlen] at hrun
    refine ⟨_, hrun, below_setRow hb (Nat.le_refl _) _, fun h => ?_⟩
    rw [setRow_heap _ _ _ _ _ _ (heap_alloc_new W _)]
    have h9 : Nat.min l.length 8 = 8 := Nat.min_eq_right h
    rw [h9]
    simp [cellsL]

theorem index8 (L : List UInt8) (hL : L.length = 8) (i : Nat) (hi : i < 8) (W : World) : (Instr.index 79 (.agg (cellsL L).toArray) (.int .i64 (i : Int))).run Try.prog W = .ok (.int .u8 (L[i]'(by omega)).toNat) W := by
  have hc : (cellsL L)[i]? = some (.int .u8 (L[i]'(by omega)).toNat) := by unfold cellsL; simp [hL, hi]
  obtain ⟨i0, h1, h2, h3, h4⟩ := info_parts info8
  have h0 : (0 : Int) ≤ i := by omega
  simp [Instr.index, run_underlying Try.underlying79, asIntOf, go_sem, h0, sizeOf, typeInfo, h1, h3, part, hc, hi]

theorem or_step (V c : Nat) (hV : V < 72057594037927936) (hc : c < 256) : bits .or .u64 ((V : Int) * 256) (IntKind.u64.wrap (c : Int)) = ((V * 256 + c : Nat) : Int) := by
  have e1 : ((V : Int) * 256) = ((V * 256 : Nat) : Int) := by omega
  have e2 : IntKind.u64.wrap (c : Int) = (c : Int) := by rw [IntKind.wrap_u64]; omega
  rw [e1, e2, u64_or_nat _ _ (by omega) (by omega), shl_or V c hc]
theorem turnedR (V : Nat) (hV : V < 18446744073709551616) : IntKind.i64.wrap (bits .xor .u64 (V : Int) 9223372036854775808) = (V : Int) - 9223372036854775808 := by
  rw [show (9223372036854775808 : Int) = ((9223372036854775808 : Nat) : Int) from rfl, u64_xor_nat _ _ hV (by decide), xor63 _ hV, IntKind.wrap_i64]
  split <;> omega

/-- a slice that reads as these bytes -/
def Rest (W : World) (B : Nat) (v : Value) (l : List UInt8) : Prop := ∃ A c, v = .slice A l.length c ∧ SlB W B A l ∧ l.length ≤ c ∧ c ≤ maxLen
theorem Rest.next {W W' : World} {B B' : Nat} {v : Value} {l : List UInt8} (h : Rest W B v l) (hb : Below B' W W') (hB : B ≤ B') : Rest W' B v l := by
  obtain ⟨A, c, e, hs, h1, h2⟩ := h
  exact ⟨A, c, e, hs.next hb hB, h1, h2⟩
theorem SlB.cut {W : World} {B : Nat} {a : Addr} {l : List UInt8} (h : SlB W B (some a) l) {c : Nat} (hlc : l.length ≤ c) (k : Nat) : SlB W B (if c = k then some a else some ⟨a.block, a.off + k, none⟩) (l.drop k) := fun hl => by
  have hk : k < l.length := by
    refine Nat.lt_of_not_le fun e => hl ?_
    exact List.drop_of_length_le e
  rw [if_neg (by omega)]
  obtain ⟨a', e, hlt, hc⟩ := h.drop k hl
  injection e with e
  subst e
  have h0 := hc 0 _ (by rw [List.getElem?_drop, Nat.add_zero]; exact List.getElem?_eq_getElem hk)
  have he : (⟨a.block, a.off + k, none⟩ : Addr) = a.add k := by
    have hsp := World.cell?_spot h0
    obtain ⟨b, o, sp⟩ := a
    cases sp with
    | none => simp [Addr.add]
    | some _ =>
      by_cases hk0 : k = 0
      · subst hk0
        simp [Addr.add] at hsp
      · simp [Addr.add, hk0]
  rw [he]
  exact ⟨_, rfl, hlt, hc⟩
theorem rest_cut {W : World} {B : Nat} {a : Addr} {l : List UInt8} (h : SlB W B (some a) l) {c : Nat} (hlc : l.length ≤ c) (hc : c ≤ maxLen) (k : Nat) : Rest W B (.slice (if c = k then some a else some ⟨a.block, a.off + k, none⟩) (l.length - k) (c - k)) (l.drop k) :=
  ⟨_, c - k, by rw [List.length_drop], h.cut hlc k, by rw [List.length_drop]; omega, by omega⟩
theorem rest_at {W : World} {B : Nat} {a : Addr} {l : List UInt8} (h : SlB W B (some a) l) {c : Nat} (hlc : l.length ≤ c) (hc : c ≤ maxLen) (k : Nat) (hk : c = k) : Rest W B (.slice (some a) (l.length - k) 0) (l.drop k) := by
  have := rest_cut h hlc hc k
  rwa [if_pos hk, show c - k = 0 by omega] at this
theorem rest_on {W : World} {B : Nat} {a : Addr} {l : List UInt8} (h : SlB W B (some a) l) {c : Nat} (hlc : l.length ≤ c) (hc : c ≤ maxLen) (k : Nat) (hk : ¬ c = k) : Rest W B (.slice (some ⟨a.block, a.off + k, none⟩) (l.length - k) (c - k)) (l.drop k) := by
  have := rest_cut h hlc hc k
  rwa [if_neg hk] at this
/-- What readNumber answers. -/
def NumRd (W : World) (B : Nat) (l : List UInt8) (e : Ending) (w' : World) : Prop :=
  (8 ≤ l.length ∧ (∃ r, e = .returned (.tuple #[.int .i64 (numR l), r, .bool true]) ∧ Rest w' B r (l.drop 8)) ∧ Below W.heap.size W w') ∨
  (l.length < 8 ∧ e = .returned (.tuple #[.int .i64 0, .slice none 0 0, .bool false]) ∧ Below W.heap.size W w')

theorem numRd_yes {W w' : World} {B : Nat} {l : List UInt8} {n : Int} {r : Value} (h8 : 8 ≤ l.length) (hn : numR l = n) (hr : Rest w' B r (l.drop 8)) (hb : Below W.heap.size W w') : NumRd W B l (.returned (.tuple #[.int .i64 n, r, .bool true])) w' := .inl ⟨h8, ⟨r, by rw [hn], hr⟩, hb⟩
theorem numRd_no {W w' : World} {B : Nat} {l : List UInt8} (h8 : l.length < 8) (hb : Below W.heap.size W w') : NumRd W B l (.returned (.tuple #[.int .i64 0, .slice none 0 0, .bool false])) w' := .inr ⟨h8, rfl, hb⟩

set_option maxRecDepth 100000 in
set_option maxHeartbeats 1000000 in
theorem readNumber_any (A : Option Addr) (c : Nat) (l : List UInt8) (W : World) (B : Nat) (hB : B ≤ W.heap.size) (hsB : SlB W B A l) (hlc : l.length ≤ c) (hc : c ≤ maxLen) :
    Calls Try.prog 113 #[.slice A l.length c] W (NumRd W B l) := by
  have hs := hsB.more hB
  unfold maxLen at hc
  obtain ⟨w1, hrun, hb1, hg⟩ := copy8 W A c l hs 3
  by_cases h8 : 8 ≤ l.length
  · obtain ⟨a, rfl, hal, hcells⟩ := hs (by intro e; rw [e] at h8; simp at h8)
    have HSL := Lib.hid hsB
    clear hsB
    have hm : (Nat.min l.length 8 : Nat) = 8 := Nat.min_eq_right h8
    rw [hm] at hrun
    have HG := Lib.hid (hg h8)
    obtain ⟨L, hL⟩ : ∃ L, l.take 8 = L := ⟨_, rfl⟩
    have hL8 : L.length = 8 := by rw [← hL, List.length_take]; omega
    rw [hL] at HG
    match L, hL8 with
    | [c0, c1, c2, c3, c4, c5, c6, c7], _ =>
      go_enter Try.func113, Try.ntmps113
      have hgg := HG.out
      simp only [cellsL, List.map_cons, List.map_nil] at hgg
      have k0 : w1.cell? ⟨W.heap.size, 0, none⟩ = some (.int .u8 c0.toNat) := by simp [World.cell?, hgg]
      have k1 : w1.cell? ⟨W.heap.size, 1, none⟩ = some (.int .u8 c1.toNat) := by simp [World.cell?, hgg]
      have k2 : w1.cell? ⟨W.heap.size, 2, none⟩ = some (.int .u8 c2.toNat) := by simp [World.cell?, hgg]
      have k3 : w1.cell? ⟨W.heap.size, 3, none⟩ = some (.int .u8 c3.toNat) := by simp [World.cell?, hgg]
      have k4 : w1.cell? ⟨W.heap.size, 4, none⟩ = some (.int .u8 c4.toNat) := by simp [World.cell?, hgg]
      have k5 : w1.cell? ⟨W.heap.size, 5, none⟩ = some (.int .u8 c5.toNat) := by simp [World.cell?, hgg]
      have k6 : w1.cell? ⟨W.heap.size, 6, none⟩ = some (.int .u8 c6.toNat) := by simp [World.cell?, hgg]
      have k7 : w1.cell? ⟨W.heap.size, 7, none⟩ = some (.int .u8 c7.toNat) := by simp [World.cell?, hgg]
      clear hgg hg
      go_wp2
      clear k0 k1 k2 k3 k4 k5 k6 k7
      go_loopg [6, 14] 8 (fun g x y wr => ∃ (i V : Nat), x = .int .u64 (V : Int) ∧ y = .int .i64 i ∧ i + g = 8 ∧ Hid (V = horN (l.take i)) ∧ wr = w1)
      case atStart => exact ⟨0, 0, rfl, rfl, rfl, rfl, rfl⟩
      case round =>
        obtain ⟨i, V, rfl, rfl, hi8, HV, rfl⟩ := hrel
        have h9 : gk = 0 ∨ 0 < gk := by omega
        rcases h9 with rfl | hgp
        · have hi7 : i = 8 := by omega
          subst hi7
          have hVlt : V < 18446744073709551616 := by rw [HV.out]; exact horN_hi l
          have htr := turnedR V hVlt
          go_wp2
          go_quiet (fail)
          have HNR : Hid (numR l = (V : Int) - 9223372036854775808) := by show _ = _; rw [HV.out]; rfl
          have hcm : c ≤ maxLen := by unfold maxLen; omega
          by_cases hc8 : c = 8
          · have HR := Lib.hid ((rest_at HSL.out hlc hcm 8 hc8).next (below_dn hb1 nq) hB)
            go_wp2
            go_ret3
            exact numRd_yes h8 HNR.out HR.out (below_dn hb1 _)
          · have HR := Lib.hid ((rest_on HSL.out hlc hcm 8 hc8).next (below_dn hb1 nq) hB)
            go_wp2
            go_ret3
            exact numRd_yes h8 HNR.out HR.out (below_dn hb1 _)
        · obtain ⟨g, rfl⟩ : ∃ g, gk = g + 1 := ⟨gk - 1, by omega⟩
          have hi7 : i < 8 := by omega
          have hi9 : (i : Int) < 8 := by omega
          have hix := fun W => index8 [c0, c1, c2, c3, c4, c5, c6, c7] rfl i hi7 W
          simp only [cellsL, List.map_cons, List.map_nil] at hix
          obtain ⟨cc, hcc⟩ : ∃ cc, [c0, c1, c2, c3, c4, c5, c6, c7][i]'hi7 = cc := ⟨_, rfl⟩
          simp only [hcc] at hix
          have hV7 : V < 72057594037927936 := by rw [HV.out]; exact horN_lo l i hi7
          have HST : Hid (V * 256 + cc.toNat = horN (l.take (i + 1))) := by
            show _ = _
            have hil : i < l.length := by omega
            rw [horN_take l i hil, ← HV.out]
            have : l[i] = cc := by
              rw [← hcc]
              have h9 := congrArg (fun x : List UInt8 => x[i]?) hL
              rw [List.getElem?_take, if_pos hi7, List.getElem?_eq_getElem hil, List.getElem?_eq_getElem (show i < [c0, c1, c2, c3, c4, c5, c6, c7].length from hi7)] at h9
              exact Option.some.inj h9
            rw [this]
          go_wp2
          go_roundg g
          case measure => omega
          case rel =>
            rw [or_step V cc.toNat hV7 cc.toNat_lt]
            exact ⟨i + 1, V * 256 + cc.toNat, rfl, by go_num, by omega, HST.out, rfl⟩
  · go_enter Try.func113, Try.ntmps113
    have hm : (Nat.min l.length 8 : Nat) = l.length := Nat.min_eq_left (by omega)
    rw [hm] at hrun
    clear hg
    have h8i : (l.length : Int) < 8 := by omega
    go_wp2
    go_ret3
    exact numRd_no (by omega) hb1
end Go.Proofs.Ytdlkblnnnmgijaa
