import Derived.Test.YtkoknogefmfmnaaJOKeyW
import Derived.Laws.CopyRow
import Derived.Laws.CopyOwn
import Derived.Laws.IdiomCopy
import Derived.Lib.SlBuf
import Derived.Test.YtkoknogefmfmnaaJLeaf
import Derived.Laws.AppendOwnNone
import Derived.Shelf.Bytes.SlIndexAt
import Derived.Lib.IndexLaws
import Derived.WalkMore
/-
  PLAIN FACTS beside OrderEnds.
-/
namespace Go.Proofs.Ytkoknogefmfmnaa
open Go.RowKit Go.Shelf

theorem SlB.more {W : World} {B B' : Nat} {A : Option Addr} {l : List UInt8} (h : SlB W B A l) (hB : B ≤ B') : SlB W B' A l := fun hl => by
  obtain ⟨a, e, hlt, hc⟩ := h hl
  exact ⟨a, e, by omega, hc⟩
theorem SlB.drewN {W : World} {B : Nat} {A : Option Addr} {l : List UInt8} (h : SlB W B A l) (n : Nat) : SlB (W.drewN n) B A l := h
theorem ownB_form {W : World} {B : Nat} {v : Value} {l : List UInt8} (h : OwnB W B v l) : ∃ A c, v = .slice A l.length c := by
  rcases h.2 with ⟨rfl, h0⟩ | ⟨g, cap, cur, rfl, _⟩
  · exact ⟨none, 0, by rw [h0]⟩
  · exact ⟨_, _, rfl⟩
theorem pre_take {b x : List UInt8} : b <+: x ↔ b.length ≤ x.length ∧ x.take b.length = b := by
  constructor
  · intro h; exact ⟨h.length_le, (List.prefix_iff_eq_take.1 h).symm⟩
  · intro ⟨_, h⟩; rw [← h]; exact List.take_prefix _ _
theorem endF_len : ∀ {b e : List UInt8}, endF b = some e → e.length ≤ b.length
  | [], e, h => by cases h
  | c :: r, e, h => by
    rw [endF] at h
    cases hr : endF r with
    | some e' =>
      rw [hr] at h
      injection h with h
      have := endF_len hr
      rw [← h]; simp; omega
    | none =>
      rw [hr] at h
      simp only at h
      split at h
      · cases h
      · injection h with h
        rw [← h]; simp


end Go.Proofs.Ytkoknogefmfmnaa

/-
  CONTRACTS: readNumber, readByte (the program's), number (the document's).
-/
namespace Go.Proofs.Ytkoknogefmfmnaa
open Go.RowKit Go.Shelf

theorem SlB.drop {W : World} {B : Nat} {a : Addr} {l : List UInt8} (h : SlB W B (some a) l) (k : Nat) : SlB W B (some (a.add k)) (l.drop k) := fun hl => by
  have h0 : l ≠ [] := fun e => hl (by rw [e]; simp)
  obtain ⟨a', e, hlt, hc⟩ := h h0
  injection e with e
  subst e
  refine ⟨_, rfl, by rw [add_block]; exact hlt, fun j x hx => ?_⟩
  rw [List.getElem?_drop] at hx
  rw [Addr.add_add]
  exact hc _ x hx

theorem copy8 (W : World) (A : Option Addr) (c : Nat) (l : List UInt8) (hs : SlB W W.heap.size A l) (ty : TypeId) :
    ∃ w', (Builtin.copy_ #[39, 39] ty #[.slice (some ⟨W.heap.size, 0, none⟩) 8 8, .slice A l.length c]).run Try.prog (W.alloc (.cells #[.int .u8 0, .int .u8 0, .int .u8 0, .int .u8 0, .int .u8 0, .int .u8 0, .int .u8 0, .int .u8 0] 129)) = .ok (.int .i64 (Nat.min l.length 8 : Nat)) w' ∧ Below W.heap.size W w' ∧ (8 ≤ l.length → w'.heap[W.heap.size]? = some (.cells (cellsL (l.take 8)).toArray 129 (0, 0))) := by
  obtain ⟨i0, hi, hz0, hz1, hz2⟩ := info_parts info8
  have hsz : (Try.prog.info? 5).map (·.size) = some 1 := by rw [hi]; simp [hz1]
  have hb : Below W.heap.size W (W.alloc (.cells #[.int .u8 0, .int .u8 0, .int .u8 0, .int .u8 0, .int .u8 0, .int .u8 0, .int .u8 0, .int .u8 0] 129)) := (Below.refl _ _).alloc (Nat.le_refl _) _
  by_cases hl : l = []
  · subst hl
    exact ⟨_, run_copy_none _ _ _ ty 5 (some ⟨W.heap.size, 0, none⟩) A 8 8 0 c Try.underlying39 hsz rfl, hb, fun h => absurd h (by decide)⟩
  · have HB := hb
    obtain ⟨a, rfl, hlt, hc⟩ := hs hl
    have hlen : (cellsL (l.take 8)).length = Nat.min l.length 8 := by rw [cellsL_len, List.length_take, Nat.min_comm]
    have h8 : (cellsL (l.take 8)).length ≤ 8 := by rw [hlen]; exact Nat.min_le_right _ _
    have hrun := run_copy_row (P := Try.prog) (W.alloc (.cells #[.int .u8 0, .int .u8 0, .int .u8 0, .int .u8 0, .int .u8 0, .int .u8 0, .int .u8 0, .int .u8 0] 129)) 39 39 ty 5 W.heap.size 0 8 8 a l.length c _ 129 (cellsL (l.take 8)) Try.underlying39 hsz (heap_alloc_new W _) hlen (fun j u hu => by
        obtain ⟨x, hx, rfl⟩ := cellsL_at hu
        rw [List.getElem?_take] at hx
        split at hx
        · exact (hb.cell (p := a.add j) (by rw [add_block]; exact hlt)).trans (hc j x hx)
        · cases hx) (by rw [Nat.zero_add]; exact h8) (cellsL_one _)
    rw [hlen] at hrun
    refine ⟨_, hrun, below_setRow hb (Nat.le_refl _) _, fun h => ?_⟩
    rw [setRow_heap _ _ _ _ _ _ (heap_alloc_new W _)]
    have h9 : Nat.min l.length 8 = 8 := Nat.min_eq_right h
    rw [h9]
    simp [cellsL]

theorem index8 (L : List UInt8) (hL : L.length = 8) (i : Nat) (hi : i < 8) (W : World) : (Instr.index 129 (.agg (cellsL L).toArray) (.int .i64 (i : Int))).run Try.prog W = .ok (.int .u8 (L[i]'(by omega)).toNat) W := by
  have hc : (cellsL L)[i]? = some (.int .u8 (L[i]'(by omega)).toNat) := by unfold cellsL; simp [hL, hi]
  obtain ⟨i0, h1, h2, h3, h4⟩ := info_parts info8
  have h0 : (0 : Int) ≤ i := by omega
  simp [Instr.index, run_underlying Try.underlying129, asIntOf, go_sem, h0, sizeOf, typeInfo, h1, h3, part, hc, hi]

theorem or_step (V c : Nat) (hV : V < 72057594037927936) (hc : c < 256) : bits .or .u64 ((V : Int) * 256) (IntKind.u64.wrap (c : Int)) = ((V * 256 + c : Nat) : Int) := by
  have e1 : ((V : Int) * 256) = ((V * 256 : Nat) : Int) := by omega
  have e2 : IntKind.u64.wrap (c : Int) = (c : Int) := by rw [IntKind.wrap_u64]; omega
  rw [e1, e2, u64_or_nat _ _ (by omega) (by omega), shl_or V c hc]
theorem turnedR (V : Nat) (hV : V < 18446744073709551616) : IntKind.i64.wrap (bits .xor .u64 (V : Int) 9223372036854775808) = (V : Int) - 9223372036854775808 := by
  rw [show (9223372036854775808 : Int) = ((9223372036854775808 : Nat) : Int) from rfl, u64_xor_nat _ _ hV (by decide), xor63 _ hV, IntKind.wrap_i64]
  split <;> omega

/-- a slice that reads as these bytes -/
def Rest (W : World) (B : Nat) (v : Value) (l : List UInt8) : Prop := ∃ A c, v = .slice A l.length c ∧ SlB W B A l ∧ l.length ≤ c ∧ c ≤ maxLen
theorem Rest.next {W W' : World} {B B' : Nat} {v : Value} {l : List UInt8} (h : Rest W B v l) (hb : Below B' W W') (hB : B ≤ B') : Rest W' B v l := by
  obtain ⟨A, c, e, hs, h1, h2⟩ := h
  exact ⟨A, c, e, hs.next hb hB, h1, h2⟩
theorem SlB.cut {W : World} {B : Nat} {a : Addr} {l : List UInt8} (h : SlB W B (some a) l) {c : Nat} (hlc : l.length ≤ c) (k : Nat) : SlB W B (if c = k then some a else some ⟨a.block, a.off + k, none⟩) (l.drop k) := fun hl => by
  have hk : k < l.length := by
    refine Nat.lt_of_not_le fun e => hl ?_
    exact List.drop_of_length_le e
  rw [if_neg (by omega)]
  obtain ⟨a', e, hlt, hc⟩ := h.drop k hl
  injection e with e
  subst e
  have h0 := hc 0 _ (by rw [List.getElem?_drop, Nat.add_zero]; exact List.getElem?_eq_getElem hk)
  have he : (⟨a.block, a.off + k, none⟩ : Addr) = a.add k := by
    have hsp := World.cell?_spot h0
    obtain ⟨b, o, sp⟩ := a
    cases sp with
    | none => simp [Addr.add]
    | some _ =>
      by_cases hk0 : k = 0
      · subst hk0
        simp [Addr.add] at hsp
      · simp [Addr.add, hk0]
  rw [he]
  exact ⟨_, rfl, hlt, hc⟩
theorem rest_cut {W : World} {B : Nat} {a : Addr} {l : List UInt8} (h : SlB W B (some a) l) {c : Nat} (hlc : l.length ≤ c) (hc : c ≤ maxLen) (k : Nat) : Rest W B (.slice (if c = k then some a else some ⟨a.block, a.off + k, none⟩) (l.length - k) (c - k)) (l.drop k) :=
  ⟨_, c - k, by rw [List.length_drop], h.cut hlc k, by rw [List.length_drop]; omega, by omega⟩
theorem rest_at {W : World} {B : Nat} {a : Addr} {l : List UInt8} (h : SlB W B (some a) l) {c : Nat} (hlc : l.length ≤ c) (hc : c ≤ maxLen) (k : Nat) (hk : c = k) : Rest W B (.slice (some a) (l.length - k) 0) (l.drop k) := by
  have := rest_cut h hlc hc k
  rwa [if_pos hk, show c - k = 0 by omega] at this
theorem rest_on {W : World} {B : Nat} {a : Addr} {l : List UInt8} (h : SlB W B (some a) l) {c : Nat} (hlc : l.length ≤ c) (hc : c ≤ maxLen) (k : Nat) (hk : ¬ c = k) : Rest W B (.slice (some ⟨a.block, a.off + k, none⟩) (l.length - k) (c - k)) (l.drop k) := by
  have := rest_cut h hlc hc k
  rwa [if_neg hk] at this
/-- What readNumber answers. -/
def NumRd (W : World) (B : Nat) (l : List UInt8) (e : Ending) (w' : World) : Prop :=
  (8 ≤ l.length ∧ (∃ r, e = .returned (.tuple #[.int .i64 (numR l), r, .bool true]) ∧ Rest w' B r (l.drop 8)) ∧ Below W.heap.size W w') ∨
  (l.length < 8 ∧ e = .returned (.tuple #[.int .i64 0, .slice none 0 0, .bool false]) ∧ Below W.heap.size W w')

theorem numRd_yes {W w' : World} {B : Nat} {l : List UInt8} {n : Int} {r : Value} (h8 : 8 ≤ l.length) (hn : numR l = n) (hr : Rest w' B r (l.drop 8)) (hb : Below W.heap.size W w') : NumRd W B l (.returned (.tuple #[.int .i64 n, r, .bool true])) w' := .inl ⟨h8, ⟨r, by rw [hn], hr⟩, hb⟩
theorem numRd_no {W w' : World} {B : Nat} {l : List UInt8} (h8 : l.length < 8) (hb : Below W.heap.size W w') : NumRd W B l (.returned (.tuple #[.int .i64 0, .slice none 0 0, .bool false])) w' := .inr ⟨h8, rfl, hb⟩

set_option maxRecDepth 100000 in
set_option maxHeartbeats 1000000 in
theorem readNumber_any (A : Option Addr) (c : Nat) (l : List UInt8) (W : World) (B : Nat) (hB : B ≤ W.heap.size) (hsB : SlB W B A l) (hlc : l.length ≤ c) (hc : c ≤ maxLen) :
    Calls Try.prog 111 #[.slice A l.length c] W (NumRd W B l) := by
  have hs := hsB.more hB
  unfold maxLen at hc
  obtain ⟨w1, hrun, hb1, hg⟩ := copy8 W A c l hs 3
  by_cases h8 : 8 ≤ l.length
  · obtain ⟨a, rfl, hal, hcells⟩ := hs (by intro e; rw [e] at h8; simp at h8)
    have HSL := Lib.hid hsB
    clear hsB
    have hm : (Nat.min l.length 8 : Nat) = 8 := Nat.min_eq_right h8
    rw [hm] at hrun
    have HG := Lib.hid (hg h8)
    obtain ⟨L, hL⟩ : ∃ L, l.take 8 = L := ⟨_, rfl⟩
    have hL8 : L.length = 8 := by rw [← hL, List.length_take]; omega
    rw [hL] at HG
    match L, hL8 with
    | [c0, c1, c2, c3, c4, c5, c6, c7], _ =>
      go_enter Try.func111, Try.ntmps111
      have hgg := HG.out
      simp only [cellsL, List.map_cons, List.map_nil] at hgg
      have k0 : w1.cell? ⟨W.heap.size, 0, none⟩ = some (.int .u8 c0.toNat) := by simp [World.cell?, hgg]
      have k1 : w1.cell? ⟨W.heap.size, 1, none⟩ = some (.int .u8 c1.toNat) := by simp [World.cell?, hgg]
      have k2 : w1.cell? ⟨W.heap.size, 2, none⟩ = some (.int .u8 c2.toNat) := by simp [World.cell?, hgg]
      have k3 : w1.cell? ⟨W.heap.size, 3, none⟩ = some (.int .u8 c3.toNat) := by simp [World.cell?, hgg]
      have k4 : w1.cell? ⟨W.heap.size, 4, none⟩ = some (.int .u8 c4.toNat) := by simp [World.cell?, hgg]
      have k5 : w1.cell? ⟨W.heap.size, 5, none⟩ = some (.int .u8 c5.toNat) := by simp [World.cell?, hgg]
      have k6 : w1.cell? ⟨W.heap.size, 6, none⟩ = some (.int .u8 c6.toNat) := by simp [World.cell?, hgg]
      have k7 : w1.cell? ⟨W.heap.size, 7, none⟩ = some (.int .u8 c7.toNat) := by simp [World.cell?, hgg]
      clear hgg hg
      go_wp2
      clear k0 k1 k2 k3 k4 k5 k6 k7
      go_loopg [6, 14] 8 (fun g x y wr => ∃ (i V : Nat), x = .int .u64 (V : Int) ∧ y = .int .i64 i ∧ i + g = 8 ∧ Hid (V = horN (l.take i)) ∧ wr = w1)
      case atStart => exact ⟨0, 0, rfl, rfl, rfl, rfl, rfl⟩
      case round =>
        obtain ⟨i, V, rfl, rfl, hi8, HV, rfl⟩ := hrel
        have h9 : gk = 0 ∨ 0 < gk := by omega
        rcases h9 with rfl | hgp
        · have hi7 : i = 8 := by omega
          subst hi7
          have hVlt : V < 18446744073709551616 := by rw [HV.out]; exact horN_hi l
          have htr := turnedR V hVlt
          go_wp2
          go_quiet (fail)
          have HNR : Hid (numR l = (V : Int) - 9223372036854775808) := by show _ = _; rw [HV.out]; rfl
          have hcm : c ≤ maxLen := by unfold maxLen; omega
          by_cases hc8 : c = 8
          · have HR := Lib.hid ((rest_at HSL.out hlc hcm 8 hc8).next (below_dn hb1 nq) hB)
            go_wp2
            go_ret3
            exact numRd_yes h8 HNR.out HR.out (below_dn hb1 _)
          · have HR := Lib.hid ((rest_on HSL.out hlc hcm 8 hc8).next (below_dn hb1 nq) hB)
            go_wp2
            go_ret3
            exact numRd_yes h8 HNR.out HR.out (below_dn hb1 _)
        · obtain ⟨g, rfl⟩ : ∃ g, gk = g + 1 := ⟨gk - 1, by omega⟩
          have hi7 : i < 8 := by omega
          have hi9 : (i : Int) < 8 := by omega
          have hix := fun W => index8 [c0, c1, c2, c3, c4, c5, c6, c7] rfl i hi7 W
          simp only [cellsL, List.map_cons, List.map_nil] at hix
          obtain ⟨cc, hcc⟩ : ∃ cc, [c0, c1, c2, c3, c4, c5, c6, c7][i]'hi7 = cc := ⟨_, rfl⟩
          simp only [hcc] at hix
          have hV7 : V < 72057594037927936 := by rw [HV.out]; exact horN_lo l i hi7
          have HST : Hid (V * 256 + cc.toNat = horN (l.take (i + 1))) := by
            show _ = _
            have hil : i < l.length := by omega
            rw [horN_take l i hil, ← HV.out]
            have : l[i] = cc := by
              rw [← hcc]
              have h9 := congrArg (fun x : List UInt8 => x[i]?) hL
              rw [List.getElem?_take, if_pos hi7, List.getElem?_eq_getElem hil, List.getElem?_eq_getElem (show i < [c0, c1, c2, c3, c4, c5, c6, c7].length from hi7)] at h9
              exact Option.some.inj h9
            rw [this]
          go_wp2
          go_roundg g
          case measure => omega
          case rel =>
            rw [or_step V cc.toNat hV7 cc.toNat_lt]
            exact ⟨i + 1, V * 256 + cc.toNat, rfl, by go_num, by omega, HST.out, rfl⟩
  · go_enter Try.func111, Try.ntmps111
    have hm : (Nat.min l.length 8 : Nat) = l.length := Nat.min_eq_left (by omega)
    rw [hm] at hrun
    clear hg
    have h8i : (l.length : Int) < 8 := by omega
    go_wp2
    go_ret3
    exact numRd_no (by omega) hb1
end Go.Proofs.Ytkoknogefmfmnaa

/-
  CONTRACTS: Number, End (the document's).
-/
namespace Go.Proofs.Ytkoknogefmfmnaa
open Go.RowKit Go.Shelf

theorem turned2 {n : Int} (h0 : -9223372036854775808 ≤ n) (h1 : n ≤ 9223372036854775807) : IntKind.u64.wrap (IntKind.u64.wrap n + 9223372036854775808) = ((turnN n : Nat) : Int) := by
  rw [IntKind.wrap_u64, IntKind.wrap_u64]; unfold turnN; omega
theorem be8_drop (T i : Nat) (h : i < 8) : (be8 T).drop (8 - (i + 1)) = UInt8.ofNat (T / 256 ^ i) :: (be8 T).drop (8 - i) := by
  match i, h with
  | 0, _ => simp [be8]
  | 1, _ => simp [be8]
  | 2, _ => simp [be8]
  | 3, _ => simp [be8]
  | 4, _ => simp [be8]
  | 5, _ => simp [be8]
  | 6, _ => simp [be8]
  | 7, _ => simp [be8]
theorem div_next (T i : Nat) : T / 256 ^ i / 256 = T / 256 ^ (i + 1) := by rw [Nat.div_div_eq_div_mul, Nat.pow_succ]

theorem own_lit (W : World) (B : Nat) (l : List UInt8) (n : Nat) (hB : B ≤ W.heap.size) (hl : l.length = n) (hn : n ≤ 50000) : (W.alloc (.cells (cellsL l).toArray 5)).ownsRow B 5 1 (.slice (some ⟨W.heap.size, 0, none⟩) n n) n (cellsL l) := by
  have hmx : 50000 ≤ maxLen := by decide
  have h := World.ownsRow_lit (base := B) (e := 5) (size := 1) W (cellsL l).toArray n hB (by omega) (by simp [cellsL_len, hl])
  simpa using h
theorem u64_val {a : Int} {b : Nat} (h : a = (b : Int)) : Value.int .u64 a = .int .u64 (b : Int) := by rw [h]
theorem drop_ne (T i : Nat) (h0 : 0 < i) (h : i < 8) : (be8 T).drop (8 - i) ≠ [] := by
  intro e
  have := congrArg List.length e
  rw [List.length_drop, be8_len] at this
  simp at this
  omega

theorem endF_here {l : List UInt8} {k : Nat} (h : k < l.length) (ha : ∀ d ∈ l.drop (k + 1), d = 255) (hc : l[k] ≠ 255) : endF l = some (l.take k ++ [l[k] + 1]) := by
  have h5 : l = l.take k ++ l[k] :: l.drop (k + 1) := by rw [← List.drop_eq_getElem_cons h, List.take_append_drop]
  have h6 := endF_at (l.take k) l[k] (l.drop (k + 1)) ha hc
  rwa [← h5] at h6
theorem drop_255 {l : List UInt8} {k : Nat} (h : k < l.length) (ha : ∀ d ∈ l.drop (k + 1), d = 255) (hc : l[k] = 255) : ∀ d ∈ l.drop k, d = 255 := fun d hd => by
  rw [List.drop_eq_getElem_cons h] at hd
  rcases List.mem_cons.1 hd with e | e
  · rw [e, hc]
  · exact ha d e

end Go.Proofs.Ytkoknogefmfmnaa

/-
  CONTRACTS: readByte (the program's), number (the document's).
-/
namespace Go.Proofs.Ytkoknogefmfmnaa
open Go.RowKit Go.Shelf

theorem add_zero' (a : Addr) : a.add 0 = a := by
  obtain ⟨b, o, sp⟩ := a
  simp [Addr.add]
/-- What readByte answers. -/
def ByteRd (W : World) (B : Nat) (l : List UInt8) (e : Ending) (w' : World) : Prop :=
  (∃ d t r, l = d :: t ∧ e = .returned (.tuple #[.int .i64 (d.toNat : Int), r, .bool true]) ∧ Rest w' B r t ∧ Below W.heap.size W w') ∨
  (l = [] ∧ e = .returned (.tuple #[.int .i64 0, .slice none 0 0, .bool false]) ∧ Below W.heap.size W w')
theorem byteRd_yes {W w' : World} {B : Nat} {d : UInt8} {t : List UInt8} {r : Value} {n : Int} (hn : n = (d.toNat : Int)) (hr : Rest w' B r t) (hb : Below W.heap.size W w') : ByteRd W B (d :: t) (.returned (.tuple #[.int .i64 n, r, .bool true])) w' := .inl ⟨d, t, r, rfl, by rw [hn], hr, hb⟩
theorem byteRd_no {W w' : World} {B : Nat} (hb : Below W.heap.size W w') : ByteRd W B [] (.returned (.tuple #[.int .i64 0, .slice none 0 0, .bool false])) w' := .inr ⟨rfl, rfl, hb⟩

set_option maxRecDepth 100000 in
set_option maxHeartbeats 1000000 in
theorem readByte_any (A : Option Addr) (c : Nat) (l : List UInt8) (W : World) (B : Nat) (hB : B ≤ W.heap.size) (hs : SlB W B A l) (hlc : l.length ≤ c) (hc : c ≤ maxLen) :
    Calls Try.prog 118 #[.slice A l.length c] W (ByteRd W B l) := by
  have hcm := hc
  unfold maxLen at hc
  go_enter Try.func118, Try.ntmps118
  cases l with
  | nil =>
    go_wp2
    go_ret3
    exact byteRd_no (Below.refl _ _)
  | cons d t =>
    obtain ⟨a, rfl, hal, hcells⟩ := hs (by simp)
    have HSL := Lib.hid hs
    have k0 : W.cell? a = some (.int .u8 d.toNat) := by have := hcells 0 d rfl; rwa [add_zero'] at this
    clear hcells hs
    have HW : Hid (wrap64 (d.toNat : Int) = (d.toNat : Int)) := by
      show _ = _
      have := d.toNat_lt
      simp only [wrap64]; omega
    by_cases hc1 : c = 1
    · have HR : Hid (Rest W B (.slice (some a) t.length 0) t) := rest_at HSL.out hlc hcm 1 hc1
      go_wp2
      go_quiet (fail)
      go_wp2
      go_ret3
      exact byteRd_yes HW.out (HR.out.next (below_dn (Below.refl W.heap.size W) _) hB) (below_dn (Below.refl _ _) _)
    · have HR : Hid (Rest W B (.slice (some ⟨a.block, a.off + 1, none⟩) t.length (c - 1)) t) := rest_on HSL.out hlc hcm 1 hc1
      go_wp2
      go_quiet (fail)
      go_wp2
      go_ret3
      exact byteRd_yes HW.out (HR.out.next (below_dn (Below.refl W.heap.size W) _) hB) (below_dn (Below.refl _ _) _)

end Go.Proofs.Ytkoknogefmfmnaa

/-
  CONTRACTS: bytes.IndexByte at byte 0; readString (the program's).
-/
namespace Go.Proofs.Ytkoknogefmfmnaa
open Go.RowKit Go.Shelf

/-- where the first byte 0 stands -/
def zeroAt (l : List UInt8) (z : Nat) : Prop := l[z]? = some 0 ∧ ∀ k, k < z → l[k]? ≠ some 0
theorem txtR_none : ∀ l : List UInt8, (∀ k : Nat, l[k]? ≠ some 0) → txtR l = none
  | [], _ => rfl
  | [_], _ => rfl
  | c :: d :: r, h => by
    have hc : c ≠ 0 := fun e => h 0 (by simp [e])
    rw [txtR, if_neg hc, txtR_none (d :: r) (fun k => by have := h (k + 1); simpa using this)]
    rfl
theorem txtR_last : ∀ (l : List UInt8) (z : Nat), zeroAt l z → z + 1 = l.length → txtR l = none
  | [], _, _, _ => rfl
  | [_], _, _, _ => rfl
  | c :: d :: r, 0, _, he => by simp at he
  | c :: d :: r, z + 1, h, he => by
    have hc : c ≠ 0 := fun e => h.2 0 (by omega) (by simp [e])
    rw [txtR, if_neg hc, txtR_last (d :: r) z ⟨by have := h.1; simpa using this, fun k hk => by have := h.2 (k + 1) (by omega); simpa using this⟩ (by simpa using he)]
    rfl
theorem txtR_at : ∀ (l : List UInt8) (z : Nat) (d : UInt8), zeroAt l z → l[z + 1]? = some d → txtR l = if d = 1 then some (l.take z, l.drop (z + 2)) else if d = 255 then (txtR (l.drop (z + 2))).map (fun p => (l.take z ++ 0 :: p.1, p.2)) else none
  | [], z, d, _, h => by simp at h
  | [_], 0, d, _, h => by simp at h
  | [_], z + 1, d, _, h => by simp at h
  | c :: e :: r, 0, d, hz, h => by
    have hc : c = 0 := by have := hz.1; simpa using this
    have hd : e = d := by simpa using h
    subst hd
    rw [txtR, if_pos hc]
    simp
  | c :: e :: r, z + 1, d, hz, h => by
    have hc : c ≠ 0 := fun e => hz.2 0 (by omega) (by simp [e])
    have ih := txtR_at (e :: r) z d ⟨by have := hz.1; simpa using this, fun k hk => by have := hz.2 (k + 1) (by omega); simpa using this⟩ (by simpa using h)
    rw [txtR, if_neg hc, ih]
    by_cases h1 : d = 1
    · rw [if_pos h1, if_pos h1]; simp
    · rw [if_neg h1, if_neg h1]
      by_cases h2 : d = 255
      · rw [if_pos h2, if_pos h2]
        simp [Option.map_map, Function.comp_def]
      · rw [if_neg h2, if_neg h2]; rfl

theorem bytesOf_nums (l : List UInt8) : Lib.bytesOf (l.map fun c : UInt8 => (c.toNat : Int)) = l := by
  unfold Lib.bytesOf
  rw [List.map_map]
  conv => rhs; rw [← List.map_id l]
  exact List.map_congr_left fun c _ => by simp

/-- What IndexByte of byte 0 answers. -/
def IdxZ (l : List UInt8) (v : Int) : Prop := (v = -1 ∧ ∀ k : Nat, l[k]? ≠ some 0) ∨ ∃ z : Nat, v = z ∧ zeroAt l z
theorem idxZ_of (l : List UInt8) : IdxZ l (Lib.indexByte l 0) := by
  have hge := Lib.indexByte_ge l 0
  by_cases h : Lib.indexByte l 0 = -1
  · exact .inl ⟨h, Lib.indexByte_none h⟩
  · obtain ⟨z, hz⟩ : ∃ z : Nat, Lib.indexByte l 0 = z := ⟨(Lib.indexByte l 0).toNat, by omega⟩
    exact .inr ⟨z, hz, Lib.indexByte_some hz⟩

set_option maxRecDepth 100000 in
set_option maxHeartbeats 1000000 in
theorem indexZero_any (A : Option Addr) (c : Nat) (l : List UInt8) (w : World) (B : Nat) (hs : SlB w B A l) (hA : A = none → c = 0) :
    Calls Try.prog 120 #[.slice A l.length c, .int .u8 0] w fun e w' => ∃ v, e = .returned (.int .i64 v) ∧ IdxZ l v ∧ w' = w := by
  go_enter Try.func120, Try.ntmps120
  cases A with
  | none =>
    have hl : l = [] := by
      by_cases e : l = []
      · exact e
      · obtain ⟨a, h, _⟩ := hs e
        cases h
    subst hl
    obtain rfl := hA rfl
    go_wp2
    rw [run_callFunc_extern Try.func121 (by kernel_rfl) (by kernel_rfl) (by kernel_rfl) (e := Extern.BytealgIndexByte.indexByte) (by kernel_rfl), Lib.run_indexByteNil w 0 0 0]
    simp only [Result.andThen]
    rw [Oper.upon_value]
    go_wp2
    go_ret
    exact ⟨-1, rfl, .inl ⟨rfl, fun k => by simp⟩, rfl⟩
  | some a =>
    have hc : ∀ i, i < l.length → w.cell? (a.add i) = some (.int .u8 ((l.map fun c : UInt8 => (c.toNat : Int)).getD i 0)) := fun i hi => by
      obtain ⟨a', h, _, hcc⟩ := hs (by intro e; rw [e] at hi; simp at hi)
      injection h with h
      subst h
      rw [hcc i _ (List.getElem?_eq_getElem hi)]
      simp [List.getD, List.getElem?_eq_getElem hi]
    have hrun := Lib.run_indexByteAt (P := Try.prog) w a l.length c (l.map fun c : UInt8 => (c.toNat : Int)) (List.length_map _) hc 0
    rw [bytesOf_nums] at hrun
    go_wp2
    rw [run_callFunc_extern Try.func121 (by kernel_rfl) (by kernel_rfl) (by kernel_rfl) (e := Extern.BytealgIndexByte.indexByte) (by kernel_rfl), hrun]
    simp only [Result.andThen]
    rw [Oper.upon_value]
    go_wp2
    go_ret
    exact ⟨_, rfl, idxZ_of l, rfl⟩

theorem add_succ' (a : Addr) (k : Nat) : a.add (k + 1) = ⟨a.block, a.off + (k + 1), none⟩ := by
  unfold Addr.add
  simp
/-- What readString answers. -/
def TxtRd (W : World) (B : Nat) (l : List UInt8) (e : Ending) (w' : World) : Prop :=
  (∃ s t r, txtR l = some (s, t) ∧ e = .returned (.tuple #[.string ⟨s.toArray⟩, r, .bool true]) ∧ Rest w' B r t ∧ Below W.heap.size W w') ∨
  (txtR l = none ∧ e = .returned (.tuple #[.string ⟨#[]⟩, .slice none 0 0, .bool false]) ∧ Below W.heap.size W w')
theorem txtRd_yes {W w' : World} {B : Nat} {l s t : List UInt8} {r : Value} (h : txtR l = some (s, t)) (hr : Rest w' B r t) (hb : Below W.heap.size W w') : TxtRd W B l (.returned (.tuple #[.string ⟨s.toArray⟩, r, .bool true])) w' := .inl ⟨s, t, r, h, rfl, hr, hb⟩
theorem txtRd_no {W w' : World} {B : Nat} {l : List UInt8} (h : txtR l = none) (hb : Below W.heap.size W w') : TxtRd W B l (.returned (.tuple #[.string ⟨#[]⟩, .slice none 0 0, .bool false])) w' := .inr ⟨h, rfl, hb⟩
/-- what was read so far, ahead of the rest -/
def onward (acc : List UInt8) (o : Option (List UInt8 × List UInt8)) : Option (List UInt8 × List UInt8) := o.map fun p => (acc ++ p.1, p.2)

set_option maxRecDepth 100000 in
set_option maxHeartbeats 4000000 in
theorem readString_any (A : Option Addr) (c : Nat) (l : List UInt8) (W : World) (B : Nat) (hBW : B ≤ W.heap.size) (hs : SlB W B A l) (hA : A = none → c = 0) (hlc : l.length ≤ c) (hc : c ≤ maxLen) (hl : l.length ≤ 10000) :
    Calls Try.prog 119 #[.slice A l.length c] W (TxtRd W B l) := by
  obtain ⟨i0, hi, hz0, hz1, hz2⟩ := info_parts info8
  have hmx : 50000 ≤ maxLen := by decide
  unfold maxLen at hc
  have HL := Lib.hid hl
  go_enter Try.func119, Try.ntmps119
  go_wp2
  go_step3
  go_wp2
  go_step3
  go_wp2
  go_loopg [0, 5] l.length (fun g x y wr => ∃ (A' : Option Addr) (c' : Nat) (L acc : List UInt8) (v : Value), x = .slice A' L.length c' ∧ y = v ∧ Hid (L.length = g) ∧ L.length ≤ c' ∧ c' ≤ 9223372036854775807 ∧ (A' = none → c' = 0) ∧ acc.length + L.length ≤ l.length ∧ Hid (SlB W B A' L) ∧ Hid (txtR l = onward acc (txtR L)) ∧ Hid (OwnB wr W.heap.size v acc) ∧ Hid (Below W.heap.size W wr) ∧ W.heap.size ≤ wr.heap.size)
  case atStart => exact ⟨A, c, l, [], _, rfl, rfl, (by show _ = _; rfl), hlc, by omega, hA, by simp, hs, (by show _ = _; unfold onward; simp), ownB_nil _ _, Below.refl _ _, Nat.le_refl _⟩
  case round =>
    obtain ⟨A', c', L, acc, v, rfl, rfl, hg, hlc', hc', hA', hacc, HS, HT, HO, HB, hsz⟩ := hrel
    clear hs hA
    have HSr := Lib.hid (HS.out.next HB.out hBW)
    go_wp2_with fail
    refine (indexZero_any A' c' L _ _ HSr.out hA').mono ?_
    rintro e w1 ⟨z, rfl, hz | ⟨z, rfl, hz⟩, rfl⟩
    · obtain ⟨rfl, hz⟩ := hz
      have HN := Lib.hid (txtR_none L hz)
      clear hz
      go_wp2
      rw [Exit.noGoto_ret]
      go_ret3
      exact txtRd_no (by rw [HT.out, HN.out]; rfl) HB.out
    · have HZ := Lib.hid hz
      have hzl : z < L.length := (List.getElem?_eq_some_iff.1 hz.1).1
      clear hz
      have hzn : ¬ ((z : Int) < 0) := by omega
      by_cases hlast : z + 1 = L.length
      · have HN := Lib.hid (txtR_last L z HZ.out hlast)
        have hlb : ((z : Int) + 1 == (L.length : Int)) = true := by simp; omega
        go_wp2
        rw [Exit.noGoto_ret]
        go_ret3
        exact txtRd_no (by rw [HT.out, HN.out]; rfl) HB.out
      · have hlb : ((z : Int) + 1 == (L.length : Int)) = false := by simp; omega
        obtain ⟨a, rfl, hal, hcells⟩ := HSr.out (by intro e; rw [e] at hzl; simp at hzl)
        have hz1l : z + 1 < L.length := by omega
        obtain ⟨d, hd⟩ : ∃ d, L[z + 1]? = some d := ⟨_, List.getElem?_eq_getElem hz1l⟩
        have HAT := Lib.hid (txtR_at L z d HZ.out hd)
        have HC := Lib.hid hcells
        have hd1 := hcells (z + 1) d hd
        clear hcells hd hA'
        have HAL := Lib.hid (show a.block < W.heap.size from Nat.lt_of_lt_of_le hal hBW)
        have HLT : Hid ((L.take z).length = z) := by show _ = _; rw [List.length_take]; omega
        have HCL : Hid (∀ j u, (cellsL (L.take z))[j]? = some u → w1.cell? (a.add j) = some u) := fun j u hu => by
          obtain ⟨x, hx, rfl⟩ := cellsL_at hu
          rw [List.getElem?_take] at hx
          split at hx
          · exact HC.out j x hx
          · cases hx
        have HG := Lib.hid hg.out
        have tok : True := trivial
        have hcm : c' ≤ maxLen := by unfold maxLen; omega
        have HLC := Lib.hid hlc'
        have hdn := d.toNat_lt
        have hz2i : (z : Int) + 2 ≤ (c' : Int) := by omega
        have hz1i : (z : Int) + 1 < (L.length : Int) := by omega
        clear hg hal
        by_cases hc2 : c' = z + 2
        · have HR : Hid (Rest W B (.slice (some a) (L.length - (z + 2)) (c' - (z + 2))) (L.drop (z + 2))) := by
            show Rest _ _ _ _
            have := rest_cut HS.out hlc' hcm (z + 2)
            rwa [if_pos hc2] at this
          have HRS : Hid (SlB W B (some a) (L.drop (z + 2))) := by have := HS.out.cut hlc' (z + 2); rwa [if_pos hc2] at this
          subst hc2
          by_cases h1 : d = 1
          · have e1 : ((d.toNat : Int) == 1) = true := by rw [h1]; rfl
            rw [h1, if_pos rfl] at HAT
            clear h1
            go_wp2_with (at_builtin; have _t := tok; refine wpList_append_own _ rfl _ _ 39 rfl W.heap.size 5 i0 (.int .u8 0) 1 1 Try.underlying39 hi hz0 hz1 hz2 rfl (by decide) _ _ _ rfl HO.out a z (z + 2) (cellsL (L.take z)) rfl (by rw [cellsL_len, HLT.out, Nat.mul_one]) HCL.out (cellsL_one _) (by have := HL.out; omega) (by have := HL.out; omega) (by omega) ?_; intro v' w3 hown' hgrow _; have HO3 : Hid (OwnB w3 W.heap.size v' (acc ++ L.take z)) := (by show World.ownsRow _ _ _ _ _ _ _; rw [List.length_append, HLT.out]; rw [← cellsL_app] at hown'; exact hown'); have HB3 := Lib.hid (HB.out.trans (below_own HO.out hgrow hsz)); have hd3 := ((below_own HO.out hgrow hsz).cell (p := a.add (z + 1)) (by rw [add_block]; exact HAL.out)).trans hd1; rw [add_succ'] at hd3; have hcv3 := ownB_string w3 _ _ _ HO3.out; clear tok hown' hgrow hd1)
            rw [Exit.noGoto_ret]
            go_ret3
            exact txtRd_yes (by rw [HT.out, HAT.out]; rfl) (HR.out.next HB3.out hBW) HB3.out
          have e1 : ((d.toNat : Int) == 1) = false := by
            rw [beq_eq_false_iff_ne]
            exact fun e => h1 (UInt8.toNat_inj.1 (by show d.toNat = 1; omega))
          rw [if_neg h1] at HAT
          clear h1
          by_cases h2 : d = 255
          · have e2 : ((d.toNat : Int) == 255) = true := by rw [h2]; rfl
            rw [if_pos h2] at HAT
            clear h2
            go_wp2_with (first | (at_builtin; have _t := tok; refine wpList_append_own _ rfl _ _ 39 rfl W.heap.size 5 i0 (.int .u8 0) 1 1 Try.underlying39 hi hz0 hz1 hz2 rfl (by decide) _ _ _ rfl HO.out a z (z + 2) (cellsL (L.take z)) rfl (by rw [cellsL_len, HLT.out, Nat.mul_one]) HCL.out (cellsL_one _) (by have := HL.out; omega) (by have := HL.out; omega) (by omega) ?_; intro v' w3 hown' hgrow _; have HO3 : Hid (OwnB w3 W.heap.size v' (acc ++ L.take z)) := (by show World.ownsRow _ _ _ _ _ _ _; rw [List.length_append, HLT.out]; rw [← cellsL_app] at hown'; exact hown'); have HB3 := Lib.hid (HB.out.trans (below_own HO.out hgrow hsz)); have hd3 := ((below_own HO.out hgrow hsz).cell (p := a.add (z + 1)) (by rw [add_block]; exact HAL.out)).trans hd1; rw [add_succ'] at hd3; have hcv3 := ownB_string w3 _ _ _ HO3.out; clear tok hown' hgrow hd1) | (at_builtin; refine wpList_append_own _ rfl _ _ 39 rfl W.heap.size 5 i0 (.int .u8 0) 1 1 Try.underlying39 hi hz0 hz1 hz2 rfl (by decide) _ _ _ rfl (HO3.out.alloc _) ⟨w3.heap.size, 0, none⟩ 1 1 (cellsL [0]) rfl rfl (fun j u h => cell_lit _ _ _ j u h) (cellsL_one _) (by rw [List.length_append, HLT.out]; have := HL.out; omega) (by rw [List.length_append, HLT.out]; have := HL.out; omega) (by have := HB3.out.size; simp; omega) ?_; intro v'' w4 hown'' hgrow' _))
            go_roundg (L.length - (z + 2))
            case measure => have := HG.out; omega
            case rel => exact ⟨some a, (z + 2) - (z + 2), L.drop (z + 2), acc ++ L.take z ++ [0], v'', (by first | (rw [List.length_drop]; done) | (rw [List.length_drop, show L.length - (z + 2) = 0 by have := HLC.out; omega, Nat.sub_self])), rfl, by show _ = _; rw [List.length_drop], by rw [List.length_drop]; omega, by omega, fun h => (by cases h), by simp only [List.length_append, List.length_drop, HLT.out, List.length_singleton]; omega, HRS.out, (by show _ = _; rw [HT.out, HAT.out]; unfold onward; simp [Option.map_map, Function.comp_def]), (by rw [← cellsL_app] at hown''; show World.ownsRow _ _ _ _ _ _ _; simpa [Nat.add_assoc] using hown''), HB3.out.trans (((Below.refl _ _).alloc HB3.out.size _).trans (below_own (HO3.out.alloc _) hgrow' (by have := HB3.out.size; simp; omega))), by have q1 := hgrow'.size; have q2 := HB3.out.size; simp at q1; omega⟩
          · have e2 : ((d.toNat : Int) == 255) = false := by
              rw [beq_eq_false_iff_ne]
              exact fun e => h2 (UInt8.toNat_inj.1 (by show d.toNat = 255; omega))
            rw [if_neg h2] at HAT
            clear h2
            go_wp2_with (at_builtin; have _t := tok; refine wpList_append_own _ rfl _ _ 39 rfl W.heap.size 5 i0 (.int .u8 0) 1 1 Try.underlying39 hi hz0 hz1 hz2 rfl (by decide) _ _ _ rfl HO.out a z (z + 2) (cellsL (L.take z)) rfl (by rw [cellsL_len, HLT.out, Nat.mul_one]) HCL.out (cellsL_one _) (by have := HL.out; omega) (by have := HL.out; omega) (by omega) ?_; intro v' w3 hown' hgrow _; have HO3 : Hid (OwnB w3 W.heap.size v' (acc ++ L.take z)) := (by show World.ownsRow _ _ _ _ _ _ _; rw [List.length_append, HLT.out]; rw [← cellsL_app] at hown'; exact hown'); have HB3 := Lib.hid (HB.out.trans (below_own HO.out hgrow hsz)); have hd3 := ((below_own HO.out hgrow hsz).cell (p := a.add (z + 1)) (by rw [add_block]; exact HAL.out)).trans hd1; rw [add_succ'] at hd3; have hcv3 := ownB_string w3 _ _ _ HO3.out; clear tok hown' hgrow hd1)
            rw [Exit.noGoto_ret]
            go_ret3
            exact txtRd_no (by rw [HT.out, HAT.out]; rfl) HB3.out
        · have HR := Lib.hid (rest_on HS.out hlc' hcm (z + 2) hc2)
          have HRS : Hid (SlB W B (some ⟨a.block, a.off + (z + 2), none⟩) (L.drop (z + 2))) := by have := HS.out.cut hlc' (z + 2); rwa [if_neg hc2] at this
          by_cases h1 : d = 1
          · have e1 : ((d.toNat : Int) == 1) = true := by rw [h1]; rfl
            rw [h1, if_pos rfl] at HAT
            clear h1
            go_wp2_with (at_builtin; have _t := tok; refine wpList_append_own _ rfl _ _ 39 rfl W.heap.size 5 i0 (.int .u8 0) 1 1 Try.underlying39 hi hz0 hz1 hz2 rfl (by decide) _ _ _ rfl HO.out a z c' (cellsL (L.take z)) rfl (by rw [cellsL_len, HLT.out, Nat.mul_one]) HCL.out (cellsL_one _) (by have := HL.out; omega) (by have := HL.out; omega) (by omega) ?_; intro v' w3 hown' hgrow _; have HO3 : Hid (OwnB w3 W.heap.size v' (acc ++ L.take z)) := (by show World.ownsRow _ _ _ _ _ _ _; rw [List.length_append, HLT.out]; rw [← cellsL_app] at hown'; exact hown'); have HB3 := Lib.hid (HB.out.trans (below_own HO.out hgrow hsz)); have hd3 := ((below_own HO.out hgrow hsz).cell (p := a.add (z + 1)) (by rw [add_block]; exact HAL.out)).trans hd1; rw [add_succ'] at hd3; have hcv3 := ownB_string w3 _ _ _ HO3.out; clear tok hown' hgrow hd1)
            rw [Exit.noGoto_ret]
            go_ret3
            exact txtRd_yes (by rw [HT.out, HAT.out]; rfl) (HR.out.next HB3.out hBW) HB3.out
          have e1 : ((d.toNat : Int) == 1) = false := by
            rw [beq_eq_false_iff_ne]
            exact fun e => h1 (UInt8.toNat_inj.1 (by show d.toNat = 1; omega))
          rw [if_neg h1] at HAT
          clear h1
          by_cases h2 : d = 255
          · have e2 : ((d.toNat : Int) == 255) = true := by rw [h2]; rfl
            rw [if_pos h2] at HAT
            clear h2
            go_wp2_with (first | (at_builtin; have _t := tok; refine wpList_append_own _ rfl _ _ 39 rfl W.heap.size 5 i0 (.int .u8 0) 1 1 Try.underlying39 hi hz0 hz1 hz2 rfl (by decide) _ _ _ rfl HO.out a z c' (cellsL (L.take z)) rfl (by rw [cellsL_len, HLT.out, Nat.mul_one]) HCL.out (cellsL_one _) (by have := HL.out; omega) (by have := HL.out; omega) (by omega) ?_; intro v' w3 hown' hgrow _; have HO3 : Hid (OwnB w3 W.heap.size v' (acc ++ L.take z)) := (by show World.ownsRow _ _ _ _ _ _ _; rw [List.length_append, HLT.out]; rw [← cellsL_app] at hown'; exact hown'); have HB3 := Lib.hid (HB.out.trans (below_own HO.out hgrow hsz)); have hd3 := ((below_own HO.out hgrow hsz).cell (p := a.add (z + 1)) (by rw [add_block]; exact HAL.out)).trans hd1; rw [add_succ'] at hd3; have hcv3 := ownB_string w3 _ _ _ HO3.out; clear tok hown' hgrow hd1) | (at_builtin; refine wpList_append_own _ rfl _ _ 39 rfl W.heap.size 5 i0 (.int .u8 0) 1 1 Try.underlying39 hi hz0 hz1 hz2 rfl (by decide) _ _ _ rfl (HO3.out.alloc _) ⟨w3.heap.size, 0, none⟩ 1 1 (cellsL [0]) rfl rfl (fun j u h => cell_lit _ _ _ j u h) (cellsL_one _) (by rw [List.length_append, HLT.out]; have := HL.out; omega) (by rw [List.length_append, HLT.out]; have := HL.out; omega) (by have := HB3.out.size; simp; omega) ?_; intro v'' w4 hown'' hgrow' _))
            go_roundg (L.length - (z + 2))
            case measure => have := HG.out; omega
            case rel => exact ⟨some ⟨a.block, a.off + (z + 2), none⟩, c' - (z + 2), L.drop (z + 2), acc ++ L.take z ++ [0], v'', (by first | (rw [List.length_drop]; done) | (rw [List.length_drop, show L.length - (z + 2) = 0 by have := HLC.out; omega, Nat.sub_self])), rfl, by show _ = _; rw [List.length_drop], by rw [List.length_drop]; omega, by omega, fun h => (by cases h), by simp only [List.length_append, List.length_drop, HLT.out, List.length_singleton]; omega, HRS.out, (by show _ = _; rw [HT.out, HAT.out]; unfold onward; simp [Option.map_map, Function.comp_def]), (by rw [← cellsL_app] at hown''; show World.ownsRow _ _ _ _ _ _ _; simpa [Nat.add_assoc] using hown''), HB3.out.trans (((Below.refl _ _).alloc HB3.out.size _).trans (below_own (HO3.out.alloc _) hgrow' (by have := HB3.out.size; simp; omega))), by have q1 := hgrow'.size; have q2 := HB3.out.size; simp at q1; omega⟩
          · have e2 : ((d.toNat : Int) == 255) = false := by
              rw [beq_eq_false_iff_ne]
              exact fun e => h2 (UInt8.toNat_inj.1 (by show d.toNat = 255; omega))
            rw [if_neg h2] at HAT
            clear h2
            go_wp2_with (at_builtin; have _t := tok; refine wpList_append_own _ rfl _ _ 39 rfl W.heap.size 5 i0 (.int .u8 0) 1 1 Try.underlying39 hi hz0 hz1 hz2 rfl (by decide) _ _ _ rfl HO.out a z c' (cellsL (L.take z)) rfl (by rw [cellsL_len, HLT.out, Nat.mul_one]) HCL.out (cellsL_one _) (by have := HL.out; omega) (by have := HL.out; omega) (by omega) ?_; intro v' w3 hown' hgrow _; have HO3 : Hid (OwnB w3 W.heap.size v' (acc ++ L.take z)) := (by show World.ownsRow _ _ _ _ _ _ _; rw [List.length_append, HLT.out]; rw [← cellsL_app] at hown'; exact hown'); have HB3 := Lib.hid (HB.out.trans (below_own HO.out hgrow hsz)); have hd3 := ((below_own HO.out hgrow hsz).cell (p := a.add (z + 1)) (by rw [add_block]; exact HAL.out)).trans hd1; rw [add_succ'] at hd3; have hcv3 := ownB_string w3 _ _ _ HO3.out; clear tok hown' hgrow hd1)
            rw [Exit.noGoto_ret]
            go_ret3
            exact txtRd_no (by rw [HT.out, HAT.out]; rfl) HB3.out
end Go.Proofs.Ytkoknogefmfmnaa
