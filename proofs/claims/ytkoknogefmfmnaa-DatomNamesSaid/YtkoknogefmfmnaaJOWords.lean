import Derived.Lib.Hide
import Derived.LoopTactic
import Derived.Deep.LoopGhost
import Derived.Laws.BitsAllLaws
import Derived.OwnWalk
import Derived.Test.YtkoknogefmfmnaaJLeaf
import Derived.Laws.IdiomStrings
import Derived.Laws.OwnMore
import Derived.Lib.SmallJoins
import Derived.Lib.BufferRead
/-
  CONTRACTS: eight (a number's bytes in an array).
-/
namespace Go.Proofs.Ytkoknogefmfmnaa
open Go.RowKit

theorem xor63 (a : Nat) (ha : a < 18446744073709551616) : a ^^^ 9223372036854775808 = if a < 9223372036854775808 then a + 9223372036854775808 else a - 9223372036854775808 := by
  have h1 := Nat.xor_mod_two_pow (a := a) (b := 9223372036854775808) (n := 63)
  have h2 := Nat.xor_div_two_pow (a := a) (b := 9223372036854775808) (n := 63)
  have e : (2 : Nat) ^ 63 = 9223372036854775808 := by decide
  rw [e] at h1 h2
  rw [Nat.mod_self, Nat.xor_zero] at h1
  rw [Nat.div_self (by decide)] at h2
  have h3 : a / 9223372036854775808 = 0 ∨ a / 9223372036854775808 = 1 := by omega
  rcases h3 with h3 | h3
  · rw [h3] at h2
    have : (0 : Nat) ^^^ 1 = 1 := rfl
    rw [this] at h2
    split <;> omega
  · rw [h3] at h2
    have : (1 : Nat) ^^^ 1 = 0 := rfl
    rw [this] at h2
    split <;> omega
theorem turn_lt {n : Int} (h1 : n ≤ 9223372036854775807) : turnN n < 18446744073709551616 := by unfold turnN; omega
theorem turned {n : Int} (h0 : -9223372036854775808 ≤ n) (h1 : n ≤ 9223372036854775807) : bits .xor .u64 (IntKind.u64.wrap n) 9223372036854775808 = ((turnN n : Nat) : Int) := by
  have hw : IntKind.u64.wrap n = ((n % 18446744073709551616).toNat : Int) := by
    rw [IntKind.wrap_u64]; omega
  rw [hw, show (9223372036854775808 : Int) = ((9223372036854775808 : Nat) : Int) from rfl, u64_xor_nat _ _ (by omega) (by decide), xor63 _ (by omega)]
  unfold turnN
  split <;> omega

/-- the eight cells behind i rounds -/
def eightC (T i : Nat) : Array Value := (((be8 T).take i).map (fun c : UInt8 => Value.int .u8 c.toNat) ++ List.replicate (8 - i) (Value.int .u8 0)).toArray

theorem results_cell_only {fn : Func} {p : Tmp} {ty : TypeId} (h : fn.results = #[.cell p ty]) (tmps : Array Value) (P : Program) (w : World) :
    (results fn tmps).run P w = ((asAddr (tmps.getD p undef)).run P w).andThen fun a w₁ => (loadVar ty a).run P w₁ := by
  simp only [results, h]
  simp [Sem.run_bind]

theorem eight_step (T : Nat) (W0 : World) (i : Nat) (hi : i < 8) (x : Int) (hx : x = ((be8 T)[i]'(by rw [be8_len]; exact hi)).toNat) :
    Hid (W0.alloc (.cells ((eightC T i).setIfInBounds i (.int .u8 x)) 129) = W0.alloc (.cells (eightC T (i + 1)) 129)) := by
  show _ = _
  subst hx
  match i, hi with
  | 0, _ => rfl
  | 1, _ => rfl
  | 2, _ => rfl
  | 3, _ => rfl
  | 4, _ => rfl
  | 5, _ => rfl
  | 6, _ => rfl
  | 7, _ => rfl

set_option maxRecDepth 100000 in
set_option maxHeartbeats 4000000 in
theorem eight_any (n : Int) (h0 : -9223372036854775808 ≤ n) (h1 : n ≤ 9223372036854775807) (w : World) :
    Calls Try.prog 95 #[.int .i64 n] w fun e w' => e = .returned (.agg ((numB n).map (fun c : UInt8 => Value.int .u8 c.toNat)).toArray) ∧ Below w.heap.size w w' := by
  have ht := turned h0 h1
  obtain ⟨T, hT⟩ : ∃ T, turnN n = T := ⟨_, rfl⟩
  have hlt : T < 18446744073709551616 := by rw [← hT]; exact turn_lt h1
  rw [hT] at ht
  have HN : Hid (numB n = be8 T) := by show _ = _; unfold numB; rw [hT]
  clear hT
  go_enter Try.func95, Try.ntmps95
  go_wp2
  clear ht
  obtain ⟨W0, hW0⟩ : ∃ W0, (w.alloc (Obj.cells #[Value.int .u8 0, Value.int .u8 0, Value.int .u8 0, Value.int .u8 0, Value.int .u8 0, Value.int .u8 0, Value.int .u8 0, Value.int .u8 0] 129)) = W0 := ⟨_, rfl⟩
  have hz0 : W0.heap.size = w.heap.size + 1 := by rw [← hW0]; simp
  go_loopg [9] 8 (fun g x wr => ∃ i : Nat, x = .int .i64 i ∧ i + g = 8 ∧ Hid (wr = W0.alloc (.cells (eightC T i) 129)))
  case atStart => exact ⟨0, rfl, rfl, by show _ = _; rw [← hW0]; rfl⟩
  case round =>
    obtain ⟨i, rfl, hi, HW⟩ := hrel
    have h9 : i = 0 ∨ i = 1 ∨ i = 2 ∨ i = 3 ∨ i = 4 ∨ i = 5 ∨ i = 6 ∨ i = 7 ∨ i = 8 := by omega
    have hw := HW.out
    subst hw
    have HW0 := Lib.hid hW0
    clear hW0 HW
    rcases h9 with rfl | rfl | rfl | rfl | rfl | rfl | rfl | rfl | rfl
    · go_wp2
      go_roundg 7
      case measure => omega
      case rel => exact ⟨1, rfl, by omega, eight_step T W0 0 (by decide) _ (by simp only [be8, List.getElem_cons_zero, byteN]; omega)⟩
    · go_wp2
      go_roundg 6
      case measure => omega
      case rel => exact ⟨2, rfl, by omega, eight_step T W0 1 (by decide) _ (by simp only [be8, List.getElem_cons_zero, List.getElem_cons_succ, byteN]; omega)⟩
    · go_wp2
      go_roundg 5
      case measure => omega
      case rel => exact ⟨3, rfl, by omega, eight_step T W0 2 (by decide) _ (by simp only [be8, List.getElem_cons_zero, List.getElem_cons_succ, byteN]; omega)⟩
    · go_wp2
      go_roundg 4
      case measure => omega
      case rel => exact ⟨4, rfl, by omega, eight_step T W0 3 (by decide) _ (by simp only [be8, List.getElem_cons_zero, List.getElem_cons_succ, byteN]; omega)⟩
    · go_wp2
      go_roundg 3
      case measure => omega
      case rel => exact ⟨5, rfl, by omega, eight_step T W0 4 (by decide) _ (by simp only [be8, List.getElem_cons_zero, List.getElem_cons_succ, byteN]; omega)⟩
    · go_wp2
      go_roundg 2
      case measure => omega
      case rel => exact ⟨6, rfl, by omega, eight_step T W0 5 (by decide) _ (by simp only [be8, List.getElem_cons_zero, List.getElem_cons_succ, byteN]; omega)⟩
    · go_wp2
      go_roundg 1
      case measure => omega
      case rel => exact ⟨7, rfl, by omega, eight_step T W0 6 (by decide) _ (by simp only [be8, List.getElem_cons_zero, List.getElem_cons_succ, byteN]; omega)⟩
    · go_wp2
      go_roundg 0
      case measure => omega
      case rel => exact ⟨8, rfl, by omega, eight_step T W0 7 (by decide) _ (by simp only [be8, List.getElem_cons_zero, List.getElem_cons_succ, byteN]; omega)⟩
    · have h8 : eightC T 8 = #[.int .u8 (UInt8.ofNat (T / 72057594037927936)).toNat, .int .u8 (UInt8.ofNat (T / 281474976710656)).toNat, .int .u8 (UInt8.ofNat (T / 1099511627776)).toNat, .int .u8 (UInt8.ofNat (T / 4294967296)).toNat, .int .u8 (UInt8.ofNat (T / 16777216)).toNat, .int .u8 (UInt8.ofNat (T / 65536)).toNat, .int .u8 (UInt8.ofNat (T / 256)).toNat, .int .u8 (UInt8.ofNat T).toNat] := rfl
      rw [h8]
      have hw0 := HW0.out
      subst hw0
      have H8 := Lib.hid h8
      clear h8 HW0 hz0
      go_wp2
      refine bodyPost_ret (v := .agg ((numB n).map (fun c : UInt8 => Value.int .u8 c.toNat)).toArray) ?_ rfl ⟨rfl, ?_⟩
      · rw [results_cell_only rfl]
        go_simp
        rw [HN.out]
        simp [be8]
      · exact ((Below.refl _ _).alloc (Nat.le_refl _) _).alloc (by simp) _
end Go.Proofs.Ytkoknogefmfmnaa

/-
  WORDS FOR SLICES OF BYTES: a row of the call's own; what an append leaves.
-/
namespace Go.Proofs.Ytkoknogefmfmnaa
open Go.RowKit

theorem info8 : (Try.prog.info? 5).map (fun i => (i.zero, i.size, i.bytes)) = some (some (.int .u8 0), 1, 1) := by kernel_rfl
/-- bytes as cells -/
def cellsL (l : List UInt8) : List Value := l.map (fun c : UInt8 => Value.int .u8 c.toNat)
theorem cellsL_len (l : List UInt8) : (cellsL l).length = l.length := List.length_map _
theorem cellsL_app (l m : List UInt8) : cellsL (l ++ m) = cellsL l ++ cellsL m := List.map_append
theorem cellsL_one (l : List UInt8) : ∀ u ∈ cellsL l, u.oneCell' = true := by
  intro u hu
  obtain ⟨c, _, rfl⟩ := List.mem_map.1 hu
  rfl
theorem cellsL_at {l : List UInt8} {j : Nat} {u : Value} (h : (cellsL l)[j]? = some u) : ∃ c, l[j]? = some c ∧ u = .int .u8 c.toNat := by
  unfold cellsL at h
  rw [List.getElem?_map] at h
  cases hl : l[j]? with
  | none => rw [hl] at h; cases h
  | some c => rw [hl] at h; exact ⟨c, rfl, by simpa using h.symm⟩

/-- a slice of bytes in blocks from B on, which the call has to itself -/
def OwnB (W : World) (B : Nat) (v : Value) (l : List UInt8) : Prop := W.ownsRow B 5 1 v l.length (cellsL l)
theorem ownB_nil (W : World) (B : Nat) : OwnB W B (.slice none 0 0) [] := World.ownsRow_nil _ _ _ _
theorem OwnB.next {W W' : World} {B : Nat} {v : Value} {l : List UInt8} (h : OwnB W B v l) (hb : Below W.heap.size W W') : OwnB W' B v l := by
  refine World.ownsRow.kept (row := none) h ⟨hb.os, hb.tape, hb.output, hb.size, fun k hk _ => hb.block k hk⟩ ?_
  rcases h.2 with ⟨rfl, _⟩ | ⟨g, cap, cur, rfl, _, _⟩
  · exact .inl rfl
  · exact .inr (by simp [Value.ownBlock])
theorem OwnB.alloc {W : World} {B : Nat} {v : Value} {l : List UInt8} (h : OwnB W B v l) (o : Obj) : OwnB (W.alloc o) B v l := World.ownsRow.alloc h o
theorem OwnB.from_ {W : World} {B B' : Nat} {v : Value} {l : List UInt8} (h : OwnB W B v l) (hB : B' ≤ B) : OwnB W B' v l := by
  refine ⟨h.1, ?_⟩
  rcases h.2 with h0 | ⟨g, cap, cur, e, hb, r⟩
  · exact .inl h0
  · exact .inr ⟨g, cap, cur, e, by omega, r⟩
/-- below B nothing is turned by what grows such a row -/
theorem below_own {W w1 : World} {B : Nat} {v : Value} {l : List UInt8} (h : OwnB W B v l) (hg : W.grownBy w1 v.ownBlock) (hB : B ≤ W.heap.size) : Below B W w1 :=
  (Below.refl B W).grown hg hB (fun k hk => (World.ownsRow.lt h k hk).1)
/-- a block of another type is none of such a row's -/
theorem blk_own {W : World} {b B : Nat} {t : TypeId} {cs : Array Value} {fr : Nat × Nat} {v : Value} {l : List UInt8} (hb : W.heap[b]? = some (.cells cs t fr)) (ht : t ≠ 5) (h : OwnB W B v l) : some b ≠ v.ownBlock := by
  rcases h.2 with ⟨rfl, _⟩ | ⟨g, cap, cur, rfl, _, hgb, _⟩
  · simp [Value.ownBlock]
  · intro e
    have e2 : b = g := by simpa [Value.ownBlock] using e
    subst e2
    rw [hb] at hgb
    injection hgb with hgb
    injection hgb with _ hgb _
    exact ht hgb
theorem add0 (b j : Nat) : (⟨b, 0, none⟩ : Addr).add j = ⟨b, j, none⟩ := by unfold Addr.add; split <;> simp_all
/-- the cells of a new block -/
theorem cell_lit (W : World) (cs : Array Value) (t : TypeId) (j : Nat) (u : Value) (h : cs.toList[j]? = some u) : (W.alloc (.cells cs t)).cell? ((⟨W.heap.size, 0, none⟩ : Addr).add j) = some u := by
  rw [add0]
  simp only [World.cell?, heap_alloc_new]
  simpa using h
/-- a text of such a row -/
theorem ownB_string (W : World) (v : Value) (B : Nat) (l : List UInt8) (h : OwnB W B v l) : (convert 39 9 v).run Try.prog W = .ok (.string ⟨l.toArray⟩) W := by
  have hr : W.ownsRow B 5 1 v l.length (l.map (fun c : UInt8 => Value.int .u8 c.toNat)) := h
  rcases hr.2 with ⟨rfl, h0⟩ | ⟨g, cap, cur, rfl, _, hg, _, _, _, ht⟩
  · obtain rfl : l = [] := List.length_eq_zero_iff.1 h0
    exact Lib.run_convert_nil_bytes W _ _ _ 0 Try.underlying39 Try.underlying5 Try.underlying9
  · refine run_convert_bytes_back W _ _ _ ⟨g, 0, none⟩ cap l Try.underlying39 Try.underlying5 Try.underlying9 (fun j hj => ?_)
    have h1 := hr.cellAt j (by omega)
    rw [List.getElem?_map, List.getElem?_eq_getElem hj] at h1
    rw [add0]; simpa using h1

/-- What a call that appends leaves. -/
def App (W : World) (B : Nat) (l : List UInt8) (e : Ending) (w' : World) : Prop := ∃ v', e = .returned v' ∧ OwnB w' B v' l ∧ Below B W w'

end Go.Proofs.Ytkoknogefmfmnaa
