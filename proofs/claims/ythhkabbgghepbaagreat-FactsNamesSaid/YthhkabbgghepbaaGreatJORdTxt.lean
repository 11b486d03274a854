import Derived.Laws.AppendOwnNone
import Derived.Test.YthhkabbgghepbaaGreatJORdNum
import Derived.Shelf.Bytes.SlIndexAt
import Derived.Lib.IndexLaws
import Derived.WalkMore
/-
  CONTRACTS: Number, End (the document's).
-/
namespace Go.Proofs.YthhkabbgghepbaaGreat
open Go.RowKit Go.Shelf

theorem turned2 {n : Int} (h0 : -9223372036854775808 ≤ n) (h1 : n ≤ 9223372036854775807) : IntKind.u64.wrap (IntKind.u64.wrap n + 9223372036854775808) = ((turnN n : Nat) : Int) := by
  rw [IntKind.wrap_u64, IntKind.wrap_u64]; unfold turnN; omega
theorem be8_drop (T i : Nat) (h : i < 8) : (be8 T).drop (8 - (i + 1)) = UInt8.ofNat (T / 256 ^ i) :: (be8 T).drop (8 - i) := by
  match i, h with
  | 0, _ => simp [be8]
  | 1, _ => simp [be8]
  | 2, _ => simp [be8]
  | 3, _ => simp [be8]
  | 4, _ => simp [be8]
  | 5, _ => simp [be8]
  | 6, _ => simp [be8]
  | 7, _ => simp [be8]
theorem div_next (T i : Nat) : T / 256 ^ i / 256 = T / 256 ^ (i + 1) := by rw [Nat.div_div_eq_div_mul, Nat.pow_succ]

theorem own_lit (W : World) (B : Nat) (l : List UInt8) (n : Nat) (hB : B ≤ W.heap.size) (hl : l.length = n) (hn : n ≤ 50000) : (W.alloc (.cells (cellsL l).toArray 5)).ownsRow B 5 1 (.slice (some ⟨W.heap.size, 0, none⟩) n n) n (cellsL l) := by
  have hmx : 50000 ≤ maxLen := by decide
  have h := World.ownsRow_lit (base := B) (e := 5) (size := 1) W (cellsL l).toArray n hB (by omega) (by simp [cellsL_len, hl])
  simpa using h
theorem u64_val {a : Int} {b : Nat} (h : a = (b : Int)) : Value.int .u64 a = .int .u64 (b : Int) := by rw [h]
theorem drop_ne (T i : Nat) (h0 : 0 < i) (h : i < 8) : (be8 T).drop (8 - i) ≠ [] := by
  intro e
  have := congrArg List.length e
  rw [List.length_drop, be8_len] at this
  simp at this
  omega

theorem endF_here {l : List UInt8} {k : Nat} (h : k < l.length) (ha : ∀ d ∈ l.drop (k + 1), d = 255) (hc : l[k] ≠ 255) : endF l = some (l.take k ++ [l[k] + 1]) := by
  have h5 : l = l.take k ++ l[k] :: l.drop (k + 1) := by rw [← List.drop_eq_getElem_cons h, List.take_append_drop]
  have h6 := endF_at (l.take k) l[k] (l.drop (k + 1)) ha hc
  rwa [← h5] at h6
theorem drop_255 {l : List UInt8} {k : Nat} (h : k < l.length) (ha : ∀ d ∈ l.drop (k + 1), d = 255) (hc : l[k] = 255) : ∀ d ∈ l.drop k, d = 255 := fun d hd => by
  rw [List.drop_eq_getElem_cons h] at hd
  rcases List.mem_cons.1 hd with e | e
  · rw [e, hc]
  · exact ha d e

end Go.Proofs.YthhkabbgghepbaaGreat

/-
  CONTRACTS: readByte (the program's), number (the document's).
-/
namespace Go.Proofs.YthhkabbgghepbaaGreat
open Go.RowKit Go.Shelf

theorem add_zero' (a : Addr) : a.add 0 = a := by
  obtain ⟨b, o, sp⟩ := a
  simp [Addr.add]
/-- What readByte answers. -/
def ByteRd (W : World) (B : Nat) (l : List UInt8) (e : Ending) (w' : World) : Prop :=
  (∃ d t r, l = d :: t ∧ e = .returned (.tuple #[.int .i64 (d.toNat : Int), r, .bool true]) ∧ Rest w' B r t ∧ Below W.heap.size W w') ∨
  (l = [] ∧ e = .returned (.tuple #[.int .i64 0, .slice none 0 0, .bool false]) ∧ Below W.heap.size W w')
theorem byteRd_yes {W w' : World} {B : Nat} {d : UInt8} {t : List UInt8} {r : Value} {n : Int} (hn : n = (d.toNat : Int)) (hr : Rest w' B r t) (hb : Below W.heap.size W w') : ByteRd W B (d :: t) (.returned (.tuple #[.int .i64 n, r, .bool true])) w' := .inl ⟨d, t, r, rfl, by rw [hn], hr, hb⟩
theorem byteRd_no {W w' : World} {B : Nat} (hb : Below W.heap.size W w') : ByteRd W B [] (.returned (.tuple #[.int .i64 0, .slice none 0 0, .bool false])) w' := .inr ⟨rfl, rfl, hb⟩

end Go.Proofs.YthhkabbgghepbaaGreat

/-
  CONTRACTS: bytes.IndexByte at byte 0; readString (the program's).
-/
namespace Go.Proofs.YthhkabbgghepbaaGreat
open Go.RowKit Go.Shelf

/-- where the first byte 0 stands -/
def zeroAt (l : List UInt8) (z : Nat) : Prop := l[z]? = some 0 ∧ ∀ k, k < z → l[k]? ≠ some 0
theorem txtR_none : ∀ l : List UInt8, (∀ k : Nat, l[k]? ≠ some 0) → txtR l = none
  | [], _ => rfl
  | [_], _ => rfl
  | c :: d :: r, h => by
    have hc : c ≠ 0 := fun e => h 0 (by simp [e])
    rw [txtR, if_neg hc, txtR_none (d :: r) (fun k => by have := h (k + 1); simpa using this)]
    rfl
theorem txtR_last : ∀ (l : List UInt8) (z : Nat), zeroAt l z → z + 1 = l.length → txtR l = none
  | [], _, _, _ => rfl
  | [_], _, _, _ => rfl
  | c :: d :: r, 0, _, he => by simp at he
  | c :: d :: r, z + 1, h, he => by
    have hc : c ≠ 0 := fun e => h.2 0 (by omega) (by simp [e])
    rw [txtR, if_neg hc, txtR_last (d :: r) z ⟨by have := h.1; simpa using this, fun k hk => by have := h.2 (k + 1) (by omega); simpa using this⟩ (by simpa using he)]
    rfl
theorem txtR_at : ∀ (l : List UInt8) (z : Nat) (d : UInt8), zeroAt l z → l[z + 1]? = some d → txtR l = if d = 1 then some (l.take z, l.drop (z + 2)) else if d = 255 then (txtR (l.drop (z + 2))).map (fun p => (l.take z ++ 0 :: p.1, p.2)) else none
  | [], z, d, _, h => by simp at h
  | [_], 0, d, _, h => by simp at h
  | [_], z + 1, d, _, h => by simp at h
  | c :: e :: r, 0, d, hz, h => by
    have hc : c = 0 := by have := hz.1; simpa using this
    have hd : e = d := by simpa using h
    subst hd
    rw [txtR, if_pos hc]
    simp
  | c :: e :: r, z + 1, d, hz, h => by
    have hc : c ≠ 0 := fun e => hz.2 0 (by omega) (by simp [e])
    have ih := txtR_at (e :: r) z d ⟨by have := hz.1; simpa using this, fun k hk => by have := hz.2 (k + 1) (by omega); simpa using this⟩ (by simpa using h)
    rw [txtR, if_neg hc, ih]
    by_cases h1 : d = 1
    · rw [if_pos h1, if_pos h1]; simp
    · rw [if_neg h1, if_neg h1]
      by_cases h2 : d = 255
      · rw [if_pos h2, if_pos h2]
        simp [Option.map_map, Function.comp_def]
      · rw [if_neg h2, if_neg h2]; rfl

theorem bytesOf_nums (l : List UInt8) : Lib.bytesOf (l.map fun c : UInt8 => (c.toNat : Int)) = l := by
  unfold Lib.bytesOf
  rw [List.map_map]
  conv => rhs; rw [← List.map_id l]
  exact List.map_congr_left fun c _ => by simp

/-- What IndexByte of byte 0 answers. -/
def IdxZ (l : List UInt8) (v : Int) : Prop := (v = -1 ∧ ∀ k : Nat, l[k]? ≠ some 0) ∨ ∃ z : Nat, v = z ∧ zeroAt l z
theorem idxZ_of (l : List UInt8) : IdxZ l (Lib.indexByte l 0) := by
  have hge := Lib.indexByte_ge l 0
  by_cases h : Lib.indexByte l 0 = -1
  · exact .inl ⟨h, Lib.indexByte_none h⟩
  · obtain ⟨z, hz⟩ : ∃ z : Nat, Lib.indexByte l 0 = z := ⟨(Lib.indexByte l 0).toNat, by omega⟩
    exact .inr ⟨z, hz, Lib.indexByte_some hz⟩

theorem add_succ' (a : Addr) (k : Nat) : a.add (k + 1) = ⟨a.block, a.off + (k + 1), none⟩ := by
  unfold Addr.add
  simp
/-- What readString answers. -/
def TxtRd (W : World) (B : Nat) (l : List UInt8) (e : Ending) (w' : World) : Prop :=
  (∃ s t r, txtR l = some (s, t) ∧ e = .returned (.tuple #[.string ⟨s.toArray⟩, r, .bool true]) ∧ Rest w' B r t ∧ Below W.heap.size W w') ∨
  (txtR l = none ∧ e = .returned (.tuple #[.string ⟨#[]⟩, .slice none 0 0, .bool false]) ∧ Below W.heap.size W w')
theorem txtRd_yes {W w' : World} {B : Nat} {l s t : List UInt8} {r : Value} (h : txtR l = some (s, t)) (hr : Rest w' B r t) (hb : Below W.heap.size W w') : TxtRd W B l (.returned (.tuple #[.string ⟨s.toArray⟩, r, .bool true])) w' := .inl ⟨s, t, r, h, rfl, hr, hb⟩
theorem txtRd_no {W w' : World} {B : Nat} {l : List UInt8} (h : txtR l = none) (hb : Below W.heap.size W w') : TxtRd W B l (.returned (.tuple #[.string ⟨#[]⟩, .slice none 0 0, .bool false])) w' := .inr ⟨h, rfl, hb⟩
/-- what was read so far, ahead of the rest -/
def onward (acc : List UInt8) (o : Option (List UInt8 × List UInt8)) : Option (List UInt8 × List UInt8) := o.map fun p => (acc ++ p.1, p.2)

end Go.Proofs.YthhkabbgghepbaaGreat
