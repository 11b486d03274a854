/-
  CONTRACTS of what reads a text: readNumber; what 'reads' says.
-/
import Derived.Test.YtpnjolacmkcofaaDoorReadHex
import Derived.Test.YtpnjolacmkcofaaDoorNum
import Derived.Shelf.Strconv.ErrVarParseInt
import Derived.RegionTactic
import Derived.ChangeAlike
namespace Go.Proofs.YtpnjolacmkcofaaDoor
open Go.RowKit Go.Shelf

/-- The two errors lie as errors. -/
def Errs (W : World) : Prop := (∃ tp p, W.var? Tryd.prog "strconv.ErrSyntax" = some #[.iface tp p]) ∧ (∃ tp p, W.var? Tryd.prog "strconv.ErrRange" = some #[.iface tp p])
theorem gSyn : Tryd.prog.globalNamed "strconv.ErrSyntax" = some 1 := by kernel_rfl
theorem gRan : Tryd.prog.globalNamed "strconv.ErrRange" = some 2 := by kernel_rfl
theorem errs_below {w W : World} (h : Errs w) (hb : Below w.heap.size w W) : Errs W := by
  obtain ⟨⟨a, b, h1⟩, ⟨c, d, h2⟩⟩ := h
  exact ⟨⟨a, b, Joins.var_stays gSyn h1 hb (Nat.le_refl _)⟩, ⟨c, d, Joins.var_stays gRan h2 hb (Nat.le_refl _)⟩⟩

def inI64 (x : Int) : Prop := -9223372036854775808 ≤ x ∧ x ≤ 9223372036854775807

/-- What a reader of the bytes l answers: a value and a bool; where l are the bytes of a value that may be, that value and true. -/
def Reads (l : List UInt8) (e : Ending) : Prop :=
  ∃ (k n : Int) (t : ByteArray) (ok : Bool), e = .returned (.tuple #[.agg #[.int .i64 k, .int .i64 n, .string t], .bool ok]) ∧ (ok = true → inI64 n ∧ t.size ≤ maxLen) ∧
    (∀ (k' n' : Int) (t' : ByteArray), mayB k' n' t' = true → inI64 n' → txtL k' n' t' = l → k = k' ∧ n = n' ∧ t = t' ∧ ok = true)

/-- What readNumber answers. -/
def NumEnds (k : Int) (l : List UInt8) (e : Ending) : Prop :=
  ∃ (n : Int) (ok : Bool), e = .returned (.tuple #[.agg #[.int .i64 k, .int .i64 n, .string ⟨#[]⟩], .bool ok]) ∧ (ok = true → inI64 n) ∧ (∀ x, inI64 x → l = Lib.itoa x → n = x ∧ ok = true)
theorem num_ok {k v : Int} {l : List UInt8} (h : Lib.parseIntB 64 l = .ok v) : NumEnds k l (.returned (.tuple #[.agg #[.int .i64 k, .int .i64 v, .string ⟨#[]⟩], .bool true])) := by
  refine ⟨v, true, rfl, fun _ => ?_, fun x hx hl => ?_⟩
  · have hb := Lib.parseIntB_bounds h
    unfold inI64
    constructor
    · have := hb.1; omega
    · have := hb.2; omega
  · rw [hl, parse_itoa x hx.1 hx.2] at h
    injection h with h
    exact ⟨h.symm, rfl⟩
theorem num_no {k v : Int} {l : List UInt8} (h : ∀ v, Lib.parseIntB 64 l ≠ .ok v) : NumEnds k l (.returned (.tuple #[.agg #[.int .i64 k, .int .i64 v, .string ⟨#[]⟩], .bool false])) := by
  refine ⟨v, false, rfl, (fun h => by cases h), fun x hx hl => ?_⟩
  rw [hl] at h
  exact absurd (parse_itoa x hx.1 hx.2) (h x)

/-- The result's own block lies as it was laid. -/
structure Res (w W : World) : Prop where
  c0 : W.cell? ⟨w.heap.size, 0, none⟩ = some (.int .i64 0)
  c1 : W.cell? ⟨w.heap.size, 1, none⟩ = some (.int .i64 0)
  c2 : W.cell? ⟨w.heap.size, 2, none⟩ = some (.string ⟨#[]⟩)
  f0 : W.frozen? ⟨w.heap.size, 0, none⟩ = false
  f1 : W.frozen? ⟨w.heap.size, 1, none⟩ = false
  f2 : W.frozen? ⟨w.heap.size, 2, none⟩ = false
  low : Below w.heap.size w W
  size : w.heap.size < W.heap.size
theorem res_new (w : World) (t : TypeId) : Res w (w.alloc (.cells #[.int .i64 0, .int .i64 0, .string ⟨#[]⟩] t)) :=
  ⟨by go_simp, by go_simp, by go_simp, by go_simp, by go_simp, by go_simp, (Below.refl _ _).alloc (Nat.le_refl _) _, by simp⟩
theorem Res.next {w W W' : World} (h : Res w W) {B : Nat} (hb : Below B W W') (hB : w.heap.size < B) : Res w W' :=
  ⟨(hb.cell (p := ⟨w.heap.size, 0, none⟩) hB).trans h.c0, (hb.cell (p := ⟨w.heap.size, 1, none⟩) hB).trans h.c1, (hb.cell (p := ⟨w.heap.size, 2, none⟩) hB).trans h.c2,
    (hb.frozen (p := ⟨w.heap.size, 0, none⟩) hB).trans h.f0, (hb.frozen (p := ⟨w.heap.size, 1, none⟩) hB).trans h.f1, (hb.frozen (p := ⟨w.heap.size, 2, none⟩) hB).trans h.f2, h.low.trans (hb.mono (by omega)), by have := h.size; have := hb.size; omega⟩

set_option maxRecDepth 100000 in
set_option maxHeartbeats 1000000 in
theorem readNumber_ok (k v : Int) (s : ByteArray) (w : World) (hs : s.size ≤ 4000) (h : Lib.parseIntB 64 s.data.toList = .ok v) :
    Calls Tryd.prog 38 #[.int .i64 k, .string s] w fun e w' => NumEnds k s.data.toList e ∧ Below w.heap.size w w' := by
  have hE : Hid (NumEnds k s.data.toList (.returned (.tuple #[.agg #[.int .i64 k, .int .i64 v, .string ⟨#[]⟩], .bool true]))) := num_ok h
  have hC := fun w => Tryd.strconv_ParseInt_10_at64_ok s (by omega) v h w
  have HC := Lib.hid hC
  have r0 := res_new w 23
  clear hC h
  go_enter Tryd.func38, Tryd.ntmps38
  go_wp2_with fail
  refine (HC.out _).mono ?_
  rintro e w1 ⟨rfl, hw⟩
  have r1 : Res w w1 := by
    rcases hw with hw | ⟨t, hw⟩
    · rw [hw]; exact r0
    · rw [hw]; exact r0.next (Lib.bytesWorld_below _ _ _) (by simp)
  clear hw r0
  have e0 := r1.c0
  have e1 := r1.c1
  have e2 := r1.c2
  have f0 := r1.f0
  have f1 := r1.f1
  have f2 := r1.f2
  go_wp2
  go_region
  all_goals go_wp2
  all_goals refine bodyPost_ret (v := .tuple #[.agg #[.int .i64 k, .int .i64 v, .string ⟨#[]⟩], .bool true]) ?_ rfl ⟨hE.out, ?_⟩
  · rw [results_cell_tmp rfl]; go_simp
  · exact (((r1.low.setCell (p := ⟨w.heap.size, 0, none⟩) (Nat.le_refl _) _).setCell (p := ⟨w.heap.size, 1, none⟩) (Nat.le_refl _) _).setCell (p := ⟨w.heap.size, 2, none⟩) (Nat.le_refl _) _).drew

set_option maxRecDepth 100000 in
set_option maxHeartbeats 1000000 in
theorem readNumber_err (k v : Int) (s : ByteArray) (w : World) (herr : Errs w) (h : ∀ v, Lib.parseIntB 64 s.data.toList ≠ .ok v)
    (hC : ∀ w', Errs w' → Calls Tryd.prog 51 #[.string s, .int .i64 10, .int .i64 64] w' fun e w'' => ∃ N, e = .returned (.tuple #[.int .i64 v, .iface 92 (.pointer (some ⟨N, 0, none⟩))]) ∧ Below w'.heap.size w' w'') :
    Calls Tryd.prog 38 #[.int .i64 k, .string s] w fun e w' => NumEnds k s.data.toList e ∧ Below w.heap.size w w' := by
  have hE : Hid (NumEnds k s.data.toList (.returned (.tuple #[.agg #[.int .i64 k, .int .i64 v, .string ⟨#[]⟩], .bool false]))) := num_no h
  have r0 := res_new w 23
  have HC := Lib.hid (hC _ (errs_below herr r0.low))
  clear hC h herr
  go_enter Tryd.func38, Tryd.ntmps38
  go_wp2_with fail
  refine HC.out.mono ?_
  rintro e w1 ⟨N, rfl, hw⟩
  have r1 : Res w w1 := r0.next hw (by simp)
  clear hw r0
  have e0 := r1.c0
  have e1 := r1.c1
  have e2 := r1.c2
  have f0 := r1.f0
  have f1 := r1.f1
  have f2 := r1.f2
  go_wp2
  go_region
  all_goals go_wp2
  all_goals refine bodyPost_ret (v := .tuple #[.agg #[.int .i64 k, .int .i64 v, .string ⟨#[]⟩], .bool false]) ?_ rfl ⟨hE.out, ?_⟩
  · rw [results_cell_tmp rfl]; go_simp
  · exact (((r1.low.setCell (p := ⟨w.heap.size, 0, none⟩) (Nat.le_refl _) _).setCell (p := ⟨w.heap.size, 1, none⟩) (Nat.le_refl _) _).setCell (p := ⟨w.heap.size, 2, none⟩) (Nat.le_refl _) _).drew

theorem readNumber_any (k : Int) (s : ByteArray) (w : World) (hs : s.size ≤ 4000) (herr : Errs w) :
    Calls Tryd.prog 38 #[.int .i64 k, .string s] w fun e w' => NumEnds k s.data.toList e ∧ Below w.heap.size w w' := by
  cases hp : Lib.parseIntB 64 s.data.toList
  · exact readNumber_ok k _ s w hs hp
  · refine readNumber_err k 0 s w herr (fun v hv => by rw [hv] at hp; cases hp) (fun w' he => ?_)
    obtain ⟨⟨tp, p, h1⟩, _⟩ := he
    exact (Any.strconv_ParseInt_10_at64_syntax_var Tryd.laysC174 s (by omega) hp tp p w' h1).mono fun e w'' ⟨N, h1, _, _, h2⟩ => ⟨N, h1, h2⟩
  · refine readNumber_err k (Lib.intSat 64 s.data.toList) s w herr (fun v hv => by rw [hv] at hp; cases hp) (fun w' he => ?_)
    obtain ⟨_, ⟨tp, p, h1⟩⟩ := he
    exact (Any.strconv_ParseInt_10_at64_range_var Tryd.laysC174 s (by omega) hp tp p w' h1).mono fun e w'' ⟨N, h1, _, _, h2⟩ => ⟨N, h1, h2⟩

end Go.Proofs.YtpnjolacmkcofaaDoor
