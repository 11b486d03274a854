import Derived.Lib.AtoiAll
import Derived.Lib.ItoaNum
import Derived.Lib.ParseIntBTie
import Derived.Test.YthbighnkohjfnaaGreatDoorJSayEach
import Derived.Shelf.Strconv.ErrVarParseInt
import Derived.RegionTactic
import Derived.ChangeAlike
import Derived.Test.YthbighnkohjfnaaGreatDoorJReadHex
import Derived.RowKitTokens
/-
  PLAIN: a number's digits are read as the number.
-/
namespace Go.Proofs.YthbighnkohjfnaaGreatDoor
open Go.Lib

theorem parse_snoc (c : UInt8) : ∀ (l : List UInt8) (acc v : Nat), parseUint10 acc l = .ok v → parseUint10 acc (l ++ [c]) = parseUint10 v [c]
  | [], acc, v, h => by
    simp only [parseUint10] at h
    injection h with h
    rw [h]; rfl
  | d :: r, acc, v, h => by
    simp only [List.cons_append]
    unfold parseUint10 at h ⊢
    split at h
    · rename_i h1
      rw [if_pos h1]
      split at h
      · cases h
      · rename_i h2
        rw [if_neg h2]
        split at h
        · cases h
        · rename_i h3
          rw [if_neg h3]
          exact parse_snoc c r _ v h
    · cases h

theorem dec_digit (u : Nat) (h : u < 10) : (UInt8.ofNat (48 + u)).toNat = 48 + u := by
  rw [UInt8.toNat_ofNat']; omega

theorem parse_dec (u : Nat) : u < 18446744073709551616 → parseUint10 0 (decDigits u) = .ok u := by
  induction u using Nat.strongRecOn with
  | ind u ih =>
    intro hu
    rw [decDigits]
    by_cases h : u < 10
    · rw [dif_pos h]
      simp only [parseUint10, dec_digit u h]
      rw [if_pos (by omega), if_neg (by omega), if_neg (by omega)]
      congr 1; omega
    · rw [dif_neg h]
      rw [parse_snoc _ _ _ _ (ih (u / 10) (by omega) (by omega))]
      simp only [parseUint10, dec_digit (u % 10) (by omega)]
      rw [if_pos (by omega), if_neg (by omega), if_neg (by omega)]
      congr 1; omega

theorem dec_mem (u : Nat) : ∀ c ∈ decDigits u, 48 ≤ c.toNat ∧ c.toNat ≤ 57 := by
  induction u using Nat.strongRecOn with
  | ind u ih =>
    intro c hc
    rw [decDigits] at hc
    by_cases h : u < 10
    · rw [dif_pos h] at hc
      rw [List.mem_singleton] at hc
      rw [hc, dec_digit u h]; omega
    · rw [dif_neg h] at hc
      simp only [List.mem_append, List.mem_singleton] at hc
      rcases hc with hc | hc
      · exact ih (u / 10) (by omega) c hc
      · rw [hc, dec_digit (u % 10) (by omega)]; omega
theorem dec_cons (u : Nat) : ∃ c r, decDigits u = c :: r := by
  rw [decDigits]
  by_cases h : u < 10
  · rw [dif_pos h]; exact ⟨_, _, rfl⟩
  · rw [dif_neg h]
    cases hd : decDigits (u / 10)
    · exact ⟨_, _, rfl⟩
    · exact ⟨_, _, rfl⟩

theorem atoi_itoa (x : Int) (h0 : -9223372036854775808 ≤ x) (h1 : x ≤ 9223372036854775807) : atoiAll (itoa x) = .ok x := by
  unfold itoa
  by_cases hx : x < 0
  · rw [if_pos hx]
    have hp := parse_dec x.natAbs (by omega)
    obtain ⟨c, r, hc⟩ := dec_cons x.natAbs
    have hm : parseMag (decDigits x.natAbs) = .ok x.natAbs := by
      unfold parseMag; rw [if_neg (by rw [hc]; simp)]; exact hp
    simp only [atoiAll]
    have h45 : (45 : UInt8).toNat = 45 := rfl
    rw [if_pos (Or.inr h45), hm]
    simp only [h45, not_true_eq_false, false_and, if_false, true_and, if_true]
    rw [if_neg (by omega)]
    congr 1; omega
  · rw [if_neg hx]
    have hp := parse_dec x.toNat (by omega)
    obtain ⟨c, r, hc⟩ := dec_cons x.toNat
    have hd := dec_mem x.toNat c (by rw [hc]; simp)
    have hm : parseMag (decDigits x.toNat) = .ok x.toNat := by
      unfold parseMag; rw [if_neg (by rw [hc]; simp)]; exact hp
    rw [hc] at hm ⊢
    simp only [atoiAll]
    rw [if_neg (by omega), hm]
    have h45 : ¬ c.toNat = 45 := by omega
    simp only [h45, not_false_eq_true, true_and, false_and, if_false]
    rw [if_neg (by omega)]
    congr 1; omega

theorem parse_itoa (x : Int) (h0 : -9223372036854775808 ≤ x) (h1 : x ≤ 9223372036854775807) : parseIntB 64 (itoa x) = .ok x := by
  rw [parseIntB_64]; exact atoi_itoa x h0 h1

end Go.Proofs.YthbighnkohjfnaaGreatDoor

/-
  CONTRACTS of what reads a text: readNumber; what 'reads' says.
-/
namespace Go.Proofs.YthbighnkohjfnaaGreatDoor
open Go.RowKit Go.Shelf

/-- The two errors lie as errors. -/
def Errs (W : World) : Prop := (∃ tp p, W.var? Tryz.prog "strconv.ErrSyntax" = some #[.iface tp p]) ∧ (∃ tp p, W.var? Tryz.prog "strconv.ErrRange" = some #[.iface tp p])
theorem gSyn : Tryz.prog.globalNamed "strconv.ErrSyntax" = some 4 := by kernel_rfl
theorem gRan : Tryz.prog.globalNamed "strconv.ErrRange" = some 5 := by kernel_rfl
theorem errs_below {w W : World} (h : Errs w) (hb : Below w.heap.size w W) : Errs W := by
  obtain ⟨⟨a, b, h1⟩, ⟨c, d, h2⟩⟩ := h
  exact ⟨⟨a, b, Joins.var_stays gSyn h1 hb (Nat.le_refl _)⟩, ⟨c, d, Joins.var_stays gRan h2 hb (Nat.le_refl _)⟩⟩

def inI64 (x : Int) : Prop := -9223372036854775808 ≤ x ∧ x ≤ 9223372036854775807

/-- What a reader of the bytes l answers: a value and a bool; where l are the bytes of a value that may be, that value and true. -/
def Reads (l : List UInt8) (e : Ending) : Prop :=
  ∃ (k n : Int) (t : ByteArray) (ok : Bool), e = .returned (.tuple #[.agg #[.int .i64 k, .int .i64 n, .string t], .bool ok]) ∧ (ok = true → inI64 n ∧ t.size ≤ maxLen) ∧
    (∀ (k' n' : Int) (t' : ByteArray), mayB k' n' t' = true → inI64 n' → txtL k' n' t' = l → k = k' ∧ n = n' ∧ t = t' ∧ ok = true)

/-- What readNumber answers. -/
def NumEnds (k : Int) (l : List UInt8) (e : Ending) : Prop :=
  ∃ (n : Int) (ok : Bool), e = .returned (.tuple #[.agg #[.int .i64 k, .int .i64 n, .string ⟨#[]⟩], .bool ok]) ∧ (ok = true → inI64 n) ∧ (∀ x, inI64 x → l = Lib.itoa x → n = x ∧ ok = true)
theorem num_ok {k v : Int} {l : List UInt8} (h : Lib.parseIntB 64 l = .ok v) : NumEnds k l (.returned (.tuple #[.agg #[.int .i64 k, .int .i64 v, .string ⟨#[]⟩], .bool true])) := by
  refine ⟨v, true, rfl, fun _ => ?_, fun x hx hl => ?_⟩
  · have hb := Lib.parseIntB_bounds h
    unfold inI64
    constructor
    · have := hb.1; omega
    · have := hb.2; omega
  · rw [hl, parse_itoa x hx.1 hx.2] at h
    injection h with h
    exact ⟨h.symm, rfl⟩
theorem num_no {k v : Int} {l : List UInt8} (h : ∀ v, Lib.parseIntB 64 l ≠ .ok v) : NumEnds k l (.returned (.tuple #[.agg #[.int .i64 k, .int .i64 v, .string ⟨#[]⟩], .bool false])) := by
  refine ⟨v, false, rfl, (fun h => by cases h), fun x hx hl => ?_⟩
  rw [hl] at h
  exact absurd (parse_itoa x hx.1 hx.2) (h x)

/-- The result's own block lies as it was laid. -/
structure Res (w W : World) : Prop where
  c0 : W.cell? ⟨w.heap.size, 0, none⟩ = some (.int .i64 0)
  c1 : W.cell? ⟨w.heap.size, 1, none⟩ = some (.int .i64 0)
  c2 : W.cell? ⟨w.heap.size, 2, none⟩ = some (.string ⟨#[]⟩)
  f0 : W.frozen? ⟨w.heap.size, 0, none⟩ = false
  f1 : W.frozen? ⟨w.heap.size, 1, none⟩ = false
  f2 : W.frozen? ⟨w.heap.size, 2, none⟩ = false
  low : Below w.heap.size w W
  size : w.heap.size < W.heap.size
theorem res_new (w : World) (t : TypeId) : Res w (w.alloc (.cells #[.int .i64 0, .int .i64 0, .string ⟨#[]⟩] t)) :=
  ⟨by go_simp, by go_simp, by go_simp, by go_simp, by go_simp, by go_simp, (Below.refl _ _).alloc (Nat.le_refl _) _, by simp⟩
theorem Res.next {w W W' : World} (h : Res w W) {B : Nat} (hb : Below B W W') (hB : w.heap.size < B) : Res w W' :=
  ⟨(hb.cell (p := ⟨w.heap.size, 0, none⟩) hB).trans h.c0, (hb.cell (p := ⟨w.heap.size, 1, none⟩) hB).trans h.c1, (hb.cell (p := ⟨w.heap.size, 2, none⟩) hB).trans h.c2,
    (hb.frozen (p := ⟨w.heap.size, 0, none⟩) hB).trans h.f0, (hb.frozen (p := ⟨w.heap.size, 1, none⟩) hB).trans h.f1, (hb.frozen (p := ⟨w.heap.size, 2, none⟩) hB).trans h.f2, h.low.trans (hb.mono (by omega)), by have := h.size; have := hb.size; omega⟩

set_option maxRecDepth 100000 in
set_option maxHeartbeats 1000000 in
theorem readNumber_ok (k v : Int) (s : ByteArray) (w : World) (hs : s.size ≤ 4000) (h : Lib.parseIntB 64 s.data.toList = .ok v) :
    Calls Tryz.prog 105 #[.int .i64 k, .string s] w fun e w' => NumEnds k s.data.toList e ∧ Below w.heap.size w w' := by
  have hE : Hid (NumEnds k s.data.toList (.returned (.tuple #[.agg #[.int .i64 k, .int .i64 v, .string ⟨#[]⟩], .bool true]))) := num_ok h
  have hC := fun w => Tryz.strconv_ParseInt_10_at64_ok s (by omega) v h w
  have HC := Lib.hid hC
  have r0 := res_new w 35
  clear hC h
  go_enter Tryz.func105, Tryz.ntmps105
  go_wp2_with fail
  refine (HC.out _).mono ?_
  rintro e w1 ⟨rfl, hw⟩
  have r1 : Res w w1 := by
    rcases hw with hw | ⟨t, hw⟩
    · rw [hw]; exact r0
    · rw [hw]; exact r0.next (Lib.bytesWorld_below _ _ _) (by simp)
  clear hw r0
  have e0 := r1.c0
  have e1 := r1.c1
  have e2 := r1.c2
  have f0 := r1.f0
  have f1 := r1.f1
  have f2 := r1.f2
  go_wp2
  go_region
  all_goals go_wp2
  all_goals refine bodyPost_ret (v := .tuple #[.agg #[.int .i64 k, .int .i64 v, .string ⟨#[]⟩], .bool true]) ?_ rfl ⟨hE.out, ?_⟩
  · rw [results_cell_tmp rfl]; go_simp
  · exact (((r1.low.setCell (p := ⟨w.heap.size, 0, none⟩) (Nat.le_refl _) _).setCell (p := ⟨w.heap.size, 1, none⟩) (Nat.le_refl _) _).setCell (p := ⟨w.heap.size, 2, none⟩) (Nat.le_refl _) _).drew

set_option maxRecDepth 100000 in
set_option maxHeartbeats 1000000 in
theorem readNumber_err (k v : Int) (s : ByteArray) (w : World) (herr : Errs w) (h : ∀ v, Lib.parseIntB 64 s.data.toList ≠ .ok v)
    (hC : ∀ w', Errs w' → Calls Tryz.prog 114 #[.string s, .int .i64 10, .int .i64 64] w' fun e w'' => ∃ N, e = .returned (.tuple #[.int .i64 v, .iface 146 (.pointer (some ⟨N, 0, none⟩))]) ∧ Below w'.heap.size w' w'') :
    Calls Tryz.prog 105 #[.int .i64 k, .string s] w fun e w' => NumEnds k s.data.toList e ∧ Below w.heap.size w w' := by
  have hE : Hid (NumEnds k s.data.toList (.returned (.tuple #[.agg #[.int .i64 k, .int .i64 v, .string ⟨#[]⟩], .bool false]))) := num_no h
  have r0 := res_new w 35
  have HC := Lib.hid (hC _ (errs_below herr r0.low))
  clear hC h herr
  go_enter Tryz.func105, Tryz.ntmps105
  go_wp2_with fail
  refine HC.out.mono ?_
  rintro e w1 ⟨N, rfl, hw⟩
  have r1 : Res w w1 := r0.next hw (by simp)
  clear hw r0
  have e0 := r1.c0
  have e1 := r1.c1
  have e2 := r1.c2
  have f0 := r1.f0
  have f1 := r1.f1
  have f2 := r1.f2
  go_wp2
  go_region
  all_goals go_wp2
  all_goals refine bodyPost_ret (v := .tuple #[.agg #[.int .i64 k, .int .i64 v, .string ⟨#[]⟩], .bool false]) ?_ rfl ⟨hE.out, ?_⟩
  · rw [results_cell_tmp rfl]; go_simp
  · exact (((r1.low.setCell (p := ⟨w.heap.size, 0, none⟩) (Nat.le_refl _) _).setCell (p := ⟨w.heap.size, 1, none⟩) (Nat.le_refl _) _).setCell (p := ⟨w.heap.size, 2, none⟩) (Nat.le_refl _) _).drew

theorem readNumber_any (k : Int) (s : ByteArray) (w : World) (hs : s.size ≤ 4000) (herr : Errs w) :
    Calls Tryz.prog 105 #[.int .i64 k, .string s] w fun e w' => NumEnds k s.data.toList e ∧ Below w.heap.size w w' := by
  cases hp : Lib.parseIntB 64 s.data.toList
  · exact readNumber_ok k _ s w hs hp
  · refine readNumber_err k 0 s w herr (fun v hv => by rw [hv] at hp; cases hp) (fun w' he => ?_)
    obtain ⟨⟨tp, p, h1⟩, _⟩ := he
    exact (Any.strconv_ParseInt_10_at64_syntax_var Tryz.laysC174 s (by omega) hp tp p w' h1).mono fun e w'' ⟨N, h1, _, _, h2⟩ => ⟨N, h1, h2⟩
  · refine readNumber_err k (Lib.intSat 64 s.data.toList) s w herr (fun v hv => by rw [hv] at hp; cases hp) (fun w' he => ?_)
    obtain ⟨_, ⟨tp, p, h1⟩⟩ := he
    exact (Any.strconv_ParseInt_10_at64_range_var Tryz.laysC174 s (by omega) hp tp p w' h1).mono fun e w'' ⟨N, h1, _, _, h2⟩ => ⟨N, h1, h2⟩

end Go.Proofs.YthbighnkohjfnaaGreatDoor

/-
  THE WORLD IN WHICH THE LISTED TABLES AND THE TWO ERRORS LIE (for the witness of a row that lists the five), and what such a list gives.
-/
namespace Go.Proofs.YthbighnkohjfnaaGreatDoor
open Go.ChangeShapes Go.WideShapes Go.ChangeAt Go.RowKit Go.Joins

theorem gSynType : (Tryz.prog.globals[4]?).map (·.type) = some 130 := by kernel_rfl
theorem gRanType : (Tryz.prog.globals[5]?).map (·.type) = some 130 := by kernel_rfl
theorem cellsEs : Tryz.prog.cellsOf 158 = 1 := by kernel_rfl
theorem cellsStr : Tryz.prog.cellsOf 9 = 1 := by kernel_rfl
theorem star : "*" ++ "errors.errorString" = "*errors.errorString" := by decide
theorem rowEs (u : TypeId) (h : Tryz.prog.typeName? 3 u = some "*errors.errorString") : u = 156 :=
  typeName_ptr_named (nm := "errors.errorString") (by rw [star]; kernel_rfl) (by kernel_rfl) (by decide) u (by rw [star]; exact h)

/-- what a list that has the two errors fourth and fifth gives -/
theorem errsFourth {W : World} {x y z : String × DataW Unit} {a b : List UInt8} {rest : List (String × DataW Unit)}
    (h : laidMet Tryz.prog (x :: y :: z :: ("strconv.ErrRange", .iface "*errors.errorString" (.ptr (.agg [.lit (.string a)]))) :: ("strconv.ErrSyntax", .iface "*errors.errorString" (.ptr (.agg [.lit (.string b)]))) :: rest) W) : Errs W := by
  have h3 := laidMet.tail (laidMet.tail (laidMet.tail h))
  obtain ⟨a0, s0, hv0, -, -, -⟩ := laid_sentinel h3 gRan gRanType Tryz.underlying130 rowEs Tryz.underlying156 Tryz.underlying158 rfl rfl Tryz.underlying9 cellsEs cellsStr
  obtain ⟨a1, s1, hv1, -, -, -⟩ := laid_sentinel (laidMet.tail h3) gSyn gSynType Tryz.underlying130 rowEs Tryz.underlying156 Tryz.underlying158 rfl rfl Tryz.underlying9 cellsEs cellsStr
  exact ⟨⟨_, _, hv1⟩, ⟨_, _, hv0⟩⟩

def ranS : ByteArray := ⟨#[118, 97, 108, 117, 101, 32, 111, 117, 116, 32, 111, 102, 32, 114, 97, 110, 103, 101]⟩
def synS : ByteArray := ⟨#[105, 110, 118, 97, 108, 105, 100, 32, 115, 121, 110, 116, 97, 120]⟩
noncomputable def low : Nat := (World.holding Tryz.prog default ⟨#[], #[], []⟩).heap.size
/-- The settled world, each table and each error holding what its initialiser lays. -/
noncomputable def errsWorld (os : Os) : World :=
  let w0 := World.holding Tryz.prog os ⟨#[.cells #[.string ranS] 158, .cells #[.string synS] 158], #[], []⟩
  { w0 with heap := ((((w0.heap.modify 1 (putCells cells10)).modify 2 (putCells cells32)).modify 3 (putCells cells64)).modify 5 (putCells #[.iface 156 (.pointer (some ⟨low, 0, none⟩))])).modify 4 (putCells #[.iface 156 (.pointer (some ⟨low + 1, 0, none⟩))]) }

end Go.Proofs.YthbighnkohjfnaaGreatDoor
