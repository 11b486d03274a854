import Derived.Laws.StructEq
import Derived.Test.YtlmihlepaoifiaaJSMake
import Derived.Test.YtlmihlepaoifiaaJDPure
import Derived.Test.YtlmihlepaoifiaaJOrd
import Derived.Test.YtlmihlepaoifiaaJDOrd
import Derived.Test.YtlmihlepaoifiaaJVSl
/-
  CONTRACTS: Make (of spans that may be); alive (the chapter's first example).
-/
namespace Go.Proofs.Ytlmihlepaoifiaa
open Go.RowKit Go.Shelf

theorem OwnS.base {W : World} {B B' : Nat} {v : Value} {l : List Sp} (h : OwnS W B v l) (hB : B' ≤ B) : OwnS W B' v l := by
  obtain ⟨h1, h2⟩ := (show W.ownsRow B _ _ _ _ _ from h)
  refine ⟨h1, ?_⟩
  rcases h2 with h2 | ⟨g, cap, cur, e, hb, r⟩
  · exact .inl h2
  · exact .inr ⟨g, cap, cur, e, by omega, r⟩
theorem slS_lit {W : World} {cs : Array Value} {t : TypeId} {l : List Sp} (h : cs.toList = l.flatMap cellsS) : SlS (W.alloc (.cells cs t)) (W.heap.size + 1) (some ⟨W.heap.size, 0, none⟩) l := fun _ => by
  refine ⟨_, _, rfl, Nat.lt_succ_self _, fun j s hs => ?_⟩
  have k : ∀ i, i < 2 → (W.alloc (.cells cs t)).cell? ⟨W.heap.size, 0 + j * 2 + i, none⟩ = (cellsS s)[i]? := fun i hi => by
    have h4 : i < (cellsS s).length := by show _ < 2; omega
    have h5 : (l.flatMap cellsS)[j * 2 + i]? = some (cellsS s)[i] := by rw [flatS hi, hs, Option.bind_some, List.getElem?_eq_getElem h4]
    have h6 := cell_lit W cs t (j * 2 + i) _ (by rw [h]; exact h5)
    rw [List.getElem?_eq_getElem h4, ← h6]
    unfold Addr.add
    split
    · rename_i h0
      rw [show 0 + j * 2 + i = 0 from by omega]
    · rw [show 0 + j * 2 + i = 0 + (j * 2 + i) from by omega]
  exact ⟨k 0 (by omega), k 1 (by omega)⟩
end Go.Proofs.Ytlmihlepaoifiaa

/-
  CONTRACTS: Check; Make, where a span may not be.
-/
namespace Go.Proofs.Ytlmihlepaoifiaa
open Go.RowKit

set_option maxRecDepth 100000 in
set_option maxHeartbeats 1000000 in
theorem checkS_big (A : Option Addr) (c : Nat) (l : List Sp) (w : World) (hs : SlS w w.heap.size A l) (hl : l.length ≤ 9223372036854775807) :
    Calls Try.prog 67 #[.slice A l.length c] w fun e w' => e = .returned (.int .i64 (if setB l then 0 else 30)) ∧ Below w.heap.size w w' := by
  have h1 := isSet_big A c l w hs hl
  obtain ⟨x, hx⟩ : ∃ x, setB l = x := ⟨_, rfl⟩
  rw [hx] at h1 ⊢
  clear hs hx
  go_enter Try.func67, Try.ntmps67
  go_wp2_with fail
  refine h1.mono ?_
  rintro e w1 ⟨rfl, hb⟩
  have HB := Lib.hid hb
  clear h1 hb
  cases x
  · go_wp2
    go_ret
    exact ⟨rfl, HB.out⟩
  · go_wp2
    go_ret
    exact ⟨rfl, HB.out⟩

theorem checkS_any (A : Option Addr) (c : Nat) (l : List Sp) (w : World) (hs : SlS w w.heap.size A l) (hl : l.length ≤ 100000) :
    Calls Try.prog 67 #[.slice A l.length c] w fun e w' => e = .returned (.int .i64 (if setB l then 0 else 30)) ∧ Below w.heap.size w w' := checkS_big A c l w hs (by omega)

end Go.Proofs.Ytlmihlepaoifiaa

/-
  CONTRACTS over datoms: isEntity, isTx, isStretch, mayBe, Check, placesOf, has, addNumber, part.
-/
namespace Go.Proofs.Ytlmihlepaoifiaa
open Go.RowKit

/-- a datom in a box -/
def DatAt (W : World) (b : Nat) (d : Dat) : Prop := W.heap[b]? = some (.cells #[.int .i64 d.e, .int .i64 d.a, .int .i64 d.k, .int .i64 d.m, .string d.s, .int .i64 d.t, .bool d.add, .int .i64 d.fr, .int .i64 d.til] 124 (0, 0))
theorem DatAt.cell {W : World} {b : Nat} {d : Dat} (h : DatAt W b d) (j : Nat) : W.cell? ⟨b, j, none⟩ = (#[Value.int .i64 d.e, .int .i64 d.a, .int .i64 d.k, .int .i64 d.m, .string d.s, .int .i64 d.t, .bool d.add, .int .i64 d.fr, .int .i64 d.til])[j]? := by unfold DatAt at h; simp [World.cell?, h]
theorem DatAt.fz {W : World} {b : Nat} {d : Dat} (h : DatAt W b d) (j : Nat) : W.frozen? ⟨b, j, none⟩ = false := by unfold DatAt at h; simp [World.frozen?, h]
theorem datAt_new (W : World) (d : Dat) : DatAt (W.alloc (.cells #[.int .i64 d.e, .int .i64 d.a, .int .i64 d.k, .int .i64 d.m, .string d.s, .int .i64 d.t, .bool d.add, .int .i64 d.fr, .int .i64 d.til] 124)) W.heap.size d := heap_alloc_new W _
theorem DatAt.lt {W : World} {b : Nat} {d : Dat} (h : DatAt W b d) : b < W.heap.size := (Array.getElem?_eq_some_iff.1 h).1
theorem DatAt.next {W W' : World} {b B : Nat} {d : Dat} (h : DatAt W b d) (hb : Below B W W') (hB : b < B) : DatAt W' b d := (hb.block b hB).trans h
theorem DatAt.alloc {W : World} {b : Nat} {d : Dat} (h : DatAt W b d) (o : Obj) : DatAt (W.alloc o) b d := (Below.heap_alloc W o b h.lt).trans h
theorem DatAt.drewN {W : World} {b : Nat} {d : Dat} (h : DatAt W b d) (n : Nat) : DatAt (W.drewN n) b d := h
set_option maxHeartbeats 400000 in
theorem isEnt_any (n : Int) (w : World) : Calls Try.prog 94 #[.int .i64 n] w fun e w' => e = .returned (.bool (entB n)) ∧ w = w' := by
  by_cases h0 : 0 ≤ n
  · by_cases h1 : n < 9007199254740992
    · have e : Hid (entB n = true) := by show _ = _; unfold entB; simp [h0, h1]
      go_enter Try.func94, Try.ntmps94
      go_wp2
      go_ret
      exact ⟨by rw [e.out]; rfl, rfl⟩
    · have e : Hid (entB n = false) := by show _ = _; unfold entB; simp; omega
      go_enter Try.func94, Try.ntmps94
      go_wp2
      go_ret
      exact ⟨by rw [e.out]; rfl, rfl⟩
  · have e : Hid (entB n = false) := by show _ = _; unfold entB; simp; omega
    have h0' : decide (0 ≤ n) = false := decide_eq_false h0
    go_enter Try.func94, Try.ntmps94
    go_wp2
    go_ret
    exact ⟨by rw [e.out]; rfl, rfl⟩
def txB (n : Int) : Bool := decide (1 ≤ n ∧ n ≤ 1099511627776)
set_option maxHeartbeats 400000 in
theorem isTx_any (n : Int) (w : World) : Calls Try.prog 96 #[.int .i64 n] w fun e w' => e = .returned (.bool (txB n)) ∧ w = w' := by
  by_cases h0 : 1 ≤ n
  · by_cases h1 : n ≤ 1099511627776
    · have e : Hid (txB n = true) := by show _ = _; unfold txB; simp [h0, h1]
      go_enter Try.func96, Try.ntmps96
      go_wp2
      go_ret
      exact ⟨by rw [e.out]; rfl, rfl⟩
    · have e : Hid (txB n = false) := by show _ = _; unfold txB; simp; omega
      go_enter Try.func96, Try.ntmps96
      go_wp2
      go_ret
      exact ⟨by rw [e.out]; rfl, rfl⟩
  · have e : Hid (txB n = false) := by show _ = _; unfold txB; simp; omega
    have h0' : decide (1 ≤ n) = false := decide_eq_false h0
    go_enter Try.func96, Try.ntmps96
    go_wp2
    go_ret
    exact ⟨by rw [e.out]; rfl, rfl⟩
theorem setB_one (x y : Int) : setB [(x, y)] = decide (x < y) := by
  unfold setB
  rw [decide_eq_decide, setL_cons]
  exact ⟨fun h => h.1, fun h => ⟨h, fun _ h => (by cases h), setL_nil⟩⟩
set_option maxHeartbeats 400000 in
theorem isStretch_any (x y : Int) (w : World) : Calls Try.prog 97 #[.int .i64 x, .int .i64 y] w fun e w' => e = .returned (.bool (decide (x < y))) ∧ Below w.heap.size w w' := by
  have hlit := slS_lit (W := w) (t := 34) (cs := #[.int .i64 x, .int .i64 y]) (l := [(x, y)]) rfl
  have hc := checkS_any (some ⟨w.heap.size, 0, none⟩) 1 [(x, y)] _ (hlit.more (by simp)) (by simp)
  rw [setB_one] at hc
  have HB0 : Hid (Below w.heap.size w (w.alloc (.cells #[.int .i64 x, .int .i64 y] 34))) := (Below.refl _ _).alloc (Nat.le_refl _) _
  obtain ⟨v, hv⟩ : ∃ v, decide (x < y) = v := ⟨_, rfl⟩
  rw [hv] at hc ⊢
  have HC := Lib.hid hc
  clear hc hlit hv
  go_enter Try.func97, Try.ntmps97
  go_wp2_with fail
  refine HC.out.mono ?_
  rintro e w1 ⟨rfl, hb⟩
  have HB := Lib.hid (HB0.out.trans (hb.mono HB0.out.size))
  clear hb
  cases v
  · go_wp2
    go_ret
    exact ⟨rfl, HB.out⟩
  · go_wp2
    go_ret
    exact ⟨rfl, HB.out⟩
theorem bEnt (v : Bool) (n : Int) (w : World) (h : entB n = v) : Calls Try.prog 94 #[.int .i64 n] w fun e w' => e = .returned (.bool v) ∧ w = w' := by subst h; exact isEnt_any n w
theorem bTx (v : Bool) (n : Int) (w : World) (h : txB n = v) : Calls Try.prog 96 #[.int .i64 n] w fun e w' => e = .returned (.bool v) ∧ w = w' := by subst h; exact isTx_any n w
theorem bStr (v : Bool) (x y : Int) (w : World) (h : decide (x < y) = v) : Calls Try.prog 97 #[.int .i64 x, .int .i64 y] w fun e w' => e = .returned (.bool v) ∧ Below w.heap.size w w' := by subst h; exact isStretch_any x y w
set_option maxRecDepth 100000 in
set_option maxHeartbeats 1000000 in
theorem dMay_any (d : Dat) (w : World) (hs : d.s.size ≤ maxLen) : Calls Try.prog 92 #[.agg #[.int .i64 d.e, .int .i64 d.a, .int .i64 d.k, .int .i64 d.m, .string d.s, .int .i64 d.t, .bool d.add, .int .i64 d.fr, .int .i64 d.til]] w fun e w' => e = .returned (.bool (mayD d)) ∧ Below w.heap.size w w' := by
  have HB0 : Hid (Below w.heap.size w (w.alloc (.cells #[.int .i64 d.e, .int .i64 d.a, .int .i64 d.k, .int .i64 d.m, .string d.s, .int .i64 d.t, .bool d.add, .int .i64 d.fr, .int .i64 d.til] 124))) := (Below.refl _ _).alloc (Nat.le_refl _) _
  have HDA := Lib.hid (datAt_new w d)
  have HM : Hid (mayD d = (entB d.e && entB d.a && mayB d.k d.m d.s && txB d.t && decide (d.fr < d.til))) := rfl
  obtain ⟨b1, h1⟩ : ∃ b, entB d.e = b := ⟨_, rfl⟩
  obtain ⟨b2, h2⟩ : ∃ b, entB d.a = b := ⟨_, rfl⟩
  obtain ⟨b3, h3⟩ : ∃ b, mayB d.k d.m d.s = b := ⟨_, rfl⟩
  obtain ⟨b4, h4⟩ : ∃ b, txB d.t = b := ⟨_, rfl⟩
  obtain ⟨b5, h5⟩ : ∃ b, decide (d.fr < d.til) = b := ⟨_, rfl⟩
  rw [h1, h2, h3, h4, h5] at HM
  have H1 := Lib.hid h1
  have H2 := Lib.hid h2
  have H3 := Lib.hid h3
  have H4 := Lib.hid h4
  have H5 := Lib.hid h5
  clear h1 h2 h3 h4 h5
  go_enter Try.func92, Try.ntmps92
  go_wp2_with fail
  refine (bEnt b1 d.e _ H1.out).mono ?_
  rintro e w1 ⟨rfl, rfl⟩
  cases b1
  · have HF : Hid (mayD d = false) := HM.out
    go_wp2
    go_ret
    exact ⟨by rw [HF.out]; rfl, HB0.out⟩
  go_wp2_with fail
  refine (bEnt b2 d.a _ H2.out).mono ?_
  rintro e w1 ⟨rfl, rfl⟩
  cases b2
  · have HF : Hid (mayD d = false) := HM.out
    go_wp2
    go_ret
    exact ⟨by rw [HF.out]; rfl, HB0.out⟩
  go_wp2_with fail
  cases b3
  · have HF : Hid (mayD d = false) := HM.out
    refine (check_no _ hs H3.out).mono ?_
    rintro e w1 ⟨rfl, hb⟩
    have HB := Lib.hid (HB0.out.trans (hb.mono HB0.out.size))
    clear hb
    go_wp2
    go_ret
    exact ⟨by rw [HF.out]; rfl, HB.out⟩
  refine (check_yes _ hs H3.out).mono ?_
  rintro e w1 ⟨rfl, hb⟩
  have HB1 := Lib.hid (HB0.out.trans (hb.mono HB0.out.size))
  have hx := HDA.out.next hb (by simp)
  have c5 := hx.cell 5
  have c7 := hx.cell 7
  have c8 := hx.cell 8
  simp at c5 c7 c8
  clear hb hx
  go_wp2_with fail
  refine (bTx b4 d.t _ H4.out).mono ?_
  rintro e w1 ⟨rfl, rfl⟩
  cases b4
  · have HF : Hid (mayD d = false) := HM.out
    go_wp2
    go_ret
    exact ⟨by rw [HF.out]; rfl, HB1.out⟩
  go_wp2_with fail
  refine (bStr b5 d.fr d.til _ H5.out).mono ?_
  rintro e w1 ⟨rfl, hb⟩
  have HB := Lib.hid (HB1.out.trans (hb.mono HB1.out.size))
  have HF : Hid (mayD d = b5) := HM.out
  clear hb
  go_wp2
  go_ret
  exact ⟨by rw [HF.out]; rfl, HB.out⟩
set_option maxRecDepth 100000 in
set_option maxHeartbeats 400000 in
theorem dCheck_any (d : Dat) (w : World) (hs : d.s.size ≤ maxLen) : Calls Try.prog 86 #[.agg #[.int .i64 d.e, .int .i64 d.a, .int .i64 d.k, .int .i64 d.m, .string d.s, .int .i64 d.t, .bool d.add, .int .i64 d.fr, .int .i64 d.til]] w fun e w' => e = .returned (.int .i64 (if mayD d = true then 0 else 40)) ∧ Below w.heap.size w w' := by
  have HB0 : Hid (Below w.heap.size w (w.alloc (.cells #[.int .i64 d.e, .int .i64 d.a, .int .i64 d.k, .int .i64 d.m, .string d.s, .int .i64 d.t, .bool d.add, .int .i64 d.fr, .int .i64 d.til] 124))) := (Below.refl _ _).alloc (Nat.le_refl _) _
  have hc := dMay_any d (w.alloc (.cells #[.int .i64 d.e, .int .i64 d.a, .int .i64 d.k, .int .i64 d.m, .string d.s, .int .i64 d.t, .bool d.add, .int .i64 d.fr, .int .i64 d.til] 124)) hs
  obtain ⟨b1, h1⟩ : ∃ b, mayD d = b := ⟨_, rfl⟩
  rw [h1] at hc ⊢
  have HC := Lib.hid hc
  clear hc h1
  go_enter Try.func86, Try.ntmps86
  go_wp2_with fail
  refine HC.out.mono ?_
  rintro e w1 ⟨rfl, hb⟩
  have HB := Lib.hid (HB0.out.trans (hb.mono HB0.out.size))
  clear hb
  cases b1
  · go_wp2
    go_ret
    exact ⟨rfl, HB.out⟩
  · go_wp2
    go_ret
    exact ⟨rfl, HB.out⟩
end Go.Proofs.Ytlmihlepaoifiaa

/-
  SLICES OF DATOMS.
-/
namespace Go.Proofs.Ytlmihlepaoifiaa
open Go.RowKit Go.Shelf

def cellsD (d : Dat) : List Value := [.int .i64 d.e, .int .i64 d.a, .int .i64 d.k, .int .i64 d.m, .string d.s, .int .i64 d.t, .bool d.add, .int .i64 d.fr, .int .i64 d.til]
theorem cellsD_len (d : Dat) : (cellsD d).length = 9 := rfl
/-- one datom's cells -/
def DtAt (W : World) (b o : Nat) (d : Dat) : Prop := ∀ i, i < 9 → W.cell? ⟨b, o + i, none⟩ = (cellsD d)[i]?
theorem DtAt.c0 {W : World} {b o : Nat} {d : Dat} (h : DtAt W b o d) : W.cell? ⟨b, o, none⟩ = some (.int .i64 d.e) := h 0 (by decide)
theorem DtAt.c1 {W : World} {b o : Nat} {d : Dat} (h : DtAt W b o d) : W.cell? ⟨b, o + 1, none⟩ = some (.int .i64 d.a) := h 1 (by decide)
theorem DtAt.c2 {W : World} {b o : Nat} {d : Dat} (h : DtAt W b o d) : W.cell? ⟨b, o + 2, none⟩ = some (.int .i64 d.k) := h 2 (by decide)
theorem DtAt.c3 {W : World} {b o : Nat} {d : Dat} (h : DtAt W b o d) : W.cell? ⟨b, o + 3, none⟩ = some (.int .i64 d.m) := h 3 (by decide)
theorem DtAt.c4 {W : World} {b o : Nat} {d : Dat} (h : DtAt W b o d) : W.cell? ⟨b, o + 4, none⟩ = some (.string d.s) := h 4 (by decide)
theorem DtAt.c5 {W : World} {b o : Nat} {d : Dat} (h : DtAt W b o d) : W.cell? ⟨b, o + 5, none⟩ = some (.int .i64 d.t) := h 5 (by decide)
theorem DtAt.c6 {W : World} {b o : Nat} {d : Dat} (h : DtAt W b o d) : W.cell? ⟨b, o + 6, none⟩ = some (.bool d.add) := h 6 (by decide)
theorem DtAt.c7 {W : World} {b o : Nat} {d : Dat} (h : DtAt W b o d) : W.cell? ⟨b, o + 7, none⟩ = some (.int .i64 d.fr) := h 7 (by decide)
theorem DtAt.c8 {W : World} {b o : Nat} {d : Dat} (h : DtAt W b o d) : W.cell? ⟨b, o + 8, none⟩ = some (.int .i64 d.til) := h 8 (by decide)
theorem DtAt.next {W W' : World} {B b o : Nat} {d : Dat} (h : DtAt W b o d) (hb : Below B W W') (hB : b < B) : DtAt W' b o d := fun i hi => (hb.cell (p := ⟨b, o + i, none⟩) hB).trans (h i hi)
theorem DtAt.drew {W : World} {b o : Nat} {d : Dat} (h : DtAt W b o d) : DtAt W.drew b o d := h
theorem DtAt.drewN {W : World} {b o : Nat} {d : Dat} (h : DtAt W b o d) (n : Nat) : DtAt (W.drewN n) b o d := h
/-- a slice that reads as these datoms, in blocks below B -/
def SlD (W : World) (B : Nat) (A : Option Addr) (l : List Dat) : Prop :=
  l ≠ [] → ∃ b o, A = some ⟨b, o, none⟩ ∧ b < B ∧ ∀ (j : Nat) (v : Dat), l[j]? = some v → DtAt W b (o + j * 9) v
theorem SlD.next {W W' : World} {B : Nat} {A : Option Addr} {l : List Dat} (h : SlD W B A l) {B' : Nat} (hb : Below B' W W') (hB : B ≤ B') : SlD W' B A l := fun hl => by
  obtain ⟨b, o, e, hlt, hc⟩ := h hl
  exact ⟨b, o, e, hlt, fun j p hp => (hc j p hp).next hb (by omega)⟩
theorem SlD.more {W : World} {B B' : Nat} {A : Option Addr} {l : List Dat} (h : SlD W B A l) (hB : B ≤ B') : SlD W B' A l := fun hl => by
  obtain ⟨b, o, e, hlt, hc⟩ := h hl
  exact ⟨b, o, e, by omega, hc⟩
theorem SlD.at_ {W : World} {B : Nat} {A : Option Addr} {l : List Dat} (h : SlD W B A l) {j : Nat} (hj : j < l.length) : ∃ b o, A = some ⟨b, o, none⟩ ∧ b < B ∧ DtAt W b (o + j * 9) l[j] := by
  obtain ⟨b, o, e, hlt, hc⟩ := h (by intro e; rw [e] at hj; simp at hj)
  exact ⟨b, o, e, hlt, hc j _ (List.getElem?_eq_getElem hj)⟩
/-- a slice of datoms in blocks from B on, which the call has to itself -/
def OwnD (W : World) (B : Nat) (v : Value) (l : List Dat) : Prop := W.ownsRow B 124 9 v l.length (l.flatMap cellsD)
theorem flatD {l : List Dat} {j i : Nat} (hi : i < 9) : (l.flatMap cellsD)[j * 9 + i]? = l[j]?.bind fun x => (cellsD x)[i]? := flatG cellsD_len hi
theorem OwnD.form {W : World} {B : Nat} {v : Value} {l : List Dat} (h : OwnD W B v l) : ∃ A c, v = .slice A l.length c ∧ SlD W W.heap.size A l ∧ l.length ≤ c ∧ c ≤ maxLen ∧ (A = none → l.length = 0 ∧ c = 0) ∧ (∀ a, A = some a → a.spot = none) := by
  rcases h.2 with ⟨rfl, h0⟩ | ⟨g, cap, cur, rfl, _, hgb, h1, h2, _⟩
  · exact ⟨none, 0, by rw [h0], fun hl => absurd (List.length_eq_zero_iff.1 h0) hl, by omega, Nat.zero_le _, fun _ => ⟨h0, rfl⟩, fun a ha => by cases ha⟩
  · refine ⟨_, _, rfl, fun _ => ⟨g, 0, rfl, (Array.getElem?_eq_some_iff.1 hgb).1, fun j p hp => ?_⟩, h1, h2, (fun e => by cases e), (fun a ha => by cases ha; rfl)⟩
    have hr : W.ownsRow B 124 9 (.slice (some ⟨g, 0, none⟩) l.length cap) l.length (l.flatMap cellsD) := h
    have hj : j < l.length := (List.getElem?_eq_some_iff.1 hp).1
    rw [Nat.zero_add]
    intro i hi
    rw [hr.cellAt (j * 9 + i) (by omega), flatD hi, hp]; rfl
theorem OwnD.low {W : World} {B B' : Nat} {v : Value} {l : List Dat} (h : OwnD W B v l) (hB : B' ≤ B) : OwnD W B' v l := by
  refine ⟨h.1, ?_⟩
  rcases h.2 with h | ⟨g, cap, cur, h1, h2, h3⟩
  · exact .inl h
  · exact .inr ⟨g, cap, cur, h1, by omega, h3⟩
theorem OwnD.next {W W' : World} {B : Nat} {v : Value} {l : List Dat} (h : OwnD W B v l) (hb : Below W.heap.size W W') : OwnD W' B v l := by
  refine ⟨h.1, ?_⟩
  rcases h.2 with h | ⟨g, cap, cur, h1, h2, h3, h4⟩
  · exact .inl h
  · exact .inr ⟨g, cap, cur, h1, h2, (hb.block g (Array.getElem?_eq_some_iff.1 h3).1).trans h3, h4⟩
/-- where a slice's rest stands -/
def cutD (A : Option Addr) (c k : Nat) : Option Addr := if c = k then A else A.map (·.add (k * 9))
theorem SlD.drop {W : World} {B : Nat} {A : Option Addr} {l : List Dat} (h : SlD W B A l) {c : Nat} (k : Nat) (hlc : l.length ≤ c) : SlD W B (cutD A c k) (l.drop k) := fun hl => by
  have hk : k < l.length := by
    rcases Nat.lt_or_ge k l.length with h1 | h1
    · exact h1
    · exact absurd (List.drop_of_length_le h1) hl
  obtain ⟨b, o, rfl, hlt, hc⟩ := h (fun e => by rw [e] at hk; exact absurd hk (Nat.not_lt_zero _))
  unfold cutD
  rw [if_neg (by omega)]
  refine ⟨b, o + k * 9, by show some (Addr.add ⟨b, o, none⟩ (k * 9)) = _; rw [addI], hlt, fun j p hp => ?_⟩
  rw [List.getElem?_drop] at hp
  have := hc (k + j) p hp
  rwa [show o + (k + j) * 9 = o + k * 9 + j * 9 from by omega] at this
theorem SlD.take {W : World} {B : Nat} {A : Option Addr} {l : List Dat} (h : SlD W B A l) (k : Nat) : SlD W B A (l.take k) := fun hl => by
  obtain ⟨b, o, e, hlt, hc⟩ := h (fun e => hl (by rw [e]; simp))
  refine ⟨b, o, e, hlt, fun j p hp => hc j p ?_⟩
  rw [List.getElem?_take] at hp
  split at hp
  · exact hp
  · cases hp
end Go.Proofs.Ytlmihlepaoifiaa
