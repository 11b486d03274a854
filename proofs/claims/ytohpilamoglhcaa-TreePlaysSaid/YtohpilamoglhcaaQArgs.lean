/-
  ARGUMENTS: slices of bytes and of Ops that came in; that they read behind the call as before.
-/
import Derived.Test.YtohpilamoglhcaaRows
import Derived.Test.YtohpilamoglhcaaQAt
import Derived.ProofKit
import Derived.OpenShut
import Derived.ShutString
import Derived.ChangeOld
import Derived.ChangeSlices
import Derived.Carry
import Derived.Deep.Slices
import Derived.Lib.SmallJoins
namespace Go.Proofs.Ytohpilamoglhcaa
open Go.ChangeShapes Go.WideShapes Go.ChangeAt Go.RowKit Go.Joins Go.Deep

/-- a call that the statements make -/
structure OpP where
  kind : Int
  fr : Int
  k : By
  v : By
  t : By
  n : Int
/-- an Op in memory: six cells -/
structure OpAt (w : World) (b o : Nat) (x : OpP) : Prop where
  c0 : w.cell? ⟨b, o, none⟩ = some (.int .i64 x.kind)
  c1 : w.cell? ⟨b, o + 1, none⟩ = some (.int .u16 x.fr)
  c2 : ∃ A c, w.cell? ⟨b, o + 2, none⟩ = some (.slice A x.k.length c) ∧ SlB w w.heap.size A x.k ∧ (A = none → c = 0)
  c3 : ∃ A c, w.cell? ⟨b, o + 3, none⟩ = some (.slice A x.v.length c) ∧ SlB w w.heap.size A x.v ∧ (A = none → c = 0)
  c4 : ∃ A c, w.cell? ⟨b, o + 4, none⟩ = some (.slice A x.t.length c) ∧ SlB w w.heap.size A x.t ∧ (A = none → c = 0)
  c5 : w.cell? ⟨b, o + 5, none⟩ = some (.int .i64 x.n)
  lt : b < w.heap.size
  n0 : -9223372036854775808 ≤ x.n
  n1 : x.n ≤ 9223372036854775807
  f0 : 0 ≤ x.fr
  f1 : x.fr ≤ 65535
theorem slB_next {w X : World} {A : Option Addr} {k : By} (h : SlB w w.heap.size A k) (hX : Below w.heap.size w X) : SlB X X.heap.size A k := fun h0 => by
  obtain ⟨a, e, hlt, hc⟩ := h.next hX (Nat.le_refl _) h0
  exact ⟨a, e, Nat.lt_of_lt_of_le hlt hX.size, hc⟩
theorem OpAt.next {w w' : World} {b o : Nat} {x : OpP} (h : OpAt w b o x) (hb : Below w.heap.size w w') : OpAt w' b o x := by
  obtain ⟨h0, h1, ⟨A2, c2, h2, s2, n2⟩, ⟨A3, c3, h3, s3, n3⟩, ⟨A4, c4, h4, s4, n4⟩, h5, h6, h7, h8, h9, h10⟩ := h
  have hc : ∀ j v, w.cell? ⟨b, j, none⟩ = some v → w'.cell? ⟨b, j, none⟩ = some v := fun j v e => (hb.cell (p := ⟨b, j, none⟩) h6).trans e
  exact ⟨hc _ _ h0, hc _ _ h1, ⟨A2, c2, hc _ _ h2, slB_next s2 hb, n2⟩, ⟨A3, c3, hc _ _ h3, slB_next s3 hb, n3⟩, ⟨A4, c4, hc _ _ h4, slB_next s4 hb, n4⟩, hc _ _ h5, Nat.lt_of_lt_of_le h6 hb.size, h7, h8, h9, h10⟩
/-- a slice of Ops -/
def SlO (w : World) (A : Option Addr) (l : List OpP) : Prop := l ≠ [] → ∃ b o, A = some ⟨b, o, none⟩ ∧ ∀ (j : Nat) (x : OpP), l[j]? = some x → OpAt w b (o + j * 6) x
theorem SlO.next {w w' : World} {A : Option Addr} {l : List OpP} (h : SlO w A l) (hb : Below w.heap.size w w') : SlO w' A l := fun hl => by
  obtain ⟨b, o, e, hc⟩ := h hl
  exact ⟨b, o, e, fun j x hx => (hc j x hx).next hb⟩

theorem laidOut : laidOutB Try.prog = true := by kernel_rfl
theorem cells8 : Try.prog.cellsOf 5 = 1 := by kernel_rfl
theorem cellsOp : Try.prog.cellsOf 59 = 6 := by kernel_rfl
theorem cellsI : Try.prog.cellsOf 3 = 1 := by kernel_rfl
theorem cellsU16 : Try.prog.cellsOf 56 = 1 := by kernel_rfl
theorem cellsSB : Try.prog.cellsOf 57 = 1 := by kernel_rfl
theorem cell_lt {W : World} {a : Addr} {v : Value} (h : W.cell? a = some v) : a.block < W.heap.size := by
  unfold World.cell? at h
  cases hb : W.heap[a.block]? with
  | none => rw [hb] at h; cases h
  | some o => exact (Array.getElem?_eq_some_iff.1 hb).1
theorem okW8 {n : Int} (h : (Lit.int .u8 n).wf = true) : 0 ≤ n ∧ n < 256 := by
  have : IntKind.u8.min ≤ n ∧ n ≤ IntKind.u8.max := by simpa [Lit.wf] using h
  simp [IntKind.min, IntKind.max, IntKind.signed, IntKind.bits] at this
  omega
theorem okW16 {n : Int} (h : (Lit.int .u16 n).wf = true) : 0 ≤ n ∧ n ≤ 65535 := by
  have : IntKind.u16.min ≤ n ∧ n ≤ IntKind.u16.max := by simpa [Lit.wf] using h
  simp [IntKind.min, IntKind.max, IntKind.signed, IntKind.bits] at this
  omega
theorem okU32 {n : Int} (h : (Lit.int .u32 n).wf = true) : 0 ≤ n ∧ n < 4294967296 := by
  have : IntKind.u32.min ≤ n ∧ n ≤ IntKind.u32.max := by simpa [Lit.wf] using h
  simp [IntKind.min, IntKind.max, IntKind.signed, IntKind.bits] at this
  omega
theorem okW64 {n : Int} (h : (Lit.int .i64 n).wf = true) : -9223372036854775808 ≤ n ∧ n ≤ 9223372036854775807 := by
  have : IntKind.i64.min ≤ n ∧ n ≤ IntKind.i64.max := by simpa [Lit.wf] using h
  simp [IntKind.min, IntKind.max, IntKind.signed, IntKind.bits] at this
  omega

section
variable {H : Type} {enc : TypeId × Value → H}
set_option maxRecDepth 100000 in
/-- a cell that reads as bytes -/
theorem bytes_cell {W : World} {n : Nat} {cs : List Value} {d : DataW H} {Pl : List MemPlace} (hf : DataW.trod enc Try.prog W 0 (fun _ => true) true n 57 cs = some (d, Pl)) :
    ∃ (A : Option Addr) (c : Nat) (l : By), cs = [.slice A l.length c] ∧ SlB W W.heap.size A l ∧ (A = none → c = 0) ∧ l.length ≤ c ∧ c ≤ maxLen := by
  rcases open_ints Try.underlying57 Try.underlying5 cells8 hf with ⟨hcs, _⟩ | ⟨a, len, cap, zs, hcs, _, hl, hm, hz, _, hcell, hwz⟩
  · exact ⟨none, 0, [], hcs, fun h => absurd rfl h, fun _ => rfl, Nat.le_refl _, Nat.zero_le _⟩
  · simp only [if_true] at hz
    have hlen : ((zs.take len).map fun n => UInt8.ofNat n.toNat).length = len := by simp; omega
    refine ⟨some a, cap, (zs.take len).map fun n => UInt8.ofNat n.toNat, by rw [hlen]; exact hcs, fun hne => ⟨a, rfl, ?_, fun j x hx => ?_⟩, (fun e => by cases e), by rw [hlen]; exact hl, hm⟩
    · have h0 : 0 < len := by
        rcases Nat.eq_zero_or_pos len with e | e
        · exact absurd (List.length_eq_zero_iff.1 (by rw [hlen, e])) hne
        · exact e
      have := cell_lt (hcell 0 (by omega))
      rwa [add_block] at this
    · have hj : j < len := by have := (List.getElem?_eq_some_iff.1 hx).1; rwa [hlen] at this
      have hjz : j < zs.length := by omega
      rw [List.getElem?_map, List.getElem?_take, if_pos hj, List.getElem?_eq_getElem hjz] at hx
      have hx2 : UInt8.ofNat (zs[j]).toNat = x := by simpa using hx
      have hw := okW8 (hwz zs[j] (List.getElem_mem hjz))
      rw [hcell j hjz]
      have e : zs.getD j 0 = zs[j] := by rw [List.getD_eq_getElem?_getD, List.getElem?_eq_getElem hjz]; rfl
      rw [e, ← hx2, UInt8.toNat_ofNat']
      congr 2
      omega
set_option maxRecDepth 100000 in
theorem open_sl {W : World} {base : Nat} {v : Value} {d : DataW H} {p : List MemPlace} (hval : Value.okWide Try.prog W .any base 57 v) (h : DataW.Trod enc Try.prog W 0 (fun _ => true) true 57 v d p) :
    ∃ (A : Option Addr) (c : Nat) (l : By), v = .slice A l.length c ∧ SlB W W.heap.size A l ∧ l.length ≤ c ∧ c ≤ maxLen := by
  obtain ⟨a1, len, cap, rfl⟩ := okWide_slice Try.underlying57 hval
  obtain ⟨fuel, hf⟩ := h
  obtain ⟨A, c, l, hcs, hs, _, h1, h2⟩ := bytes_cell hf
  simp [Value.cells] at hcs
  obtain ⟨rfl, rfl, rfl⟩ := hcs
  exact ⟨_, _, _, rfl, hs, h1, h2⟩
set_option maxRecDepth 100000 in
theorem sl_after {W W' : World} {v : Value} {d : DataW H} {p : List MemPlace} (h : DataW.Trod enc Try.prog W 0 (fun _ => true) true 57 v d p) (hb : Below W.heap.size W W') (hlt : ∀ x ∈ p, x.block < W.heap.size) :
    DataW.Trod enc Try.prog W' 0 (fun b => decide (b < W.heap.size)) true 57 v d p := Below.trod laidOut (by kernel_rfl) (of_decide_eq_true (by kernel_rfl)) h hb hlt
set_option maxRecDepth 100000 in
/-- six cells that read as an Op -/
theorem op_cells {W : World} {n : Nat} {cs : List Value} {D : DataW H} {Pl : List MemPlace} (h : DataW.trod enc Try.prog W 0 (fun _ => true) true n 59 cs = some (D, Pl)) :
    ∃ (x : OpP) (A1 A2 A3 : Option Addr) (c1 c2 c3 : Nat), cs = [.int .i64 x.kind, .int .u16 x.fr, .slice A1 x.k.length c1, .slice A2 x.v.length c2, .slice A3 x.t.length c3, .int .i64 x.n] ∧
      (SlB W W.heap.size A1 x.k ∧ (A1 = none → c1 = 0)) ∧ (SlB W W.heap.size A2 x.v ∧ (A2 = none → c2 = 0)) ∧ (SlB W W.heap.size A3 x.t ∧ (A3 = none → c3 = 0)) ∧ (-9223372036854775808 ≤ x.n ∧ x.n ≤ 9223372036854775807) ∧ 0 ≤ x.fr ∧ x.fr ≤ 65535 := by
  obtain ⟨xs, n1, _, hx, hlen, hxl, hf⟩ := DataW.trod_struct Try.underlying59 h
  rw [cellsOp] at hlen
  match cs, hlen with
  | [c0, c1, c2, c3, c4, c5], _ =>
    match xs, hxl with
    | [x0, x1, x2, x3, x4, x5], _ =>
      have h0 : DataW.trod enc Try.prog W 0 (fun _ => true) true n1 3 ((([c0, c1, c2, c3, c4, c5] : List Value).drop 0).take (Try.prog.cellsOf 3)) = some x0 := hf 0 _ rfl
      have h1 : DataW.trod enc Try.prog W 0 (fun _ => true) true n1 56 ((([c0, c1, c2, c3, c4, c5] : List Value).drop 1).take (Try.prog.cellsOf 56)) = some x1 := hf 1 _ rfl
      have h2 : DataW.trod enc Try.prog W 0 (fun _ => true) true n1 57 ((([c0, c1, c2, c3, c4, c5] : List Value).drop 2).take (Try.prog.cellsOf 57)) = some x2 := hf 2 _ rfl
      have h3 : DataW.trod enc Try.prog W 0 (fun _ => true) true n1 57 ((([c0, c1, c2, c3, c4, c5] : List Value).drop 3).take (Try.prog.cellsOf 57)) = some x3 := hf 3 _ rfl
      have h4 : DataW.trod enc Try.prog W 0 (fun _ => true) true n1 57 ((([c0, c1, c2, c3, c4, c5] : List Value).drop 4).take (Try.prog.cellsOf 57)) = some x4 := hf 4 _ rfl
      have h5 : DataW.trod enc Try.prog W 0 (fun _ => true) true n1 3 ((([c0, c1, c2, c3, c4, c5] : List Value).drop 5).take (Try.prog.cellsOf 3)) = some x5 := hf 5 _ rfl
      rw [cellsI] at h0 h5
      rw [cellsU16] at h1
      rw [cellsSB] at h2 h3 h4
      obtain ⟨D2, P2⟩ := x2
      obtain ⟨D3, P3⟩ := x3
      obtain ⟨D4, P4⟩ := x4
      obtain ⟨i0, e0, _, w0⟩ := DataW.trod_int Try.underlying3 h0
      obtain ⟨i1, e1, _, w1⟩ := DataW.trod_int Try.underlying56 h1
      obtain ⟨A1, a1, l1, e2, s1, m1, _, _⟩ := bytes_cell h2
      obtain ⟨A2, a2, l2, e3, s2, m2, _, _⟩ := bytes_cell h3
      obtain ⟨A3, a3, l3, e4, s3, m3, _, _⟩ := bytes_cell h4
      obtain ⟨i5, e5, _, w5⟩ := DataW.trod_int Try.underlying3 h5
      simp at e0 e1 e2 e3 e4 e5
      subst e0 e1 e2 e3 e4 e5
      exact ⟨⟨i0, i1, l1, l2, l3, i5⟩, A1, A2, A3, a1, a2, a3, rfl, ⟨s1, m1⟩, ⟨s2, m2⟩, ⟨s3, m3⟩, okW64 w5, okW16 w1⟩
set_option maxRecDepth 100000 in
theorem open_ol {W : World} {base : Nat} {v : Value} {d : DataW H} {p : List MemPlace} (hval : Value.okWide Try.prog W .any base 45 v) (h : DataW.Trod enc Try.prog W 0 (fun _ => true) true 45 v d p) :
    ∃ (A : Option Addr) (c : Nat) (l : List OpP), v = .slice A l.length c ∧ SlO W A l ∧ l.length ≤ c ∧ c ≤ maxLen := by
  obtain ⟨a1, len, cap, rfl⟩ := okWide_slice Try.underlying45 hval
  obtain ⟨fuel, hf⟩ := h
  rcases open_slice Try.underlying45 hf with ⟨hcs, _⟩ | ⟨a, len', cap', m, n, D, Pl, hcs, _, hl, hcm, hm, hx, hi⟩
  · simp [Value.cells] at hcs
    obtain ⟨rfl, rfl, rfl⟩ := hcs
    exact ⟨none, 0, [], rfl, fun h => absurd rfl h, Nat.zero_le _, Nat.zero_le _⟩
  · simp [Value.cells] at hcs
    obtain ⟨rfl, rfl, rfl⟩ := hcs
    have hml : len ≤ m := by rw [hm]; split <;> omega
    have each : ∀ i, i < len → ∃ x : OpP, ∀ b o, a = ⟨b, o, none⟩ → OpAt W b (o + i * 6) x := fun i hi' => by
      obtain ⟨cs, hc, ht⟩ := hi i (by omega)
      rw [cellsOp] at hc
      obtain ⟨x, A1, A2, A3, c1, c2, c3, rfl, s1, s2, s3, hn, hfr⟩ := op_cells ht
      obtain ⟨_, _, hat⟩ := World.cells?_some hc
      refine ⟨x, fun b o e => ?_⟩
      subst e
      have hadd : ∀ k, ((⟨b, o, none⟩ : Addr).add (i * 6)).add k = ⟨b, o + i * 6 + k, none⟩ := fun k => by
        unfold Addr.add
        split <;> split <;> simp_all <;> omega
      have g : ∀ k, k < 6 → W.cell? ⟨b, o + i * 6 + k, none⟩ = ([Value.int .i64 x.kind, .int .u16 x.fr, .slice A1 x.k.length c1, .slice A2 x.v.length c2, .slice A3 x.t.length c3, .int .i64 x.n] : List Value)[k]? := fun k hk => by
        have := hat k hk
        rwa [hadd] at this
      have g0 := g 0 (by decide)
      rw [Nat.add_zero] at g0
      have hlt := cell_lt (show W.cell? ⟨b, o + i * 6, none⟩ = some (.int .i64 x.kind) from g0)
      exact ⟨g0, g 1 (by decide), ⟨A1, c1, g 2 (by decide), s1⟩, ⟨A2, c2, g 3 (by decide), s2⟩, ⟨A3, c3, g 4 (by decide), s3⟩, g 5 (by decide), hlt, hn.1, hn.2, hfr.1, hfr.2⟩
    have hch : ∃ f : Nat → OpP, ∀ i, i < len → ∀ b o, a = ⟨b, o, none⟩ → OpAt W b (o + i * 6) (f i) := by
      classical
      refine ⟨fun i => if h : i < len then (each i h).choose else ⟨0, 0, [], [], [], 0⟩, fun i h => ?_⟩
      simp only [h, dif_pos]
      exact (each i h).choose_spec
    obtain ⟨f, hfp⟩ := hch
    have hlf : ((List.range len).map f).length = len := by simp
    refine ⟨some a, cap, (List.range len).map f, by rw [hlf], fun hne => ?_, by rw [hlf]; exact hl, hcm⟩
    have h0 : 0 < len := by
      rcases Nat.eq_zero_or_pos len with e | e
      · exact absurd (by rw [e]; rfl) hne
      · exact e
    obtain ⟨cs0, hc0, ht0⟩ := hi 0 (by omega)
    rw [cellsOp] at hc0
    obtain ⟨x0, _, _, _, _, _, _, rfl, _⟩ := op_cells ht0
    obtain ⟨_, _, hat⟩ := World.cells?_some hc0
    obtain ⟨ab, ao, spot⟩ := a
    have hspot : spot = none := by simpa [Addr.add] using World.cell?_spot (hat 0 (by decide))
    subst hspot
    refine ⟨ab, ao, rfl, fun j q hq => ?_⟩
    have hj : j < len := by have := (List.getElem?_eq_some_iff.1 hq).1; rwa [hlf] at this
    have hqe : f j = q := by
      rw [List.getElem?_map, List.getElem?_range hj] at hq
      simpa using hq
    rw [← hqe]
    exact hfp j hj ab ao rfl
set_option maxRecDepth 100000 in
theorem ol_after {W W' : World} {v : Value} {d : DataW H} {p : List MemPlace} (h : DataW.Trod enc Try.prog W 0 (fun _ => true) true 45 v d p) (hb : Below W.heap.size W W') (hlt : ∀ x ∈ p, x.block < W.heap.size) :
    DataW.Trod enc Try.prog W' 0 (fun b => decide (b < W.heap.size)) true 45 v d p := Below.trod laidOut (by kernel_rfl) (of_decide_eq_true (by kernel_rfl)) h hb hlt
end
end Go.Proofs.Ytohpilamoglhcaa
