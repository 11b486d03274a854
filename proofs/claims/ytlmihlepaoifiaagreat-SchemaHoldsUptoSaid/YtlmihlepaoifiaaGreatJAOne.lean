import Derived.Deep.Slices
import Derived.JoinedCond
import Derived.Test.YtlmihlepaoifiaaGreatJOArgs
import Derived.Test.YtlmihlepaoifiaaGreatJSArgs
import Derived.Test.YtlmihlepaoifiaaGreatJFMay
import Derived.BigQuiet
/-
  ARGUMENTS: a slice of facts that came in, bounded by its bulk; that it reads behind the call as before.
-/
namespace Go.Proofs.YtlmihlepaoifiaaGreat
open Go.ChangeShapes Go.WideShapes Go.ChangeAt Go.RowKit Go.Joins Go.Deep

theorem cells6F : Tryz.prog.cellsOf 31 = 6 := by kernel_rfl
theorem cellsSS : Tryz.prog.cellsOf 29 = 1 := by kernel_rfl
section
variable {H : Type} {enc : TypeId × Value → H}
set_option maxRecDepth 100000 in
/-- a cell that reads as spans -/
theorem spans_cell {W : World} {n : Nat} {cs : List Value} {d : DataW H} {Pl : List MemPlace} (hf : DataW.trod enc Tryz.prog W 0 (fun _ => true) true n 29 cs = some (d, Pl)) :
    ∃ (v : Value) (l : List Sp), cs = [v] ∧ SVa W v l ∧ (∀ q ∈ l, SpOk q) ∧ l.length ≤ Rows.uptoBulk d ∧ (∀ n' c', v = .slice none n' c' → n' = 0 ∧ c' = 0) := by
  rcases open_slice Tryz.underlying29 hf with ⟨hcs, _⟩ | ⟨a, len, cap, m, n, D, Pl, hcs, _, hl, hcm, hm, hx, hi⟩
  · exact ⟨_, [], hcs, ⟨none, 0, rfl, fun h => absurd rfl h, Nat.zero_le _, Nat.zero_le _⟩, fun q hq => (by cases hq), Nat.zero_le _, fun n' c' e => by cases e; exact ⟨rfl, rfl⟩⟩
  · have hml : len ≤ m := by rw [hm]; split <;> omega
    have hd : d = .slice ((List.range len).map D) ((List.range (m - len)).map fun j => D (len + j)) := by have := congrArg Prod.fst hx; simpa using this
    have hbk : Rows.uptoBulkAll ((List.range len).map D) + 1 ≤ Rows.uptoBulk d := by rw [hd]; simp only [Rows.uptoBulk]; omega
    have hlen : len ≤ Rows.uptoBulkAll ((List.range len).map D) := by have := bulk_len ((List.range len).map D); simpa using this
    have each : ∀ i, i < len → ∃ q : Sp, (∀ j u, ([Value.int .i64 q.1, .int .i64 q.2] : List Value)[j]? = some u → W.cell? ((a.add (i * 2)).add j) = some u) ∧ SpOk q := fun i hi' => by
      obtain ⟨cs, hc, ht⟩ := hi i (by omega)
      rw [cells2S] at hc
      obtain ⟨q, rfl, hok⟩ := span_cells ht
      obtain ⟨_, _, hat⟩ := World.cells?_some hc
      refine ⟨q, fun j u hu => ?_, hok⟩
      have hj : j < 2 := (List.getElem?_eq_some_iff.1 hu).1
      rw [hat j hj]; exact hu
    have hch : ∃ f : Nat → Sp, ∀ i, i < len → (∀ j u, ([Value.int .i64 (f i).1, .int .i64 (f i).2] : List Value)[j]? = some u → W.cell? ((a.add (i * 2)).add j) = some u) ∧ SpOk (f i) := by
      classical
      refine ⟨fun i => if h : i < len then (each i h).choose else (0, 0), fun i h => ?_⟩
      simp only [h, dif_pos]
      exact (each i h).choose_spec
    obtain ⟨f, hfp⟩ := hch
    have hlf : ((List.range len).map f).length = len := by simp
    refine ⟨_, (List.range len).map f, hcs, ⟨some a, cap, by rw [hlf], fun hne => ?_, by rw [hlf]; exact hl, hcm⟩, fun q hq => ?_, by rw [hlf]; omega, fun n' c' e => by cases e⟩
    · have h0 : 0 < len := by
        rcases Nat.eq_zero_or_pos len with e | e
        · exact absurd (by rw [e]; rfl) hne
        · exact e
      obtain ⟨ab, ao, spot⟩ := a
      have hc0 := (hfp 0 h0).1 0 _ rfl
      have hspot : spot = none := by simpa [Addr.add] using World.cell?_spot hc0
      subst hspot
      have hb := cell_lt hc0
      rw [add_block, add_block] at hb
      refine ⟨ab, ao, rfl, hb, fun j q hq => ?_⟩
      have hj : j < len := by have := (List.getElem?_eq_some_iff.1 hq).1; rwa [hlf] at this
      have hqe : f j = q := by
        rw [List.getElem?_map, List.getElem?_range hj] at hq
        simpa using hq
      have hcc := (hfp j hj).1
      rw [hqe] at hcc
      have hadd : ∀ i, ((⟨ab, ao, none⟩ : Addr).add (j * 2)).add i = ⟨ab, ao + j * 2 + i, none⟩ := fun i => by
        unfold Addr.add
        split <;> split <;> simp_all <;> omega
      refine ⟨?_, ?_⟩
      · have := hcc 0 _ rfl; rwa [hadd] at this
      · have := hcc 1 _ rfl; rwa [hadd] at this
    · obtain ⟨i, hi', rfl⟩ := List.mem_map.1 hq
      exact (hfp i (by simpa using hi')).2
set_option maxRecDepth 100000 in
/-- six cells that read as a fact -/
theorem fact_cells {W : World} {n : Nat} {cs : List Value} {D : DataW H} {Pl : List MemPlace} (h : DataW.trod enc Tryz.prog W 0 (fun _ => true) true n 31 cs = some (D, Pl)) :
    ∃ (f : FactP) (sv : Value), cs = [.int .i64 f.e, .int .i64 f.a, .int .i64 f.k, .int .i64 f.m, .string f.s, sv] ∧ SVa W sv f.l ∧ (∀ q ∈ f.l, SpOk q) ∧ f.s.size ≤ maxLen ∧ f.s.size + f.l.length ≤ Rows.uptoBulk D ∧ (∀ n' c', sv = .slice none n' c' → n' = 0 ∧ c' = 0) := by
  obtain ⟨xs, n1, _, hx, hlen, hxl, hf⟩ := DataW.trod_struct Tryz.underlying31 h
  rw [cells6F] at hlen
  match cs, hlen with
  | [c0, c1, c2, c3, c4, c5], _ =>
    match xs, hxl with
    | [x0, x1, x2, x3], _ =>
      have h0 : DataW.trod enc Tryz.prog W 0 (fun _ => true) true n1 2 ((([c0, c1, c2, c3, c4, c5] : List Value).drop 0).take (Tryz.prog.cellsOf 2)) = some x0 := hf 0 _ rfl
      have h1 : DataW.trod enc Tryz.prog W 0 (fun _ => true) true n1 2 ((([c0, c1, c2, c3, c4, c5] : List Value).drop 1).take (Tryz.prog.cellsOf 2)) = some x1 := hf 1 _ rfl
      have h2 : DataW.trod enc Tryz.prog W 0 (fun _ => true) true n1 28 ((([c0, c1, c2, c3, c4, c5] : List Value).drop 2).take (Tryz.prog.cellsOf 28)) = some x2 := hf 2 _ rfl
      have h3 : DataW.trod enc Tryz.prog W 0 (fun _ => true) true n1 29 ((([c0, c1, c2, c3, c4, c5] : List Value).drop 5).take (Tryz.prog.cellsOf 29)) = some x3 := hf 3 _ rfl
      rw [cellsL64] at h0 h1
      rw [cells3] at h2
      rw [cellsSS] at h3
      obtain ⟨i0, e0, _, w0⟩ := DataW.trod_int Tryz.underlying2 h0
      obtain ⟨i1, e1, _, w1⟩ := DataW.trod_int Tryz.underlying2 h1
      obtain ⟨ys, n2, _, hy, _, hyl, hg⟩ := DataW.trod_struct Tryz.underlying28 h2
      obtain ⟨D3, P3⟩ := x3
      obtain ⟨sv, l, e3, hsv, hok, hbl, hnn⟩ := spans_cell h3
      match ys, hyl with
      | [y0, y1, y2], _ =>
        have g0 : DataW.trod enc Tryz.prog W 0 (fun _ => true) true n2 3 ((([c2, c3, c4] : List Value).drop 0).take (Tryz.prog.cellsOf 3)) = some y0 := hg 0 _ rfl
        rw [cellsI] at g0
        have g1 : DataW.trod enc Tryz.prog W 0 (fun _ => true) true n2 2 ((([c2, c3, c4] : List Value).drop 1).take (Tryz.prog.cellsOf 2)) = some y1 := hg 1 _ rfl
        rw [cellsL64] at g1
        have g2 : DataW.trod enc Tryz.prog W 0 (fun _ => true) true n2 9 ((([c2, c3, c4] : List Value).drop 2).take (Tryz.prog.cellsOf 9)) = some y2 := hg 2 _ rfl
        rw [cellsStr] at g2
        obtain ⟨k, f0, _, v0⟩ := DataW.trod_int Tryz.underlying3 g0
        obtain ⟨m, f1, _, v1⟩ := DataW.trod_int Tryz.underlying2 g1
        obtain ⟨s, f2, z2, v2⟩ := DataW.trod_string Tryz.underlying9 g2
        simp at e0 e1 e3 f0 f1 f2
        subst e0 e1 e3 f0 f1 f2
        refine ⟨⟨i0, i1, k, m, s, l⟩, c5, rfl, hsv, hok, v2, ?_, hnn⟩
        have hD : D = .agg [x0.1, x1.1, x2.1, D3] := by have := congrArg Prod.fst hx; simpa using this
        have hE : x2.1 = .agg [y0.1, y1.1, y2.1] := by have := congrArg Prod.fst hy; simpa using this
        have hs : s.data.toList.length = s.size := Array.length_toList
        rw [hD, hE, z2]
        simp only [Rows.uptoBulk, Rows.uptoBulkAll]
        omega
set_option maxRecDepth 100000 in
theorem open_fl {W : World} {base : Nat} {v : Value} {d : DataW H} {p : List MemPlace} (hval : Value.okWide Tryz.prog W .any base 22 v) (h : DataW.Trod enc Tryz.prog W 0 (fun _ => true) true 22 v d p) :
    ∃ (A : Option Addr) (c : Nat) (l : List FactP), v = .slice A l.length c ∧ FVa W (.slice A l.length c) l ∧ (∀ f ∈ l, ∀ q ∈ f.l, SpOk q) ∧ (∀ f ∈ l, f.s.size ≤ maxLen) ∧ (∀ f ∈ l, f.s.size + f.l.length ≤ Rows.uptoBulk d) ∧ l.length ≤ Rows.uptoBulk d := by
  obtain ⟨a1, len, cap, rfl⟩ := okWide_slice Tryz.underlying22 hval
  obtain ⟨fuel, hf⟩ := h
  rcases open_slice Tryz.underlying22 hf with ⟨hcs, _⟩ | ⟨a, len', cap', m, n, D, Pl, hcs, _, hl, hcm, hm, hx, hi⟩
  · simp [Value.cells] at hcs
    obtain ⟨rfl, rfl, rfl⟩ := hcs
    exact ⟨none, 0, [], rfl, ⟨none, 0, rfl, fun h => absurd rfl h, Nat.zero_le _, Nat.zero_le _⟩, (fun f hf => by cases hf), (fun f hf => by cases hf), (fun f hf => by cases hf), Nat.zero_le _⟩
  · simp [Value.cells] at hcs
    obtain ⟨rfl, rfl, rfl⟩ := hcs
    have hml : len ≤ m := by rw [hm]; split <;> omega
    have hd : d = .slice ((List.range len).map D) ((List.range (m - len)).map fun j => D (len + j)) := by have := congrArg Prod.fst hx; simpa using this
    have hbk : Rows.uptoBulkAll ((List.range len).map D) + 1 ≤ Rows.uptoBulk d := by rw [hd]; simp only [Rows.uptoBulk]; omega
    have hlen : len ≤ Rows.uptoBulkAll ((List.range len).map D) := by have := bulk_len ((List.range len).map D); simpa using this
    have each : ∀ i, i < len → ∃ q : FactP × Value, (∀ j u, ([Value.int .i64 q.1.e, .int .i64 q.1.a, .int .i64 q.1.k, .int .i64 q.1.m, .string q.1.s, q.2] : List Value)[j]? = some u → W.cell? ((a.add (i * 6)).add j) = some u) ∧ SVa W q.2 q.1.l ∧ (∀ z ∈ q.1.l, SpOk z) ∧ q.1.s.size ≤ maxLen ∧ q.1.s.size + q.1.l.length ≤ Rows.uptoBulk d := fun i hi' => by
      obtain ⟨cs, hc, ht⟩ := hi i (by omega)
      rw [cells6F] at hc
      obtain ⟨q, sv, rfl, hsv, hok, hsz, hbk2, _⟩ := fact_cells ht
      obtain ⟨_, _, hat⟩ := World.cells?_some hc
      refine ⟨(q, sv), fun j u hu => ?_, hsv, hok, hsz, ?_⟩
      · have hj : j < 6 := (List.getElem?_eq_some_iff.1 hu).1
        rw [hat j hj]; exact hu
      · have := bulk_mem (d := D i) (l := (List.range len).map D) (List.mem_map.2 ⟨i, by simpa using hi', rfl⟩)
        simp only
        omega
    have hch : ∃ f : Nat → FactP × Value, ∀ i, i < len → (∀ j u, ([Value.int .i64 (f i).1.e, .int .i64 (f i).1.a, .int .i64 (f i).1.k, .int .i64 (f i).1.m, .string (f i).1.s, (f i).2] : List Value)[j]? = some u → W.cell? ((a.add (i * 6)).add j) = some u) ∧ SVa W (f i).2 (f i).1.l ∧ (∀ z ∈ (f i).1.l, SpOk z) ∧ (f i).1.s.size ≤ maxLen ∧ (f i).1.s.size + (f i).1.l.length ≤ Rows.uptoBulk d := by
      classical
      refine ⟨fun i => if h : i < len then (each i h).choose else (⟨0, 0, 0, 0, ⟨#[]⟩, []⟩, .slice none 0 0), fun i h => ?_⟩
      simp only [h, dif_pos]
      exact (each i h).choose_spec
    obtain ⟨f, hfp⟩ := hch
    have hlf : ((List.range len).map fun i => (f i).1).length = len := by simp
    refine ⟨some a, cap, (List.range len).map fun i => (f i).1, by rw [hlf], ⟨some a, cap, rfl, fun hne => ?_, by rw [hlf]; exact hl, hcm⟩, fun q hq => ?_, fun q hq => ?_, fun q hq => ?_, by rw [hlf]; omega⟩
    · have h0 : 0 < len := by
        rcases Nat.eq_zero_or_pos len with e | e
        · exact absurd (by rw [e]; rfl) hne
        · exact e
      obtain ⟨ab, ao, spot⟩ := a
      have hc0 := (hfp 0 h0).1 0 _ rfl
      have hspot : spot = none := by simpa [Addr.add] using World.cell?_spot hc0
      subst hspot
      have hb := cell_lt hc0
      rw [add_block, add_block] at hb
      refine ⟨ab, ao, rfl, hb, fun j q hq => ?_⟩
      have hj : j < len := by have := (List.getElem?_eq_some_iff.1 hq).1; rwa [hlf] at this
      have hqe : (f j).1 = q := by
        rw [List.getElem?_map, List.getElem?_range hj] at hq
        simpa using hq
      have hcc := (hfp j hj).1
      have hsv := (hfp j hj).2.1
      rw [hqe] at hcc hsv
      have hadd : ∀ i, ((⟨ab, ao, none⟩ : Addr).add (j * 6)).add i = ⟨ab, ao + j * 6 + i, none⟩ := fun i => by
        unfold Addr.add
        split <;> split <;> simp_all <;> omega
      refine ⟨(f j).2, ⟨?_, ?_, ?_, ?_, ?_, ?_⟩, hsv⟩
      · have := hcc 0 _ rfl; rwa [hadd] at this
      · have := hcc 1 _ rfl; rwa [hadd] at this
      · have := hcc 2 _ rfl; rwa [hadd] at this
      · have := hcc 3 _ rfl; rwa [hadd] at this
      · have := hcc 4 _ rfl; rwa [hadd] at this
      · have := hcc 5 _ rfl; rwa [hadd] at this
    · obtain ⟨i, hi', rfl⟩ := List.mem_map.1 hq
      exact (hfp i (by simpa using hi')).2.2.1
    · obtain ⟨i, hi', rfl⟩ := List.mem_map.1 hq
      exact (hfp i (by simpa using hi')).2.2.2.1
    · obtain ⟨i, hi', rfl⟩ := List.mem_map.1 hq
      exact (hfp i (by simpa using hi')).2.2.2.2
set_option maxRecDepth 100000 in
theorem fl_after {W W' : World} {v : Value} {d : DataW H} {p : List MemPlace} (h : DataW.Trod enc Tryz.prog W 0 (fun _ => true) true 22 v d p) (hb : Below W.heap.size W W') (hlt : ∀ x ∈ p, x.block < W.heap.size) :
    DataW.Trod enc Tryz.prog W' 0 (fun b => decide (b < W.heap.size)) true 22 v d p := Below.trod laidOut (by kernel_rfl) (of_decide_eq_true (by kernel_rfl)) h hb hlt
end
end Go.Proofs.YtlmihlepaoifiaaGreat

/-
  CONTRACT: ofOne (the facts of the entity that stands first).
-/
namespace Go.Proofs.YtlmihlepaoifiaaGreat
open Go.RowKit Go.Shelf

/-- the first n facts are those of the entity that stands first -/
structure OneAt (fs : List FactP) (n : Nat) : Prop where
  pos : 1 ≤ n
  le : n ≤ fs.length
  same : ∀ i f g, i < n → fs[i]? = some f → fs[0]? = some g → f.e = g.e
  next : ∀ f g, fs[n]? = some f → fs[0]? = some g → f.e ≠ g.e
set_option maxRecDepth 100000 in
set_option maxHeartbeats 2000000 in
theorem ofOne_any (A : Option Addr) (c : Nat) (fs : List FactP) (w : World) (hs : FVa w (.slice A fs.length c) fs) (h0 : 0 < fs.length) (hl : fs.length ≤ 1954687338268) :
    Calls Tryz.prog 46 #[.slice A fs.length c] w fun e w' => (∃ n : Nat, e = .returned (.slice A n c) ∧ OneAt fs n) ∧ ∃ q, w' = w.drewN q := by
  obtain ⟨b, o, sv, rfl, hlt, hc, _⟩ := fva_at hs h0
  obtain ⟨f0, hf0⟩ : ∃ f0, fs[0] = f0 := ⟨_, rfl⟩
  have HF0 : Hid (fs[0]? = some f0) := by show _ = _; rw [List.getElem?_eq_getElem h0, hf0]
  rw [hf0] at hc
  have hcc : fs.length ≤ c := by obtain ⟨A2, c2, e, _, h2, _⟩ := hs; injection e with _ _ e; omega
  have z0 := hc.1
  simp only [Nat.zero_mul, Nat.add_zero] at z0
  have hi0 : (0 : Int) < (fs.length : Int) := by omega
  have HS := Lib.hid hs
  clear hs hc hf0
  go_enter Tryz.func46, Tryz.ntmps46
  go_wp2
  go_loopg [3] (fs.length - 1) (fun g x wr => ∃ (j q : Nat), x = .int .i64 j ∧ 1 ≤ j ∧ j + g = fs.length ∧ Hid (∀ i f, i < j → fs[i]? = some f → f.e = f0.e) ∧ wr = w.drewN q)
  case atStart =>
    refine ⟨1, 0, rfl, Nat.le_refl _, by omega, fun i f hi hf => ?_, rfl⟩
    obtain rfl : i = 0 := by omega
    rw [HF0.out] at hf
    cases hf
    rfl
  case round =>
    obtain ⟨j, q, rfl, hj1, hj, HJ, rfl⟩ := hrel
    cases gk with
    | zero =>
      have hji : decide ((j : Int) < (fs.length : Int)) = false := decide_eq_false (by omega)
      have hjl : ¬ (j : Int) < (fs.length : Int) := by omega
      have HE : Hid (OneAt fs j) := ⟨hj1, by omega, fun i f g hi hf hg => by rw [HF0.out] at hg; cases hg; exact HJ.out i f hi hf, fun f g hf => by rw [List.getElem?_eq_none (by omega)] at hf; cases hf⟩
      have hjd : decide (j < fs.length) = false := decide_eq_false (by omega)
      have hjm : ¬ j < fs.length := by omega
      have hjc : j ≤ c := by omega
      have hjf : j ≤ fs.length := by omega
      clear hj hj1
      go_wp2
      go_quiet (fail)
      go_wp2
      go_ret
      exact ⟨⟨j, rfl, HE.out⟩, _, rfl⟩
    | succ g =>
      have hji : decide ((j : Int) < (fs.length : Int)) = true := decide_eq_true (by omega)
      have hjl : (j : Int) < (fs.length : Int) := by omega
      have hjn : j < fs.length := by omega
      obtain ⟨b2, o2, sv2, hA, _, hc, _⟩ := fva_at HS.out hjn
      injection hA with hA
      injection hA with e1 e2
      subst e1
      subst e2
      obtain ⟨f, hf⟩ : ∃ f, fs[j] = f := ⟨_, rfl⟩
      rw [hf] at hc
      have HFG : Hid (fs[j]? = some f) := by show _ = _; rw [List.getElem?_eq_getElem hjn, hf]
      have y0 := hc.1
      have hjc : j ≤ c := by omega
      clear hf hc
      by_cases he : f.e = f0.e
      · have q0 : (f.e == f0.e) = true := by rw [he, beq_self_eq_true]
        have HN : Hid (∀ i f, i < j + 1 → fs[i]? = some f → f.e = f0.e) := fun i f' hi hf' => by
          by_cases h : i < j
          · exact HJ.out i f' h hf'
          · obtain rfl : i = j := by omega
            rw [HFG.out] at hf'
            cases hf'
            exact he
        clear he
        go_wp2
        go_quiet (fail)
        go_wp2
        go_roundg g
        case measure => omega
        case rel => exact ⟨j + 1, _, by go_num, by omega, by omega, HN, rfl⟩
      · have q0 : (f.e == f0.e) = false := beq_eq_false_iff_ne.2 he
        have HE : Hid (OneAt fs j) := ⟨hj1, by omega, fun i f g hi hf hg => by rw [HF0.out] at hg; cases hg; exact HJ.out i f hi hf, fun f' g hf hg => by rw [HF0.out] at hg; rw [HFG.out] at hf; cases hg; cases hf; exact he⟩
        clear he
        go_wp2
        go_quiet (fail)
        go_wp2
        go_ret
        exact ⟨⟨j, rfl, HE.out⟩, _, rfl⟩
end Go.Proofs.YtlmihlepaoifiaaGreat
