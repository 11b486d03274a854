import Derived.Test.YthdjlaombbeagaaGreatJOArgs
import Derived.Test.YthdjlaombbeagaaGreatJFAlike
import Derived.Shelf.RegionOpen
import Derived.Test.YthdjlaombbeagaaGreatJVRef
import Derived.Test.YthdjlaombbeagaaGreatJORdRead
/-
  CONTRACT: slices.Compact at datoms.
-/
namespace Go.Proofs.YthdjlaombbeagaaGreat
open Go.RowKit Go.Shelf
open Go.Lib (keeps compactUpTo CompInv keeps_pos keeps_neg keeps_lt_one compactUpTo_all range_map_get)
open Go.Sort (HoldsK)

instance : DecidableEq Dat := fun a b => decidable_of_iff (a.e = b.e ∧ a.a = b.a ∧ valD a = valD b ∧ tailD a = tailD b) ⟨fun ⟨h1, h2, h3, h4⟩ => dat_eq h1 h2 h3 h4, fun h => by rw [h]; exact ⟨rfl, rfl, rfl, rfl⟩⟩
theorem eqInV9 (k n : Int) (s : ByteArray) (k' n' : Int) (s' : ByteArray) (w : World) : (Op.equalIn 9999 42 (.agg #[.int .i64 k, .int .i64 n, .string s]) (.agg #[.int .i64 k', .int .i64 n', .string s'])).run Tryz.prog w = .ok ((k == k') && ((n == n') && (s.toList == s'.toList))) w := by
  have u3 := Tryz.underlying3
  have u2 := Tryz.underlying2
  have u9 := Tryz.underlying9
  have a3 := Tryz.isAgg3
  have a2 := Tryz.isAgg2
  have a9 := Tryz.isAgg9
  have hS : Tryz.prog.underlying 42 = some (.struct (Tryz.prog.fieldsOf 42)) := by kernel_rfl
  have hp : Tryz.prog.stoodInHeld 42 = false := by kernel_rfl
  rw [show (9999 : Nat) = 9998 + 1 from rfl, run_equalIn_agg w 9998 42 _ _ hS hp]
  simp only [Program.fieldsOf, Tryz.underlying42]
  obtain ⟨b1, h1⟩ : ∃ b, (k == k') = b := ⟨_, rfl⟩
  obtain ⟨b2, h2⟩ : ∃ b, (n == n') = b := ⟨_, rfl⟩
  obtain ⟨b3, h3⟩ : ∃ b, (s.toList == s'.toList) = b := ⟨_, rfl⟩
  rw [h1, h2, h3]
  cases b1 <;> cases b2 <;> cases b3 <;> go_simp
theorem eqInD (x y : Dat) (w : World) : (Op.equalIn 10000 44 (.agg #[.int .i64 x.e, .int .i64 x.a, .int .i64 x.k, .int .i64 x.m, .string x.s, .int .i64 x.t, .bool x.add, .int .i64 x.fr, .int .i64 x.til]) (.agg #[.int .i64 y.e, .int .i64 y.a, .int .i64 y.k, .int .i64 y.m, .string y.s, .int .i64 y.t, .bool y.add, .int .i64 y.fr, .int .i64 y.til])).run Tryz.prog w = .ok (decide (x = y)) w := by
  have u4 := Tryz.underlying4
  have u2 := Tryz.underlying2
  have u9 := Tryz.underlying9
  have a4 := Tryz.isAgg4
  have a2 := Tryz.isAgg2
  have a9 := Tryz.isAgg9
  have aV := Tryz.isAgg42
  have hS : Tryz.prog.underlying 44 = some (.struct (Tryz.prog.fieldsOf 44)) := by kernel_rfl
  have hp : Tryz.prog.stoodInHeld 44 = false := by kernel_rfl
  have hV := fun w => eqInV9 x.k x.m x.s y.k y.m y.s w
  have hd : decide (x = y) = ((x.e == y.e) && ((x.a == y.a) && (((x.k == y.k) && ((x.m == y.m) && (x.s.toList == y.s.toList))) && ((x.t == y.t) && ((x.add == y.add) && ((x.fr == y.fr) && (x.til == y.til))))))) := by
    rw [Bool.eq_iff_iff]
    simp only [decide_eq_true_eq, Bool.and_eq_true, beq_iff_eq]
    constructor
    · intro h
      rw [h]
      exact ⟨rfl, rfl, ⟨rfl, rfl, rfl⟩, rfl, rfl, rfl, rfl⟩
    · rintro ⟨h1, h2, ⟨h3, h4, h5⟩, h6, h7, h8, h9⟩
      have h10 : x.s = y.s := by
        rw [ByteArray.toList_eq, ByteArray.toList_eq] at h5
        cases hx : x.s with
        | mk l =>
          cases hy : y.s with
          | mk l' =>
            rw [hx, hy] at h5
            cases l
            cases l'
            simpa using h5
      refine dat_eq h1 h2 ?_ ?_
      · unfold valD; rw [h3, h4, h10]
      · unfold tailD; rw [h6, h7, h8, h9]
  rw [hd, show (10000 : Nat) = 9999 + 1 from rfl, run_equalIn_agg w 9999 44 _ _ hS hp]
  simp only [Program.fieldsOf, Tryz.underlying44]
  obtain ⟨b1, h1⟩ : ∃ b, (x.e == y.e) = b := ⟨_, rfl⟩
  obtain ⟨b2, h2⟩ : ∃ b, (x.a == y.a) = b := ⟨_, rfl⟩
  obtain ⟨b3, h3⟩ : ∃ b, ((x.k == y.k) && ((x.m == y.m) && (x.s.toList == y.s.toList))) = b := ⟨_, rfl⟩
  obtain ⟨b4, h4⟩ : ∃ b, (x.t == y.t) = b := ⟨_, rfl⟩
  obtain ⟨b5, h5⟩ : ∃ b, (x.add == y.add) = b := ⟨_, rfl⟩
  obtain ⟨b6, h6⟩ : ∃ b, (x.fr == y.fr) = b := ⟨_, rfl⟩
  obtain ⟨b7, h7⟩ : ∃ b, (x.til == y.til) = b := ⟨_, rfl⟩
  rw [h3] at hV
  rw [h1, h2, h3, h4, h5, h6, h7]
  clear hd h3
  cases b1
  · go_simp
  cases b2
  · go_simp
  cases b3
  · go_simp
  cases b4
  · go_simp
  cases b5
  · go_simp
  cases b6
  · go_simp
  cases b7
  · go_simp
  · go_simp
theorem eqD_run (x y : Dat) (w : World) : (binOp .eql 44 (.agg #[.int .i64 x.e, .int .i64 x.a, .int .i64 x.k, .int .i64 x.m, .string x.s, .int .i64 x.t, .bool x.add, .int .i64 x.fr, .int .i64 x.til]) (.agg #[.int .i64 y.e, .int .i64 y.a, .int .i64 y.k, .int .i64 y.m, .string y.s, .int .i64 y.t, .bool y.add, .int .i64 y.fr, .int .i64 y.til])).run Tryz.prog w = .ok (.bool (decide (x = y))) w := by
  rw [run_eql_struct, eqInD]; rfl
theorem neD_run (x y : Dat) (w : World) : (binOp .neq 44 (.agg #[.int .i64 x.e, .int .i64 x.a, .int .i64 x.k, .int .i64 x.m, .string x.s, .int .i64 x.t, .bool x.add, .int .i64 x.fr, .int .i64 x.til]) (.agg #[.int .i64 y.e, .int .i64 y.a, .int .i64 y.k, .int .i64 y.m, .string y.s, .int .i64 y.t, .bool y.add, .int .i64 y.fr, .int .i64 y.til])).run Tryz.prog w = .ok (.bool (!decide (x = y))) w := by
  rw [run_neq_struct, eqInD]; rfl

/-- an array's part that reads as these datoms, and may be written -/
def RowD (W : World) (g o : Nat) (d : Array Dat) : Prop := ∀ j, j < d.size → DtAt W g (o + j * 9) d[j]! ∧ ∀ i, i < 9 → W.frozen? ⟨g, o + j * 9 + i, none⟩ = false
theorem rowD_of {W : World} {g : Nat} {d : Array Dat} (h : HoldsK cellsD 9 W g 0 d) : RowD W g 0 d := fun j hj => by
  have hx : d.toList[j]? = some d[j]! := by rw [getElem!_pos d j hj]; simp
  have c := fun i (hi : i < 9) => cells_holdsG cellsD_len (by decide) h hx hi
  rw [Nat.zero_add]
  exact ⟨fun i hi => (c i hi).1, fun i hi => (c i hi).2⟩
theorem RowD.draw {W : World} {g o : Nat} {d : Array Dat} (h : RowD W g o d) (n : Nat) : RowD (W.drewN n) g o d := h
theorem RowD.next {W W' : World} {B g o : Nat} {d : Array Dat} (h : RowD W g o d) (hb : Below B W W') (hg : g < B) : RowD W' g o d := fun j hj =>
  ⟨(h j hj).1.next hb hg, fun i hi => (hb.frozen (p := ⟨g, o + j * 9 + i, none⟩) hg).trans ((h j hj).2 i hi)⟩
theorem getElem!_setD (d : Array Dat) (k j : Nat) (x : Dat) (hk : k < d.size) : (d.setIfInBounds k x)[j]! = if j = k then x else d[j]! := by
  by_cases e : j = k
  · subst e
    rw [if_pos rfl, getElem!_pos (d.setIfInBounds j x) j (by simpa using hk)]; simp
  · rw [if_neg e]
    by_cases hj : j < d.size
    · rw [getElem!_pos (d.setIfInBounds k x) j (by simpa using hj), getElem!_pos d j hj]
      rw [Array.getElem_setIfInBounds, if_neg (by omega)]
    · rw [getElem!_neg (d.setIfInBounds k x) j (by simpa using hj), getElem!_neg d j hj]
/-- nine cells stored -/
def set9D (W : World) (b o : Nat) (x : Dat) : World := ((((((((W.setCell ⟨b, o, none⟩ (.int .i64 x.e)).setCell ⟨b, o + 1, none⟩ (.int .i64 x.a)).setCell ⟨b, o + 2, none⟩ (.int .i64 x.k)).setCell ⟨b, o + 3, none⟩ (.int .i64 x.m)).setCell ⟨b, o + 4, none⟩ (.string x.s)).setCell ⟨b, o + 5, none⟩ (.int .i64 x.t)).setCell ⟨b, o + 6, none⟩ (.bool x.add)).setCell ⟨b, o + 7, none⟩ (.int .i64 x.fr)).setCell ⟨b, o + 8, none⟩ (.int .i64 x.til)
theorem set9D_is (W : World) (b o : Nat) (x : Dat) : set9D W b o x = W.setCells b o (cellsD x) := rfl
theorem RowD.set {W : World} {g o : Nat} {d : Array Dat} (h : RowD W g o d) {k : Nat} (hk : k < d.size) (x : Dat) :
    RowD (set9D W g (o + k * 9) x) g o (d.setIfInBounds k x) := fun j hj => by
  have hj' : j < d.size := by simpa using hj
  rw [getElem!_setD d k j x hk, set9D_is]
  refine ⟨?_, fun i hi => by rw [World.frozen?_setCells]; exact (h j hj').2 i hi⟩
  by_cases e : j = k
  · subst e
    rw [if_pos rfl]
    intro i hi
    rw [World.cell?_setCells_in g (cellsD x) (o + j * 9) W (fun q hq => by rw [(h j hj').1 q hq]; rw [cellsD_len] at hq; rw [List.getElem?_eq_getElem (by rw [cellsD_len]; exact hq)]; rfl) i (by rw [cellsD_len]; exact hi)]
    first | rfl | rw [List.getElem?_eq_getElem (by rw [cellsD_len]; exact hi)]
  · rw [if_neg e]
    intro i hi
    rw [World.cell?_setCells_out g (cellsD x) (o + k * 9) W ⟨g, o + j * 9 + i, none⟩ (fun _ _ => by rw [cellsD_len]; show o + j * 9 + i < _ ∨ _ ≤ o + j * 9 + i; omega)]
    exact (h j hj').1 i hi
theorem below_set9D {W : World} {B b o : Nat} (hb : B ≤ b) (x : Dat) : Below B W (set9D W b o x) := by
  rw [set9D_is]
  exact below_setCells hb _ _ _ (Below.refl B W)
theorem size_set9D (W : World) (b o : Nat) (x : Dat) : (set9D W b o x).heap.size = W.heap.size := by
  unfold set9D; simp
/-- what stands ahead of some place, as a slice -/
theorem RowD.sl {W : World} {g o : Nat} {d : Array Dat} (h : RowD W g o d) {r : List Dat} (hr : ∀ j v, r[j]? = some v → j < d.size ∧ v = d[j]!) : SlD W (g + 1) (some ⟨g, o, none⟩) r := fun _ =>
  ⟨g, o, rfl, Nat.lt_succ_self _, fun j v hv => by obtain ⟨h1, h2⟩ := hr j v hv; rw [h2]; exact (h j h1).1⟩
/-- clear of a rest -/
theorem clearD_run (w : World) (b o n c : Nat) (hn : 0 < n) (hc : ∀ j, j < n * 9 → (w.cell? ⟨b, o + j, none⟩).isSome = true) (hf : ∀ j, j < n * 9 → w.frozen? ⟨b, o + j, none⟩ = false) :
    ∃ vs : List Value, vs.length = n * 9 ∧ ∀ ty, (Builtin.clear_ #[22] ty #[.slice (some ⟨b, o, none⟩) n c]).run Tryz.prog w = .ok (.tuple #[]) (w.setCells b o vs) := by
  have ht : Tryz.prog.underlying 22 = some (.slice 44) := Tryz.underlying22
  have hv : ∀ w, (zeroValue 44).run Tryz.prog w = .ok (.agg #[.int .i64 0, .int .i64 0, .int .i64 0, .int .i64 0, .string ⟨#[]⟩, .int .i64 0, .bool false, .int .i64 0, .int .i64 0]) w := fun w => by kernel_rfl
  obtain ⟨z, hz⟩ : ∃ z, (Value.agg #[.int .i64 0, .int .i64 0, .int .i64 0, .int .i64 0, .string ⟨#[]⟩, .int .i64 0, .bool false, .int .i64 0, .int .i64 0]).cells = z := ⟨_, rfl⟩
  have hz9 : z.size = 9 := by rw [← hz]; rfl
  have hlen : (Builtin.zeroCells z n).toList.length = n * 9 := by simp [Builtin.zeroCells, hz9]
  refine ⟨(Builtin.zeroCells z n).toList, hlen, fun ty => ?_⟩
  have h1 : ∀ v ∈ (Builtin.zeroCells z n).toList, v.oneCell' = true := by
    intro v hv
    simp only [Builtin.zeroCells, Array.toList_map, List.mem_map] at hv
    obtain ⟨i, _, rfl⟩ := hv
    have hm : i % z.size < 9 := by rw [hz9]; exact Nat.mod_lt _ (by decide)
    generalize i % z.size = q at hm
    rw [← hz]
    rcases (by omega : q = 0 ∨ q = 1 ∨ q = 2 ∨ q = 3 ∨ q = 4 ∨ q = 5 ∨ q = 6 ∨ q = 7 ∨ q = 8) with rfl | rfl | rfl | rfl | rfl | rfl | rfl | rfl | rfl <;> rfl
  have hst := run_storeCells_cells (P := Tryz.prog) b o (Builtin.zeroCells z n).toList 0 w (by intro j hj; rw [hlen] at hj; rw [Nat.add_zero]; exact hc j hj) (by intro j hj; rw [hlen] at hj; rw [Nat.add_zero]; exact hf j hj) h1
  simp only [Nat.add_zero] at hst
  obtain ⟨m, rfl⟩ : ∃ m, n = m + 1 := ⟨n - 1, by omega⟩
  simp [Builtin.clear_, run_underlying ht, hv, hz, hst]
/-- what Compact leaves -/
def CompEndD (g o cap n0 : Nat) (d : Array Dat) (w : World) (e : Ending) (w' : World) : Prop :=
  ∃ r : List Dat, r = compactUpTo d d.size ∧ e = .returned (.slice (some ⟨g, o, none⟩) r.length cap) ∧ SlD w' (g + 1) (some ⟨g, o, none⟩) r ∧ Below n0 w w' ∧ g + 1 ≤ w'.heap.size
theorem compEndD_all {g o cap n0 : Nat} {d : Array Dat} {w wr : World} (hH : RowD wr g o d) (hb : Below n0 w wr) (hg : g < wr.heap.size) (hall : ∀ j, j < d.size → keeps d j = true) :
    CompEndD g o cap n0 d w (.returned (.slice (some ⟨g, o, none⟩) d.size cap)) wr := by
  have e : compactUpTo d d.size = d.toList := by rw [compactUpTo_all d _ hall, range_map_get]
  refine ⟨d.toList, e.symm, by simp, hH.sl fun j v hv => ?_, hb, hg⟩
  obtain ⟨hj, e⟩ := List.getElem?_eq_some_iff.1 hv
  have hj' : j < d.size := by simpa using hj
  exact ⟨hj', by rw [getElem!_pos d j hj', ← e]; simp⟩
theorem compEndD_cut {g o cap n0 : Nat} {d dk : Array Dat} {w wr : World} {k : Nat} (vs : List Value) (hI : CompInv d d.size k dk) (hH : RowD wr g o dk) (hn : n0 ≤ g) (hb : Below n0 w wr) (hg : g < wr.heap.size) :
    CompEndD g o cap n0 d w (.returned (.slice (some ⟨g, o, none⟩) k cap)) (wr.setCells g (o + k * 9) vs) := by
  refine ⟨compactUpTo d d.size, rfl, by rw [hI.len], fun _ => ⟨g, o, rfl, Nat.lt_succ_self _, fun j v hv => ?_⟩, below_setCells hn vs _ _ hb, ?_⟩
  · obtain ⟨hj, _⟩ := List.getElem?_eq_some_iff.1 hv
    rw [hI.len] at hj
    have hjd : j < dk.size := by have := hI.lt; have := hI.size; omega
    have e := hI.low j hj
    rw [hv] at e
    have e2 := Option.some.inj e
    have hat := (hH j hjd).1
    rw [e2]
    intro b hb
    rw [World.cell?_setCells_out g vs _ _ _ fun _ _ => .inl (by show o + j * 9 + b < _; omega)]
    exact hat b hb
  · have := (below_setCells (B := 0) (b := g) (Nat.zero_le _) vs (o + k * 9) wr (Below.refl 0 wr)).size
    omega

set_option maxRecDepth 100000 in
set_option maxHeartbeats 2000000 in
theorem compD_any (g o cap : Nat) (d : Array Dat) (w : World) (n0 : Nat) (hn : n0 ≤ g) (hg : g < w.heap.size) (hH : RowD w g o d) (hsz : d.size ≤ 2000000000000) (hcap : d.size ≤ cap) :
    Calls Tryz.prog 41 #[.slice (some ⟨g, o, none⟩) d.size cap] w (CompEndD g o cap n0 d w) := by
  by_cases h2 : d.size < 2
  · have HE : Hid (CompEndD g o cap n0 d w (.returned (.slice (some ⟨g, o, none⟩) d.size cap)) w) := compEndD_all hH (Below.refl _ _) hg fun j hj => keeps_lt_one d j (by omega)
    clear hH
    go_enter Tryz.func41, Tryz.ntmps41
    go_wp2
    go_ret
    exact HE.out
  · have HH := Lib.hid hH
    clear hH
    go_enter Tryz.func41, Tryz.ntmps41
    go_wp2
    go_loopg [3] d.size (fun g' s3 wr => ∃ k q : Nat, 1 ≤ k ∧ k ≤ d.size ∧ d.size - k ≤ g' ∧ s3 = .int .i64 k ∧ wr = w.drewN q ∧ Hid (∀ j, j < k → keeps d j = true))
    case atStart => exact ⟨1, 0, Nat.le_refl _, by omega, by omega, rfl, rfl, keeps_lt_one d⟩
    case round =>
      obtain ⟨k, q, hk1, hk, hg', rfl, rfl, A⟩ := hrel
      by_cases hlt : k < d.size
      · have hc := (HH.out k hlt).1
        have c0 := hc.c0
        have c1 := hc.c1
        have c2 := hc.c2
        have c3 := hc.c3
        have c4 := hc.c4
        have c5 := hc.c5
        have c6 := hc.c6
        have c7 := hc.c7
        have c8 := hc.c8
        clear hc
        have he := (HH.out (k - 1) (by omega)).1
        have e0 := he.c0
        have e1 := he.c1
        have e2 := he.c2
        have e3 := he.c3
        have e4 := he.c4
        have e5 := he.c5
        have e6 := he.c6
        have e7 := he.c7
        have e8 := he.c8
        clear he
        generalize hx : d[k]! = x at c0 c1 c2 c3 c4 c5 c6 c7 c8
        generalize hy : d[k - 1]! = y at e0 e1 e2 e3 e4 e5 e6 e7 e8
        have B : Hid (d[k]! = x ∧ d[k - 1]! = y) := ⟨hx, hy⟩
        clear hx hy
        have hw1 : IntKind.i64.wrap ((k : Int) - 1) = ((k - 1 : Nat) : Int) := by
          rw [show ((k - 1 : Nat) : Int) = (k : Int) - 1 from by omega]; exact IntWalk.i64_in _ (by omega)
        by_cases hdup : x = y
        · have hq := fun w => eqD_run x y w
          rw [decide_eq_true hdup] at hq
          have HW : Hid (RowD (w.drewN q) g o d ∧ Below n0 w (w.drewN q)) := ⟨HH.out.draw q, below_drewN w q⟩
          have hsl : ∀ w, (Instr.slice 22 (.slice (some ⟨g, o, none⟩) d.size cap) (some (.int .i64 (k : Int))) none none).run Tryz.prog w = .ok (.slice (some ⟨g, o + k * 9, none⟩) (d.size - k) (cap - k)) w := fun w => by
            rw [sliceD_from _ _ _ _ hk hcap, cutD, if_neg (by omega)]
            show Result.ok (Value.slice (some (Addr.add ⟨g, o, none⟩ (k * 9))) _ _) _ = _
            rw [addI]
          go_wp2
          go_quiet (fail)
          have HW2 : Hid (RowD (w.drewN (q + nq)) g o d ∧ Below n0 w (w.drewN (q + nq))) := ⟨HH.out.draw (q + nq), below_drewN w (q + nq)⟩
          have HK : Hid (keeps d k = false) := keeps_neg (by omega) (by rw [B.out.1, B.out.2, hdup])
          clear c0 c1 c2 c3 c4 c5 c6 c7 c8 e0 e1 e2 e3 e4 e5 e6 e7 e8 hq HW hdup
          go_wp2
          go_loopg [3, 5] d.size (fun g' s3 s5 wr => ∃ (kk k2 : Nat) (dk : Array Dat), s3 = .int .i64 kk ∧ s5 = .int .i64 k2 ∧ 1 ≤ k2 ∧ k + k2 ≤ d.size ∧ d.size - (k + k2) ≤ g' ∧ Hid (RowD wr g o dk) ∧ Hid (CompInv d (k + k2) kk dk) ∧ Hid (Below n0 w wr) ∧ g < wr.heap.size)
          case atStart => exact ⟨k, 1, d, rfl, rfl, Nat.le_refl _, by omega, by omega, HW2.out.1, CompInv.start A.out HK.out, HW2.out.2, hg⟩
          case round =>
            obtain ⟨kk, k2, dk, rfl, rfl, h1, hle, hg2, RK, IK, BK, hgr⟩ := hrel
            have hkk := IK.out.lt
            have hds := IK.out.size
            by_cases hlt2 : k + k2 < d.size
            · have hc := (RK.out (k + k2) (by omega)).1
              have c0 := hc.c0
              have c1 := hc.c1
              have c2 := hc.c2
              have c3 := hc.c3
              have c4 := hc.c4
              have c5 := hc.c5
              have c6 := hc.c6
              have c7 := hc.c7
              have c8 := hc.c8
              clear hc
              have he := (RK.out (k + k2 - 1) (by omega)).1
              have e0 := he.c0
              have e1 := he.c1
              have e2 := he.c2
              have e3 := he.c3
              have e4 := he.c4
              have e5 := he.c5
              have e6 := he.c6
              have e7 := he.c7
              have e8 := he.c8
              clear he
              have hro := RK.out kk (by omega)
              have o0 := hro.1.c0
              have o1 := hro.1.c1
              have o2 := hro.1.c2
              have o3 := hro.1.c3
              have o4 := hro.1.c4
              have o5 := hro.1.c5
              have o6 := hro.1.c6
              have o7 := hro.1.c7
              have o8 := hro.1.c8
              have f0 : wr.frozen? ⟨g, o + kk * 9, none⟩ = false := hro.2 0 (by decide)
              have f1 := hro.2 1 (by decide)
              have f2 := hro.2 2 (by decide)
              have f3 := hro.2 3 (by decide)
              have f4 := hro.2 4 (by decide)
              have f5 := hro.2 5 (by decide)
              have f6 := hro.2 6 (by decide)
              have f7 := hro.2 7 (by decide)
              have f8 := hro.2 8 (by decide)
              clear hro
              rw [IK.out.high (k + k2) (by omega), show o + (k + k2) * 9 = o + k * 9 + k2 * 9 from by omega] at c0 c1 c2 c3 c4 c5 c6 c7 c8
              rw [IK.out.high (k + k2 - 1) (by omega), show o + (k + k2 - 1) * 9 = o + k * 9 + (k2 - 1) * 9 from by omega] at e0 e1 e2 e3 e4 e5 e6 e7 e8
              generalize hu : d[k + k2]! = u at c0 c1 c2 c3 c4 c5 c6 c7 c8
              generalize hv : d[k + k2 - 1]! = v at e0 e1 e2 e3 e4 e5 e6 e7 e8
              have C : Hid (d[k + k2]! = u ∧ d[k + k2 - 1]! = v) := ⟨hu, hv⟩
              have hw2 : IntKind.i64.wrap ((k2 : Int) - 1) = ((k2 - 1 : Nat) : Int) := by
                rw [show ((k2 - 1 : Nat) : Int) = (k2 : Int) - 1 from by omega]; exact IntWalk.i64_in _ (by omega)
              have HDS := Lib.hid hds
              clear hu hv hds
              have hlt3 : k2 < d.size - k := by omega
              by_cases huv : u = v
              · have hq := fun w => neD_run u v w
                rw [decide_eq_true huv] at hq
                have HN : Hid (keeps d (k + k2) = false) := keeps_neg (by omega) (by rw [C.out.1, C.out.2, huv])
                clear huv
                go_wp2
                go_quiet (fail)
                have HW3 : Hid (RowD (wr.drewN nq) g o dk ∧ Below n0 w (wr.drewN nq)) := ⟨RK.out.draw nq, BK.out.trans (below_drewN _ nq)⟩
                go_wp2
                go_roundg (d.size - (k + (k2 + 1)))
                case measure => omega
                case rel => exact ⟨kk, k2 + 1, dk, rfl, by go_num, by omega, by omega, Nat.le_refl _, HW3.out.1, IK.out.skip HN.out, HW3.out.2, hgr⟩
              · have hq := fun w => neD_run u v w
                rw [decide_eq_false huv] at hq
                have HN : Hid (keeps d (k + k2) = true) := keeps_pos (by rw [C.out.1, C.out.2]; exact huv)
                clear huv
                go_wp2
                go_quiet (fail)
                go_wp2
                go_roundg (d.size - (k + (k2 + 1)))
                case measure => omega
                case rel => exact ⟨kk + 1, k2 + 1, dk.setIfInBounds kk u, by go_num, by go_num, by omega, by omega, Nat.le_refl _, (RK.out.draw nq).set (by rw [HDS.out]; omega) u, (by have := IK.out.keep hlt2 HN.out; rwa [C.out.1] at this), (BK.out.trans (below_drewN _ nq)).trans (below_set9D hn u), (by show g < (set9D (wr.drewN nq) g (o + kk * 9) u).heap.size; rw [size_set9D]; exact hgr)⟩
            · have hend : k + k2 = d.size := by omega
              have hlt3 : ¬ k2 < d.size - k := by omega
              have hkc : kk < cap := by omega
              obtain ⟨vs, hvl, hcl⟩ := clearD_run wr g (o + kk * 9) (d.size - kk) (cap - kk) (by omega) (fun j hj => by
                obtain ⟨p, i, hi, rfl⟩ : ∃ p i, i < 9 ∧ j = p * 9 + i := ⟨j / 9, j % 9, by omega, by omega⟩
                rw [show o + kk * 9 + (p * 9 + i) = o + (kk + p) * 9 + i from by omega, (RK.out (kk + p) (by omega)).1 i hi, List.getElem?_eq_getElem (by rw [cellsD_len]; exact hi)]; rfl) (fun j hj => by
                obtain ⟨p, i, hi, rfl⟩ : ∃ p i, i < 9 ∧ j = p * 9 + i := ⟨j / 9, j % 9, by omega, by omega⟩
                rw [show o + kk * 9 + (p * 9 + i) = o + (kk + p) * 9 + i from by omega]
                exact (RK.out (kk + p) (by omega)).2 i hi)
              have hsl2 : ∀ w, (Instr.slice 22 (.slice (some ⟨g, o, none⟩) d.size cap) (some (.int .i64 (kk : Int))) none none).run Tryz.prog w = .ok (.slice (some ⟨g, o + kk * 9, none⟩) (d.size - kk) (cap - kk)) w := fun w => by
                rw [sliceD_from _ _ _ _ (by omega) hcap, cutD, if_neg (by omega)]
                show Result.ok (Value.slice (some (Addr.add ⟨g, o, none⟩ (kk * 9))) _ _) _ = _
                rw [addI]
              have HE : Hid (CompEndD g o cap n0 d w (.returned (.slice (some ⟨g, o, none⟩) kk cap)) (wr.setCells g (o + kk * 9) vs)) := compEndD_cut vs (hend ▸ IK.out) RK.out hn BK.out hgr
              have hkn : kk ≤ d.size := by omega
              have hkn2 : kk ≤ cap := by omega
              go_wp2
              go_ret
              exact HE.out
        · have hq := fun w => eqD_run x y w
          rw [decide_eq_false hdup] at hq
          go_wp2
          go_quiet (fail)
          go_wp2
          go_roundg (d.size - (k + 1))
          case measure => omega
          case rel =>
            refine ⟨k + 1, _, by omega, by omega, Nat.le_refl _, by go_num, rfl, fun j hj => ?_⟩
            by_cases e : j = k
            · subst e
              exact keeps_pos (by rw [B.out.1, B.out.2]; exact hdup)
            · exact A.out j (by omega)
      · have hkd : k = d.size := by omega
        have HE : Hid (CompEndD g o cap n0 d w (.returned (.slice (some ⟨g, o, none⟩) d.size cap)) (w.drewN q)) := compEndD_all (HH.out.draw q) (below_drewN w q) hg fun j hj => A.out j (by omega)
        go_wp2
        go_ret
        exact HE.out
end Go.Proofs.YthdjlaombbeagaaGreat

/-
  CONTRACT over datoms: Compare.
-/
namespace Go.Proofs.YthdjlaombbeagaaGreat
open Go.RowKit Go.Shelf
attribute [local go_sem] Oper.semAt_some

theorem DatAt.kept {W W' : World} {b : Nat} {d : Dat} {row : Option Nat} (h : DatAt W b d) (hg : W.grownBy W' row) (hr : some b ≠ row) : DatAt W' b d := (hg.block b h.lt hr).trans h
theorem PlcAt.kept {W W' : World} {b pe pa pv : Nat} {row : Option Nat} (h : PlcAt W b pe pa pv) (hg : W.grownBy W' row) (hr : some b ≠ row) : PlcAt W' b pe pa pv := (hg.block b h.lt hr).trans h
/-- the parts, E, A and V at any three places -/
def partsPl (pe pa pv : Nat) (d : Dat) : List PartP := (List.range 7).map (partPl pe pa pv d)
theorem partsPl_len (pe pa pv : Nat) (d : Dat) : (partsPl pe pa pv d).length = 7 := by unfold partsPl; simp
theorem partsPl_get (pe pa pv : Nat) (d : Dat) (i : Nat) (h : i < (partsPl pe pa pv d).length) : (partsPl pe pa pv d)[i] = partPl pe pa pv d i := by
  simp only [partsPl, List.getElem_map, List.getElem_range]
/-- what stands behind some rounds: all so far were the same -/
def DMid (w : World) (n bs bb bp pe pa pv : Nat) (a b : Dat) (pre : List (Fin 7)) (W : World) : Prop :=
  n ≤ W.heap.size ∧ Boxed W bs 3 (.int .i64 0) ∧ DatAt W bb b ∧ PlcAt W bp pe pa pv ∧ Below w.heap.size w W ∧ (pre <+: allF → ordPF (partsPl pe pa pv a) (partsPl pe pa pv b) 0 = ordPF (partsPl pe pa pv a) (partsPl pe pa pv b) pre.length)
theorem dMid_own (w : World) (bs bb bp pe pa pv n : Nat) (a b : Dat) (h0 : w.heap.size ≤ n) (h1 : bs < n) (h2 : bb < n) (h3 : bp < n) : OwnFrom n (DMid w n bs bb bp pe pa pv a b) := fun pre X Y row ⟨g0, g1, g2, g3, g4, g5⟩ hg hr => by
  have hne : ∀ b, b < n → some b ≠ row := fun b hb e => by have := (hr b e.symm).1; omega
  exact ⟨Nat.le_trans g0 hg.size, g1.kept hg (hne _ h1), g2.kept hg (hne _ h2), g3.kept hg (hne _ h3), g4.grown hg g4.size (fun j ej => by have := (hr j ej).1; omega), g5⟩
def DStop (w : World) (bs pe pa pv : Nat) (a b : Dat) (cd : Code) (pre : List (Fin 7)) (W : World) : Prop :=
  cd = .exit 0 ∧ Below w.heap.size w W ∧ ∃ g : Int, Boxed W bs 3 (.int .i64 g) ∧ (pre <+: allF → ordPF (partsPl pe pa pv a) (partsPl pe pa pv b) 0 = g)
theorem dStop_own (w : World) (bs pe pa pv n : Nat) (a b : Dat) (h0 : w.heap.size ≤ n) (h1 : bs < n) (cd : Code) : OwnFrom n (DStop w bs pe pa pv a b cd) := fun pre X Y row ⟨e, g4, g, g1, g5⟩ hg hr => by
  have hne : ∀ b, b < n → some b ≠ row := fun b hb e => by have := (hr b e.symm).1; omega
  exact ⟨e, g4.grown hg g4.size (fun j ej => by have := (hr j ej).1; omega), g, g1.kept hg (hne _ h1), g5⟩

theorem PartBox.k0 {W : World} {b : Nat} {p : PartP} (h : PartBox W b p) : W.cell? ⟨b, 0, none⟩ = some (.bool p.v) := h.cell 0
theorem PartBox.k1 {W : World} {b : Nat} {p : PartP} (h : PartBox W b p) : W.cell? ⟨b, 1, none⟩ = some (.int .i64 p.n) := h.cell 1
theorem PartBox.k2 {W : World} {b : Nat} {p : PartP} (h : PartBox W b p) : W.cell? ⟨b, 2, none⟩ = some (.int .i64 p.k) := h.cell 2
theorem PartBox.k3 {W : World} {b : Nat} {p : PartP} (h : PartBox W b p) : W.cell? ⟨b, 3, none⟩ = some (.int .i64 p.m) := h.cell 3
theorem PartBox.k4 {W : World} {b : Nat} {p : PartP} (h : PartBox W b p) : W.cell? ⟨b, 4, none⟩ = some (.string p.s) := h.cell 4
theorem PartBox.lt {W : World} {b : Nat} {p : PartP} (h : PartBox W b p) : b < W.heap.size := (Array.getElem?_eq_some_iff.1 h).1
theorem boxed_next {W W' : World} {b B : Nat} {t : TypeId} {v : Value} (h : Boxed W b t v) (hb : Below B W W') (hB : b < B) : Boxed W' b t v := boxed_below h hb hB
/-- one more round, and the two parts are the same -/
theorem dmid_step {w W W5 : World} {n bs bb bp pe pa pv Ba Bd : Nat} {a b : Dat} {pre : List (Fin 7)} {x : Fin 7} (h : DMid w n bs bb bp pe pa pv a b pre W) (hb : Below W.heap.size W W5) (h0 : w.heap.size ≤ bs) (hd : bs ≠ bb ∧ bs ≠ bp ∧ bs ≠ Ba ∧ bs ≠ Bd) (hab : Ba < n ∧ Bd < n) (hg : ordP (partPl pe pa pv a x.val) (partPl pe pa pv b x.val) = 0) :
    KeepsFrom n W (W5.setCell ⟨bs, 0, none⟩ (.int .i64 0)) ∧ Keep2 w.heap.size Ba Bd W (W5.setCell ⟨bs, 0, none⟩ (.int .i64 0)) ∧ DMid w n bs bb bp pe pa pv a b (pre ++ [x]) (W5.setCell ⟨bs, 0, none⟩ (.int .i64 0)) := by
  obtain ⟨gn, g1, g2, g3, g4, g5⟩ := h
  have b1 := boxed_next g1 hb g1.lt
  have hne : ∀ k, bs ≠ k → (W5.setCell ⟨bs, 0, none⟩ (.int .i64 0)).heap[k]? = W5.heap[k]? := fun k hk => Below.heap_setCell _ ⟨bs, 0, none⟩ _ k (fun e => hk e.symm)
  have hK : Keep2 w.heap.size Ba Bd W (W5.setCell ⟨bs, 0, none⟩ (.int .i64 0)) := (keep2_below hb g4.size (by omega) (by omega)).trans ⟨(Below.refl _ _).setCell (p := ⟨bs, 0, none⟩) h0 _, hne _ hd.2.2.1, hne _ hd.2.2.2⟩
  refine ⟨(keepsFrom_below hb).trans (keepsFrom_set (p := ⟨bs, 0, none⟩) b1 _), hK, (by have := hb.size; simp; omega), b1.set _, (hne _ hd.1).trans (g2.next hb g2.lt), (hne _ hd.2.1).trans (g3.next hb g3.lt), g4.trans hK.low, fun hp => ?_⟩
  obtain ⟨hl, hpp⟩ := allF_pre hp
  rw [g5 hpp, hl, List.length_append, List.length_singleton, hl]
  rw [ordPF_step (by rw [partsPl_len]; exact x.isLt) (by rw [partsPl_len]; exact x.isLt), partsPl_get, partsPl_get, hg, if_pos rfl]
theorem dstop_step {w W W5 : World} {n bs bb bp pe pa pv : Nat} {a b : Dat} {pre : List (Fin 7)} {x : Fin 7} {g : Int} (h : DMid w n bs bb bp pe pa pv a b pre W) (hb : Below W.heap.size W W5) (h0 : w.heap.size ≤ bs) (hg : ordP (partPl pe pa pv a x.val) (partPl pe pa pv b x.val) = g) (hz : g ≠ 0) :
    KeepsFrom n W (W5.setCell ⟨bs, 0, none⟩ (.int .i64 g)) ∧ DStop w bs pe pa pv a b (.exit 0) (pre ++ [x]) (W5.setCell ⟨bs, 0, none⟩ (.int .i64 g)) := by
  obtain ⟨gn, g1, g2, g3, g4, g5⟩ := h
  have b1 := boxed_next g1 hb g1.lt
  refine ⟨(keepsFrom_below hb).trans (keepsFrom_set (p := ⟨bs, 0, none⟩) b1 _), rfl, (g4.trans (hb.mono g4.size)).setCell (p := ⟨bs, 0, none⟩) h0 _, g, b1.set _, fun hp => ?_⟩
  obtain ⟨hl, hpp⟩ := allF_pre hp
  rw [g5 hpp, hl]
  rw [ordPF_step (by rw [partsPl_len]; exact x.isLt) (by rw [partsPl_len]; exact x.isLt), partsPl_get, partsPl_get, hg, if_neg hz]

set_option maxRecDepth 100000 in
set_option maxHeartbeats 2000000 in
theorem cmpD_in (m : Nat) (hm3 : Hid (3 ≤ m)) (o : Int) (pe pa pv : Nat) (hpl : ∀ X, Calls Tryz.prog 62 #[.int .i64 o] X fun e w' => e = .returned (.tuple #[.agg #[.int .i64 (pe : Int), .int .i64 (pa : Int), .int .i64 (pv : Int)], .bool true]) ∧ Below X.heap.size X w') (d b : Dat) (w : World) :
    CallsIn Fence.wide m Tryz.prog 40 #[.int .i64 o, .agg #[.int .i64 d.e, .int .i64 d.a, .int .i64 d.k, .int .i64 d.m, .string d.s, .int .i64 d.t, .bool d.add, .int .i64 d.fr, .int .i64 d.til], .agg #[.int .i64 b.e, .int .i64 b.a, .int .i64 b.k, .int .i64 b.m, .string b.s, .int .i64 b.t, .bool b.add, .int .i64 b.fr, .int .i64 b.til]] w fun e w' => e = .returned (.int .i64 (ordPF (partsPl pe pa pv d) (partsPl pe pa pv b) 0)) ∧ Below w.heap.size w w' := by
  have HPL := Lib.hid hpl
  clear hpl
  refine callsIn_of_wp_marks Tryz.func40 rfl trivial ?_ rfl
  simp only [Tryz.ntmps40, List.size_toArray, List.length_cons, List.length_nil, Nat.reduceAdd, Nat.reduceSub, Array.replicate_succ, Array.replicate_zero, List.push_toArray, List.append_toArray, List.nil_append, List.cons_append]
  gi_wp2_with fail
  refine wpIn_wide.2 ?_
  go_step3
  refine (wpIn_wide (n := m)).1 ?_
  gi_wp2_with fail
  obtain ⟨w0, hw0⟩ : ∃ w0, (w.alloc (.cells #[.int .i64 d.e, .int .i64 d.a, .int .i64 d.k, .int .i64 d.m, .string d.s, .int .i64 d.t, .bool d.add, .int .i64 d.fr, .int .i64 d.til] 44)).alloc (.cells #[.int .i64 b.e, .int .i64 b.a, .int .i64 b.k, .int .i64 b.m, .string b.s, .int .i64 b.t, .bool b.add, .int .i64 b.fr, .int .i64 b.til] 44) = w0 := ⟨_, rfl⟩
  have HB0 : Hid (Below w.heap.size w w0) := by rw [← hw0]; exact ((Below.refl _ _).alloc (Nat.le_refl _) _).alloc (by simp) _
  have HD0 : Hid (DatAt w0 (w.heap.size + 1) b) := by
    rw [← hw0]
    have := datAt_new (w.alloc (.cells #[.int .i64 d.e, .int .i64 d.a, .int .i64 d.k, .int .i64 d.m, .string d.s, .int .i64 d.t, .bool d.add, .int .i64 d.fr, .int .i64 d.til] 44)) b
    rwa [World.size_alloc] at this
  have HA0 : Hid (DatAt w0 w.heap.size d) := by rw [← hw0]; exact (datAt_new w d).alloc _
  rw [hw0]
  clear hw0
  refine ⟨trivial, wide_deep _, ?_⟩
  refine (callsIn_wide.2 (HPL.out _)).mono ?_
  rintro e w1 ⟨rfl, hb1⟩
  have HB1 := Lib.hid (HB0.out.trans (hb1.mono HB0.out.size))
  have HD1 := Lib.hid (HD0.out.next hb1 HD0.out.lt)
  have hx := ((HA0.out.next hb1 HA0.out.lt).alloc (.cells #[.int .i64 (pe : Int), .int .i64 (pa : Int), .int .i64 (pv : Int)] 106)).alloc (.cells #[.int .i64 0] 3)
  have d0 := hx.c0
  have d1 := hx.c1
  have d2 := hx.c2
  have d3 := hx.c3
  have d4 := hx.c4
  have d5 := hx.c5
  have d6 := hx.c6
  have d7 := hx.c7
  have d8 := hx.c8
  clear hb1 hx
  gi_wp2_with fail
  refine wpIn_wide.2 ?_
  go_step3
  gi_wp2_with fail
  refine ⟨trivial, wide_deep _, ?_⟩
  refine (callsIn_wide.2 (toldOfD_any _ _ _ _ _)).mono ?_
  rintro e w9 ⟨rfl, rfl⟩
  clear d0 d1 d2 d3 d4 d5 d6 d7 d8
  gi_wp2_with fail
  obtain ⟨W2, hW2⟩ : ∃ W2, ((((w1.alloc (.cells #[.int .i64 (pe : Int), .int .i64 (pa : Int), .int .i64 (pv : Int)] 106)).alloc (.cells #[.int .i64 0] 3)).alloc (.cells #[.int .i64 (pe : Int), .int .i64 (pa : Int), .int .i64 (pv : Int)] 106)).alloc (.cells #[.int .i64 d.e, .int .i64 d.a, .int .i64 d.k, .int .i64 d.m, .string d.s, .int .i64 d.t, .bool d.add, .int .i64 d.fr, .int .i64 d.til] 44)) = W2 := ⟨_, rfl⟩
  have hz : W2.heap.size = w1.heap.size + 4 := by rw [← hW2]; simp
  have hbz := HB1.out.size
  have hdz := HD1.out.lt
  have hBw : Below w.heap.size w W2 := by rw [← hW2]; exact (((HB1.out.alloc hbz _).alloc (by simp; omega) _).alloc (by simp; omega) _).alloc (by simp; omega) _
  have hP : Boxed W2 (w1.heap.size + 1) 3 (.int .i64 0) := by
    rw [← hW2]
    have := Boxed.new (w1.alloc (.cells #[.int .i64 (pe : Int), .int .i64 (pa : Int), .int .i64 (pv : Int)] 106)) 3 (.int .i64 0)
    rw [World.size_alloc] at this
    exact (this.alloc _).alloc _
  have hV0 : PlcAt W2 w1.heap.size pe pa pv := by rw [← hW2]; exact (((plcAt_new w1 pe pa pv).alloc _).alloc _).alloc _
  have hV1 : PlcAt W2 (w1.heap.size + 1 + 1) pe pa pv := by
    rw [← hW2]
    have := plcAt_new ((w1.alloc (.cells #[.int .i64 (pe : Int), .int .i64 (pa : Int), .int .i64 (pv : Int)] 106)).alloc (.cells #[.int .i64 0] 3)) pe pa pv
    rw [World.size_alloc, World.size_alloc] at this
    exact this.alloc _
  have hV2 : DatAt W2 (w1.heap.size + 1 + 1 + 1) d := by
    rw [← hW2]
    have := datAt_new (((w1.alloc (.cells #[.int .i64 (pe : Int), .int .i64 (pa : Int), .int .i64 (pv : Int)] 106)).alloc (.cells #[.int .i64 0] 3)).alloc (.cells #[.int .i64 (pe : Int), .int .i64 (pa : Int), .int .i64 (pv : Int)] 106)) d
    rw [World.size_alloc, World.size_alloc, World.size_alloc] at this
    exact this
  have hVb : DatAt W2 (w.heap.size + 1) b := by rw [← hW2]; exact (((HD1.out.alloc _).alloc _).alloc _).alloc _
  rw [hW2]
  clear hW2
  have hro : Fence.wide.round = none := rfl
  refine wpIn_rangeFunc_ownH hro (by have := hm3.out; omega) (gf := 100) (lb := #[.pointer (some ⟨w1.heap.size + 1 + 1, 0, none⟩), .pointer (some ⟨w1.heap.size + 1 + 1 + 1, 0, none⟩)]) rfl trivial (enters_of Tryz.func100 (by kernel_rfl) rfl)
    (toldD_stops (m - 1) w.heap.size (w1.heap.size + 1 + 1) (w1.heap.size + 1 + 1 + 1) pe pa pv d W2 (by omega) hV1 hV2)
    (fun h k => h.trans k) (fun W l o o' hl h h1 h2 => keep2_b (w := W2) (n₀ := w.heap.size) (by omega) (by omega) (by omega) W l o o' hl h h1 h2) (Below.refl _ _) (fun _ => rfl)
    (DMid w W2.heap.size (w1.heap.size + 1) (w.heap.size + 1) w1.heap.size pe pa pv d b) (DStop w (w1.heap.size + 1) pe pa pv d b) (dMid_own _ _ _ _ _ _ _ _ _ _ (by omega) (by omega) (by omega) (by omega)) (fun cd => dStop_own _ _ _ _ _ _ _ _ (by omega) (by omega) cd)
    ⟨Nat.le_refl _, hP, hVb, hV0, hBw, fun _ => rfl⟩
    (fun x a' W => ∃ g, PartBox W g (partPl pe pa pv d x.val) ∧ a' = { tmps := #[.int .i64 o, .agg #[.int .i64 d.e, .int .i64 d.a, .int .i64 d.k, .int .i64 d.m, .string d.s, .int .i64 d.t, .bool d.add, .int .i64 d.fr, .int .i64 d.til], .agg #[.int .i64 b.e, .int .i64 b.a, .int .i64 b.k, .int .i64 b.m, .string b.s, .int .i64 b.t, .bool b.add, .int .i64 b.fr, .int .i64 b.til], undef, .pointer (some ⟨w.heap.size, 0, none⟩), .pointer (some ⟨w.heap.size + 1, 0, none⟩), .int .i64 0, .pointer (some ⟨w1.heap.size, 0, none⟩), .bool true, .pointer (some ⟨w1.heap.size + 1, 0, none⟩), .int .i64 ((x.val : Nat) : Int), .pointer (some ⟨g, 0, none⟩), .tuple #[.agg #[.int .i64 (pe : Int), .int .i64 (pa : Int), .int .i64 (pv : Int)], .bool true], .int .i64 o, .tuple #[.agg #[.int .i64 (pe : Int), .int .i64 (pa : Int), .int .i64 (pv : Int)], .bool true], .agg #[.int .i64 (pe : Int), .int .i64 (pa : Int), .int .i64 (pv : Int)], .bool true, .bool true, .bool false, .agg #[.int .i64 (pe : Int), .int .i64 (pa : Int), .int .i64 (pv : Int)], .agg #[.int .i64 d.e, .int .i64 d.a, .int .i64 d.k, .int .i64 d.m, .string d.s, .int .i64 d.t, .bool d.add, .int .i64 d.fr, .int .i64 d.til], .func (.func 100) #[] #[.pointer (some ⟨w1.heap.size + 1 + 1, 0, none⟩), .pointer (some ⟨w1.heap.size + 1 + 1 + 1, 0, none⟩)], .int .i64 ((x.val : Nat) : Int), .agg #[.bool (partPl pe pa pv d x.val).v, .int .i64 (partPl pe pa pv d x.val).n, .int .i64 (partPl pe pa pv d x.val).k, .int .i64 (partPl pe pa pv d x.val).m, .string (partPl pe pa pv d x.val).s], undef, undef, undef, undef, undef, undef, undef, undef, undef], defers := [] })
    (fun x a' _ X Y row ⟨g, hg, e⟩ hgr hr => ⟨g, hg.kept hgr (fun r e => (hr r e).2), e⟩) ?assign ?body ?done ?stop
  case assign =>
    rintro lp pre x W K ⟨h0, h1, h2, h3, h4, h5⟩ hK
    gi_wp2
    refine hK _ _ (keepsFrom_below ((Below.refl _ W).alloc (Nat.le_refl _) _)) (keep2_below ((Below.refl _ W).alloc (Nat.le_refl _) _) (by omega) (by omega) (by omega)) ⟨(by simp; omega), h1.alloc _, h2.alloc _, h3.alloc _, h4.alloc h4.size _, h5⟩ ⟨W.heap.size, partBox_new _ _, rfl⟩
  case body =>
    rintro l pre x a' W hwl _ hMid ⟨g, hg, rfl⟩ hlt
    have HM := Lib.hid hMid
    obtain ⟨_, h1, h2, h3, h4, _⟩ := hMid
    have HG : Hid (PartBox W.drew g (partPl pe pa pv d x.val)) := hg
    have HS : Hid (Boxed W.drew (w1.heap.size + 1) 3 (.int .i64 0)) := h1
    have k0 : W.drew.cell? _ = _ := hg.k0
    have k1 : W.drew.cell? _ = _ := hg.k1
    have k2 : W.drew.cell? _ = _ := hg.k2
    have k3 : W.drew.cell? _ = _ := hg.k3
    have k4 : W.drew.cell? _ = _ := hg.k4
    have p0 : W.drew.cell? _ = _ := h3.c0
    have p1 : W.drew.cell? _ = _ := h3.c1
    have p2 : W.drew.cell? _ = _ := h3.c2
    have d0 : W.drew.cell? _ = _ := h2.c0
    have d1 : W.drew.cell? _ = _ := h2.c1
    have d2 : W.drew.cell? _ = _ := h2.c2
    have d3 : W.drew.cell? _ = _ := h2.c3
    have d4 : W.drew.cell? _ = _ := h2.c4
    have d5 : W.drew.cell? _ = _ := h2.c5
    have d6 : W.drew.cell? _ = _ := h2.c6
    have d7 : W.drew.cell? _ = _ := h2.c7
    have d8 : W.drew.cell? _ = _ := h2.c8
    obtain ⟨q, hq⟩ : ∃ q, partV (partPl pe pa pv b x.val) = q := ⟨_, rfl⟩
    have HPT := Lib.hid (fun X => part_any pe pa pv x.val b X)
    have hcp := fun X => cmpParts_any (partPl pe pa pv d x.val) (partPl pe pa pv b x.val) X
    obtain ⟨g0, hg0⟩ : ∃ g0, ordP (partPl pe pa pv d x.val) (partPl pe pa pv b x.val) = g0 := ⟨_, rfl⟩
    rw [hg0] at hcp
    change ∀ X, Calls _ _ #[_, partV (partPl pe pa pv b x.val)] _ _ at hcp
    rw [hq] at HPT hcp
    have HCP := Lib.hid hcp
    have HG0 := Lib.hid hg0
    have hfo : Tryz.prog.follows .mixedOrders = true := by kernel_rfl
    clear hq hcp hg0 hg h1 h2 h3 h4
    gi_wp2
    gi_region_with_o (first | (refine ⟨trivial, wide_deep _, (CallsIn.inRound l (callsIn_wide.2 (HPT.out _))).mono ?_⟩; rintro e W4 ⟨rfl, hb4⟩; have HB4 := Lib.hid hb4; have HG4 := Lib.hid (HG.out.next hb4 HG.out.lt); have m0 := HG4.out.k0; have m1 := HG4.out.k1; have m2 := HG4.out.k2; have m3 := HG4.out.k3; have m4 := HG4.out.k4; clear hb4) | (refine ⟨trivial, wide_deep _, (CallsIn.inRound l (callsIn_wide.2 (HCP.out _))).mono ?_⟩; rintro e W5 ⟨rfl, hb5⟩; have HBd := Lib.hid (HB4.out.trans (hb5.mono HB4.out.size)); have HB5 : Hid (Below W.heap.size W W5) := (Below.refl W.heap.size W).drew.trans HBd.out; have HS5 := Lib.hid (boxed_next HS.out HBd.out HS.out.lt); have s0 := HS5.out.cell; have s1 := HS5.out.frozen; clear hb5))
    all_goals by_cases hgz : g0 = 0
    all_goals first
      | (subst hgz
         gi_wp2
         exact dmid_step HM.out HB5.out (by omega) ⟨by omega, by omega, by omega, by omega⟩ ⟨by omega, by omega⟩ HG0.out)
      | (have hnz : (g0 != 0) = true := by simpa using hgz
         gi_wp2
         exact dstop_step HM.out HB5.out (by omega) HG0.out hgz)
  case done =>
    rintro D ys W hD hys ⟨_, h1, h2, h3, h4, h5⟩ hK
    have b0 := h1.cell
    have HE := Lib.hid (h4.trans (belowK_b (w := W2) (n₀ := w.heap.size) (by omega) W D _ (.deferred none) hD hK rfl rfl))
    have hF : ordPF (partsPl pe pa pv d) (partsPl pe pa pv b) 0 = 0 := by
      rw [h5 (by rw [hys]; exact List.prefix_refl _), hys, allF_len]
      exact ordPF_end (.inl (by rw [partsPl_len]; omega))
    have HF := Lib.hid hF
    clear h1 h2 h3 h4 h5 hys hF
    gi_wp2
    refine ⟨by simp, .inl ⟨_, _, rfl, run_takeDeferred hK, ?_⟩⟩
    exact ⟨_, results_tmp rfl _ _ _, by exact ⟨by rw [HF.out]; rfl, HE.out⟩⟩
  case stop =>
    rintro D cd pre W hD hsp ⟨rfl, h4, g, h1, h5⟩ hK
    have b0 := h1.cell
    have HE := Lib.hid (h4.trans (belowK_b (w := W2) (n₀ := w.heap.size) (by omega) W D _ (.deferred none) hD hK rfl rfl))
    have HF := Lib.hid (h5 hsp)
    clear h1 h4 h5 hsp
    gi_wp2
    refine ⟨by simp, .inl ⟨_, _, rfl, run_takeDeferred hK, ?_⟩⟩
    exact ⟨_, results_tmp rfl _ _ _, by exact ⟨by rw [HF.out]; rfl, HE.out⟩⟩
/-- Compare, in an order. -/
theorem cmpD_yes (o : Int) (a b : Dat) (w : World) (ho : isO o = true) :
    Calls Tryz.prog 40 #[.int .i64 o, .agg #[.int .i64 a.e, .int .i64 a.a, .int .i64 a.k, .int .i64 a.m, .string a.s, .int .i64 a.t, .bool a.add, .int .i64 a.fr, .int .i64 a.til], .agg #[.int .i64 b.e, .int .i64 b.a, .int .i64 b.k, .int .i64 b.m, .string b.s, .int .i64 b.t, .bool b.add, .int .i64 b.fr, .int .i64 b.til]] w fun e w' => e = .returned (.int .i64 (ordD o a b)) ∧ Below w.heap.size w w' := by
  have h := (callsIn_wide (n := 9)).1 (cmpD_in 9 (Nat.le_of_ble_eq_true rfl) o (plE o) (plA o) (plV o) (fun X => by have h9 := placesOf_any o X; rw [plcV_is ho, ho] at h9; exact h9) a b w)
  have e : ordPF (partsPl (plE o) (plA o) (plV o) a) (partsPl (plE o) (plA o) (plV o) b) 0 = ordD o a b := by
    unfold ordD
    rw [if_pos ho]; rfl
  rw [e] at h
  exact h
end Go.Proofs.YthdjlaombbeagaaGreat
