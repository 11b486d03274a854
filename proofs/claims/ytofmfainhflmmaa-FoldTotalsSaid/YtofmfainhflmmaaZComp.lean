/-
  CONTRACTS: slices.CompactFunc at rows; rows.sorted.
-/
import Derived.Test.YtofmfainhflmmaaZSortF
import Derived.Lib.SliceRun
import Derived.Lib.LazyBuf
import Derived.Deep.Draws
import Derived.Deep.LoopGhost
import Derived.Test.YtofmfainhflmmaaRegion
namespace Go.Proofs.Ytofmfainhflmmaa
open Go.RowKit Go.Shelf
open Go.Lib (keeps compactUpTo CompInv keeps_pos keeps_neg keeps_lt_one compactUpTo_all range_map_get)

theorem sliceR_from (A : Option Addr) (n c k : Nat) (hk : k ≤ n) (_hc : n ≤ c) (w : World) : (Instr.slice 32 (.slice A n c) (some (.int .i64 (k : Int))) none none).run Try.prog w = .ok (.slice (cut1 A c k) (n - k) (c - k)) w := by
  have hT : Try.prog.underlying 32 = some (.slice (Try.prog.elem 32)) := by kernel_rfl
  have hS : (Go.sizeOf (Try.prog.elem 32)).run Try.prog w = .ok 1 w := by kernel_rfl
  rw [run_slice_l (w := w) 32 A n c hT .i64 (k : Int) (by omega) (by omega), hS]
  simp [Result.andThen, sliced, cut1]
theorem sliceR_to (A : Option Addr) (n c k : Nat) (hk : k ≤ c) (w : World) : (Instr.slice 32 (.slice A n c) none (some (.int .i64 (k : Int))) none).run Try.prog w = .ok (.slice A k c) w := by
  have hT : Try.prog.underlying 32 = some (.slice (Try.prog.elem 32)) := by kernel_rfl
  have hS : (Go.sizeOf (Try.prog.elem 32)).run Try.prog w = .ok 1 w := by kernel_rfl
  rw [run_slice_h (w := w) 32 A n c hT .i64 (k : Int) (by omega) (by omega), hS]
  have := cut1_zero A c
  unfold cut1 at this
  simp [Result.andThen, sliced]
  simpa using this

set_option maxHeartbeats 400000 in
theorem same1_any (x y : Rw) (w : World) (hx : RwOk w w.heap.size x) (hy : RwOk w w.heap.size y) :
    Calls Try.prog 105 #[cellR x, cellR y] w fun e w' => e = .returned (.bool (decide (ordR x.l y.l = 0))) ∧ Below w.heap.size w w' := by
  have HC := Lib.hid (cmpR_any x y w hx hy)
  generalize hvx : cellR x = vx at HC ⊢
  generalize hvy : cellR y = vy at HC ⊢
  obtain ⟨n, hn⟩ : ∃ n, ordR x.l y.l = n := ⟨_, rfl⟩
  rw [hn] at HC ⊢
  clear hx hy hvx hvy hn
  go_enter Try.func105, Try.ntmps105
  go_wp2_with fail
  refine HC.out.mono ?_
  rintro e w2 ⟨rfl, hb2⟩
  go_wp2
  go_ret
  exact ⟨ret_bool (by rfl), hb2⟩

/-- a block whose rows, from a pool, hold this -/
def RowD (pool : List Rw) (W : World) (g : Nat) (d : Array (List Vl)) : Prop :=
  ∀ j, j < d.size → (∃ r, r ∈ pool ∧ W.cell? ⟨g, j, none⟩ = some (cellR r) ∧ r.l = d[j]!) ∧ W.frozen? ⟨g, j, none⟩ = false
theorem RowD.next {W W' : World} {pool : List Rw} {B g : Nat} {d : Array (List Vl)} (h : RowD pool W g d) (hb : Below B W W') (hg : g < B) : RowD pool W' g d := fun j hj => by
  obtain ⟨⟨r, h1, h2, h3⟩, h4⟩ := h j hj
  exact ⟨⟨r, h1, (hb.cell (p := ⟨g, j, none⟩) hg).trans h2, h3⟩, (hb.frozen (p := ⟨g, j, none⟩) hg).trans h4⟩
theorem getElem!_setD (d : Array (List Vl)) (k j : Nat) (x : List Vl) (hk : k < d.size) : (d.setIfInBounds k x)[j]! = if j = k then x else d[j]! := by
  by_cases e : j = k
  · subst e
    rw [if_pos rfl, getElem!_pos _ _ (by simpa using hk)]; simp
  · rw [if_neg e]
    by_cases hj : j < d.size
    · rw [getElem!_pos (d.setIfInBounds k x) j (by simpa using hj), getElem!_pos d j hj]
      rw [Array.getElem_setIfInBounds, if_neg (by omega)]
    · rw [getElem!_neg (d.setIfInBounds k x) j (by simpa using hj), getElem!_neg d j hj]
theorem RowD.set {W : World} {pool : List Rw} {g : Nat} {d : Array (List Vl)} (h : RowD pool W g d) {k : Nat} (hk : k < d.size) (x : Rw) (hx : x ∈ pool) :
    RowD pool (W.setCell ⟨g, k, none⟩ (.slice x.A x.l.length x.c)) g (d.setIfInBounds k x.l) := fun j hj => by
  have hj' : j < d.size := by simpa using hj
  obtain ⟨⟨r, h1, h2, h3⟩, h4⟩ := h j hj'
  obtain ⟨⟨q, k1, k2, k3⟩, k4⟩ := h k hk
  rw [getElem!_setD d k j x.l hk]
  refine ⟨?_, by simpa using h4⟩
  by_cases e : j = k
  · subst e
    rw [if_pos rfl]
    exact ⟨x, hx, by rw [World.cell?_setCell_same _ _ _ h2]; rfl, rfl⟩
  · rw [if_neg e]
    exact ⟨r, h1, by rw [World.cell?_setCell_other _ _ _ _ (by intro h; injection h with h1 h2; omega)]; exact h2, h3⟩
theorem setCells_other {b : Nat} : ∀ (vs : List Value) (o : Nat) (w : World) (j : Nat), j ≠ b → (w.setCells b o vs).heap[j]? = w.heap[j]?
  | [], _, _, _, _ => rfl
  | v :: vs, o, w, j, h => (setCells_other vs (o + 1) (w.setCell ⟨b, o, none⟩ v) j h).trans (Below.heap_setCell w ⟨b, o, none⟩ v j h)
theorem kp_set {g : Nat} (w : World) (k : Nat) (u : Value) : Kp g w (w.setCell ⟨g, k, none⟩ u) := ⟨rfl, rfl, rfl, by simp [World.setCell], fun j hj _ => Below.heap_setCell w ⟨g, k, none⟩ u j hj⟩
/-- clear of a rest -/
theorem clearR_run (w : World) (b o n c : Nat) (hn : 0 < n) (hc : ∀ j, j < n → (w.cell? ⟨b, o + j, none⟩).isSome = true) (hf : ∀ j, j < n → w.frozen? ⟨b, o + j, none⟩ = false) :
    ∃ vs : List Value, vs.length = n ∧ ∀ ty, (Builtin.clear_ #[32] ty #[.slice (some ⟨b, o, none⟩) n c]).run Try.prog w = .ok (.tuple #[]) (w.setCells b o vs) := by
  have ht : Try.prog.underlying 32 = some (.slice 46) := Try.underlying32
  have hv : ∀ w, (zeroValue 46).run Try.prog w = .ok (.slice none 0 0) w := fun w => by kernel_rfl
  refine ⟨(Builtin.zeroCells (Value.slice none 0 0).cells n).toList, ?_, fun ty => ?_⟩
  · simp [Builtin.zeroCells, Value.cells]
  have h1 : ∀ v ∈ (Builtin.zeroCells (Value.slice none 0 0).cells n).toList, v.oneCell' = true := by
    intro v hv
    simp only [Builtin.zeroCells, Array.toList_map, List.mem_map] at hv
    obtain ⟨i, _, rfl⟩ := hv
    have hm : i % (Value.slice none 0 0).cells.size < 1 := Nat.mod_lt _ (by decide)
    generalize i % (Value.slice none 0 0).cells.size = q at hm
    obtain rfl : q = 0 := by omega
    rfl
  have hlen : (Builtin.zeroCells (Value.slice none 0 0).cells n).toList.length = n := by simp [Builtin.zeroCells, Value.cells]
  have hst := run_storeCells_cells (P := Try.prog) b o (Builtin.zeroCells (Value.slice none 0 0).cells n).toList 0 w (by intro j hj; rw [hlen] at hj; rw [Nat.add_zero]; exact hc j hj) (by intro j hj; rw [hlen] at hj; rw [Nat.add_zero]; exact hf j hj) h1
  simp only [Nat.add_zero] at hst
  obtain ⟨m, rfl⟩ : ∃ m, n = m + 1 := ⟨n - 1, by omega⟩
  simp [Builtin.clear_, run_underlying ht, hv, hst]

/-- what Compact leaves -/
def CompEnd (g cap : Nat) (pool : List Rw) (d : Array (List Vl)) (w : World) (e : Ending) (w' : World) : Prop :=
  ∃ R : List Rw, txR R = compG ordR d.toList ∧ (∀ r ∈ R, r ∈ pool) ∧ e = .returned (.slice (some ⟨g, 0, none⟩) R.length cap) ∧ RowC w' g R ∧ Kp g w w' ∧ g + 1 ≤ w'.heap.size
theorem pick_rows {W : World} {pool : List Rw} {g : Nat} {d : Array (List Vl)} (h : RowD pool W g d) : ∀ (n : Nat), n ≤ d.size → ∃ R : List Rw, R.length = n ∧ (∀ r ∈ R, r ∈ pool) ∧ ∀ j (_ : j < n), ∃ r, R[j]? = some r ∧ (W.cell? ⟨g, j, none⟩ = some (cellR r) ∧ W.frozen? ⟨g, j, none⟩ = false) ∧ r.l = d[j]!
  | 0, _ => ⟨[], rfl, (fun r hr => by cases hr), fun j hj => absurd hj (Nat.not_lt_zero _)⟩
  | n + 1, hn => by
    obtain ⟨R, h1, h2, h3⟩ := pick_rows h n (by omega)
    obtain ⟨⟨r, k1, k2, k3⟩, k4⟩ := h n (by omega)
    refine ⟨R ++ [r], by simp [h1], fun x hx => ?_, fun j hj => ?_⟩
    · rcases List.mem_append.1 hx with e | e
      · exact h2 x e
      · rw [List.mem_singleton] at e
        rw [e]; exact k1
    · by_cases e : j = n
      · subst e
        exact ⟨r, by rw [List.getElem?_append_right (by omega), h1]; simp, ⟨k2, k4⟩, k3⟩
      · obtain ⟨q, a1, a2, a3⟩ := h3 j (by omega)
        exact ⟨q, by rw [List.getElem?_append_left (by omega)]; exact a1, a2, a3⟩
theorem compEnd_of {g cap n : Nat} {pool : List Rw} {d : Array (List Vl)} {w w' : World} {R : List Rw} {c : List (List Vl)} (hc : c = compG ordR d.toList) (hn : c.length = n) (hR : R.length = n) (hp : ∀ r ∈ R, r ∈ pool)
    (hx : ∀ j (_ : j < n), ∃ r, R[j]? = some r ∧ (w'.cell? ⟨g, j, none⟩ = some (cellR r) ∧ w'.frozen? ⟨g, j, none⟩ = false) ∧ c[j]? = some r.l) (hk : Kp g w w') (hg : g + 1 ≤ w'.heap.size) :
    CompEnd g cap pool d w (.returned (.slice (some ⟨g, 0, none⟩) n cap)) w' := by
  refine ⟨R, ?_, hp, by rw [hR], fun j r hr => ?_, hk, hg⟩
  · rw [← hc]
    apply List.ext_getElem?
    intro j
    unfold txR
    rw [List.getElem?_map]
    by_cases hj : j < n
    · obtain ⟨r, h1, _, h3⟩ := hx j hj
      rw [h1, h3]; rfl
    · rw [List.getElem?_eq_none (by omega), List.getElem?_eq_none (by omega)]; rfl
  · have hj : j < n := by have := (List.getElem?_eq_some_iff.1 hr).1; omega
    obtain ⟨q, h1, h2, _⟩ := hx j hj
    rw [hr] at h1
    rw [Option.some.inj h1]; exact h2
theorem compEnd_all {g cap : Nat} {pool : List Rw} {d : Array (List Vl)} {w wr : World} [DecidableEq (List Vl)] (hH : RowD pool wr g d) (hb : Kp g w wr) (hg : g < wr.heap.size) (hall : ∀ j, j < d.size → keeps d j = true) :
    CompEnd g cap pool d w (.returned (.slice (some ⟨g, 0, none⟩) d.size cap)) wr := by
  have e : d.toList = compG ordR d.toList := by rw [← compAll ordR_is d, compactUpTo_all d _ hall, range_map_get]
  obtain ⟨R, h1, h2, h3⟩ := pick_rows hH d.size (Nat.le_refl _)
  refine compEnd_of (c := d.toList) e (by simp) h1 h2 (fun j hj => ?_) hb hg
  obtain ⟨r, a1, a2, a3⟩ := h3 j hj
  refine ⟨r, a1, a2, ?_⟩
  rw [a3, getElem!_pos d j hj, List.getElem?_eq_getElem (by simpa using hj)]; simp
theorem compEnd_cut {g cap : Nat} {pool : List Rw} {d dk : Array (List Vl)} {w wr : World} [DecidableEq (List Vl)] {k : Nat} (vs : List Value) (hI : CompInv d d.size k dk) (hH : RowD pool wr g dk) (hb : Kp g w wr) (hg : g < wr.heap.size) :
    CompEnd g cap pool d w (.returned (.slice (some ⟨g, 0, none⟩) k cap)) (wr.setCells g k vs) := by
  have hk : k ≤ dk.size := by have := hI.lt; have := hI.size; omega
  obtain ⟨R, h1, h2, h3⟩ := pick_rows hH k hk
  refine compEnd_of (c := compactUpTo d d.size) (compAll ordR_is d) hI.len h1 h2 (fun j hj => ?_) ?_ ?_
  · obtain ⟨r, a1, a2, a3⟩ := h3 j hj
    refine ⟨r, a1, ?_, ?_⟩
    · rw [World.cell?_setCells_out g vs _ _ _ fun _ _ => .inl (by show j < _; omega), World.frozen?_setCells]
      exact a2
    · rw [a3]; exact hI.low j hj
  · have hbb := below_setCells (B := g) (b := g) (Nat.le_refl _) vs k wr (Below.refl g wr)
    refine hb.trans ⟨hbb.os, hbb.tape, hbb.output, hbb.size, fun j hj _ => ?_⟩
    exact (setCells_other vs k wr j hj)
  · have := (below_setCells (B := 0) (b := g) (Nat.zero_le _) vs k wr (Below.refl 0 wr)).size
    omega

/-- what the comparing regions read -/
def CsA (wr : World) (p q : Addr) (vx vy : Value) (W : World) : Prop := W.cell? p = some vx ∧ W.cell? q = some vy ∧ (p.block < wr.heap.size ∧ q.block < wr.heap.size) ∧ Below wr.heap.size wr W
theorem CsA.next {wr : World} {p q : Addr} {vx vy : Value} {W W' : World} (h : CsA wr p q vx vy W) (hb : Below W.heap.size W W') : CsA wr p q vx vy W' :=
  ⟨(hb.cell (Nat.lt_of_lt_of_le h.2.2.1.1 h.2.2.2.size)).trans h.1, (hb.cell (Nat.lt_of_lt_of_le h.2.2.1.2 h.2.2.2.size)).trans h.2.1, h.2.2.1, h.2.2.2.trans (hb.mono h.2.2.2.size)⟩
theorem CsA.start {wr : World} {p q : Addr} {vx vy : Value} (h1 : wr.cell? p = some vx) (h2 : wr.cell? q = some vy) (h3 : p.block < wr.heap.size) (h4 : q.block < wr.heap.size) : CsA wr p q vx vy wr.drew :=
  ⟨h1, h2, ⟨h3, h4⟩, (Below.refl _ _).drew⟩

open Classical in
set_option maxRecDepth 100000 in
set_option maxHeartbeats 2000000 in
theorem compR_any (g cap : Nat) (pool : List Rw) (d : Array (List Vl)) (w : World) (hg : g < w.heap.size) (hH : RowD pool w g d) (hok : ∀ r ∈ pool, RwN w g r) (hsz : d.size ≤ 1000000000000) (hcap : d.size ≤ cap) :
    Calls Try.prog 104 #[.slice (some ⟨g, 0, none⟩) d.size cap, .func (.func 105) #[] #[]] w (CompEnd g cap pool d w) := by
  by_cases h2 : d.size < 2
  · have HE : Hid (CompEnd g cap pool d w (.returned (.slice (some ⟨g, 0, none⟩) d.size cap)) w) := compEnd_all hH (Kp.refl _ _) hg fun j hj => keeps_lt_one d j (by omega)
    have h2i : (d.size : Int) < 2 := by omega
    clear hH
    go_enter Try.func104, Try.ntmps104
    go_wp2
    go_ret
    exact HE.out
  · have h2i : ¬ (d.size : Int) < 2 := by omega
    have HH := Lib.hid hH
    have HOK := Lib.hid hok
    clear hH hok
    go_enter Try.func104, Try.ntmps104
    go_wp2
    go_loopg [5] d.size (fun g' s3 wr => ∃ k : Nat, 1 ≤ k ∧ k ≤ d.size ∧ d.size - k ≤ g' ∧ s3 = .int .i64 k ∧ Hid (Below w.heap.size w wr) ∧ Hid (∀ j, j < k → keeps d j = true))
    case atStart => exact ⟨1, Nat.le_refl _, by omega, by omega, rfl, Below.refl _ _, keeps_lt_one d⟩
    case round =>
      obtain ⟨k, hk1, hk, hg', rfl, HB, A⟩ := hrel
      by_cases hlt : k < d.size
      · have hlti : (k : Int) < (d.size : Int) := by omega
        obtain ⟨⟨x, hxp, hxc, hxe⟩, _⟩ := (HH.out.next HB.out hg) k hlt
        obtain ⟨⟨y, hyp, hyc, hye⟩, _⟩ := (HH.out.next HB.out hg) (k - 1) (by omega)
        have HXY : Hid (d[k]! = x.l ∧ d[k - 1]! = y.l) := ⟨hxe.symm, hye.symm⟩
        have hw1 : IntKind.i64.wrap ((k : Int) - 1) = ((k - 1 : Nat) : Int) := by
          rw [show ((k - 1 : Nat) : Int) = (k : Int) - 1 from by omega]; exact IntWalk.i64_in _ (by omega)
        have hgw : g < wr.heap.size := Nat.lt_of_lt_of_le hg HB.out.size
        have hk1lt : k - 1 < d.size := by omega
        have HC := Lib.hid (fun W (hb : Below wr.heap.size wr W) => same1_any x y W ((HOK.out x hxp).keep ((Kp.of_below HB.out).trans (Kp.of_below hb))).ok ((HOK.out y hyp).keep ((Kp.of_below HB.out).trans (Kp.of_below hb))).ok)
        obtain ⟨A1, c1, l1⟩ := x
        obtain ⟨A2, c2, l2⟩ := y
        unfold cellR at hxc hyc HC
        clear hxe hye
        have hxi : (decide (ordR l1 l2 = 0)) = decide (ordR l1 l2 = 0) := rfl
        obtain ⟨q, hq⟩ : ∃ q, decide (ordR l1 l2 = 0) = q := ⟨_, rfl⟩
        have HQ := Lib.hid hq
        rw [hq] at HC
        have HSD1 := Lib.hid (CsA.start hxc hyc hgw hgw)
        obtain ⟨wd1, hwd1⟩ : ∃ wd, wr.drew = wd := ⟨_, rfl⟩
        rw [hwd1] at HSD1
        clear hxc hyc hq hxi
        go_wp2_with fail
        refine wp_region_held_drew (S := CsA wr ⟨g, k, none⟩ ⟨g, k - 1, none⟩ (.slice A1 l1.length c1) (.slice A2 l2.length c2)) (by kernel_rfl) (by rw [hwd1]; exact HSD1.out) (fun hHeld => ?_)
        rw [hwd1] at hHeld ⊢
        clear hwd1
        refine takeV 0 (some 18) ((.func (.func 105) #[] #[])) rfl rfl (by kernel_rfl) (by kernel_rfl) (by kernel_rfl) (fun _ _ _ h => h) (by rfl) (by (intro _w _hSw; (try dsimp only at _hSw); go_simp)) (by assumption) ?_
        simp only [Act.put, List.setIfInBounds_toArray, List.set_cons_zero, List.set_cons_succ]
        refine takeV 1 (some 19) ((.slice (some ⟨g, 0, none⟩) d.size cap)) rfl rfl (by kernel_rfl) (by kernel_rfl) (by kernel_rfl) (fun _ _ _ h => h) (by rfl) (by (intro _w _hSw; (try dsimp only at _hSw); go_simp)) (by assumption) ?_
        simp only [Act.put, List.setIfInBounds_toArray, List.set_cons_zero, List.set_cons_succ]
        refine takeV 2 (some 20) ((.int .i64 k)) rfl rfl (by kernel_rfl) (by kernel_rfl) (by kernel_rfl) (fun _ _ _ h => h) (by rfl) (by (intro _w _hSw; (try dsimp only at _hSw); go_simp)) (by assumption) ?_
        simp only [Act.put, List.setIfInBounds_toArray, List.set_cons_zero, List.set_cons_succ]
        refine takeV 3 (some 21) ((.pointer (some ⟨g, k, none⟩))) rfl rfl (by kernel_rfl) (by kernel_rfl) (by kernel_rfl) (fun _ _ _ h => h) (by rfl) (by (intro _w _hSw; (try dsimp only at _hSw); go_simp)) (by assumption) ?_
        simp only [Act.put, List.setIfInBounds_toArray, List.set_cons_zero, List.set_cons_succ]
        refine takeV 4 (some 22) ((.slice A1 l1.length c1)) rfl rfl (by kernel_rfl) (by kernel_rfl) (by kernel_rfl) (fun _ _ _ h => h) (by rfl) (by (intro _w hSw; have k0 := hSw.1; clear hSw; go_simp)) (by assumption) ?_
        simp only [Act.put, List.setIfInBounds_toArray, List.set_cons_zero, List.set_cons_succ]
        refine takeV 5 (some 23) ((.slice (some ⟨g, 0, none⟩) d.size cap)) rfl rfl (by kernel_rfl) (by kernel_rfl) (by kernel_rfl) (fun _ _ _ h => h) (by rfl) (by (intro _w _hSw; (try dsimp only at _hSw); go_simp)) (by assumption) ?_
        simp only [Act.put, List.setIfInBounds_toArray, List.set_cons_zero, List.set_cons_succ]
        refine takeV 6 (some 24) ((.int .i64 k)) rfl rfl (by kernel_rfl) (by kernel_rfl) (by kernel_rfl) (fun _ _ _ h => h) (by rfl) (by (intro _w _hSw; (try dsimp only at _hSw); go_simp)) (by assumption) ?_
        simp only [Act.put, List.setIfInBounds_toArray, List.set_cons_zero, List.set_cons_succ]
        refine takeV 7 (some 25) ((.int .i64 ((k - 1 : Nat) : Int))) rfl rfl (by kernel_rfl) (by kernel_rfl) (by kernel_rfl) (fun _ _ _ h => h) (by rfl) (by (intro _w _hSw; (try dsimp only at _hSw); go_simp)) (by assumption) ?_
        simp only [Act.put, List.setIfInBounds_toArray, List.set_cons_zero, List.set_cons_succ]
        refine takeV 8 (some 26) ((.pointer (some ⟨g, k - 1, none⟩))) rfl rfl (by kernel_rfl) (by kernel_rfl) (by kernel_rfl) (fun _ _ _ h => h) (by rfl) (by (intro _w _hSw; (try dsimp only at _hSw); go_simp)) (by assumption) ?_
        simp only [Act.put, List.setIfInBounds_toArray, List.set_cons_zero, List.set_cons_succ]
        refine takeV 9 (some 27) ((.slice A2 l2.length c2)) rfl rfl (by kernel_rfl) (by kernel_rfl) (by kernel_rfl) (fun _ _ _ h => h) (by rfl) (by (intro _w hSw; have k0 := hSw.2.1; clear hSw; go_simp)) (by assumption) ?_
        simp only [Act.put, List.setIfInBounds_toArray, List.set_cons_zero, List.set_cons_succ]
        refine callV 10 rfl (by kernel_rfl) (by rfl) (fun K hK => ?_)
        go_simp
        refine (HC.out _ hHeld.2.2.2).mono ?_
        rintro e w3 ⟨rfl, hb3⟩
        have HB3 := Lib.hid ((hHeld.next hb3).2.2.2)
        refine hK.out _ _ (hHeld.next hb3) (fun _ => ?_)
        clear hK K hHeld hb3
        try simp only [Act.put, List.setIfInBounds_toArray, List.set_cons_zero, List.set_cons_succ]
        refine wpAnyH_done (by kernel_rfl) ?_ _
        clear HSD1
        cases q with
        | false =>
          have HK : Hid (keeps d k = true) := keeps_pos (by rw [HXY.out.1, HXY.out.2]; exact fun e => of_decide_eq_false HQ.out ((ordR_is.zero _ _).2 e))
          go_wp2
          go_roundg (d.size - (k + 1))
          case measure => omega
          case rel =>
            refine ⟨k + 1, by omega, by omega, Nat.le_refl _, by go_num, HB.out.trans (HB3.out.mono HB.out.size), fun j hj => ?_⟩
            by_cases e : j = k
            · subst e; exact HK.out
            · exact A.out j (by omega)
        | true =>
          have HK : Hid (keeps d k = false) := keeps_neg (by omega) (by rw [HXY.out.1, HXY.out.2]; exact (ordR_is.zero _ _).1 (of_decide_eq_true HQ.out))
          have HW2 : Hid (RowD pool w3 g d ∧ Kp g w w3 ∧ g < w3.heap.size) := ⟨(HH.out.next HB.out hg).next HB3.out hgw, (Kp.of_below HB.out).trans (Kp.of_below HB3.out), Nat.lt_of_lt_of_le hgw HB3.out.size⟩
          have hsl : ∀ w, (Instr.slice 32 (.slice (some ⟨g, 0, none⟩) d.size cap) (some (.int .i64 (k : Int))) none none).run Try.prog w = .ok (.slice (some ⟨g, k, none⟩) (d.size - k) (cap - k)) w := fun w => by
            rw [sliceR_from _ _ _ _ hk hcap, cut1, if_neg (by omega)]
            show Result.ok (Value.slice (some (Addr.add ⟨g, 0, none⟩ (k * 1))) _ _) _ = _
            rw [addI, Nat.mul_one, Nat.zero_add]
          clear hgw hw1 hk1lt HC HB HB3 hlti
          go_wp2
          go_loopg [5, 7] d.size (fun g' s3 s5 wr => ∃ (kk k2 : Nat) (dk : Array (List Vl)), s3 = .int .i64 kk ∧ s5 = .int .i64 k2 ∧ 1 ≤ k2 ∧ k + k2 ≤ d.size ∧ d.size - (k + k2) ≤ g' ∧ Hid (RowD pool wr g dk) ∧ Hid (CompInv d (k + k2) kk dk) ∧ Hid (Kp g w wr) ∧ g < wr.heap.size)
          case atStart => exact ⟨k, 1, d, rfl, rfl, Nat.le_refl _, by omega, by omega, HW2.out.1, CompInv.start A.out HK.out, HW2.out.2.1, HW2.out.2.2⟩
          case round =>
            obtain ⟨kk, k2, dk, rfl, rfl, h1, hle, hg2, RK, IK, BK, hgr⟩ := hrel
            have hkk := IK.out.lt
            have hds := IK.out.size
            by_cases hlt2 : k + k2 < d.size
            · obtain ⟨⟨x2, hxp2, hxc2, hxe2⟩, _⟩ := RK.out (k + k2) (by omega)
              obtain ⟨⟨y2, hyp2, hyc2, hye2⟩, _⟩ := RK.out (k + k2 - 1) (by omega)
              obtain ⟨⟨o2, hop2, hoc2, hoe2⟩, hof2⟩ := RK.out kk (by omega)
              rw [IK.out.high (k + k2) (by omega)] at hxe2
              rw [IK.out.high (k + k2 - 1) (by omega)] at hye2
              rw [show k + k2 - 1 = k + (k2 - 1) from by omega] at hyc2
              have HXY2 : Hid (d[k + k2]! = x2.l ∧ d[k + k2 - 1]! = y2.l) := ⟨hxe2.symm, hye2.symm⟩
              have hw2 : IntKind.i64.wrap ((k2 : Int) - 1) = ((k2 - 1 : Nat) : Int) := by
                rw [show ((k2 - 1 : Nat) : Int) = (k2 : Int) - 1 from by omega]; exact IntWalk.i64_in _ (by omega)
              have HDS := Lib.hid hds
              have HXP := Lib.hid hxp2
              have hlt3 : k2 < d.size - k := by omega
              have hlt3i : (k2 : Int) < (d.size : Int) - (k : Int) := by omega
              have hlt4 : k2 - 1 < d.size - k := by omega
              have HC := Lib.hid (fun W (hb : Below wr.heap.size wr W) => same1_any x2 y2 W ((HOK.out x2 hxp2).keep (BK.out.trans (Kp.of_below hb))).ok ((HOK.out y2 hyp2).keep (BK.out.trans (Kp.of_below hb))).ok)
              have HXX : Hid (∃ x, x = x2) := ⟨x2, rfl⟩
              obtain ⟨xr, hxr⟩ := HXX.out
              obtain ⟨A1, c1, l1⟩ := x2
              obtain ⟨A2, c2, l2⟩ := y2
              obtain ⟨A3, c3, l3⟩ := o2
              unfold cellR at hxc2 hyc2 hoc2 HC
              have HOC := Lib.hid (show wr.cell? ⟨g, kk, none⟩ = some (.slice A3 l3.length c3) ∧ wr.frozen? ⟨g, kk, none⟩ = false from ⟨hoc2, hof2⟩)
              have HXC := Lib.hid hxc2
              obtain ⟨q, hq⟩ : ∃ q, decide (ordR l1 l2 = 0) = q := ⟨_, rfl⟩
              have HQ := Lib.hid hq
              rw [hq] at HC
              have HSD1 := Lib.hid (CsA.start hxc2 hyc2 hgr hgr)
              obtain ⟨wd1, hwd1⟩ : ∃ wd, wr.drew = wd := ⟨_, rfl⟩
              rw [hwd1] at HSD1
              clear hxc2 hyc2 hq hxe2 hye2 hoe2 hds hxp2 hyp2 hop2 HXX hoc2 hof2
              go_wp2_with fail
              refine wp_region_held_drew (S := CsA wr ⟨g, k + k2, none⟩ ⟨g, k + (k2 - 1), none⟩ (.slice A1 l1.length c1) (.slice A2 l2.length c2)) (by kernel_rfl) (by rw [hwd1]; exact HSD1.out) (fun hHeld => ?_)
              rw [hwd1] at hHeld ⊢
              clear hwd1
              refine takeV 0 (some 38) ((.func (.func 105) #[] #[])) rfl rfl (by kernel_rfl) (by kernel_rfl) (by kernel_rfl) (fun _ _ _ h => h) (by rfl) (by (intro _w _hSw; (try dsimp only at _hSw); go_simp)) (by assumption) ?_
              simp only [Act.put, List.setIfInBounds_toArray, List.set_cons_zero, List.set_cons_succ]
              refine takeV 1 (some 39) ((.slice (some ⟨g, k, none⟩) (d.size - k) (cap - k))) rfl rfl (by kernel_rfl) (by kernel_rfl) (by kernel_rfl) (fun _ _ _ h => h) (by rfl) (by (intro _w _hSw; (try dsimp only at _hSw); go_simp)) (by assumption) ?_
              simp only [Act.put, List.setIfInBounds_toArray, List.set_cons_zero, List.set_cons_succ]
              refine takeV 2 (some 40) ((.int .i64 k2)) rfl rfl (by kernel_rfl) (by kernel_rfl) (by kernel_rfl) (fun _ _ _ h => h) (by rfl) (by (intro _w _hSw; (try dsimp only at _hSw); go_simp)) (by assumption) ?_
              simp only [Act.put, List.setIfInBounds_toArray, List.set_cons_zero, List.set_cons_succ]
              refine takeV 3 (some 41) ((.pointer (some ⟨g, k + k2, none⟩))) rfl rfl (by kernel_rfl) (by kernel_rfl) (by kernel_rfl) (fun _ _ _ h => h) (by rfl) (by (intro _w _hSw; (try dsimp only at _hSw); go_simp)) (by assumption) ?_
              simp only [Act.put, List.setIfInBounds_toArray, List.set_cons_zero, List.set_cons_succ]
              refine takeV 4 (some 42) ((.slice A1 l1.length c1)) rfl rfl (by kernel_rfl) (by kernel_rfl) (by kernel_rfl) (fun _ _ _ h => h) (by rfl) (by (intro _w hSw; have k0 := hSw.1; clear hSw; go_simp)) (by assumption) ?_
              simp only [Act.put, List.setIfInBounds_toArray, List.set_cons_zero, List.set_cons_succ]
              refine takeV 5 (some 43) ((.slice (some ⟨g, k, none⟩) (d.size - k) (cap - k))) rfl rfl (by kernel_rfl) (by kernel_rfl) (by kernel_rfl) (fun _ _ _ h => h) (by rfl) (by (intro _w _hSw; (try dsimp only at _hSw); go_simp)) (by assumption) ?_
              simp only [Act.put, List.setIfInBounds_toArray, List.set_cons_zero, List.set_cons_succ]
              refine takeV 6 (some 44) ((.int .i64 k2)) rfl rfl (by kernel_rfl) (by kernel_rfl) (by kernel_rfl) (fun _ _ _ h => h) (by rfl) (by (intro _w _hSw; (try dsimp only at _hSw); go_simp)) (by assumption) ?_
              simp only [Act.put, List.setIfInBounds_toArray, List.set_cons_zero, List.set_cons_succ]
              refine takeV 7 (some 45) ((.int .i64 ((k2 - 1 : Nat) : Int))) rfl rfl (by kernel_rfl) (by kernel_rfl) (by kernel_rfl) (fun _ _ _ h => h) (by rfl) (by (intro _w _hSw; (try dsimp only at _hSw); go_simp)) (by assumption) ?_
              simp only [Act.put, List.setIfInBounds_toArray, List.set_cons_zero, List.set_cons_succ]
              refine takeV 8 (some 46) ((.pointer (some ⟨g, k + (k2 - 1), none⟩))) rfl rfl (by kernel_rfl) (by kernel_rfl) (by kernel_rfl) (fun _ _ _ h => h) (by rfl) (by (intro _w _hSw; (try dsimp only at _hSw); go_simp)) (by assumption) ?_
              simp only [Act.put, List.setIfInBounds_toArray, List.set_cons_zero, List.set_cons_succ]
              refine takeV 9 (some 47) ((.slice A2 l2.length c2)) rfl rfl (by kernel_rfl) (by kernel_rfl) (by kernel_rfl) (fun _ _ _ h => h) (by rfl) (by (intro _w hSw; have k0 := hSw.2.1; clear hSw; go_simp)) (by assumption) ?_
              simp only [Act.put, List.setIfInBounds_toArray, List.set_cons_zero, List.set_cons_succ]
              refine callV 10 rfl (by kernel_rfl) (by rfl) (fun K hK => ?_)
              go_simp
              refine (HC.out _ hHeld.2.2.2).mono ?_
              rintro e w4 ⟨rfl, hb4⟩
              have HB4 := Lib.hid ((hHeld.next hb4).2.2.2)
              refine hK.out _ _ (hHeld.next hb4) (fun _ => ?_)
              clear hK K hHeld hb4
              try simp only [Act.put, List.setIfInBounds_toArray, List.set_cons_zero, List.set_cons_succ]
              refine takeV 11 (some 49) ((.bool (!q))) rfl rfl (by kernel_rfl) (by kernel_rfl) (by kernel_rfl) (fun _ _ _ h => h) (by rfl) (by (intro _w _hSw; (try dsimp only at _hSw); go_simp)) (by assumption) ?_
              simp only [Act.put, List.setIfInBounds_toArray, List.set_cons_zero, List.set_cons_succ]
              refine wpAnyH_done (by kernel_rfl) ?_ _
              clear HSD1
              have HW4 : Hid (RowD pool w4 g dk ∧ Kp g w w4 ∧ g < w4.heap.size) := ⟨RK.out.next HB4.out hgr, BK.out.trans (Kp.of_below HB4.out), Nat.lt_of_lt_of_le hgr HB4.out.size⟩
              cases q with
              | true =>
                have HN : Hid (keeps d (k + k2) = false) := keeps_neg (by omega) (by rw [HXY2.out.1, HXY2.out.2]; exact (ordR_is.zero _ _).1 (of_decide_eq_true HQ.out))
                go_wp2
                go_roundg (d.size - (k + (k2 + 1)))
                case measure => omega
                case rel => exact ⟨kk, k2 + 1, dk, rfl, by go_num, by omega, by omega, Nat.le_refl _, HW4.out.1, IK.out.skip HN.out, HW4.out.2.1, HW4.out.2.2⟩
              | false =>
                have HN : Hid (keeps d (k + k2) = true) := keeps_pos (by rw [HXY2.out.1, HXY2.out.2]; exact fun e => of_decide_eq_false HQ.out ((ordR_is.zero _ _).2 e))
                have s0 := (HB4.out.cell (p := ⟨g, k + k2, none⟩) hgr).trans HXC.out
                have s1 := (HB4.out.cell (p := ⟨g, kk, none⟩) hgr).trans HOC.out.1
                have s2 := (HB4.out.frozen (p := ⟨g, kk, none⟩) hgr).trans HOC.out.2
                have hkds : kk < d.size := by omega
                go_wp2
                go_roundg (d.size - (k + (k2 + 1)))
                case measure => omega
                case rel => exact ⟨kk + 1, k2 + 1, dk.setIfInBounds kk l1, by go_num, by go_num, by omega, by omega, Nat.le_refl _, HW4.out.1.set (by rw [HDS.out]; omega) ⟨A1, c1, l1⟩ HXP.out, (by have := IK.out.keep hlt2 HN.out; rwa [HXY2.out.1] at this), HW4.out.2.1.trans (kp_set _ _ _), by simpa using HW4.out.2.2⟩
            · have hend : k + k2 = d.size := by omega
              have hlt3 : ¬ k2 < d.size - k := by omega
              have hlt3i : ¬ (k2 : Int) < (d.size : Int) - (k : Int) := by omega
              have hkc : kk < cap := by omega
              obtain ⟨vs, hvl, hcl⟩ := clearR_run wr g kk (d.size - kk) (cap - kk) (by omega) (fun j hj => by
                obtain ⟨⟨r, _, hc, _⟩, _⟩ := RK.out (kk + j) (by omega)
                rw [hc]; rfl) (fun j hj => (RK.out (kk + j) (by omega)).2)
              have hsl2 : ∀ w, (Instr.slice 32 (.slice (some ⟨g, 0, none⟩) d.size cap) (some (.int .i64 (kk : Int))) none none).run Try.prog w = .ok (.slice (some ⟨g, kk, none⟩) (d.size - kk) (cap - kk)) w := fun w => by
                rw [sliceR_from _ _ _ _ (by omega) hcap, cut1, if_neg (by omega)]
                show Result.ok (Value.slice (some (Addr.add ⟨g, 0, none⟩ (kk * 1))) _ _) _ = _
                rw [addI, Nat.mul_one, Nat.zero_add]
              have hsl3 := fun w => sliceR_to (some (⟨g, 0, none⟩ : Addr)) d.size cap kk (by omega) w
              have HE : Hid (CompEnd g cap pool d w (.returned (.slice (some ⟨g, 0, none⟩) kk cap)) (wr.setCells g kk vs)) := compEnd_cut vs (hend ▸ IK.out) RK.out BK.out hgr
              clear hend
              go_wp2
              go_ret
              exact HE.out
      · have hkd : k = d.size := by omega
        have hlti : ¬ (k : Int) < (d.size : Int) := by omega
        have HE : Hid (CompEnd g cap pool d w (.returned (.slice (some ⟨g, 0, none⟩) d.size cap)) wr) := compEnd_all (HH.out.next HB.out hg) (Kp.of_below HB.out) (Nat.lt_of_lt_of_le hg HB.out.size) fun j hj => A.out j (by omega)
        go_wp2
        go_ret
        exact HE.out
end Go.Proofs.Ytofmfainhflmmaa
