/-
  CONTRACT: slices.SortFunc at rows, by Compare.
-/
import Derived.Test.YtofmfainhflmmaaSorts
import Derived.Test.YtofmfainhflmmaaZCmp
import Derived.Test.YtofmfainhflmmaaZSort
import Derived.Shelf.SlSortCmp.NoneTotal
namespace Go.Proofs.Ytofmfainhflmmaa
open Go.RowKit Go.Shelf
open Go.Sort (SWO SortedIn PermIn grow Holds putRow mapBlock)
open VOrd (IsOrd)

/-- what lies in no block but g is kept -/
structure Kp (g : Nat) (W W' : World) : Prop where
  os : W'.os = W.os
  tape : W'.tape = W.tape
  output : W'.output = W.output
  size : W.heap.size ≤ W'.heap.size
  b : ∀ j, j ≠ g → j < W.heap.size → W'.heap[j]? = W.heap[j]?
theorem Kp.refl (g : Nat) (W : World) : Kp g W W := ⟨rfl, rfl, rfl, Nat.le_refl _, fun _ _ _ => rfl⟩
theorem Kp.trans {g : Nat} {a b c : World} (h : Kp g a b) (k : Kp g b c) : Kp g a c :=
  ⟨k.os.trans h.os, k.tape.trans h.tape, k.output.trans h.output, Nat.le_trans h.size k.size, fun j h1 h2 => (k.b j h1 (Nat.lt_of_lt_of_le h2 h.size)).trans (h.b j h1 h2)⟩
theorem Kp.of_below {g : Nat} {W W' : World} (h : Below W.heap.size W W') : Kp g W W' := ⟨h.os, h.tape, h.output, h.size, fun j _ hj => h.block j hj⟩
theorem Kp.below {g n0 : Nat} {W W' : World} (h : Kp g W W') (hn : n0 ≤ g) (hw : g < W.heap.size) : Below n0 W W' := ⟨h.os, h.tape, h.output, h.size, fun j hj => h.b j (by omega) (by omega)⟩
theorem Kp.cell {g : Nat} {W W' : World} (h : Kp g W W') {a : Addr} {v : Value} (hb : a.block ≠ g) (hc : W.cell? a = some v) : W'.cell? a = some v := by
  have hlt : a.block < W.heap.size := by
    unfold World.cell? at hc
    cases hb : W.heap[a.block]? with
    | none => rw [hb] at hc; cases hc
    | some o => exact (Array.getElem?_eq_some_iff.1 hb).1
  rw [World.cell?_of_block (w := W) (h.b _ hb hlt)]
  exact hc
/-- a row, none of it in block g -/
structure RwN (W : World) (g : Nat) (r : Rw) : Prop where
  ok : RwOk W W.heap.size r
  far : r.l ≠ [] → ∀ b o, r.A = some ⟨b, o, none⟩ → b ≠ g
theorem RwN.keep {W W' : World} {g : Nat} {r : Rw} (h : RwN W g r) (k : Kp g W W') : RwN W' g r := by
  refine ⟨⟨fun hl => ?_, h.ok.n, h.ok.c, h.ok.m, h.ok.z⟩, h.far⟩
  obtain ⟨b, o, e, hlt, hc⟩ := h.ok.s hl
  have hne := h.far hl b o e
  refine ⟨b, o, e, Nat.lt_of_lt_of_le hlt k.size, fun j v hv => ?_⟩
  obtain ⟨c0, c1, c2⟩ := hc j v hv
  exact ⟨k.cell hne c0, k.cell hne c1, k.cell hne c2⟩
theorem swKp {α : Type} [Inhabited α] {enc : α → Value} {w : World} {g n : Nat} {d : Array α} {os : Array Obj} : Kp g w (sortWorld enc w g 0 n d os) := by
  have hsz : (putRow enc (Sort.ahead w n) g 0 d).heap.size = w.heap.size := by simp [putRow, mapBlock, Sort.ahead]
  refine ⟨rfl, rfl, rfl, ?_, fun j h1 h2 => ?_⟩
  · show w.heap.size ≤ ((putRow enc (Sort.ahead w n) g 0 d).heap ++ os).size
    rw [Array.size_append, hsz]; omega
  · show ((putRow enc (Sort.ahead w n) g 0 d).heap ++ os)[j]? = _
    rw [Array.getElem?_append_left (by rw [hsz]; omega)]
    show (w.heap.modify g _)[j]? = _
    rw [Array.getElem?_modify, if_neg (fun e => h1 e.symm)]
theorem drewN_is (W : World) (q : Nat) : W.drewN q = { W with drawn := W.drawn + q } := rfl
/-- what makes memory alone, and draws, makes the world grow -/
theorem below_grow {W w' : World} (h : Below W.heap.size W w') (hd : W.drawn ≤ w'.drawn) : ∃ q os, w' = grow (W.drewN q) os := by
  refine ⟨w'.drawn - W.drawn, w'.heap.extract W.heap.size w'.heap.size, ?_⟩
  rw [drewN_is]
  have hheap : w'.heap = W.heap ++ w'.heap.extract W.heap.size w'.heap.size := by
    apply Array.ext_getElem?
    intro i
    by_cases hi : i < W.heap.size
    · rw [Array.getElem?_append_left hi]
      exact h.block i hi
    · rw [Array.getElem?_append_right (by omega), Array.getElem?_extract]
      by_cases h2 : i < w'.heap.size
      · rw [if_pos (by omega)]; congr 1; omega
      · rw [if_neg (by omega), Array.getElem?_eq_none (by omega)]
  have h1 := h.os
  have h2 := h.tape
  have h3 := h.output
  have h4 : W.drawn + (w'.drawn - W.drawn) = w'.drawn := by omega
  obtain ⟨hp, tp, dr, os, out⟩ := w'
  simp only at h1 h2 h3 h4 hheap
  unfold grow
  simp only [h4]
  rw [← hheap, h1, h2, h3]
/-- the program's Compare, in whatever world that has grown -/
theorem cmpR_grow (x y : Rw) (w : World) (hx : RwOk w w.heap.size x) (hy : RwOk w w.heap.size y) :
    Calls Try.prog 40 #[cellR x, cellR y] w fun e w' => e = .returned (.int .i64 (ordR x.l y.l)) ∧ ∃ q os', w' = grow (w.drewN q) os' :=
  (calls_drawn (cmpR_any x y w hx hy) (fun e w' ⟨h, _⟩ => by rw [h]; intro h; cases h)).mono fun _ _ ⟨⟨h1, h2⟩, h3⟩ => ⟨h1, below_grow h2 h3⟩
/-- rows that may be compared -/
abbrev RwS (w : World) (g : Nat) : Type := { x : Rw // RwN w g x }
theorem swoR0 : SWO (ltOf ordR) where
  irrefl x := by
    unfold ltOf
    rw [decide_eq_false_iff_not, (ordR_is.zero x x).2 rfl]; omega
  trans x y z h1 h2 := by
    unfold ltOf at *
    rw [decide_eq_true_eq] at *
    exact ordR_is.lt h1 (by omega)
  ntrans x y z h1 h2 := by
    unfold ltOf at *
    rw [decide_eq_false_iff_not] at *
    have a1 := ordR_is.swap x y
    have a2 := ordR_is.swap y z
    have a3 := ordR_is.swap x z
    have a4 := ordR_is.trans z y x (by omega) (by omega)
    omega
theorem swoR (w : World) (g : Nat) : SWO (ltOf fun x y : RwS w g => ordR x.1.l y.1.l) :=
  ⟨fun x => swoR0.irrefl x.1.l, fun x y z => swoR0.trans x.1.l y.1.l z.1.l, fun x y z => swoR0.ntrans x.1.l y.1.l z.1.l⟩
theorem sub_list {α : Type} {P : α → Prop} : ∀ {l : List α}, (∀ x ∈ l, P x) → ∃ ls : List { x : α // P x }, ls.map (·.1) = l
  | [], _ => ⟨[], rfl⟩
  | x :: r, h => by
    obtain ⟨ls, hl⟩ := sub_list (l := r) fun y hy => h y (List.mem_cons_of_mem _ hy)
    exact ⟨⟨x, h x (List.mem_cons_self ..)⟩ :: ls, by rw [List.map_cons, hl]⟩
/-- a block that reads as these, and may be written -/
def RowC (W : World) (g : Nat) (R : List Rw) : Prop := ∀ (j : Nat) (r : Rw), R[j]? = some r → W.cell? ⟨g, j, none⟩ = some (cellR r) ∧ W.frozen? ⟨g, j, none⟩ = false
/-- what the sort leaves -/
structure RSorted (w : World) (g : Nat) (R : List Rw) (w' : World) : Prop where
  ex : ∃ R' : List Rw, R'.Perm R ∧ R'.Pairwise (fun x y => ordR x.l y.l ≤ 0) ∧ RowC w' g R'
  kp : Kp g w w'

theorem sortR_any (B g cap : Nat) (R : List Rw) (w : World) (hr : Own1 46 cellR w B (.slice (some ⟨g, 0, none⟩) R.length cap) R) (hg : g < w.heap.size) (hok : ∀ r ∈ R, RwN w g r) (h0 : 0 < R.length) (hl : R.length ≤ 1000000000000) :
    Calls Try.prog 90 #[.slice (some ⟨g, 0, none⟩) R.length cap, .func (.func 40) #[] #[]] w fun e w' => e = .returned (.tuple #[]) ∧ RSorted w g R w' := by
  have inst : Inhabited (RwS w g) := ⟨⟨R[0], hok _ (List.getElem_mem h0)⟩⟩
  obtain ⟨ls, hls⟩ : ∃ ls : List (RwS w g), ls.map (·.1) = R := sub_list hok
  have hln : R.length = ls.length := by rw [← hls, List.length_map]
  have eg : ∀ args w, (callFunc 40 args).run Try.prog w = .ok (.enter 40 args) w := enters_of Try.func40 (by kernel_rfl) rfl
  have hr2 : w.ownsRow B 46 1 (.slice (some ⟨g, 0, none⟩) R.length cap) R.length (R.map cellR) := hr
  have hH : Holds (fun x : RwS w g => cellR x.1) w g 0 ls.toArray := fun j hj => by
    have hj2 : j < ls.length := by simpa using hj
    have hj3 : j < R.length := by omega
    rw [Nat.zero_add]
    refine ⟨?_, hr2.frozenAt j⟩
    rw [hr2.cellAt j (by omega), List.getElem?_map, ← hls, List.getElem?_map, List.getElem?_eq_getElem hj2, getElem!_pos ls.toArray j hj]
    rfl
  have hC : CmpLays1 Try.prog 40 #[] (fun x : RwS w g => cellR x.1) (fun x y : RwS w g => ordR x.1.l y.1.l) g 0 ls.toArray.size w := fun m os dk _ x y =>
    cmpR_grow x.1 y.1 _ (x.2.keep swKp).ok (y.2.keep swKp).ok
  have hcon := Any.slices_SortFunc Try.sortRow (fun x : RwS w g => cellR x.1) (fun _ => rfl) (fun x y : RwS w g => ordR x.1.l y.1.l) (swoR w g) 40 #[] g 0 cap ls.toArray w eg hC hH hg (by simp; omega)
  have hsa : ls.toArray.size = R.length := by simp; omega
  rw [hsa] at hcon
  refine (show Calls Try.prog 90 _ w _ from hcon).mono ?_
  rintro e w2 ⟨rfl, d', nn, os, hpm, hsd, rfl⟩
  have hsz : d'.size = ls.length := by have := hpm.1; simpa using this
  have hpr : d'.toList.Perm ls := by
    have h9 := hpm.2.2
    rw [← hsa, show ls.toArray.size = d'.size from hpm.1.symm, Array.extract_size] at h9
    have e1 : ls.toArray.extract 0 d'.size = ls.toArray := by rw [hsz]; simp
    rw [e1] at h9
    simpa using h9
  have hHd : Holds (fun x : RwS w g => cellR x.1) (sortWorld (fun x : RwS w g => cellR x.1) w g 0 nn d' os) g 0 d' := SW.holds (w0 := w) ⟨nn, os, rfl⟩ hg hH (by simpa using hpm.1)
  refine ⟨rfl, ⟨d'.toList.map (·.1), ?_, ?_, fun j r hx => ?_⟩, swKp⟩
  · rw [← hls]; exact hpr.map _
  · rw [List.pairwise_map, List.pairwise_iff_getElem]
    intro i j hi hj hij
    have hi2 : i < d'.size := by simpa using hi
    have hj2 : j < d'.size := by simpa using hj
    have hs := hsd i j (Nat.zero_le _) hij (by omega)
    rw [getElem!_pos d' i hi2, getElem!_pos d' j hj2] at hs
    unfold ltOf at hs
    have hs := of_decide_eq_false hs
    simp only [Array.getElem_toList]
    simp only at hs
    have := ordR_is.swap d'[i].1.l d'[j].1.l
    omega
  · rw [List.getElem?_map] at hx
    obtain ⟨x1, hx1, rfl⟩ := Option.map_eq_some_iff.1 hx
    have hj : j < d'.size := by have := (List.getElem?_eq_some_iff.1 hx1).1; simpa using this
    have e1 : d'[j]! = x1 := by
      rw [getElem!_pos d' j hj]
      have := (List.getElem?_eq_some_iff.1 hx1).2
      simpa using this
    have h1 := hHd j hj
    rw [Nat.zero_add, e1] at h1
    exact h1
end Go.Proofs.Ytofmfainhflmmaa
