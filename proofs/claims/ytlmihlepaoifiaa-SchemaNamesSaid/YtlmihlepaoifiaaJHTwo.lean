import Derived.Test.YtlmihlepaoifiaaJHCmp
import Derived.Test.YtlmihlepaoifiaaJSortG
import Derived.Test.YtlmihlepaoifiaaJDSortD
import Derived.Test.YtlmihlepaoifiaaJRegion
import Derived.Test.YtlmihlepaoifiaaJFRunT
import Derived.Shelf.SlSortCmp.NoneTotal
/-
  CONTRACT: slices.SortFunc at stretches, by the closure of meet.
-/
namespace Go.Proofs.Ytlmihlepaoifiaa
open Go.RowKit Go.Shelf Go.Maps
open Go.Sort (SWO SortedIn PermIn grow HoldsK putRow putRowK mapBlock)
open VOrd (IsOrd lexO lex_is ordI_is ordT_is ordT)

/-- the stretches of these facts -/
abbrev StrS (fs : List FactP) : Type := { x : StrP // StrOk fs x }
def encS (b o : Nat) {fs : List FactP} (x : StrS fs) : List Value := cellsR b o x.1
def cmpS (k1 k2 : StrP → StrP → Int) {fs : List FactP} (x y : StrS fs) : Int := cmpK k1 k2 x.1 y.1
def oT : (Int × (Int × Int)) → (Int × (Int × Int)) → Int := lexO ordI (lexO ordI ordI)
theorem oT_is : IsOrd oT := lex_is ordI_is (lex_is ordI_is ordI_is)
def oU : (Int × ((Int × (Int × ByteArray)) × Int)) → (Int × ((Int × (Int × ByteArray)) × Int)) → Int := lexO ordI (lexO ordT ordI)
theorem oU_is : IsOrd oU := lex_is ordI_is (lex_is ordT_is ordI_is)
theorem swo_pull {α β : Type} {c : β → β → Int} (h : SWO (ltOf c)) (key : α → β) : SWO (ltOf fun x y => c (key x) (key y)) := ⟨fun x => h.irrefl (key x), fun x y z => h.trans (key x) (key y) (key z), fun x y z => h.ntrans (key x) (key y) (key z)⟩
theorem swoT (fs : List FactP) : SWO (ltOf (cmpS kE kA (fs := fs))) := swo_pull (swoO oT_is) fun x : StrS fs => (x.1.f.e, (x.1.f.a, x.1.s.1))
theorem swoU (fs : List FactP) : SWO (ltOf (cmpS kA kV (fs := fs))) := swo_pull (swoO oU_is) fun x : StrS fs => (x.1.f.a, ((x.1.f.k, (x.1.f.m, x.1.f.s)), x.1.s.1))
section
variable {α : Type} [Inhabited α] {enc : α → List Value} {k : Nat}
theorem sort_otherG {w : World} {blk n : Nat} {d : Array α} {os : Array Obj} {j : Nat} (h1 : j ≠ blk) (h2 : j < w.heap.size) : (sortWorldK enc k w blk 0 n d os).heap[j]? = w.heap[j]? := by
  have hsz : (putRowK enc k (Sort.ahead w n) blk 0 d).heap.size = w.heap.size := by simp [putRowK, putRow, mapBlock, Sort.ahead]
  show ((putRowK enc k (Sort.ahead w n) blk 0 d).heap ++ os)[j]? = _
  rw [Array.getElem?_append_left (by rw [hsz]; omega)]
  show (w.heap.modify blk _)[j]? = _
  rw [Array.getElem?_modify, if_neg (fun e => h1 e.symm)]
theorem sort_sizeG {w : World} {blk n : Nat} {d : Array α} {os : Array Obj} : w.heap.size ≤ (sortWorldK enc k w blk 0 n d os).heap.size := by
  have hsz : (putRowK enc k (Sort.ahead w n) blk 0 d).heap.size = w.heap.size := by simp [putRowK, putRow, mapBlock, Sort.ahead]
  show w.heap.size ≤ ((putRowK enc k (Sort.ahead w n) blk 0 d).heap ++ os).size
  rw [Array.size_append, hsz]; omega
end
theorem PartsAt.other {W W' : World} {bP bL c f1 f2 g : Nat} (h : PartsAt W bP bL c f1 f2) (h1 : bP ≠ g) (h2 : bL ≠ g) (hz : W.heap.size ≤ W'.heap.size) (hb : ∀ j, j ≠ g → j < W.heap.size → W'.heap[j]? = W.heap[j]?) : PartsAt W' bP bL c f1 f2 :=
  ⟨(hb bP h1 h.box.lt).trans h.box, Nat.lt_of_lt_of_le h.lt hz, (World.cell?_of_block (w := W) (a := ⟨bL, 0, none⟩) (hb bL h2 h.lt)).trans h.p0, (World.cell?_of_block (w := W) (a := ⟨bL, 1, none⟩) (hb bL h2 h.lt)).trans h.p1⟩
theorem cmpLaysT (b o c0 bP bL c : Nat) (fs : List FactP) [Inhabited (StrS fs)] (g size : Nat) (w0 w : World) (hB : Below w0.heap.size w0 w) (hs : FVa w0 (.slice (some ⟨b, o, none⟩) fs.length c0) fs) (hg0 : w0.heap.size ≤ g) (hg : g < w.heap.size) (hp : PartsAt w bP bL c 32 33) (h1 : bP ≠ g) (h2 : bL ≠ g) :
    CmpLays Try.prog 50 #[.pointer (some ⟨bP, 0, none⟩)] (encS b o (fs := fs)) 3 (cmpS kE kA) g 0 size w :=
  fun m os dk _ x y => (calls_drawn (cmpT_any b o c0 bP bL c fs x.1 y.1 _ (hs.next (hB.trans (sort_belowG hg0 hg))) x.2 y.2 (hp.other h1 h2 sort_sizeG fun _ a b => sort_otherG a b)) (fun e w' ⟨h, _⟩ => by rw [h]; intro h; cases h)).mono fun _ _ ⟨⟨h1, h2⟩, h3⟩ => ⟨h1, below_grow h2 h3⟩
theorem cmpLaysU (b o c0 bP bL c : Nat) (fs : List FactP) [Inhabited (StrS fs)] (g size : Nat) (w0 w : World) (hB : Below w0.heap.size w0 w) (hs : FVa w0 (.slice (some ⟨b, o, none⟩) fs.length c0) fs) (hg0 : w0.heap.size ≤ g) (hg : g < w.heap.size) (hp : PartsAt w bP bL c 33 36) (h1 : bP ≠ g) (h2 : bL ≠ g) :
    CmpLays Try.prog 50 #[.pointer (some ⟨bP, 0, none⟩)] (encS b o (fs := fs)) 3 (cmpS kA kV) g 0 size w :=
  fun m os dk _ x y => (calls_drawn (cmpU_any b o c0 bP bL c fs x.1 y.1 _ (hs.next (hB.trans (sort_belowG hg0 hg))) x.2 y.2 (hp.other h1 h2 sort_sizeG fun _ a b => sort_otherG a b)) (fun e w' ⟨h, _⟩ => by rw [h]; intro h; cases h)).mono fun _ _ ⟨⟨h1, h2⟩, h3⟩ => ⟨h1, below_grow h2 h3⟩
theorem sub_list {α : Type} {P : α → Prop} : ∀ {l : List α}, (∀ x ∈ l, P x) → ∃ ls : List { x : α // P x }, ls.map (·.1) = l
  | [], _ => ⟨[], rfl⟩
  | x :: r, h => by
    obtain ⟨ls, hl⟩ := sub_list (l := r) fun y hy => h y (List.mem_cons_of_mem _ hy)
    exact ⟨⟨x, h x (List.mem_cons_self ..)⟩ :: ls, by rw [List.map_cons, hl]⟩
/-- in order -/
def InOrd (k1 k2 : StrP → StrP → Int) (l : List StrP) : Prop := ∀ (i j : Nat) (x y : StrP), i < j → l[i]? = some x → l[j]? = some y → ¬ cmpK k1 k2 y x < 0
/-- what the sort leaves: the same stretches, in order -/
structure RSorted (k1 k2 : StrP → StrP → Int) (w : World) (b o g : Nat) (l : List StrP) (w' : World) : Prop where
  ex : ∃ l' : List StrP, l'.Perm l ∧ InOrd k1 k2 l' ∧ (∀ (j : Nat) (x : StrP), l'[j]? = some x → ∀ i, i < 3 → w'.cell? ⟨g, j * 3 + i, none⟩ = (cellsR b o x)[i]?)
  size : w.heap.size ≤ w'.heap.size
  low : Below g w w'
  other : ∀ j, j ≠ g → j < w.heap.size → w'.heap[j]? = w.heap[j]?

theorem sortT_any (b o c0 bP bL c B g cap : Nat) (fs : List FactP) (l : List StrP) (w0 w : World) (hr : OwnR w B b o (.slice (some ⟨g, 0, none⟩) l.length cap) l) (hok : ∀ x ∈ l, StrOk fs x) (h0 : 0 < l.length) (hl : l.length ≤ 1000000)
    (hB : Below w0.heap.size w0 w) (hs : FVa w0 (.slice (some ⟨b, o, none⟩) fs.length c0) fs) (hg0 : w0.heap.size ≤ g) (hg : g < w.heap.size) (hp : PartsAt w bP bL c 32 33) (h1 : bP ≠ g) (h2 : bL ≠ g) :
    Calls Try.prog 49 #[.slice (some ⟨g, 0, none⟩) l.length cap, .func (.func 50) #[] #[.pointer (some ⟨bP, 0, none⟩)]] w fun e w' => e = .returned (.tuple #[]) ∧ RSorted kE kA w b o g l w' := by
  have inst : Inhabited (StrS fs) := ⟨⟨l[0], hok _ (List.getElem_mem h0)⟩⟩
  obtain ⟨ls, hls⟩ : ∃ ls : List (StrS fs), ls.map (·.1) = l := sub_list hok
  subst hls
  have hln : (ls.map (·.1)).length = ls.length := List.length_map ..
  have hfm : (ls.map (·.1)).flatMap (cellsR b o) = ls.flatMap (encS b o) := by rw [List.flatMap_map]; rfl
  have hr2 : w.ownsRow B 82 3 (.slice (some ⟨g, 0, none⟩) ls.length cap) ls.length (ls.flatMap (encS b o)) := by
    have h : w.ownsRow B 82 3 (.slice (some ⟨g, 0, none⟩) (ls.map (·.1)).length cap) (ls.map (·.1)).length ((ls.map (·.1)).flatMap (cellsR b o)) := hr
    rwa [hln, hfm] at h
  have eg : ∀ args w, (callFunc 50 args).run Try.prog w = .ok (.enter 50 args) w := enters_of Try.func50 (by kernel_rfl) rfl
  have hH := holds_ownG (enc := encS b o (fs := fs)) (fun _ => rfl) (by decide) hr2
  have hcon := AnyQ.slices_SortFunc Try.sortStr 3 Try.isAgg82 Try.sizeOf82 (encS b o (fs := fs)) (fun _ => rfl) (fun x => cellsR_one b o x.1) (cmpS kE kA) (swoT fs) 50 #[.pointer (some ⟨bP, 0, none⟩)] g 0 cap ls.toArray w eg (cmpLaysT b o c0 bP bL c fs g _ w0 w hB hs hg0 hg hp h1 h2) hH hg (by simp at hl ⊢; omega)
  rw [hln]
  refine (show Calls Try.prog 49 _ w _ from hcon).mono ?_
  rintro e w2 ⟨rfl, d', nn, os, hpm, hsd, rfl⟩
  have hsz : d'.size = ls.length := by have := hpm.1; simpa using this
  have hpr : d'.toList.Perm ls := by
    have h9 := hpm.2.2
    rw [show ls.toArray.size = d'.size from hpm.1.symm, Array.extract_size] at h9
    have e1 : ls.toArray.extract 0 d'.size = ls.toArray := by rw [hsz]; simp
    rw [e1] at h9
    simpa using h9
  have hHd := sort_holdsG (n := nn) (os := os) hg hH (by simpa using hpm.1)
  refine ⟨rfl, ⟨d'.toList.map (·.1), hpr.map _, fun i j x y hij hx hy => ?_, fun j x hx i hi => ?_⟩, sort_sizeG, sort_belowG (Nat.le_refl _) hg, fun j a b => sort_otherG a b⟩
  · rw [List.getElem?_map] at hx hy
    obtain ⟨x1, hx1, rfl⟩ := Option.map_eq_some_iff.1 hx
    obtain ⟨y1, hy1, rfl⟩ := Option.map_eq_some_iff.1 hy
    have hj : j < d'.size := by have := (List.getElem?_eq_some_iff.1 hy1).1; simpa using this
    have hs := hsd i j (Nat.zero_le _) hij (by simpa [hsz] using hj)
    have ex : d'[i]! = x1 := by rw [Array.getElem!_eq_getD, Array.getD_eq_getD_getElem?, ← Array.getElem?_toList, hx1]; rfl
    have ey : d'[j]! = y1 := by rw [Array.getElem!_eq_getD, Array.getD_eq_getD_getElem?, ← Array.getElem?_toList, hy1]; rfl
    rw [ex, ey] at hs
    exact of_decide_eq_false hs
  · rw [List.getElem?_map] at hx
    obtain ⟨x1, hx1, rfl⟩ := Option.map_eq_some_iff.1 hx
    exact (cells_holdsG (enc := encS b o (fs := fs)) (fun _ => rfl) (by decide) hHd hx1 hi).1

theorem sortU_any (b o c0 bP bL c B g cap : Nat) (fs : List FactP) (l : List StrP) (w0 w : World) (hr : OwnR w B b o (.slice (some ⟨g, 0, none⟩) l.length cap) l) (hok : ∀ x ∈ l, StrOk fs x) (h0 : 0 < l.length) (hl : l.length ≤ 1000000)
    (hB : Below w0.heap.size w0 w) (hs : FVa w0 (.slice (some ⟨b, o, none⟩) fs.length c0) fs) (hg0 : w0.heap.size ≤ g) (hg : g < w.heap.size) (hp : PartsAt w bP bL c 33 36) (h1 : bP ≠ g) (h2 : bL ≠ g) :
    Calls Try.prog 49 #[.slice (some ⟨g, 0, none⟩) l.length cap, .func (.func 50) #[] #[.pointer (some ⟨bP, 0, none⟩)]] w fun e w' => e = .returned (.tuple #[]) ∧ RSorted kA kV w b o g l w' := by
  have inst : Inhabited (StrS fs) := ⟨⟨l[0], hok _ (List.getElem_mem h0)⟩⟩
  obtain ⟨ls, hls⟩ : ∃ ls : List (StrS fs), ls.map (·.1) = l := sub_list hok
  subst hls
  have hln : (ls.map (·.1)).length = ls.length := List.length_map ..
  have hfm : (ls.map (·.1)).flatMap (cellsR b o) = ls.flatMap (encS b o) := by rw [List.flatMap_map]; rfl
  have hr2 : w.ownsRow B 82 3 (.slice (some ⟨g, 0, none⟩) ls.length cap) ls.length (ls.flatMap (encS b o)) := by
    have h : w.ownsRow B 82 3 (.slice (some ⟨g, 0, none⟩) (ls.map (·.1)).length cap) (ls.map (·.1)).length ((ls.map (·.1)).flatMap (cellsR b o)) := hr
    rwa [hln, hfm] at h
  have eg : ∀ args w, (callFunc 50 args).run Try.prog w = .ok (.enter 50 args) w := enters_of Try.func50 (by kernel_rfl) rfl
  have hH := holds_ownG (enc := encS b o (fs := fs)) (fun _ => rfl) (by decide) hr2
  have hcon := AnyQ.slices_SortFunc Try.sortStr 3 Try.isAgg82 Try.sizeOf82 (encS b o (fs := fs)) (fun _ => rfl) (fun x => cellsR_one b o x.1) (cmpS kA kV) (swoU fs) 50 #[.pointer (some ⟨bP, 0, none⟩)] g 0 cap ls.toArray w eg (cmpLaysU b o c0 bP bL c fs g _ w0 w hB hs hg0 hg hp h1 h2) hH hg (by simp at hl ⊢; omega)
  rw [hln]
  refine (show Calls Try.prog 49 _ w _ from hcon).mono ?_
  rintro e w2 ⟨rfl, d', nn, os, hpm, hsd, rfl⟩
  have hsz : d'.size = ls.length := by have := hpm.1; simpa using this
  have hpr : d'.toList.Perm ls := by
    have h9 := hpm.2.2
    rw [show ls.toArray.size = d'.size from hpm.1.symm, Array.extract_size] at h9
    have e1 : ls.toArray.extract 0 d'.size = ls.toArray := by rw [hsz]; simp
    rw [e1] at h9
    simpa using h9
  have hHd := sort_holdsG (n := nn) (os := os) hg hH (by simpa using hpm.1)
  refine ⟨rfl, ⟨d'.toList.map (·.1), hpr.map _, fun i j x y hij hx hy => ?_, fun j x hx i hi => ?_⟩, sort_sizeG, sort_belowG (Nat.le_refl _) hg, fun j a b => sort_otherG a b⟩
  · rw [List.getElem?_map] at hx hy
    obtain ⟨x1, hx1, rfl⟩ := Option.map_eq_some_iff.1 hx
    obtain ⟨y1, hy1, rfl⟩ := Option.map_eq_some_iff.1 hy
    have hj : j < d'.size := by have := (List.getElem?_eq_some_iff.1 hy1).1; simpa using this
    have hs := hsd i j (Nat.zero_le _) hij (by simpa [hsz] using hj)
    have ex : d'[i]! = x1 := by rw [Array.getElem!_eq_getD, Array.getD_eq_getD_getElem?, ← Array.getElem?_toList, hx1]; rfl
    have ey : d'[j]! = y1 := by rw [Array.getElem!_eq_getD, Array.getD_eq_getD_getElem?, ← Array.getElem?_toList, hy1]; rfl
    rw [ex, ey] at hs
    exact of_decide_eq_false hs
  · rw [List.getElem?_map] at hx
    obtain ⟨x1, hx1, rfl⟩ := Option.map_eq_some_iff.1 hx
    exact (cells_holdsG (enc := encS b o (fs := fs)) (fun _ => rfl) (by decide) hHd hx1 hi).1
end Go.Proofs.Ytlmihlepaoifiaa

/-
  CONTRACT: meet, by two pairs of parts.
-/
namespace Go.Proofs.Ytlmihlepaoifiaa
open Go.RowKit Go.Shelf Go.Maps

/-- three cells of a stretch -/
def Bx3 (W : World) (g : Nat) (v0 v1 v2 : Value) : Prop := W.heap[g]? = some (.cells #[v0, v1, v2] 82 (0, 0))
theorem Bx3.lt {W : World} {g : Nat} {v0 v1 v2 : Value} (h : Bx3 W g v0 v1 v2) : g < W.heap.size := (Array.getElem?_eq_some_iff.1 h).1
theorem Bx3.c0 {W : World} {g : Nat} {v0 v1 v2 : Value} (h : Bx3 W g v0 v1 v2) : W.cell? ⟨g, 0, none⟩ = some v0 := by unfold Bx3 at h; simp [World.cell?, h]
theorem Bx3.c1 {W : World} {g : Nat} {v0 v1 v2 : Value} (h : Bx3 W g v0 v1 v2) : W.cell? ⟨g, 1, none⟩ = some v1 := by unfold Bx3 at h; simp [World.cell?, h]
theorem Bx3.c2 {W : World} {g : Nat} {v0 v1 v2 : Value} (h : Bx3 W g v0 v1 v2) : W.cell? ⟨g, 2, none⟩ = some v2 := by unfold Bx3 at h; simp [World.cell?, h]
theorem Bx3.fz {W : World} {g : Nat} {v0 v1 v2 : Value} (h : Bx3 W g v0 v1 v2) (j : Nat) : W.frozen? ⟨g, j, none⟩ = false := by unfold Bx3 at h; simp [World.frozen?, h]
theorem bx3_first (W : World) (v0 v1 v2 : Value) (o : Obj) : Bx3 ((W.alloc (.cells #[v0, v1, v2] 82)).alloc o).drew W.heap.size v0 v1 v2 := (Below.heap_alloc _ _ _ (by simp)).trans (heap_alloc_new W _)
theorem bx3_second (W : World) (v0 v1 v2 : Value) (o : Obj) : Bx3 ((W.alloc o).alloc (.cells #[v0, v1, v2] 82)).drew (W.heap.size + 1) v0 v1 v2 := by
  have := heap_alloc_new (W.alloc o) (.cells #[v0, v1, v2] 82)
  rwa [World.size_alloc] at this
theorem Bx3.set3 {W : World} {g : Nat} {v0 v1 v2 : Value} (h : Bx3 W g v0 v1 v2) (u0 u1 u2 : Value) : Bx3 (((W.setCell ⟨g, 0, none⟩ u0).setCell ⟨g, 1, none⟩ u1).setCell ⟨g, 2, none⟩ u2) g u0 u1 u2 :=
  (heap_setCell_same _ _ _ _ _ _ (heap_setCell_same _ _ _ _ _ _ (heap_setCell_same _ _ _ _ _ _ h))).trans (by simp)
theorem Bx3.off3 {W : World} {g g' : Nat} {v0 v1 v2 : Value} (h : Bx3 W g v0 v1 v2) (hne : g ≠ g') (u0 u1 u2 : Value) : Bx3 (((W.setCell ⟨g', 0, none⟩ u0).setCell ⟨g', 1, none⟩ u1).setCell ⟨g', 2, none⟩ u2) g v0 v1 v2 :=
  (Below.heap_setCell _ ⟨g', 2, none⟩ _ g hne).trans ((Below.heap_setCell _ ⟨g', 1, none⟩ _ g hne).trans ((Below.heap_setCell _ ⟨g', 0, none⟩ _ g hne).trans h))
theorem below_setR {n0 : Nat} {w W : World} {g : Nat} (h : Below n0 w W) (hg : n0 ≤ g) (u0 u1 u2 : Value) : Below n0 w (((W.setCell ⟨g, 0, none⟩ u0).setCell ⟨g, 1, none⟩ u1).setCell ⟨g, 2, none⟩ u2) :=
  ((h.setCell (p := ⟨g, 0, none⟩) hg _).setCell (p := ⟨g, 1, none⟩) hg _).setCell (p := ⟨g, 2, none⟩) hg _
/-- two stretches that no part tells apart hold at no one instant -/
def Apart (k1 k2 : StrP → StrP → Int) (x y : StrP) : Prop := ¬ (k1 x y = 0 ∧ k2 x y = 0 ∧ x.s.1 < y.s.2 ∧ y.s.1 < x.s.2)
/-- two neighbours meet -/
def Near (k1 k2 : StrP → StrP → Int) (x y : StrP) : Prop := k1 x y = 0 ∧ k2 x y = 0 ∧ y.s.1 < x.s.2
/-- what meet answers: whether two neighbours meet, of the stretches in order -/
def MeetEnd (k1 k2 : StrP → StrP → Int) (l : List StrP) (e : Ending) : Prop := ∃ (r : Bool) (l' : List StrP), e = .returned (.bool r) ∧ l'.Perm l ∧ InOrd k1 k2 l' ∧ (r = true ↔ ∃ (i : Nat) (x y : StrP), l'[i]? = some x ∧ l'[i + 1]? = some y ∧ Near k1 k2 x y)

set_option maxRecDepth 100000 in
set_option maxHeartbeats 8000000 in
theorem meetT_some (b o c0 bL c B g cap : Nat) (fs : List FactP) (l : List StrP) (w0 w : World) (hr : OwnR w B b o (.slice (some ⟨g, 0, none⟩) l.length cap) l) (hok : ∀ x ∈ l, StrOk fs x) (h0 : 0 < l.length) (hl : l.length ≤ 1000000)
    (hB : Below w0.heap.size w0 w) (hs : FVa w0 (.slice (some ⟨b, o, none⟩) fs.length c0) fs) (hg0 : w0.heap.size ≤ g) (hg : g < w.heap.size) (hL : bL < w.heap.size) (hp0 : w.cell? ⟨bL, 0, none⟩ = some (.func (.func 32) #[] #[])) (hp1 : w.cell? ⟨bL, 1, none⟩ = some (.func (.func 33) #[] #[])) (h2 : bL ≠ g) (hlc : l.length ≤ cap) :
    Calls Try.prog 30 #[.slice (some ⟨g, 0, none⟩) l.length cap, .slice (some ⟨bL, 0, none⟩) 2 c] w fun e w' => MeetEnd kE kA l e ∧ Below w0.heap.size w0 w' := by
  obtain ⟨w1, hw1⟩ : ∃ w1, w.alloc (.cells #[.slice (some ⟨bL, 0, none⟩) 2 c] 78) = w1 := ⟨_, rfl⟩
  have hb1 : Below w.heap.size w w1 := by rw [← hw1]; exact (Below.refl _ _).alloc (Nat.le_refl _) _
  have hz1 : w1.heap.size = w.heap.size + 1 := by rw [← hw1]; simp
  have hbx : Boxed w1 w.heap.size 78 (.slice (some ⟨bL, 0, none⟩) 2 c) := by rw [← hw1]; exact Boxed.new _ _ _
  have hPA : PartsAt w1 w.heap.size bL c 32 33 := ⟨hbx, by omega, (hb1.cell (p := ⟨bL, 0, none⟩) hL).trans hp0, (hb1.cell (p := ⟨bL, 1, none⟩) hL).trans hp1⟩
  have HSO := Lib.hid (sortT_any b o c0 w.heap.size bL c B g cap fs l w0 w1 (hr.next hb1) hok h0 hl (hB.trans (hb1.mono hB.size)) hs hg0 (by omega) hPA (by omega) h2)
  have HPA := Lib.hid hPA
  have HB1 := Lib.hid (hB.trans (hb1.mono hB.size))
  have HFV := Lib.hid hs
  have HOK := Lib.hid hok
  have HG0 := Lib.hid hg0
  have HG1 : Hid (g < w1.heap.size) := by show _ < _; omega
  have HLC := Lib.hid hlc
  have HNE := Lib.hid (show w.heap.size ≠ g ∧ bL ≠ g from ⟨by omega, h2⟩)
  clear hr hok hb1 hz1 hbx hPA hB hs hg0 hg hL hp0 hp1 h2 hlc
  go_enter Try.func30, Try.ntmps30
  go_wp2_with fail
  go_step3
  go_wp2_with fail
  refine HSO.out.mono ?_
  rintro e wS ⟨rfl, hRS⟩
  obtain ⟨l', hpm, hsd, hce⟩ := hRS.ex
  have hll : l'.length = l.length := hpm.length_eq
  have HPM := Lib.hid hpm
  have HSD := Lib.hid hsd
  have HCE := Lib.hid hce
  have HBS := Lib.hid (HB1.out.trans (hRS.low.mono HG0.out))
  have HPS := Lib.hid (HPA.out.other HNE.out.1 HNE.out.2 hRS.size hRS.other)
  have HGS : Hid (g < wS.heap.size) := Nat.lt_of_lt_of_le HG1.out hRS.size
  have hLG : (l.length : Int) = (l'.length : Int) := by rw [hll]
  have HLN : Hid (l'.length ≤ 1000000) := by show _ ≤ _; omega
  have HLC2 : Hid (l'.length ≤ cap) := by show _ ≤ _; rw [hll]; exact HLC.out
  have h0' : 0 < l'.length := by omega
  clear hpm hsd hce hRS HSO HPA hw1
  rw [← hll]
  clear hll hLG
  go_wp2
  go_step3
  go_wp2
  go_loopg [5] (l'.length - 1) (fun g1 y wr => ∃ j : Nat, y = .int .i64 j ∧ 1 ≤ j ∧ j + g1 = l'.length ∧ Hid (∀ (i : Nat) (x y : StrP), i + 1 < j → l'[i]? = some x → l'[i + 1]? = some y → ¬ Near kE kA x y) ∧ Hid (Below wS.heap.size wS wr))
  case atStart => exact ⟨1, rfl, Nat.le_refl _, by omega, fun i x y h => absurd h (by omega), Below.refl _ _⟩
  case round =>
    obtain ⟨j, rfl, hj1, hj, HNR, HB⟩ := hrel
    cases gk with
    | zero =>
      have hji : ¬ (j : Int) < (l'.length : Int) := by omega
      have HF : Hid (MeetEnd kE kA l (.returned (.bool false))) := by
        refine ⟨false, l', rfl, HPM.out, HSD.out, ?_⟩
        simp only [Bool.false_eq_true, false_iff]
        rintro ⟨i, x, y, hx, hy, hn⟩
        have : i + 1 < l'.length := (List.getElem?_eq_some_iff.1 hy).1
        exact HNR.out i x y (by omega) hx hy hn
      go_wp2
      go_ret
      exact ⟨HF.out, HBS.out.trans (HB.out.mono HBS.out.size)⟩
    | succ g1 =>
      obtain ⟨k, rfl⟩ : ∃ k, j = k + 1 := ⟨j - 1, by omega⟩
      have hji : ((k + 1 : Nat) : Int) < (l'.length : Int) := by omega
      have hjn : k + 1 < l'.length := by omega
      have hkn : k < l'.length := by omega
      have hjb : ((k + 1 : Nat) : Int) ≤ 1000000 := by have := HLN.out; omega
      obtain ⟨x, hx⟩ : ∃ x, l'[k]? = some x := ⟨_, List.getElem?_eq_getElem hkn⟩
      obtain ⟨y, hy⟩ : ∃ y, l'[k + 1]? = some y := ⟨_, List.getElem?_eq_getElem hjn⟩
      have HX := Lib.hid hx
      have HY := Lib.hid hy
      have HXO := Lib.hid (HOK.out x (HPM.out.mem_iff.1 (List.mem_of_getElem? hx)))
      have HYO := Lib.hid (HOK.out y (HPM.out.mem_iff.1 (List.mem_of_getElem? hy)))
      have HJ := Lib.hid hj
      have hjc : ((k + 1 : Nat) : Int) = (k : Int) + 1 := by omega
      rw [hjc] at hji hjb ⊢
      clear hx hy hj hj1 hjc
      go_upto_region 5 with (fail)
      have hkl : (k : Int) < (l'.length : Int) := by omega
      have hk1 : k + 1 < l'.length := by omega
      have hwr : IntKind.i64.wrap (k : Int) = (k : Int) := by have := HLN.out; simp [IntKind.wrap, IntKind.bits, IntKind.signed]; omega
      have hk0 : ¬ (k : Int) + 1 < 0 := by omega
      have HRX : Hid (∀ W, Below wS.heap.size wS W → W.cell? ⟨g, k * 3, none⟩ = some (.pointer (some ⟨b, o + x.j * 6, none⟩)) ∧ W.cell? ⟨g, k * 3 + 1, none⟩ = some (.int .i64 x.s.1) ∧ W.cell? ⟨g, k * 3 + 2, none⟩ = some (.int .i64 x.s.2)) := fun W hW => by
        have q := fun i (hi : i < 3) => (hW.cell (p := ⟨g, k * 3 + i, none⟩) HGS.out).trans (HCE.out k x HX.out i hi)
        exact ⟨q 0 (by decide), q 1 (by decide), q 2 (by decide)⟩
      have HRY : Hid (∀ W, Below wS.heap.size wS W → W.cell? ⟨g, (k + 1) * 3, none⟩ = some (.pointer (some ⟨b, o + y.j * 6, none⟩)) ∧ W.cell? ⟨g, (k + 1) * 3 + 1, none⟩ = some (.int .i64 y.s.1) ∧ W.cell? ⟨g, (k + 1) * 3 + 2, none⟩ = some (.int .i64 y.s.2)) := fun W hW => by
        have q := fun i (hi : i < 3) => (hW.cell (p := ⟨g, (k + 1) * 3 + i, none⟩) HGS.out).trans (HCE.out (k + 1) y HY.out i hi)
        exact ⟨q 0 (by decide), q 1 (by decide), q 2 (by decide)⟩
      refine wp_region_held_drew (S := fun W => Below wS.heap.size wS W) (by kernel_rfl) HB.out.drew (fun hHeld => ?_)
      refine takeV 0 (some 19) ((.slice (some ⟨g, 0, none⟩) l'.length cap)) rfl rfl (by kernel_rfl) (by kernel_rfl) (by kernel_rfl) (fun _ _ _ h => h) (by rfl) (by (intro _w _hSw; (try dsimp only at _hSw); go_simp)) (by assumption) ?_
      simp only [Act.put, List.setIfInBounds_toArray, List.set_cons_zero, List.set_cons_succ]
      refine takeV 1 (some 20) ((.int .i64 ((k : Int) + 1))) rfl rfl (by kernel_rfl) (by kernel_rfl) (by kernel_rfl) (fun _ _ _ h => h) (by rfl) (by (intro _w _hSw; (try dsimp only at _hSw); go_simp)) (by assumption) ?_
      simp only [Act.put, List.setIfInBounds_toArray, List.set_cons_zero, List.set_cons_succ]
      refine takeV 2 (some 21) ((.int .i64 (k : Int))) rfl rfl (by kernel_rfl) (by kernel_rfl) (by kernel_rfl) (fun _ _ _ h => h) (by rfl) (by (intro _w _hSw; (try dsimp only at _hSw); go_simp)) (by assumption) ?_
      simp only [Act.put, List.setIfInBounds_toArray, List.set_cons_zero, List.set_cons_succ]
      refine takeV 3 (some 22) ((.pointer (some ⟨g, k * 3, none⟩))) rfl rfl (by kernel_rfl) (by kernel_rfl) (by kernel_rfl) (fun _ _ _ h => h) (by rfl) (by (intro _w _hSw; (try dsimp only at _hSw); go_simp)) (by assumption) ?_
      simp only [Act.put, List.setIfInBounds_toArray, List.set_cons_zero, List.set_cons_succ]
      refine takeV 4 (some 23) ((.agg #[.pointer (some ⟨b, o + x.j * 6, none⟩), .int .i64 x.s.1, .int .i64 x.s.2])) rfl rfl (by kernel_rfl) (by kernel_rfl) (by kernel_rfl) (fun _ _ _ h => h) (by rfl) (by (intro _w hSw; obtain ⟨q0, q1, q2⟩ := HRX.out _ hSw; clear hSw; go_simp)) (by assumption) ?_
      simp only [Act.put, List.setIfInBounds_toArray, List.set_cons_zero, List.set_cons_succ]
      refine takeV 5 (some 24) ((.slice (some ⟨g, 0, none⟩) l'.length cap)) rfl rfl (by kernel_rfl) (by kernel_rfl) (by kernel_rfl) (fun _ _ _ h => h) (by rfl) (by (intro _w _hSw; (try dsimp only at _hSw); go_simp)) (by assumption) ?_
      simp only [Act.put, List.setIfInBounds_toArray, List.set_cons_zero, List.set_cons_succ]
      refine takeV 6 (some 25) ((.int .i64 ((k : Int) + 1))) rfl rfl (by kernel_rfl) (by kernel_rfl) (by kernel_rfl) (fun _ _ _ h => h) (by rfl) (by (intro _w _hSw; (try dsimp only at _hSw); go_simp)) (by assumption) ?_
      simp only [Act.put, List.setIfInBounds_toArray, List.set_cons_zero, List.set_cons_succ]
      refine takeV 7 (some 26) ((.pointer (some ⟨g, (k + 1) * 3, none⟩))) rfl rfl (by kernel_rfl) (by kernel_rfl) (by kernel_rfl) (fun _ _ _ h => h) (by rfl) (by (intro _w _hSw; (try dsimp only at _hSw); go_simp)) (by assumption) ?_
      simp only [Act.put, List.setIfInBounds_toArray, List.set_cons_zero, List.set_cons_succ]
      refine takeV 8 (some 27) ((.agg #[.pointer (some ⟨b, o + y.j * 6, none⟩), .int .i64 y.s.1, .int .i64 y.s.2])) rfl rfl (by kernel_rfl) (by kernel_rfl) (by kernel_rfl) (fun _ _ _ h => h) (by rfl) (by (intro _w hSw; obtain ⟨q0, q1, q2⟩ := HRY.out _ hSw; clear hSw; go_simp)) (by assumption) ?_
      simp only [Act.put, List.setIfInBounds_toArray, List.set_cons_zero, List.set_cons_succ]
      refine callV2 9 10 rfl rfl (by kernel_rfl) (by rfl) (by rfl) (fun K hK => ?_) (fun K hK => ?_)
      go_simp
      refine hK.out _ _ (Below.alloc (w := wr) HB.out HB.out.size (.cells #[.pointer none, .int .i64 0, .int .i64 0] 82)).drew (fun hHeld2 => ?_)
      clear hK K hHeld
      try simp only [Act.put, List.setIfInBounds_toArray, List.set_cons_zero, List.set_cons_succ]
      refine callV 10 rfl (by kernel_rfl) (by rfl) (fun K hK => ?_)
      go_simp
      obtain ⟨w2, hw2⟩ : ∃ w2, ((wr.alloc (.cells #[.pointer none, .int .i64 0, .int .i64 0] 82)).alloc (.cells #[.pointer none, .int .i64 0, .int .i64 0] 82)).drew = w2 := ⟨_, rfl⟩
      have hzz : w2.heap.size = wr.heap.size + 1 + 1 := by rw [← hw2]; show (World.heap _).size = _; simp
      have HA2 : Hid (Bx3 w2 (wr.heap.size) (.pointer none) (.int .i64 0) (.int .i64 0)) := by
        show Bx3 _ _ _ _ _
        rw [← hw2]
        exact bx3_first wr _ _ _ _
      have HC2 : Hid (Bx3 w2 (wr.heap.size + 1) (.pointer none) (.int .i64 0) (.int .i64 0)) := by
        show Bx3 _ _ _ _ _
        rw [← hw2]
        exact bx3_second wr _ _ _ _
      have HB2 : Hid (Below wS.heap.size wS w2) := by
        show Below _ _ _
        rw [← hw2]
        exact ((HB.out.alloc HB.out.size _).alloc (HB.out.alloc HB.out.size _).size _).drew
      have hge := HB.out.size
      obtain ⟨g7, hg7⟩ : ∃ g7, wr.heap.size + 1 = g7 := ⟨_, rfl⟩
      obtain ⟨g6, hg6⟩ : ∃ g6, wr.heap.size = g6 := ⟨_, rfl⟩
      have HNN : Hid (g6 ≠ g7 ∧ wS.heap.size ≤ g6 ∧ wS.heap.size ≤ g7) := ⟨by omega, by omega, by omega⟩
      rw [hw2, hg7, hg6]
      rw [hg6] at HA2
      rw [hg7] at HC2
      clear hw2 hg6 hg7 hge hzz
      refine hK.out _ _ HB2.out (fun hHeld3 => ?_)
      clear hK K hHeld2
      try simp only [Act.put, List.setIfInBounds_toArray, List.set_cons_zero, List.set_cons_succ]
      have z0 := HA2.out.c0
      have z1 := HA2.out.c1
      have z2 := HA2.out.c2
      have y0 := HA2.out.fz 0
      have y1 := HA2.out.fz 1
      have y2 := HA2.out.fz 2
      refine callV 11 rfl (by kernel_rfl) (by rfl) (fun K hK => ?_)
      go_simp
      obtain ⟨w3, hw3⟩ : ∃ w3, ((w2.setCell ⟨g6, 0, none⟩ (.pointer (some ⟨b, o + x.j * 6, none⟩))).setCell ⟨g6, 1, none⟩ (.int .i64 x.s.1)).setCell ⟨g6, 2, none⟩ (.int .i64 x.s.2) = w3 := ⟨_, rfl⟩
      have HA3 : Hid (RBx w3 g6 b o x) := by show RBx _ _ _ _ _; rw [← hw3]; exact HA2.out.set3 _ _ _
      have HC3 : Hid (Bx3 w3 g7 (.pointer none) (.int .i64 0) (.int .i64 0)) := by show Bx3 _ _ _ _ _; rw [← hw3]; exact HC2.out.off3 (fun e => HNN.out.1 e.symm) _ _ _
      have HB3 : Hid (Below wS.heap.size wS w3) := by show Below _ _ _; rw [← hw3]; exact below_setR HB2.out HNN.out.2.1 _ _ _
      rw [hw3]
      clear hw3 z0 z1 z2 y0 y1 y2 HA2 HC2 HB2
      refine hK.out _ _ HB3.out (fun hHeld4 => ?_)
      clear hK K hHeld3
      try simp only [Act.put, List.setIfInBounds_toArray, List.set_cons_zero, List.set_cons_succ]
      have z0 := HC3.out.c0
      have z1 := HC3.out.c1
      have z2 := HC3.out.c2
      have y0 := HC3.out.fz 0
      have y1 := HC3.out.fz 1
      have y2 := HC3.out.fz 2
      refine callV 12 rfl (by kernel_rfl) (by rfl) (fun K hK => ?_)
      go_simp
      obtain ⟨w4, hw4⟩ : ∃ w4, ((w3.setCell ⟨g7, 0, none⟩ (.pointer (some ⟨b, o + y.j * 6, none⟩))).setCell ⟨g7, 1, none⟩ (.int .i64 y.s.1)).setCell ⟨g7, 2, none⟩ (.int .i64 y.s.2) = w4 := ⟨_, rfl⟩
      have HA4 : Hid (RBx w4 g6 b o x) := by show RBx _ _ _ _ _; rw [← hw4]; exact Bx3.off3 HA3.out HNN.out.1 _ _ _
      have HC4 : Hid (RBx w4 g7 b o y) := by show RBx _ _ _ _ _; rw [← hw4]; exact HC3.out.set3 _ _ _
      have HB4 : Hid (Below wS.heap.size wS w4) := by show Below _ _ _; rw [← hw4]; exact below_setR HB3.out HNN.out.2.2 _ _ _
      rw [hw4]
      clear hw4 z0 z1 z2 y0 y1 y2 HA3 HC3 HB3
      refine hK.out _ _ HB4.out (fun hHeld5 => ?_)
      clear hK K hHeld4
      try simp only [Act.put, List.setIfInBounds_toArray, List.set_cons_zero, List.set_cons_succ]
      refine wpAnyH_done (by kernel_rfl) ?_ _
      clear hHeld5
      rotate_left
      go_simp
      refine hK.out _ _ (Below.alloc (w := wr) HB.out HB.out.size (.cells #[.pointer none, .int .i64 0, .int .i64 0] 82)).drew (fun hHeld2 => ?_)
      clear hK K hHeld
      try simp only [Act.put, List.setIfInBounds_toArray, List.set_cons_zero, List.set_cons_succ]
      refine callV 9 rfl (by kernel_rfl) (by rfl) (fun K hK => ?_)
      go_simp
      obtain ⟨w2, hw2⟩ : ∃ w2, ((wr.alloc (.cells #[.pointer none, .int .i64 0, .int .i64 0] 82)).alloc (.cells #[.pointer none, .int .i64 0, .int .i64 0] 82)).drew = w2 := ⟨_, rfl⟩
      have hzz : w2.heap.size = wr.heap.size + 1 + 1 := by rw [← hw2]; show (World.heap _).size = _; simp
      have HA2 : Hid (Bx3 w2 (wr.heap.size + 1) (.pointer none) (.int .i64 0) (.int .i64 0)) := by
        show Bx3 _ _ _ _ _
        rw [← hw2]
        exact bx3_second wr _ _ _ _
      have HC2 : Hid (Bx3 w2 (wr.heap.size) (.pointer none) (.int .i64 0) (.int .i64 0)) := by
        show Bx3 _ _ _ _ _
        rw [← hw2]
        exact bx3_first wr _ _ _ _
      have HB2 : Hid (Below wS.heap.size wS w2) := by
        show Below _ _ _
        rw [← hw2]
        exact ((HB.out.alloc HB.out.size _).alloc (HB.out.alloc HB.out.size _).size _).drew
      have hge := HB.out.size
      obtain ⟨g7, hg7⟩ : ∃ g7, wr.heap.size = g7 := ⟨_, rfl⟩
      obtain ⟨g6, hg6⟩ : ∃ g6, wr.heap.size + 1 = g6 := ⟨_, rfl⟩
      have HNN : Hid (g6 ≠ g7 ∧ wS.heap.size ≤ g6 ∧ wS.heap.size ≤ g7) := ⟨by omega, by omega, by omega⟩
      rw [hw2, hg6, hg7]
      rw [hg6] at HA2
      rw [hg7] at HC2
      clear hw2 hg6 hg7 hge hzz
      refine hK.out _ _ HB2.out (fun hHeld3 => ?_)
      clear hK K hHeld2
      try simp only [Act.put, List.setIfInBounds_toArray, List.set_cons_zero, List.set_cons_succ]
      have z0 := HA2.out.c0
      have z1 := HA2.out.c1
      have z2 := HA2.out.c2
      have y0 := HA2.out.fz 0
      have y1 := HA2.out.fz 1
      have y2 := HA2.out.fz 2
      refine callV 11 rfl (by kernel_rfl) (by rfl) (fun K hK => ?_)
      go_simp
      obtain ⟨w3, hw3⟩ : ∃ w3, ((w2.setCell ⟨g6, 0, none⟩ (.pointer (some ⟨b, o + x.j * 6, none⟩))).setCell ⟨g6, 1, none⟩ (.int .i64 x.s.1)).setCell ⟨g6, 2, none⟩ (.int .i64 x.s.2) = w3 := ⟨_, rfl⟩
      have HA3 : Hid (RBx w3 g6 b o x) := by show RBx _ _ _ _ _; rw [← hw3]; exact HA2.out.set3 _ _ _
      have HC3 : Hid (Bx3 w3 g7 (.pointer none) (.int .i64 0) (.int .i64 0)) := by show Bx3 _ _ _ _ _; rw [← hw3]; exact HC2.out.off3 (fun e => HNN.out.1 e.symm) _ _ _
      have HB3 : Hid (Below wS.heap.size wS w3) := by show Below _ _ _; rw [← hw3]; exact below_setR HB2.out HNN.out.2.1 _ _ _
      rw [hw3]
      clear hw3 z0 z1 z2 y0 y1 y2 HA2 HC2 HB2
      refine hK.out _ _ HB3.out (fun hHeld4 => ?_)
      clear hK K hHeld3
      try simp only [Act.put, List.setIfInBounds_toArray, List.set_cons_zero, List.set_cons_succ]
      have z0 := HC3.out.c0
      have z1 := HC3.out.c1
      have z2 := HC3.out.c2
      have y0 := HC3.out.fz 0
      have y1 := HC3.out.fz 1
      have y2 := HC3.out.fz 2
      refine callV 12 rfl (by kernel_rfl) (by rfl) (fun K hK => ?_)
      go_simp
      obtain ⟨w4, hw4⟩ : ∃ w4, ((w3.setCell ⟨g7, 0, none⟩ (.pointer (some ⟨b, o + y.j * 6, none⟩))).setCell ⟨g7, 1, none⟩ (.int .i64 y.s.1)).setCell ⟨g7, 2, none⟩ (.int .i64 y.s.2) = w4 := ⟨_, rfl⟩
      have HA4 : Hid (RBx w4 g6 b o x) := by show RBx _ _ _ _ _; rw [← hw4]; exact Bx3.off3 HA3.out HNN.out.1 _ _ _
      have HC4 : Hid (RBx w4 g7 b o y) := by show RBx _ _ _ _ _; rw [← hw4]; exact HC3.out.set3 _ _ _
      have HB4 : Hid (Below wS.heap.size wS w4) := by show Below _ _ _; rw [← hw4]; exact below_setR HB3.out HNN.out.2.2 _ _ _
      rw [hw4]
      clear hw4 z0 z1 z2 y0 y1 y2 HA3 HC3 HB3
      refine hK.out _ _ HB4.out (fun hHeld5 => ?_)
      clear hK K hHeld4
      try simp only [Act.put, List.setIfInBounds_toArray, List.set_cons_zero, List.set_cons_succ]
      refine wpAnyH_done (by kernel_rfl) ?_ _
      clear hHeld5
      all_goals
        have HP4 := Lib.hid (HPS.out.next HB4.out)
        have b0 := HP4.out.box.cell
        have HM4 : Hid (CmpS wS g6 g7 b o c0 w.heap.size bL c 32 33 fs x y w4) := ⟨⟨HA4.out, HC4.out, HFV.out.next (HBS.out.trans (HB4.out.mono HBS.out.size)), HB4.out⟩, HP4.out⟩
        clear HA4 HC4 HB4 HB
        go_wp2
        clear b0
        go_loopg [30] 2 (fun g2 i wr2 => ∃ q : Nat, i = .int .i64 q ∧ q + g2 = 2 ∧ Hid (0 < q → kE x y = 0) ∧ Hid (1 < q → kA x y = 0) ∧ Hid (CmpS wS g6 g7 b o c0 w.heap.size bL c 32 33 fs x y wr2))
        case atStart => exact ⟨0, rfl, by omega, fun h => absurd h (by omega), fun h => absurd h (by omega), HM4.out⟩
        case round =>
          obtain ⟨q, rfl, hq, H1, H2, HM⟩ := hrel
          cases gk with
          | zero =>
            obtain rfl : q = 2 := by omega
            have hx2 := HM.out.s.x1.c2
            have hy1 := HM.out.s.y1.c1
            by_cases hlt : y.s.1 < x.s.2
            · have HE : Hid (MeetEnd kE kA l (.returned (.bool true))) := ⟨true, l', rfl, HPM.out, HSD.out, fun _ => ⟨k, x, y, HX.out, HY.out, H1.out (by omega), H2.out (by omega), hlt⟩, fun _ => rfl⟩
              go_wp2
              go_ret
              exact ⟨HE.out, HBS.out.trans (HM.out.s.low.mono HBS.out.size)⟩
            · have HNX : Hid (∀ (i : Nat) (x y : StrP), i + 1 < k + 1 + 1 → l'[i]? = some x → l'[i + 1]? = some y → ¬ Near kE kA x y) := fun i a c hi ha hc => by
                by_cases hik : i + 1 < k + 1
                · exact HNR.out i a c hik ha hc
                · obtain rfl : i = k := by omega
                  rw [HX.out] at ha
                  rw [HY.out] at hc
                  cases ha
                  cases hc
                  exact fun hn => hlt hn.2.2
              go_wp2
              go_roundg g1
              case measure => omega
              case rel => exact ⟨k + 1 + 1, by go_num, by omega, by have := HJ.out; omega, HNX.out, HM.out.s.low⟩
          | succ g2 =>
          rcases (show q = 0 ∨ q = 1 by omega) with rfl | rfl
          · have p0 := HM.out.p.p0
            have hx0 := HM.out.s.x1.c0
            have hx1 := HM.out.s.x1.c1
            have hx2 := HM.out.s.x1.c2
            have hy0 := HM.out.s.y1.c0
            have hy1 := HM.out.s.y1.c1
            have hy2 := HM.out.s.y1.c2
            have HC := Lib.hid (byE_any b o c0 fs x y wr HM.out.s.f HXO.out HYO.out)
            go_wp2_with fail
            refine (show Calls _ _ _ wr (fun e w' => e = .returned (.int .i64 (kE x y)) ∧ Below wr.heap.size wr w') from HC.out).mono ?_
            rintro e w5 ⟨rfl, hb5⟩
            have HM5 := Lib.hid (HM.out.next hb5)
            obtain ⟨v, hv⟩ : ∃ v, kE x y = v := ⟨_, rfl⟩
            rw [hv]
            have HV := Lib.hid hv
            clear hb5 HC hx0 hx1 hx2 hy0 hy1 hy2 p0 hv
            by_cases h0 : v = 0
            · subst h0
              go_wp2
              go_roundg g2
              case measure => omega
              case rel => exact ⟨0 + 1, by go_num, by omega, fun _ => HV.out, fun h => absurd h (by omega), HM5.out⟩
            · have hd : (v != 0) = true := by simp [h0]
              have HNX : Hid (∀ (i : Nat) (x y : StrP), i + 1 < k + 1 + 1 → l'[i]? = some x → l'[i + 1]? = some y → ¬ Near kE kA x y) := fun i a c hi ha hc => by
                by_cases hik : i + 1 < k + 1
                · exact HNR.out i a c hik ha hc
                · obtain rfl : i = k := by omega
                  rw [HX.out] at ha
                  rw [HY.out] at hc
                  cases ha
                  cases hc
                  rintro ⟨n1, n2, _⟩
                  exact h0 (by rw [← HV.out]; exact n1)
              go_wp2
              go_roundg g1
              case measure => omega
              case rel => exact ⟨k + 1 + 1, by go_num, by omega, by have := HJ.out; omega, HNX.out, HM5.out.s.low⟩
          · have p1 := HM.out.p.p1
            have hx0 := HM.out.s.x1.c0
            have hx1 := HM.out.s.x1.c1
            have hx2 := HM.out.s.x1.c2
            have hy0 := HM.out.s.y1.c0
            have hy1 := HM.out.s.y1.c1
            have hy2 := HM.out.s.y1.c2
            have HC := Lib.hid (byA_any b o c0 fs x y wr HM.out.s.f HXO.out HYO.out)
            go_wp2_with fail
            refine (show Calls _ _ _ wr (fun e w' => e = .returned (.int .i64 (kA x y)) ∧ Below wr.heap.size wr w') from HC.out).mono ?_
            rintro e w5 ⟨rfl, hb5⟩
            have HM5 := Lib.hid (HM.out.next hb5)
            obtain ⟨v, hv⟩ : ∃ v, kA x y = v := ⟨_, rfl⟩
            rw [hv]
            have HV := Lib.hid hv
            clear hb5 HC hx0 hx1 hx2 hy0 hy1 hy2 p1 hv
            by_cases h0 : v = 0
            · subst h0
              go_wp2
              go_roundg g2
              case measure => omega
              case rel => exact ⟨1 + 1, by go_num, by omega, fun _ => H1.out (by omega), fun _ => HV.out, HM5.out⟩
            · have hd : (v != 0) = true := by simp [h0]
              have HNX : Hid (∀ (i : Nat) (x y : StrP), i + 1 < k + 1 + 1 → l'[i]? = some x → l'[i + 1]? = some y → ¬ Near kE kA x y) := fun i a c hi ha hc => by
                by_cases hik : i + 1 < k + 1
                · exact HNR.out i a c hik ha hc
                · obtain rfl : i = k := by omega
                  rw [HX.out] at ha
                  rw [HY.out] at hc
                  cases ha
                  cases hc
                  rintro ⟨n1, n2, _⟩
                  exact h0 (by rw [← HV.out]; exact n2)
              go_wp2
              go_roundg g1
              case measure => omega
              case rel => exact ⟨k + 1 + 1, by go_num, by omega, by have := HJ.out; omega, HNX.out, HM5.out.s.low⟩

set_option maxRecDepth 100000 in
set_option maxHeartbeats 8000000 in
theorem meetU_some (b o c0 bL c B g cap : Nat) (fs : List FactP) (l : List StrP) (w0 w : World) (hr : OwnR w B b o (.slice (some ⟨g, 0, none⟩) l.length cap) l) (hok : ∀ x ∈ l, StrOk fs x) (h0 : 0 < l.length) (hl : l.length ≤ 1000000)
    (hB : Below w0.heap.size w0 w) (hs : FVa w0 (.slice (some ⟨b, o, none⟩) fs.length c0) fs) (hg0 : w0.heap.size ≤ g) (hg : g < w.heap.size) (hL : bL < w.heap.size) (hp0 : w.cell? ⟨bL, 0, none⟩ = some (.func (.func 33) #[] #[])) (hp1 : w.cell? ⟨bL, 1, none⟩ = some (.func (.func 36) #[] #[])) (h2 : bL ≠ g) (hlc : l.length ≤ cap) :
    Calls Try.prog 30 #[.slice (some ⟨g, 0, none⟩) l.length cap, .slice (some ⟨bL, 0, none⟩) 2 c] w fun e w' => MeetEnd kA kV l e ∧ Below w0.heap.size w0 w' := by
  obtain ⟨w1, hw1⟩ : ∃ w1, w.alloc (.cells #[.slice (some ⟨bL, 0, none⟩) 2 c] 78) = w1 := ⟨_, rfl⟩
  have hb1 : Below w.heap.size w w1 := by rw [← hw1]; exact (Below.refl _ _).alloc (Nat.le_refl _) _
  have hz1 : w1.heap.size = w.heap.size + 1 := by rw [← hw1]; simp
  have hbx : Boxed w1 w.heap.size 78 (.slice (some ⟨bL, 0, none⟩) 2 c) := by rw [← hw1]; exact Boxed.new _ _ _
  have hPA : PartsAt w1 w.heap.size bL c 33 36 := ⟨hbx, by omega, (hb1.cell (p := ⟨bL, 0, none⟩) hL).trans hp0, (hb1.cell (p := ⟨bL, 1, none⟩) hL).trans hp1⟩
  have HSO := Lib.hid (sortU_any b o c0 w.heap.size bL c B g cap fs l w0 w1 (hr.next hb1) hok h0 hl (hB.trans (hb1.mono hB.size)) hs hg0 (by omega) hPA (by omega) h2)
  have HPA := Lib.hid hPA
  have HB1 := Lib.hid (hB.trans (hb1.mono hB.size))
  have HFV := Lib.hid hs
  have HOK := Lib.hid hok
  have HG0 := Lib.hid hg0
  have HG1 : Hid (g < w1.heap.size) := by show _ < _; omega
  have HLC := Lib.hid hlc
  have HNE := Lib.hid (show w.heap.size ≠ g ∧ bL ≠ g from ⟨by omega, h2⟩)
  clear hr hok hb1 hz1 hbx hPA hB hs hg0 hg hL hp0 hp1 h2 hlc
  go_enter Try.func30, Try.ntmps30
  go_wp2_with fail
  go_step3
  go_wp2_with fail
  refine HSO.out.mono ?_
  rintro e wS ⟨rfl, hRS⟩
  obtain ⟨l', hpm, hsd, hce⟩ := hRS.ex
  have hll : l'.length = l.length := hpm.length_eq
  have HPM := Lib.hid hpm
  have HSD := Lib.hid hsd
  have HCE := Lib.hid hce
  have HBS := Lib.hid (HB1.out.trans (hRS.low.mono HG0.out))
  have HPS := Lib.hid (HPA.out.other HNE.out.1 HNE.out.2 hRS.size hRS.other)
  have HGS : Hid (g < wS.heap.size) := Nat.lt_of_lt_of_le HG1.out hRS.size
  have hLG : (l.length : Int) = (l'.length : Int) := by rw [hll]
  have HLN : Hid (l'.length ≤ 1000000) := by show _ ≤ _; omega
  have HLC2 : Hid (l'.length ≤ cap) := by show _ ≤ _; rw [hll]; exact HLC.out
  have h0' : 0 < l'.length := by omega
  clear hpm hsd hce hRS HSO HPA hw1
  rw [← hll]
  clear hll hLG
  go_wp2
  go_step3
  go_wp2
  go_loopg [5] (l'.length - 1) (fun g1 y wr => ∃ j : Nat, y = .int .i64 j ∧ 1 ≤ j ∧ j + g1 = l'.length ∧ Hid (∀ (i : Nat) (x y : StrP), i + 1 < j → l'[i]? = some x → l'[i + 1]? = some y → ¬ Near kA kV x y) ∧ Hid (Below wS.heap.size wS wr))
  case atStart => exact ⟨1, rfl, Nat.le_refl _, by omega, fun i x y h => absurd h (by omega), Below.refl _ _⟩
  case round =>
    obtain ⟨j, rfl, hj1, hj, HNR, HB⟩ := hrel
    cases gk with
    | zero =>
      have hji : ¬ (j : Int) < (l'.length : Int) := by omega
      have HF : Hid (MeetEnd kA kV l (.returned (.bool false))) := by
        refine ⟨false, l', rfl, HPM.out, HSD.out, ?_⟩
        simp only [Bool.false_eq_true, false_iff]
        rintro ⟨i, x, y, hx, hy, hn⟩
        have : i + 1 < l'.length := (List.getElem?_eq_some_iff.1 hy).1
        exact HNR.out i x y (by omega) hx hy hn
      go_wp2
      go_ret
      exact ⟨HF.out, HBS.out.trans (HB.out.mono HBS.out.size)⟩
    | succ g1 =>
      obtain ⟨k, rfl⟩ : ∃ k, j = k + 1 := ⟨j - 1, by omega⟩
      have hji : ((k + 1 : Nat) : Int) < (l'.length : Int) := by omega
      have hjn : k + 1 < l'.length := by omega
      have hkn : k < l'.length := by omega
      have hjb : ((k + 1 : Nat) : Int) ≤ 1000000 := by have := HLN.out; omega
      obtain ⟨x, hx⟩ : ∃ x, l'[k]? = some x := ⟨_, List.getElem?_eq_getElem hkn⟩
      obtain ⟨y, hy⟩ : ∃ y, l'[k + 1]? = some y := ⟨_, List.getElem?_eq_getElem hjn⟩
      have HX := Lib.hid hx
      have HY := Lib.hid hy
      have HXO := Lib.hid (HOK.out x (HPM.out.mem_iff.1 (List.mem_of_getElem? hx)))
      have HYO := Lib.hid (HOK.out y (HPM.out.mem_iff.1 (List.mem_of_getElem? hy)))
      have HJ := Lib.hid hj
      have hjc : ((k + 1 : Nat) : Int) = (k : Int) + 1 := by omega
      rw [hjc] at hji hjb ⊢
      clear hx hy hj hj1 hjc
      go_upto_region 5 with (fail)
      have hkl : (k : Int) < (l'.length : Int) := by omega
      have hk1 : k + 1 < l'.length := by omega
      have hwr : IntKind.i64.wrap (k : Int) = (k : Int) := by have := HLN.out; simp [IntKind.wrap, IntKind.bits, IntKind.signed]; omega
      have hk0 : ¬ (k : Int) + 1 < 0 := by omega
      have HRX : Hid (∀ W, Below wS.heap.size wS W → W.cell? ⟨g, k * 3, none⟩ = some (.pointer (some ⟨b, o + x.j * 6, none⟩)) ∧ W.cell? ⟨g, k * 3 + 1, none⟩ = some (.int .i64 x.s.1) ∧ W.cell? ⟨g, k * 3 + 2, none⟩ = some (.int .i64 x.s.2)) := fun W hW => by
        have q := fun i (hi : i < 3) => (hW.cell (p := ⟨g, k * 3 + i, none⟩) HGS.out).trans (HCE.out k x HX.out i hi)
        exact ⟨q 0 (by decide), q 1 (by decide), q 2 (by decide)⟩
      have HRY : Hid (∀ W, Below wS.heap.size wS W → W.cell? ⟨g, (k + 1) * 3, none⟩ = some (.pointer (some ⟨b, o + y.j * 6, none⟩)) ∧ W.cell? ⟨g, (k + 1) * 3 + 1, none⟩ = some (.int .i64 y.s.1) ∧ W.cell? ⟨g, (k + 1) * 3 + 2, none⟩ = some (.int .i64 y.s.2)) := fun W hW => by
        have q := fun i (hi : i < 3) => (hW.cell (p := ⟨g, (k + 1) * 3 + i, none⟩) HGS.out).trans (HCE.out (k + 1) y HY.out i hi)
        exact ⟨q 0 (by decide), q 1 (by decide), q 2 (by decide)⟩
      refine wp_region_held_drew (S := fun W => Below wS.heap.size wS W) (by kernel_rfl) HB.out.drew (fun hHeld => ?_)
      refine takeV 0 (some 19) ((.slice (some ⟨g, 0, none⟩) l'.length cap)) rfl rfl (by kernel_rfl) (by kernel_rfl) (by kernel_rfl) (fun _ _ _ h => h) (by rfl) (by (intro _w _hSw; (try dsimp only at _hSw); go_simp)) (by assumption) ?_
      simp only [Act.put, List.setIfInBounds_toArray, List.set_cons_zero, List.set_cons_succ]
      refine takeV 1 (some 20) ((.int .i64 ((k : Int) + 1))) rfl rfl (by kernel_rfl) (by kernel_rfl) (by kernel_rfl) (fun _ _ _ h => h) (by rfl) (by (intro _w _hSw; (try dsimp only at _hSw); go_simp)) (by assumption) ?_
      simp only [Act.put, List.setIfInBounds_toArray, List.set_cons_zero, List.set_cons_succ]
      refine takeV 2 (some 21) ((.int .i64 (k : Int))) rfl rfl (by kernel_rfl) (by kernel_rfl) (by kernel_rfl) (fun _ _ _ h => h) (by rfl) (by (intro _w _hSw; (try dsimp only at _hSw); go_simp)) (by assumption) ?_
      simp only [Act.put, List.setIfInBounds_toArray, List.set_cons_zero, List.set_cons_succ]
      refine takeV 3 (some 22) ((.pointer (some ⟨g, k * 3, none⟩))) rfl rfl (by kernel_rfl) (by kernel_rfl) (by kernel_rfl) (fun _ _ _ h => h) (by rfl) (by (intro _w _hSw; (try dsimp only at _hSw); go_simp)) (by assumption) ?_
      simp only [Act.put, List.setIfInBounds_toArray, List.set_cons_zero, List.set_cons_succ]
      refine takeV 4 (some 23) ((.agg #[.pointer (some ⟨b, o + x.j * 6, none⟩), .int .i64 x.s.1, .int .i64 x.s.2])) rfl rfl (by kernel_rfl) (by kernel_rfl) (by kernel_rfl) (fun _ _ _ h => h) (by rfl) (by (intro _w hSw; obtain ⟨q0, q1, q2⟩ := HRX.out _ hSw; clear hSw; go_simp)) (by assumption) ?_
      simp only [Act.put, List.setIfInBounds_toArray, List.set_cons_zero, List.set_cons_succ]
      refine takeV 5 (some 24) ((.slice (some ⟨g, 0, none⟩) l'.length cap)) rfl rfl (by kernel_rfl) (by kernel_rfl) (by kernel_rfl) (fun _ _ _ h => h) (by rfl) (by (intro _w _hSw; (try dsimp only at _hSw); go_simp)) (by assumption) ?_
      simp only [Act.put, List.setIfInBounds_toArray, List.set_cons_zero, List.set_cons_succ]
      refine takeV 6 (some 25) ((.int .i64 ((k : Int) + 1))) rfl rfl (by kernel_rfl) (by kernel_rfl) (by kernel_rfl) (fun _ _ _ h => h) (by rfl) (by (intro _w _hSw; (try dsimp only at _hSw); go_simp)) (by assumption) ?_
      simp only [Act.put, List.setIfInBounds_toArray, List.set_cons_zero, List.set_cons_succ]
      refine takeV 7 (some 26) ((.pointer (some ⟨g, (k + 1) * 3, none⟩))) rfl rfl (by kernel_rfl) (by kernel_rfl) (by kernel_rfl) (fun _ _ _ h => h) (by rfl) (by (intro _w _hSw; (try dsimp only at _hSw); go_simp)) (by assumption) ?_
      simp only [Act.put, List.setIfInBounds_toArray, List.set_cons_zero, List.set_cons_succ]
      refine takeV 8 (some 27) ((.agg #[.pointer (some ⟨b, o + y.j * 6, none⟩), .int .i64 y.s.1, .int .i64 y.s.2])) rfl rfl (by kernel_rfl) (by kernel_rfl) (by kernel_rfl) (fun _ _ _ h => h) (by rfl) (by (intro _w hSw; obtain ⟨q0, q1, q2⟩ := HRY.out _ hSw; clear hSw; go_simp)) (by assumption) ?_
      simp only [Act.put, List.setIfInBounds_toArray, List.set_cons_zero, List.set_cons_succ]
      refine callV2 9 10 rfl rfl (by kernel_rfl) (by rfl) (by rfl) (fun K hK => ?_) (fun K hK => ?_)
      go_simp
      refine hK.out _ _ (Below.alloc (w := wr) HB.out HB.out.size (.cells #[.pointer none, .int .i64 0, .int .i64 0] 82)).drew (fun hHeld2 => ?_)
      clear hK K hHeld
      try simp only [Act.put, List.setIfInBounds_toArray, List.set_cons_zero, List.set_cons_succ]
      refine callV 10 rfl (by kernel_rfl) (by rfl) (fun K hK => ?_)
      go_simp
      obtain ⟨w2, hw2⟩ : ∃ w2, ((wr.alloc (.cells #[.pointer none, .int .i64 0, .int .i64 0] 82)).alloc (.cells #[.pointer none, .int .i64 0, .int .i64 0] 82)).drew = w2 := ⟨_, rfl⟩
      have hzz : w2.heap.size = wr.heap.size + 1 + 1 := by rw [← hw2]; show (World.heap _).size = _; simp
      have HA2 : Hid (Bx3 w2 (wr.heap.size) (.pointer none) (.int .i64 0) (.int .i64 0)) := by
        show Bx3 _ _ _ _ _
        rw [← hw2]
        exact bx3_first wr _ _ _ _
      have HC2 : Hid (Bx3 w2 (wr.heap.size + 1) (.pointer none) (.int .i64 0) (.int .i64 0)) := by
        show Bx3 _ _ _ _ _
        rw [← hw2]
        exact bx3_second wr _ _ _ _
      have HB2 : Hid (Below wS.heap.size wS w2) := by
        show Below _ _ _
        rw [← hw2]
        exact ((HB.out.alloc HB.out.size _).alloc (HB.out.alloc HB.out.size _).size _).drew
      have hge := HB.out.size
      obtain ⟨g7, hg7⟩ : ∃ g7, wr.heap.size + 1 = g7 := ⟨_, rfl⟩
      obtain ⟨g6, hg6⟩ : ∃ g6, wr.heap.size = g6 := ⟨_, rfl⟩
      have HNN : Hid (g6 ≠ g7 ∧ wS.heap.size ≤ g6 ∧ wS.heap.size ≤ g7) := ⟨by omega, by omega, by omega⟩
      rw [hw2, hg7, hg6]
      rw [hg6] at HA2
      rw [hg7] at HC2
      clear hw2 hg6 hg7 hge hzz
      refine hK.out _ _ HB2.out (fun hHeld3 => ?_)
      clear hK K hHeld2
      try simp only [Act.put, List.setIfInBounds_toArray, List.set_cons_zero, List.set_cons_succ]
      have z0 := HA2.out.c0
      have z1 := HA2.out.c1
      have z2 := HA2.out.c2
      have y0 := HA2.out.fz 0
      have y1 := HA2.out.fz 1
      have y2 := HA2.out.fz 2
      refine callV 11 rfl (by kernel_rfl) (by rfl) (fun K hK => ?_)
      go_simp
      obtain ⟨w3, hw3⟩ : ∃ w3, ((w2.setCell ⟨g6, 0, none⟩ (.pointer (some ⟨b, o + x.j * 6, none⟩))).setCell ⟨g6, 1, none⟩ (.int .i64 x.s.1)).setCell ⟨g6, 2, none⟩ (.int .i64 x.s.2) = w3 := ⟨_, rfl⟩
      have HA3 : Hid (RBx w3 g6 b o x) := by show RBx _ _ _ _ _; rw [← hw3]; exact HA2.out.set3 _ _ _
      have HC3 : Hid (Bx3 w3 g7 (.pointer none) (.int .i64 0) (.int .i64 0)) := by show Bx3 _ _ _ _ _; rw [← hw3]; exact HC2.out.off3 (fun e => HNN.out.1 e.symm) _ _ _
      have HB3 : Hid (Below wS.heap.size wS w3) := by show Below _ _ _; rw [← hw3]; exact below_setR HB2.out HNN.out.2.1 _ _ _
      rw [hw3]
      clear hw3 z0 z1 z2 y0 y1 y2 HA2 HC2 HB2
      refine hK.out _ _ HB3.out (fun hHeld4 => ?_)
      clear hK K hHeld3
      try simp only [Act.put, List.setIfInBounds_toArray, List.set_cons_zero, List.set_cons_succ]
      have z0 := HC3.out.c0
      have z1 := HC3.out.c1
      have z2 := HC3.out.c2
      have y0 := HC3.out.fz 0
      have y1 := HC3.out.fz 1
      have y2 := HC3.out.fz 2
      refine callV 12 rfl (by kernel_rfl) (by rfl) (fun K hK => ?_)
      go_simp
      obtain ⟨w4, hw4⟩ : ∃ w4, ((w3.setCell ⟨g7, 0, none⟩ (.pointer (some ⟨b, o + y.j * 6, none⟩))).setCell ⟨g7, 1, none⟩ (.int .i64 y.s.1)).setCell ⟨g7, 2, none⟩ (.int .i64 y.s.2) = w4 := ⟨_, rfl⟩
      have HA4 : Hid (RBx w4 g6 b o x) := by show RBx _ _ _ _ _; rw [← hw4]; exact Bx3.off3 HA3.out HNN.out.1 _ _ _
      have HC4 : Hid (RBx w4 g7 b o y) := by show RBx _ _ _ _ _; rw [← hw4]; exact HC3.out.set3 _ _ _
      have HB4 : Hid (Below wS.heap.size wS w4) := by show Below _ _ _; rw [← hw4]; exact below_setR HB3.out HNN.out.2.2 _ _ _
      rw [hw4]
      clear hw4 z0 z1 z2 y0 y1 y2 HA3 HC3 HB3
      refine hK.out _ _ HB4.out (fun hHeld5 => ?_)
      clear hK K hHeld4
      try simp only [Act.put, List.setIfInBounds_toArray, List.set_cons_zero, List.set_cons_succ]
      refine wpAnyH_done (by kernel_rfl) ?_ _
      clear hHeld5
      rotate_left
      go_simp
      refine hK.out _ _ (Below.alloc (w := wr) HB.out HB.out.size (.cells #[.pointer none, .int .i64 0, .int .i64 0] 82)).drew (fun hHeld2 => ?_)
      clear hK K hHeld
      try simp only [Act.put, List.setIfInBounds_toArray, List.set_cons_zero, List.set_cons_succ]
      refine callV 9 rfl (by kernel_rfl) (by rfl) (fun K hK => ?_)
      go_simp
      obtain ⟨w2, hw2⟩ : ∃ w2, ((wr.alloc (.cells #[.pointer none, .int .i64 0, .int .i64 0] 82)).alloc (.cells #[.pointer none, .int .i64 0, .int .i64 0] 82)).drew = w2 := ⟨_, rfl⟩
      have hzz : w2.heap.size = wr.heap.size + 1 + 1 := by rw [← hw2]; show (World.heap _).size = _; simp
      have HA2 : Hid (Bx3 w2 (wr.heap.size + 1) (.pointer none) (.int .i64 0) (.int .i64 0)) := by
        show Bx3 _ _ _ _ _
        rw [← hw2]
        exact bx3_second wr _ _ _ _
      have HC2 : Hid (Bx3 w2 (wr.heap.size) (.pointer none) (.int .i64 0) (.int .i64 0)) := by
        show Bx3 _ _ _ _ _
        rw [← hw2]
        exact bx3_first wr _ _ _ _
      have HB2 : Hid (Below wS.heap.size wS w2) := by
        show Below _ _ _
        rw [← hw2]
        exact ((HB.out.alloc HB.out.size _).alloc (HB.out.alloc HB.out.size _).size _).drew
      have hge := HB.out.size
      obtain ⟨g7, hg7⟩ : ∃ g7, wr.heap.size = g7 := ⟨_, rfl⟩
      obtain ⟨g6, hg6⟩ : ∃ g6, wr.heap.size + 1 = g6 := ⟨_, rfl⟩
      have HNN : Hid (g6 ≠ g7 ∧ wS.heap.size ≤ g6 ∧ wS.heap.size ≤ g7) := ⟨by omega, by omega, by omega⟩
      rw [hw2, hg6, hg7]
      rw [hg6] at HA2
      rw [hg7] at HC2
      clear hw2 hg6 hg7 hge hzz
      refine hK.out _ _ HB2.out (fun hHeld3 => ?_)
      clear hK K hHeld2
      try simp only [Act.put, List.setIfInBounds_toArray, List.set_cons_zero, List.set_cons_succ]
      have z0 := HA2.out.c0
      have z1 := HA2.out.c1
      have z2 := HA2.out.c2
      have y0 := HA2.out.fz 0
      have y1 := HA2.out.fz 1
      have y2 := HA2.out.fz 2
      refine callV 11 rfl (by kernel_rfl) (by rfl) (fun K hK => ?_)
      go_simp
      obtain ⟨w3, hw3⟩ : ∃ w3, ((w2.setCell ⟨g6, 0, none⟩ (.pointer (some ⟨b, o + x.j * 6, none⟩))).setCell ⟨g6, 1, none⟩ (.int .i64 x.s.1)).setCell ⟨g6, 2, none⟩ (.int .i64 x.s.2) = w3 := ⟨_, rfl⟩
      have HA3 : Hid (RBx w3 g6 b o x) := by show RBx _ _ _ _ _; rw [← hw3]; exact HA2.out.set3 _ _ _
      have HC3 : Hid (Bx3 w3 g7 (.pointer none) (.int .i64 0) (.int .i64 0)) := by show Bx3 _ _ _ _ _; rw [← hw3]; exact HC2.out.off3 (fun e => HNN.out.1 e.symm) _ _ _
      have HB3 : Hid (Below wS.heap.size wS w3) := by show Below _ _ _; rw [← hw3]; exact below_setR HB2.out HNN.out.2.1 _ _ _
      rw [hw3]
      clear hw3 z0 z1 z2 y0 y1 y2 HA2 HC2 HB2
      refine hK.out _ _ HB3.out (fun hHeld4 => ?_)
      clear hK K hHeld3
      try simp only [Act.put, List.setIfInBounds_toArray, List.set_cons_zero, List.set_cons_succ]
      have z0 := HC3.out.c0
      have z1 := HC3.out.c1
      have z2 := HC3.out.c2
      have y0 := HC3.out.fz 0
      have y1 := HC3.out.fz 1
      have y2 := HC3.out.fz 2
      refine callV 12 rfl (by kernel_rfl) (by rfl) (fun K hK => ?_)
      go_simp
      obtain ⟨w4, hw4⟩ : ∃ w4, ((w3.setCell ⟨g7, 0, none⟩ (.pointer (some ⟨b, o + y.j * 6, none⟩))).setCell ⟨g7, 1, none⟩ (.int .i64 y.s.1)).setCell ⟨g7, 2, none⟩ (.int .i64 y.s.2) = w4 := ⟨_, rfl⟩
      have HA4 : Hid (RBx w4 g6 b o x) := by show RBx _ _ _ _ _; rw [← hw4]; exact Bx3.off3 HA3.out HNN.out.1 _ _ _
      have HC4 : Hid (RBx w4 g7 b o y) := by show RBx _ _ _ _ _; rw [← hw4]; exact HC3.out.set3 _ _ _
      have HB4 : Hid (Below wS.heap.size wS w4) := by show Below _ _ _; rw [← hw4]; exact below_setR HB3.out HNN.out.2.2 _ _ _
      rw [hw4]
      clear hw4 z0 z1 z2 y0 y1 y2 HA3 HC3 HB3
      refine hK.out _ _ HB4.out (fun hHeld5 => ?_)
      clear hK K hHeld4
      try simp only [Act.put, List.setIfInBounds_toArray, List.set_cons_zero, List.set_cons_succ]
      refine wpAnyH_done (by kernel_rfl) ?_ _
      clear hHeld5
      all_goals
        have HP4 := Lib.hid (HPS.out.next HB4.out)
        have b0 := HP4.out.box.cell
        have HM4 : Hid (CmpS wS g6 g7 b o c0 w.heap.size bL c 33 36 fs x y w4) := ⟨⟨HA4.out, HC4.out, HFV.out.next (HBS.out.trans (HB4.out.mono HBS.out.size)), HB4.out⟩, HP4.out⟩
        clear HA4 HC4 HB4 HB
        go_wp2
        clear b0
        go_loopg [30] 2 (fun g2 i wr2 => ∃ q : Nat, i = .int .i64 q ∧ q + g2 = 2 ∧ Hid (0 < q → kA x y = 0) ∧ Hid (1 < q → kV x y = 0) ∧ Hid (CmpS wS g6 g7 b o c0 w.heap.size bL c 33 36 fs x y wr2))
        case atStart => exact ⟨0, rfl, by omega, fun h => absurd h (by omega), fun h => absurd h (by omega), HM4.out⟩
        case round =>
          obtain ⟨q, rfl, hq, H1, H2, HM⟩ := hrel
          cases gk with
          | zero =>
            obtain rfl : q = 2 := by omega
            have hx2 := HM.out.s.x1.c2
            have hy1 := HM.out.s.y1.c1
            by_cases hlt : y.s.1 < x.s.2
            · have HE : Hid (MeetEnd kA kV l (.returned (.bool true))) := ⟨true, l', rfl, HPM.out, HSD.out, fun _ => ⟨k, x, y, HX.out, HY.out, H1.out (by omega), H2.out (by omega), hlt⟩, fun _ => rfl⟩
              go_wp2
              go_ret
              exact ⟨HE.out, HBS.out.trans (HM.out.s.low.mono HBS.out.size)⟩
            · have HNX : Hid (∀ (i : Nat) (x y : StrP), i + 1 < k + 1 + 1 → l'[i]? = some x → l'[i + 1]? = some y → ¬ Near kA kV x y) := fun i a c hi ha hc => by
                by_cases hik : i + 1 < k + 1
                · exact HNR.out i a c hik ha hc
                · obtain rfl : i = k := by omega
                  rw [HX.out] at ha
                  rw [HY.out] at hc
                  cases ha
                  cases hc
                  exact fun hn => hlt hn.2.2
              go_wp2
              go_roundg g1
              case measure => omega
              case rel => exact ⟨k + 1 + 1, by go_num, by omega, by have := HJ.out; omega, HNX.out, HM.out.s.low⟩
          | succ g2 =>
          rcases (show q = 0 ∨ q = 1 by omega) with rfl | rfl
          · have p0 := HM.out.p.p0
            have hx0 := HM.out.s.x1.c0
            have hx1 := HM.out.s.x1.c1
            have hx2 := HM.out.s.x1.c2
            have hy0 := HM.out.s.y1.c0
            have hy1 := HM.out.s.y1.c1
            have hy2 := HM.out.s.y1.c2
            have HC := Lib.hid (byA_any b o c0 fs x y wr HM.out.s.f HXO.out HYO.out)
            go_wp2_with fail
            refine (show Calls _ _ _ wr (fun e w' => e = .returned (.int .i64 (kA x y)) ∧ Below wr.heap.size wr w') from HC.out).mono ?_
            rintro e w5 ⟨rfl, hb5⟩
            have HM5 := Lib.hid (HM.out.next hb5)
            obtain ⟨v, hv⟩ : ∃ v, kA x y = v := ⟨_, rfl⟩
            rw [hv]
            have HV := Lib.hid hv
            clear hb5 HC hx0 hx1 hx2 hy0 hy1 hy2 p0 hv
            by_cases h0 : v = 0
            · subst h0
              go_wp2
              go_roundg g2
              case measure => omega
              case rel => exact ⟨0 + 1, by go_num, by omega, fun _ => HV.out, fun h => absurd h (by omega), HM5.out⟩
            · have hd : (v != 0) = true := by simp [h0]
              have HNX : Hid (∀ (i : Nat) (x y : StrP), i + 1 < k + 1 + 1 → l'[i]? = some x → l'[i + 1]? = some y → ¬ Near kA kV x y) := fun i a c hi ha hc => by
                by_cases hik : i + 1 < k + 1
                · exact HNR.out i a c hik ha hc
                · obtain rfl : i = k := by omega
                  rw [HX.out] at ha
                  rw [HY.out] at hc
                  cases ha
                  cases hc
                  rintro ⟨n1, n2, _⟩
                  exact h0 (by rw [← HV.out]; exact n1)
              go_wp2
              go_roundg g1
              case measure => omega
              case rel => exact ⟨k + 1 + 1, by go_num, by omega, by have := HJ.out; omega, HNX.out, HM5.out.s.low⟩
          · have p1 := HM.out.p.p1
            have hx0 := HM.out.s.x1.c0
            have hx1 := HM.out.s.x1.c1
            have hx2 := HM.out.s.x1.c2
            have hy0 := HM.out.s.y1.c0
            have hy1 := HM.out.s.y1.c1
            have hy2 := HM.out.s.y1.c2
            have HC := Lib.hid (byV_any b o c0 fs x y wr HM.out.s.f HXO.out HYO.out)
            go_wp2_with fail
            refine (show Calls _ _ _ wr (fun e w' => e = .returned (.int .i64 (kV x y)) ∧ Below wr.heap.size wr w') from HC.out).mono ?_
            rintro e w5 ⟨rfl, hb5⟩
            have HM5 := Lib.hid (HM.out.next hb5)
            obtain ⟨v, hv⟩ : ∃ v, kV x y = v := ⟨_, rfl⟩
            rw [hv]
            have HV := Lib.hid hv
            clear hb5 HC hx0 hx1 hx2 hy0 hy1 hy2 p1 hv
            by_cases h0 : v = 0
            · subst h0
              go_wp2
              go_roundg g2
              case measure => omega
              case rel => exact ⟨1 + 1, by go_num, by omega, fun _ => H1.out (by omega), fun _ => HV.out, HM5.out⟩
            · have hd : (v != 0) = true := by simp [h0]
              have HNX : Hid (∀ (i : Nat) (x y : StrP), i + 1 < k + 1 + 1 → l'[i]? = some x → l'[i + 1]? = some y → ¬ Near kA kV x y) := fun i a c hi ha hc => by
                by_cases hik : i + 1 < k + 1
                · exact HNR.out i a c hik ha hc
                · obtain rfl : i = k := by omega
                  rw [HX.out] at ha
                  rw [HY.out] at hc
                  cases ha
                  cases hc
                  rintro ⟨n1, n2, _⟩
                  exact h0 (by rw [← HV.out]; exact n2)
              go_wp2
              go_roundg g1
              case measure => omega
              case rel => exact ⟨k + 1 + 1, by go_num, by omega, by have := HJ.out; omega, HNX.out, HM5.out.s.low⟩
end Go.Proofs.Ytlmihlepaoifiaa

/-
  PLAIN: two neighbours meet, of stretches in order, just if some two meet.
-/
namespace Go.Proofs.Ytlmihlepaoifiaa

theorem cmpK_zero {k1 k2 : StrP → StrP → Int} {x y : StrP} (h1 : k1 x y = 0) (h2 : k2 x y = 0) : cmpK k1 k2 x y = ordI x.s.1 y.s.1 := by unfold cmpK; rw [if_pos h1, if_pos h2]
/-- what parts that tell apart keep -/
structure Parts (k1 k2 : StrP → StrP → Int) : Prop where
  swap1 : ∀ x y, k1 x y = 0 → k1 y x = 0
  swap2 : ∀ x y, k2 x y = 0 → k2 y x = 0
  tr1 : ∀ x y z, k1 x y = 0 → k1 y z = 0 → k1 x z = 0
  tr2 : ∀ x y z, k2 x y = 0 → k2 y z = 0 → k2 x z = 0
  mid : ∀ x y z, k1 x z = 0 → k2 x z = 0 → ¬ cmpK k1 k2 y x < 0 → ¬ cmpK k1 k2 z y < 0 → k1 x y = 0 ∧ k2 x y = 0
theorem ordI_neg {a b : Int} : ordI a b < 0 ↔ a < b := by
  unfold ordI
  split
  · constructor
    · intro _; assumption
    · intro _; decide
  · split
    · constructor
      · intro h; omega
      · intro h; omega
    · constructor
      · intro h; omega
      · intro h; omega
/-- no two of the stretches meet -/
theorem near_pairs {k1 k2 : StrP → StrP → Int} (hk : Parts k1 k2) {l' : List StrP} (ho : InOrd k1 k2 l') (hp : ∀ x ∈ l', x.s.1 < x.s.2) :
    (∃ (i : Nat) (x y : StrP), l'[i]? = some x ∧ l'[i + 1]? = some y ∧ Near k1 k2 x y) ↔ ¬ l'.Pairwise (Apart k1 k2) := by
  constructor
  · rintro ⟨i, x, y, hx, hy, h1, h2, h3⟩ hpw
    have hi : i < l'.length := (List.getElem?_eq_some_iff.1 hx).1
    have hj : i + 1 < l'.length := (List.getElem?_eq_some_iff.1 hy).1
    have := List.pairwise_iff_getElem.1 hpw i (i + 1) hi hj (by omega)
    rw [(List.getElem?_eq_some_iff.1 hx).2, (List.getElem?_eq_some_iff.1 hy).2] at this
    have h9 := ho i (i + 1) x y (by omega) hx hy
    rw [cmpK_zero (hk.swap1 _ _ h1) (hk.swap2 _ _ h2), ordI_neg] at h9
    have hpy := hp y (List.mem_of_getElem? hy)
    exact this ⟨h1, h2, by omega, h3⟩
  · intro hn
    refine Classical.byContradiction fun hno => hn ?_
    rw [List.pairwise_iff_getElem]
    intro i j hi hj hij ⟨h1, h2, h3, h4⟩
    have hx : l'[i]? = some l'[i] := List.getElem?_eq_getElem hi
    have hz : l'[j]? = some l'[j] := List.getElem?_eq_getElem hj
    have hi1 : i + 1 < l'.length := by omega
    have hy : l'[i + 1]? = some l'[i + 1] := List.getElem?_eq_getElem hi1
    by_cases he : i + 1 = j
    · subst he
      exact hno ⟨i, _, _, hx, hz, h1, h2, h4⟩
    · have hxy := ho i (i + 1) _ _ (by omega) hx hy
      have hyz := ho (i + 1) j _ _ (by omega) hy hz
      obtain ⟨m1, m2⟩ := hk.mid _ _ _ h1 h2 hxy hyz
      have n1 : k1 l'[i + 1] l'[j] = 0 := hk.tr1 _ _ _ (hk.swap1 _ _ m1) h1
      have n2 : k2 l'[i + 1] l'[j] = 0 := hk.tr2 _ _ _ (hk.swap2 _ _ m2) h2
      rw [cmpK_zero (hk.swap1 _ _ n1) (hk.swap2 _ _ n2), ordI_neg] at hyz
      exact hno ⟨i, _, _, hx, hy, m1, m2, by omega⟩
theorem apart_swap {k1 k2 : StrP → StrP → Int} (hk : Parts k1 k2) {x y : StrP} (h : Apart k1 k2 x y) : Apart k1 k2 y x := fun ⟨h1, h2, h3, h4⟩ => h ⟨hk.swap1 _ _ h1, hk.swap2 _ _ h2, h4, h3⟩
/-- what meet answers, of the stretches as they come -/
theorem meet_says {k1 k2 : StrP → StrP → Int} (hk : Parts k1 k2) {l : List StrP} {e : Ending} (hp : ∀ x ∈ l, x.s.1 < x.s.2) (h : MeetEnd k1 k2 l e) : ∃ r : Bool, e = .returned (.bool r) ∧ (r = true ↔ ¬ l.Pairwise (Apart k1 k2)) := by
  obtain ⟨r, l', he, hpm, ho, hr⟩ := h
  refine ⟨r, he, ?_⟩
  rw [hr, near_pairs hk ho (fun x hx => hp x (hpm.mem_iff.1 hx)), hpm.pairwise_iff (fun h => apart_swap hk h)]
/-! ### the two pairs of parts -/
/-- between two that a part does not tell apart -/
theorem mid_of {α : Type} {c : α → α → Int} (h : VOrd.IsOrd c) {a b d : α} (had : a = d) (h1 : ¬ c b a < 0) (h2 : ¬ c d b < 0) : c a b = 0 := by
  subst had
  have s := h.swap a b
  omega
theorem cmpK_ge1 {k1 k2 : StrP → StrP → Int} {a b : StrP} (h : ¬ cmpK k1 k2 a b < 0) : ¬ k1 a b < 0 := by
  unfold cmpK at h
  split at h
  · omega
  · exact h
theorem cmpK_ge2 {k1 k2 : StrP → StrP → Int} {a b : StrP} (h1 : k1 a b = 0) (h : ¬ cmpK k1 k2 a b < 0) : ¬ k2 a b < 0 := by
  unfold cmpK at h
  rw [if_pos h1] at h
  split at h
  · omega
  · exact h
/-- two parts that are orders of what they read -/
theorem parts_of {κ μ : Type} {c1 : κ → κ → Int} {c2 : μ → μ → Int} (h1 : VOrd.IsOrd c1) (h2 : VOrd.IsOrd c2) (f : StrP → κ) (g : StrP → μ) : Parts (fun x y => c1 (f x) (f y)) (fun x y => c2 (g x) (g y)) where
  swap1 := fun x y h => (h1.zero _ _).2 ((h1.zero _ _).1 h).symm
  swap2 := fun x y h => (h2.zero _ _).2 ((h2.zero _ _).1 h).symm
  tr1 := fun x y z h k => (h1.zero _ _).2 (((h1.zero _ _).1 h).trans ((h1.zero _ _).1 k))
  tr2 := fun x y z h k => (h2.zero _ _).2 (((h2.zero _ _).1 h).trans ((h2.zero _ _).1 k))
  mid := fun x y z e1 e2 hyx hzy => by
    have m1 : c1 (f x) (f y) = 0 := mid_of h1 ((h1.zero _ _).1 e1) (cmpK_ge1 hyx) (cmpK_ge1 hzy)
    have m1' : c1 (f y) (f x) = 0 := (h1.zero _ _).2 ((h1.zero _ _).1 m1).symm
    have m1'' : c1 (f z) (f y) = 0 := (h1.zero _ _).2 (((h1.zero _ _).1 e1).symm.trans ((h1.zero _ _).1 m1))
    exact ⟨m1, mid_of h2 ((h2.zero _ _).1 e2) (cmpK_ge2 m1' hyx) (cmpK_ge2 m1'' hzy)⟩
theorem partsT : Parts kE kA := parts_of VOrd.ordI_is VOrd.ordI_is (fun x => x.f.e) (fun x => x.f.a)
theorem partsU : Parts kA kV := parts_of VOrd.ordI_is VOrd.ordT_is (fun x => x.f.a) (fun x => (x.f.k, (x.f.m, x.f.s)))
end Go.Proofs.Ytlmihlepaoifiaa

/-
  CONTRACTS: stretches of no facts, meet of no stretches.
-/
namespace Go.Proofs.Ytlmihlepaoifiaa
open Go.RowKit Go.Shelf Go.Maps

set_option maxRecDepth 100000 in
theorem strnoneT_any (bB : Nat) (A : Option Addr) (c0 : Nat) (w : World) :
    Calls Try.prog 31 #[.slice A 0 c0, .func (.func 29) #[] #[.pointer (some ⟨bB, 0, none⟩)]] w fun e w' => e = .returned (.slice none 0 0) ∧ Below w.heap.size w w' := by
  go_enter Try.func31, Try.ntmps31
  go_wp2
  go_loopg [5, 12] 0 (fun g x i wr => x = .slice none 0 0 ∧ i = .int .i64 0 ∧ wr = w)
  case atStart => exact ⟨rfl, rfl, rfl⟩
  case round =>
    obtain ⟨rfl, rfl, rfl⟩ := hrel
    go_wp2
    go_ret
    exact ⟨rfl, Below.refl _ _⟩
set_option maxRecDepth 100000 in
theorem strnoneU_any (bB : Nat) (A : Option Addr) (c0 : Nat) (w : World) :
    Calls Try.prog 31 #[.slice A 0 c0, .func (.func 35) #[] #[.pointer (some ⟨bB, 0, none⟩)]] w fun e w' => e = .returned (.slice none 0 0) ∧ Below w.heap.size w w' := by
  go_enter Try.func31, Try.ntmps31
  go_wp2
  go_loopg [5, 12] 0 (fun g x i wr => x = .slice none 0 0 ∧ i = .int .i64 0 ∧ wr = w)
  case atStart => exact ⟨rfl, rfl, rfl⟩
  case round =>
    obtain ⟨rfl, rfl, rfl⟩ := hrel
    go_wp2
    go_ret
    exact ⟨rfl, Below.refl _ _⟩
set_option maxRecDepth 100000 in
set_option maxHeartbeats 1000000 in
theorem meetnone_any (A : Option Addr) (c0 bL c : Nat) (w : World) :
    Calls Try.prog 30 #[.slice A 0 c0, .slice (some ⟨bL, 0, none⟩) 2 c] w fun e w' => e = .returned (.bool false) ∧ Below w.heap.size w w' := by
  have HCON := Lib.hid (fun W => AnyF.slices_SortFunc_none Try.sortStr A c0 (.func (.func 50) #[] #[.pointer (some ⟨w.heap.size, 0, none⟩)]) W)
  go_enter Try.func30, Try.ntmps30
  go_wp2_with fail
  go_step3
  go_wp2_with fail
  refine (show Calls Try.prog 49 #[.slice A 0 c0, _] _ _ from HCON.out _).mono ?_
  rintro e w2 ⟨rfl, rfl⟩
  have HB : Hid (Below w.heap.size w (w.alloc (.cells #[.slice (some ⟨bL, 0, none⟩) 2 c] 78))) := (Below.refl _ _).alloc (Nat.le_refl _) _
  obtain ⟨w1, hw1⟩ : ∃ w1, w.alloc (.cells #[.slice (some ⟨bL, 0, none⟩) 2 c] 78) = w1 := ⟨_, rfl⟩
  rw [hw1] at HB ⊢
  clear hw1 HCON
  go_wp2
  go_step3
  go_wp2
  go_loopg [5] 0 (fun g i wr => i = .int .i64 1 ∧ wr = w1)
  case atStart => exact ⟨rfl, rfl⟩
  case round =>
    obtain ⟨rfl, rfl⟩ := hrel
    go_wp2
    rw [Exit.noGoto_ret]
    go_ret
    exact ⟨rfl, HB.out⟩
end Go.Proofs.Ytlmihlepaoifiaa

/-
  CONTRACTS: the closures of the rows that ask whether two facts meet.
-/
namespace Go.Proofs.Ytlmihlepaoifiaa
open Go.RowKit Go.Shelf Go.Maps

theorem OwnR.form {W : World} {B b o : Nat} {v : Value} {l : List StrP} (h : OwnR W B b o v l) : (l = [] ∧ ∃ A c, v = .slice A 0 c) ∨ (0 < l.length ∧ ∃ g cap, v = .slice (some ⟨g, 0, none⟩) l.length cap ∧ B ≤ g ∧ g < W.heap.size ∧ l.length ≤ cap) := by
  rcases h.2 with ⟨rfl, h0⟩ | ⟨g, cap, cur, rfl, hB, hgb, hlc, _⟩
  · exact .inl ⟨List.length_eq_zero_iff.1 h0, none, 0, rfl⟩
  · rcases Nat.eq_zero_or_pos l.length with h0 | h0
    · exact .inl ⟨List.length_eq_zero_iff.1 h0, some ⟨g, 0, none⟩, cap, by rw [h0]⟩
    · exact .inr ⟨h0, g, cap, rfl, hB, (Array.getElem?_eq_some_iff.1 hgb).1, hlc⟩
set_option maxRecDepth 100000 in
set_option maxHeartbeats 2000000 in
theorem twoT_any (T : List Att) (bB bM bX : Nat) (A : Option Addr) (c0 : Nat) (fs : List FactP) (w : World) (hs : FVa w (.slice A fs.length c0) fs) (hl : fs.length ≤ 10000) (hS : sumS fs ≤ 100000) (hwf : ∀ f ∈ fs, WfF f) (hpos : ∀ f ∈ fs, ∀ s ∈ f.l, s.1 < s.2)
    (hmp : Boxed w bB 62 (.map (some bM))) (hm : MapAt w bM T) (hx : Boxed w bX 24 (.slice A fs.length c0)) :
    Calls Try.prog 28 #[.pointer (some ⟨bB, 0, none⟩), .pointer (some ⟨bX, 0, none⟩)] w fun e w' => (∃ r : Bool, e = .returned (.bool r) ∧ (r = true ↔ ¬ (strF (a3B T) 0 fs).Pairwise (Apart kE kA))) ∧ Below w.heap.size w w' := by
  have x0 := hx.cell
  have HW : Hid (∃ b o, (fs ≠ [] → A = some ⟨b, o, none⟩) ∧ Calls Try.prog 31 #[.slice A fs.length c0, .func (.func 29) #[] #[.pointer (some ⟨bB, 0, none⟩)]] w fun e w' => (∃ v, e = .returned v ∧ OwnR w' w.heap.size b o v (strF (a3B T) 0 fs)) ∧ Below w.heap.size w w') := by
    by_cases hf : fs = []
    · subst hf
      exact ⟨0, 0, fun h => absurd rfl h, (strnoneT_any bB A c0 w).mono fun e w' ⟨he, hb⟩ => ⟨⟨_, he, ownR_nil _ _ _ _⟩, hb⟩⟩
    · obtain ⟨A2, c2, e, hsx, _⟩ := id hs
      injection e with e1 _ e3
      subst e1
      obtain ⟨b, o, rfl, _⟩ := hsx hf
      exact ⟨b, o, fun _ => rfl, strT_any T bB bM b o c0 fs w hs hl hS hwf hmp hm⟩
  obtain ⟨b, o, hA, hC⟩ := HW.out
  have HC := Lib.hid hC
  have HA := Lib.hid hA
  have HS := Lib.hid hs
  obtain ⟨L, hL⟩ : ∃ L, strF (a3B T) 0 fs = L := ⟨_, rfl⟩
  have HLP : Hid ((∀ x ∈ L, StrOk fs x) ∧ (∀ x ∈ L, x.s.1 < x.s.2) ∧ L.length ≤ 100000 ∧ (L ≠ [] → fs ≠ [])) := by
    show _ ∧ _
    rw [← hL]
    refine ⟨fun x hx => (strF_ok0 hx).1, fun x hx => ?_, Nat.le_trans (strF_len _ _ _) hS, fun h e => h (by rw [e]; rfl)⟩
    obtain ⟨h1, h2, _⟩ := strF_ok0 hx
    exact hpos x.f (List.mem_of_getElem? h1) x.s h2
  rw [hL] at HC ⊢
  clear hC hA hs hS hl hwf hpos hmp hm hx hL HW
  go_enter Try.func28, Try.ntmps28
  go_wp2_with fail
  refine HC.out.mono ?_
  rintro e w1 ⟨⟨v, rfl, ho⟩, hb1⟩
  have HB1 := Lib.hid hb1
  obtain ⟨w2, hw2⟩ : ∃ w2, w1.alloc (.cells #[.func (.func 32) #[] #[], .func (.func 33) #[] #[]] 70) = w2 := ⟨_, rfl⟩
  have hbl : Below w1.heap.size w1 w2 := by rw [← hw2]; exact (Below.refl _ _).alloc (Nat.le_refl _) _
  have hz2 : w2.heap.size = w1.heap.size + 1 := by rw [← hw2]; simp
  have hcl : w2.heap[w1.heap.size]? = some (.cells #[.func (.func 32) #[] #[], .func (.func 33) #[] #[]] 70 (0, 0)) := by rw [← hw2]; exact heap_alloc_new w1 _
  have hp0 : w2.cell? ⟨w1.heap.size, 0, none⟩ = some (.func (.func 32) #[] #[]) := by simp [World.cell?, hcl]
  have hp1 : w2.cell? ⟨w1.heap.size, 1, none⟩ = some (.func (.func 33) #[] #[]) := by simp [World.cell?, hcl]
  have HB2 := Lib.hid (hb1.trans (hbl.mono hb1.size))
  rcases ho.form with ⟨h0, A9, c9, rfl⟩ | ⟨h0, g, cap, rfl, hg0, hg, hlc⟩
  · subst h0
    have HM := Lib.hid (meetnone_any A9 c9 w1.heap.size 2 w2)
    clear hb1 ho hbl hz2 hcl hp0 hp1 HC x0
    go_wp2_with fail
    refine HM.out.mono ?_
    rintro e w3 ⟨rfl, hb3⟩
    have HB3 := Lib.hid (HB2.out.trans (hb3.mono HB2.out.size))
    clear hb3 HM hw2
    go_wp2
    go_ret
    exact ⟨⟨false, rfl, by simp⟩, HB3.out⟩
  · have hfs := HLP.out.2.2.2 (List.length_pos_iff.1 h0)
    have hAe := HA.out hfs
    subst hAe
    have HM := Lib.hid (meetT_some b o c0 w1.heap.size 2 w.heap.size g cap fs L w w2 (ho.next hbl) HLP.out.1 h0 (by have := HLP.out.2.2.1; omega) HB2.out HS.out hg0 (by omega) (by omega) hp0 hp1 (by omega) hlc)
    clear hb1 ho hbl hz2 hcl hp0 hp1 HC x0 hg0 hg hlc h0 hfs
    go_wp2_with fail
    refine HM.out.mono ?_
    rintro e w3 ⟨hme, hb3⟩
    obtain ⟨r, rfl, hr⟩ := meet_says partsT HLP.out.2.1 hme
    have HR := Lib.hid hr
    have HB3 := Lib.hid hb3
    clear hb3 HM hme hr hw2
    go_wp2
    go_ret
    exact ⟨⟨r, rfl, HR.out⟩, HB3.out⟩
set_option maxRecDepth 100000 in
set_option maxHeartbeats 2000000 in
theorem twoU_any (T : List Att) (bB bM bX : Nat) (A : Option Addr) (c0 : Nat) (fs : List FactP) (w : World) (hs : FVa w (.slice A fs.length c0) fs) (hl : fs.length ≤ 10000) (hS : sumS fs ≤ 100000) (hwf : ∀ f ∈ fs, WfF f) (hpos : ∀ f ∈ fs, ∀ s ∈ f.l, s.1 < s.2)
    (hmp : Boxed w bB 62 (.map (some bM))) (hm : MapAt w bM T) (hx : Boxed w bX 24 (.slice A fs.length c0)) :
    Calls Try.prog 34 #[.pointer (some ⟨bB, 0, none⟩), .pointer (some ⟨bX, 0, none⟩)] w fun e w' => (∃ r : Bool, e = .returned (.bool r) ∧ (r = true ↔ ¬ (strF (a4B T) 0 fs).Pairwise (Apart kA kV))) ∧ Below w.heap.size w w' := by
  have x0 := hx.cell
  have HW : Hid (∃ b o, (fs ≠ [] → A = some ⟨b, o, none⟩) ∧ Calls Try.prog 31 #[.slice A fs.length c0, .func (.func 35) #[] #[.pointer (some ⟨bB, 0, none⟩)]] w fun e w' => (∃ v, e = .returned v ∧ OwnR w' w.heap.size b o v (strF (a4B T) 0 fs)) ∧ Below w.heap.size w w') := by
    by_cases hf : fs = []
    · subst hf
      exact ⟨0, 0, fun h => absurd rfl h, (strnoneU_any bB A c0 w).mono fun e w' ⟨he, hb⟩ => ⟨⟨_, he, ownR_nil _ _ _ _⟩, hb⟩⟩
    · obtain ⟨A2, c2, e, hsx, _⟩ := id hs
      injection e with e1 _ e3
      subst e1
      obtain ⟨b, o, rfl, _⟩ := hsx hf
      exact ⟨b, o, fun _ => rfl, strU_any T bB bM b o c0 fs w hs hl hS hwf hmp hm⟩
  obtain ⟨b, o, hA, hC⟩ := HW.out
  have HC := Lib.hid hC
  have HA := Lib.hid hA
  have HS := Lib.hid hs
  obtain ⟨L, hL⟩ : ∃ L, strF (a4B T) 0 fs = L := ⟨_, rfl⟩
  have HLP : Hid ((∀ x ∈ L, StrOk fs x) ∧ (∀ x ∈ L, x.s.1 < x.s.2) ∧ L.length ≤ 100000 ∧ (L ≠ [] → fs ≠ [])) := by
    show _ ∧ _
    rw [← hL]
    refine ⟨fun x hx => (strF_ok0 hx).1, fun x hx => ?_, Nat.le_trans (strF_len _ _ _) hS, fun h e => h (by rw [e]; rfl)⟩
    obtain ⟨h1, h2, _⟩ := strF_ok0 hx
    exact hpos x.f (List.mem_of_getElem? h1) x.s h2
  rw [hL] at HC ⊢
  clear hC hA hs hS hl hwf hpos hmp hm hx hL HW
  go_enter Try.func34, Try.ntmps34
  go_wp2_with fail
  refine HC.out.mono ?_
  rintro e w1 ⟨⟨v, rfl, ho⟩, hb1⟩
  have HB1 := Lib.hid hb1
  obtain ⟨w2, hw2⟩ : ∃ w2, w1.alloc (.cells #[.func (.func 33) #[] #[], .func (.func 36) #[] #[]] 70) = w2 := ⟨_, rfl⟩
  have hbl : Below w1.heap.size w1 w2 := by rw [← hw2]; exact (Below.refl _ _).alloc (Nat.le_refl _) _
  have hz2 : w2.heap.size = w1.heap.size + 1 := by rw [← hw2]; simp
  have hcl : w2.heap[w1.heap.size]? = some (.cells #[.func (.func 33) #[] #[], .func (.func 36) #[] #[]] 70 (0, 0)) := by rw [← hw2]; exact heap_alloc_new w1 _
  have hp0 : w2.cell? ⟨w1.heap.size, 0, none⟩ = some (.func (.func 33) #[] #[]) := by simp [World.cell?, hcl]
  have hp1 : w2.cell? ⟨w1.heap.size, 1, none⟩ = some (.func (.func 36) #[] #[]) := by simp [World.cell?, hcl]
  have HB2 := Lib.hid (hb1.trans (hbl.mono hb1.size))
  rcases ho.form with ⟨h0, A9, c9, rfl⟩ | ⟨h0, g, cap, rfl, hg0, hg, hlc⟩
  · subst h0
    have HM := Lib.hid (meetnone_any A9 c9 w1.heap.size 2 w2)
    clear hb1 ho hbl hz2 hcl hp0 hp1 HC x0
    go_wp2_with fail
    refine HM.out.mono ?_
    rintro e w3 ⟨rfl, hb3⟩
    have HB3 := Lib.hid (HB2.out.trans (hb3.mono HB2.out.size))
    clear hb3 HM hw2
    go_wp2
    go_ret
    exact ⟨⟨false, rfl, by simp⟩, HB3.out⟩
  · have hfs := HLP.out.2.2.2 (List.length_pos_iff.1 h0)
    have hAe := HA.out hfs
    subst hAe
    have HM := Lib.hid (meetU_some b o c0 w1.heap.size 2 w.heap.size g cap fs L w w2 (ho.next hbl) HLP.out.1 h0 (by have := HLP.out.2.2.1; omega) HB2.out HS.out hg0 (by omega) (by omega) hp0 hp1 (by omega) hlc)
    clear hb1 ho hbl hz2 hcl hp0 hp1 HC x0 hg0 hg hlc h0 hfs
    go_wp2_with fail
    refine HM.out.mono ?_
    rintro e w3 ⟨hme, hb3⟩
    obtain ⟨r, rfl, hr⟩ := meet_says partsU HLP.out.2.1 hme
    have HR := Lib.hid hr
    have HB3 := Lib.hid hb3
    clear hb3 HM hme hr hw2
    go_wp2
    go_ret
    exact ⟨⟨r, rfl, HR.out⟩, HB3.out⟩
end Go.Proofs.Ytlmihlepaoifiaa
