import Derived.Test.YtofmfainhflmmaaJZAt
import Derived.Test.YtofmfainhflmmaaJZCmp
import Derived.Shelf.SlCmpFuncs.BinarySearchFunc
import Derived.Test.YtofmfainhflmmaaJZGath
/-
  PLAIN FUNCTIONS: what two relations share; the rows that agree; the joined rows.
-/
namespace Go.Proofs.Ytofmfainhflmmaa
open Go.RowKit
open VOrd (IsOrd)

/-- where the shared columns stand in the first one, in the order of the second one -/
def shA (I l : List ByteArray) : List Nat := (l.filter fun c => hasS c I).map fun c => plS c I
/-- where columns that are, or are not, in the first one stand in the second one -/
def shN (yes : Bool) (I l : List ByteArray) : List Nat := ((l.zipIdx).filter fun x => hasS x.1 I == yes).map (·.2)
theorem shA_yes {I p : List ByteArray} {c : ByteArray} (h : hasS c I = true) : shA I (p ++ [c]) = shA I p ++ [plS c I] := by
  unfold shA
  rw [List.filter_append, List.map_append]
  simp [h]
theorem shA_no {I p : List ByteArray} {c : ByteArray} (h : hasS c I = false) : shA I (p ++ [c]) = shA I p := by
  unfold shA
  rw [List.filter_append]
  simp [h]
theorem shN_snoc (yes : Bool) (I p : List ByteArray) (c : ByteArray) : shN yes I (p ++ [c]) = if (hasS c I == yes) = true then shN yes I p ++ [p.length] else shN yes I p := by
  unfold shN
  rw [List.zipIdx_append, List.filter_append, List.map_append]
  by_cases h : (hasS c I == yes) = true
  · rw [if_pos h]; simp [List.zipIdx_cons, h]
  · rw [if_neg h]; simp only [List.zipIdx_cons, List.zipIdx_nil, List.filter_cons, if_neg h]; simp
theorem sh_len_rev (I : List ByteArray) : ∀ l : List ByteArray, (shA I l.reverse).length = (shN true I l.reverse).length
  | [] => rfl
  | c :: r => by
    have ih := sh_len_rev I r
    rw [List.reverse_cons, shN_snoc]
    cases h : hasS c I
    · rw [shA_no h]; simpa using ih
    · rw [shA_yes h]; simp [ih]
theorem sh_len (I l : List ByteArray) : (shA I l).length = (shN true I l).length := by
  have := sh_len_rev I l.reverse
  rwa [List.reverse_reverse] at this
theorem shA_lt {I l : List ByteArray} : ∀ i ∈ shA I l, i < I.length := by
  intro i hi
  unfold shA at hi
  obtain ⟨c, hc, rfl⟩ := List.mem_map.1 hi
  have := (List.mem_filter.1 hc).2
  unfold hasS at this
  rwa [decide_eq_true_eq] at this
theorem shN_lt {yes : Bool} {I l : List ByteArray} : ∀ i ∈ shN yes I l, i < l.length := by
  intro i hi
  unfold shN at hi
  obtain ⟨⟨c, k⟩, hc, rfl⟩ := List.mem_map.1 hi
  have := List.mem_zipIdx (List.mem_filter.1 hc).1
  omega
/-- rows, in the order of their values at some places -/
def ordM (I : List Nat) (x y : List Vl) : Int := if ordR (pickV I x) (pickV I y) = 0 then ordR x y else ordR (pickV I x) (pickV I y)
theorem ordM_is (I : List Nat) : IsOrd (ordM I) :=
  have h := VOrd.lex_is ordR_is ordR_is
  ⟨fun a b => h.range (pickV I a, a) (pickV I b, b), fun a b => (h.zero (pickV I a, a) (pickV I b, b)).trans ⟨fun e => congrArg (·.2) e, fun e => by rw [e]⟩, fun a b => h.swap (pickV I a, a) (pickV I b, b), fun a b c => h.trans (pickV I a, a) (pickV I b, b) (pickV I c, c)⟩
/-- how a row of the second one stands to one of the first one, where both have columns -/
def agO (IB IA : List Nat) (y x : List Vl) : Int := ordR (pickV IB y) (pickV IA x)
/-- the rows that agree -/
def agL (IB IA : List Nat) (M : List (List Vl)) (x : List Vl) : List (List Vl) := M.filter fun y => agO IB IA y x == 0
/-- rows in the order of their values at some places: what stands ahead of a key, what is at it, what is behind -/
theorem ag_up {IB IA : List Nat} {x y z : List Vl} (h : ordM IB y z ≤ 0) : agO IB IA z x ≤ 0 → agO IB IA y x ≤ 0 := fun h2 => by
  unfold ordM at h
  unfold agO at *
  have h3 : ordR (pickV IB y) (pickV IB z) ≤ 0 := by
    split at h
    · omega
    · exact h
  exact ordR_is.trans _ _ _ h3 h2
theorem ag_lt {IB IA : List Nat} {x y z : List Vl} (h : ordM IB y z ≤ 0) : agO IB IA z x < 0 → agO IB IA y x < 0 := fun h2 => by
  unfold ordM at h
  unfold agO at *
  have h3 : ordR (pickV IB y) (pickV IB z) ≤ 0 := by
    split at h
    · omega
    · exact h
  exact ordR_is.lt' h3 h2
theorem ag_split {IB IA : List Nat} {x : List Vl} : ∀ {M : List (List Vl)}, M.Pairwise (fun y z => ordM IB y z ≤ 0) →
    M.drop (M.countP fun y => decide (agO IB IA y x < 0)) = agL IB IA M x ++ M.filter fun y => decide (0 < agO IB IA y x)
  | [], _ => rfl
  | y :: r, h => by
    obtain ⟨h1, h2⟩ := List.pairwise_cons.1 h
    have ih := ag_split (IA := IA) (x := x) h2
    by_cases hy : agO IB IA y x < 0
    · rw [List.countP_cons, if_pos (by simpa using hy), List.drop_succ_cons, ih]
      unfold agL
      rw [List.filter_cons, if_neg (by simp; omega), List.filter_cons, if_neg (by simp; omega)]
    · have h0 : (r.countP fun y => decide (agO IB IA y x < 0)) = 0 := by
        rw [List.countP_eq_zero]
        intro z hz hz2
        exact hy (ag_lt (h1 z hz) (by simpa using hz2))
      rw [List.countP_cons, if_neg (by simpa using hy), h0]
      rw [h0, List.drop_zero] at ih
      rw [Nat.zero_add, List.drop_zero]
      unfold agL at ih ⊢
      by_cases h3 : agO IB IA y x = 0
      · rw [List.filter_cons, if_pos (by simpa using h3), List.filter_cons, if_neg (by simp; omega), List.cons_append, ← ih]
      · have h4 : 0 < agO IB IA y x := by omega
        have hr : ∀ z ∈ r, 0 < agO IB IA z x := fun z hz => by
          rcases Int.lt_or_le 0 (agO IB IA z x) with h5 | h5
          · exact h5
          · have := ag_up (IA := IA) (x := x) (h1 z hz) h5
            omega
        have hf : (r.filter fun y => agO IB IA y x == 0) = [] := by
          rw [List.filter_eq_nil_iff]
          intro z hz hz2
          have := hr z hz
          have : agO IB IA z x = 0 := by simpa using hz2
          omega
        rw [List.filter_cons, if_neg (by simpa using h3), hf, List.nil_append, List.filter_cons, if_pos (by simpa using h4)]
        congr 1
        symm
        rw [List.filter_eq_self]
        intro z hz
        simpa using hr z hz
/-- the joined rows -/
def joinT (IA IB IR : List Nat) (M R : List (List Vl)) : List (List Vl) := R.flatMap fun x => (agL IB IA M x).map fun y => x ++ pickV IR y
end Go.Proofs.Ytofmfainhflmmaa

/-
  CONTRACTS: how two rows stand in a meeting (meet$1); how a row of the second one stands to one of the first one.
-/
namespace Go.Proofs.Ytofmfainhflmmaa
open Go.RowKit

/-- a captured pointer, and a meeting's list of places -/
def MtS (bx bm o : Nat) (v : Value) (X : World) : Prop := X.cell? ⟨bx, 0, none⟩ = some (.pointer (some ⟨bm, 0, none⟩)) ∧ X.cell? ⟨bm, o, none⟩ = some v
theorem cellLt {W : World} {a : Addr} {v : Value} (h : W.cell? a = some v) : a.block < W.heap.size := by
  unfold World.cell? at h
  cases hb : W.heap[a.block]? with
  | none => rw [hb] at h; cases h
  | some o => exact (Array.getElem?_eq_some_iff.1 hb).1
theorem MtS.next {bx bm o : Nat} {v : Value} {X Y : World} (h : MtS bx bm o v X) (hb : Below X.heap.size X Y) : MtS bx bm o v Y :=
  ⟨(hb.cell (p := ⟨bx, 0, none⟩) (cellLt h.1)).trans h.1, (hb.cell (p := ⟨bm, o, none⟩) (cellLt h.2)).trans h.2⟩
theorem MtS.drew {bx bm o : Nat} {v : Value} {X : World} (h : MtS bx bm o v X) : MtS bx bm o v X.drew := h
set_option maxRecDepth 100000 in
set_option maxHeartbeats 1000000 in
theorem meet1_any (x y : Rw) (bx bm : Nat) (A : Option Addr) (c : Nat) (I : List Nat) (w : World) (hx : RwOk w w.heap.size x) (hy : RwOk w w.heap.size y) (hI : Sl1 natV w w.heap.size A I) (hm : MtS bx bm 1 (.slice A I.length c) w)
    (hi : ∀ i ∈ I, i < x.l.length) (hj : ∀ i ∈ I, i < y.l.length) (hl : I.length ≤ 1000000000) :
    Calls Try.prog 91 #[cellR x, cellR y, .pointer (some ⟨bx, 0, none⟩)] w fun e w' => e = .returned (.int .i64 (ordM I x.l y.l)) ∧ Below w.heap.size w w' := by
  have HM := Lib.hid hm
  have HX := Lib.hid hx
  have HY := Lib.hid hy
  have HI := Lib.hid hI
  have HCA := Lib.hid (fun X (h1 : RwOk X X.heap.size x) (h2 : RwOk X X.heap.size y) (h3 : Sl1 natV X X.heap.size A I) => compareAt_any x y A A c c I I X h1 h2 h3 h3 rfl hi hj hl)
  have HCR := Lib.hid (fun X (h1 : RwOk X X.heap.size x) (h2 : RwOk X X.heap.size y) => cmpR_any x y X h1 h2)
  have HE : Hid (ordM I x.l y.l = if ordR (pickV I x.l) (pickV I y.l) = 0 then ordR x.l y.l else ordR (pickV I x.l) (pickV I y.l)) := rfl
  obtain ⟨q, hq⟩ : ∃ q, ordR (pickV I x.l) (pickV I y.l) = q := ⟨_, rfl⟩
  rw [hq] at HE
  simp only [hq] at HCA
  obtain ⟨cx, hcx⟩ : ∃ v, cellR x = v := ⟨_, rfl⟩
  obtain ⟨cy, hcy⟩ : ∃ v, cellR y = v := ⟨_, rfl⟩
  rw [hcx, hcy] at HCA HCR ⊢
  clear hm hx hy hI hi hj hq hcx hcy
  go_enter Try.func91, Try.ntmps91
  go_wp2_with fail
  obtain ⟨wd, hwd⟩ : ∃ wd, w.drew = wd := ⟨_, rfl⟩
  have HSD : Hid (MtS bx bm 1 (.slice A I.length c) wd) := by show MtS _ _ _ _ _; rw [← hwd]; exact HM.out.drew
  have HBD : Hid (Below w.heap.size w wd) := by show Below _ _ _; rw [← hwd]; exact (Below.refl _ _).drew
  refine wp_region_held_drew (S := MtS bx bm 1 (.slice A I.length c)) (by kernel_rfl) (by rw [hwd]; exact HSD.out) (fun hHeld => ?_)
  rw [hwd] at hHeld ⊢
  clear hwd
  refine takeV 0 (some 7) ((cx)) rfl rfl (by kernel_rfl) (by kernel_rfl) (by kernel_rfl) (fun _ _ _ h => h) (by rfl) (by (intro _w _hSw; (try dsimp only at _hSw); go_simp)) (by assumption) ?_
  simp only [Act.put, List.setIfInBounds_toArray, List.set_cons_zero, List.set_cons_succ]
  refine takeV 1 (some 8) ((.pointer (some ⟨bm, 0, none⟩))) rfl rfl (by kernel_rfl) (by kernel_rfl) (by kernel_rfl) (fun _ _ _ h => h) (by rfl) (by (intro _w hSw; have k0 := hSw.1; clear hSw; go_simp)) (by assumption) ?_
  simp only [Act.put, List.setIfInBounds_toArray, List.set_cons_zero, List.set_cons_succ]
  refine takeV 2 (some 9) ((.pointer (some ⟨bm, 0, none⟩))) rfl rfl (by kernel_rfl) (by kernel_rfl) (by kernel_rfl) (fun _ _ _ h => h) (by rfl) (by (intro _w _hSw; (try dsimp only at _hSw); go_simp)) (by assumption) ?_
  simp only [Act.put, List.setIfInBounds_toArray, List.set_cons_zero, List.set_cons_succ]
  refine takeV 3 (some 10) ((.pointer (some ⟨bm, 1, none⟩))) rfl rfl (by kernel_rfl) (by kernel_rfl) (by kernel_rfl) (fun _ _ _ h => h) (by rfl) (by (intro _w _hSw; (try dsimp only at _hSw); go_simp)) (by assumption) ?_
  simp only [Act.put, List.setIfInBounds_toArray, List.set_cons_zero, List.set_cons_succ]
  refine takeV 4 (some 11) ((.slice A I.length c)) rfl rfl (by kernel_rfl) (by kernel_rfl) (by kernel_rfl) (fun _ _ _ h => h) (by rfl) (by (intro _w hSw; have k0 := hSw.2; clear hSw; go_simp)) (by assumption) ?_
  simp only [Act.put, List.setIfInBounds_toArray, List.set_cons_zero, List.set_cons_succ]
  refine takeV 5 (some 12) ((cy)) rfl rfl (by kernel_rfl) (by kernel_rfl) (by kernel_rfl) (fun _ _ _ h => h) (by rfl) (by (intro _w _hSw; (try dsimp only at _hSw); go_simp)) (by assumption) ?_
  simp only [Act.put, List.setIfInBounds_toArray, List.set_cons_zero, List.set_cons_succ]
  refine takeV 6 (some 13) ((.pointer (some ⟨bm, 0, none⟩))) rfl rfl (by kernel_rfl) (by kernel_rfl) (by kernel_rfl) (fun _ _ _ h => h) (by rfl) (by (intro _w hSw; have k0 := hSw.1; clear hSw; go_simp)) (by assumption) ?_
  simp only [Act.put, List.setIfInBounds_toArray, List.set_cons_zero, List.set_cons_succ]
  refine takeV 7 (some 14) ((.pointer (some ⟨bm, 0, none⟩))) rfl rfl (by kernel_rfl) (by kernel_rfl) (by kernel_rfl) (fun _ _ _ h => h) (by rfl) (by (intro _w _hSw; (try dsimp only at _hSw); go_simp)) (by assumption) ?_
  simp only [Act.put, List.setIfInBounds_toArray, List.set_cons_zero, List.set_cons_succ]
  refine takeV 8 (some 15) ((.pointer (some ⟨bm, 1, none⟩))) rfl rfl (by kernel_rfl) (by kernel_rfl) (by kernel_rfl) (fun _ _ _ h => h) (by rfl) (by (intro _w _hSw; (try dsimp only at _hSw); go_simp)) (by assumption) ?_
  simp only [Act.put, List.setIfInBounds_toArray, List.set_cons_zero, List.set_cons_succ]
  refine takeV 9 (some 16) ((.slice A I.length c)) rfl rfl (by kernel_rfl) (by kernel_rfl) (by kernel_rfl) (fun _ _ _ h => h) (by rfl) (by (intro _w hSw; have k0 := hSw.2; clear hSw; go_simp)) (by assumption) ?_
  simp only [Act.put, List.setIfInBounds_toArray, List.set_cons_zero, List.set_cons_succ]
  have HC2 := Lib.hid (HCA.out wd (HX.out.up HBD.out (Nat.le_refl _)) (HY.out.up HBD.out (Nat.le_refl _)) (HI.out.up HBD.out (Nat.le_refl _)))
  refine callV 10 rfl (by kernel_rfl) (by rfl) (fun K hK => ?_)
  go_simp
  refine HC2.out.mono ?_
  rintro e w3 ⟨rfl, hb3⟩
  have HB3 := Lib.hid (HBD.out.trans (hb3.mono HBD.out.size))
  refine hK.out _ _ (hHeld.next hb3) (fun hHeld3 => ?_)
  clear hK K hHeld hb3
  try simp only [Act.put, List.setIfInBounds_toArray, List.set_cons_zero, List.set_cons_succ]
  refine takeV 11 (some 6) ((.int .i64 q)) rfl rfl (by kernel_rfl) (by kernel_rfl) (by kernel_rfl) (fun _ _ _ h => h) (by rfl) (by (intro _w _hSw; (try dsimp only at _hSw); go_simp)) (by assumption) ?_
  simp only [Act.put, List.setIfInBounds_toArray, List.set_cons_zero, List.set_cons_succ]
  refine wpAnyH_done (by kernel_rfl) ?_ _
  by_cases h0 : q = 0
  · subst h0
    have HC4 := Lib.hid (HCR.out w3 (HX.out.up HB3.out (Nat.le_refl _)) (HY.out.up HB3.out (Nat.le_refl _)))
    go_wp2_with fail
    refine HC4.out.mono ?_
    rintro e w4 ⟨rfl, hb4⟩
    have HB4 := Lib.hid (HB3.out.trans (hb4.mono HB3.out.size))
    clear hb4
    go_wp2
    go_ret
    exact ⟨by rw [HE.out]; exact ret_i64 (if_pos trivial).symm, HB4.out⟩
  · have hb : (q == 0) = false := beq_eq_false_iff_ne.2 h0
    have HE2 : Hid (ordM I x.l y.l = q) := by show _ = _; rw [HE.out, if_neg h0]
    clear h0
    go_wp2
    go_ret
    exact ⟨by rw [HE2.out]; rfl, HB3.out⟩
set_option maxRecDepth 100000 in
set_option maxHeartbeats 1000000 in
/-- agreeing's stands -/
theorem stands_any (y x : Rw) (bx bm : Nat) (A A' : Option Addr) (c c' : Nat) (IB IA : List Nat) (w : World) (hy : RwOk w w.heap.size y) (hx : RwOk w w.heap.size x) (hI : Sl1 natV w w.heap.size A IB) (hI' : Sl1 natV w w.heap.size A' IA) (hm : MtS bx bm 1 (.slice A IB.length c) w) (hm' : MtS bx bm 0 (.slice A' IA.length c') w)
    (hlen : IB.length = IA.length) (hi : ∀ i ∈ IB, i < y.l.length) (hj : ∀ i ∈ IA, i < x.l.length) (hl : IB.length ≤ 1000000000) :
    Calls Try.prog 97 #[cellR y, cellR x, .pointer (some ⟨bx, 0, none⟩)] w fun e w' => e = .returned (.int .i64 (agO IB IA y.l x.l)) ∧ Below w.heap.size w w' := by
  have HM := Lib.hid (And.intro hm hm')
  have HX := Lib.hid hx
  have HY := Lib.hid hy
  have HI := Lib.hid (And.intro hI hI')
  have HCA := Lib.hid (fun X (h1 : RwOk X X.heap.size y) (h2 : RwOk X X.heap.size x) (h3 : Sl1 natV X X.heap.size A IB) (h4 : Sl1 natV X X.heap.size A' IA) => compareAt_any y x A A' c c' IB IA X h1 h2 h3 h4 hlen hi hj hl)
  have HE : Hid (agO IB IA y.l x.l = ordR (pickV IB y.l) (pickV IA x.l)) := rfl
  obtain ⟨q, hq⟩ : ∃ q, ordR (pickV IB y.l) (pickV IA x.l) = q := ⟨_, rfl⟩
  rw [hq] at HE
  simp only [hq] at HCA
  obtain ⟨cx, hcx⟩ : ∃ v, cellR x = v := ⟨_, rfl⟩
  obtain ⟨cy, hcy⟩ : ∃ v, cellR y = v := ⟨_, rfl⟩
  rw [hcx, hcy] at HCA ⊢
  clear hm hm' hx hy hI hI' hi hj hq hcx hcy hlen hl
  go_enter Try.func97, Try.ntmps97
  go_wp2_with fail
  obtain ⟨wd, hwd⟩ : ∃ wd, w.drew = wd := ⟨_, rfl⟩
  have HSD : Hid (MtS bx bm 1 (.slice A IB.length c) wd ∧ MtS bx bm 0 (.slice A' IA.length c') wd) := by show _ ∧ _; rw [← hwd]; exact ⟨HM.out.1.drew, HM.out.2.drew⟩
  have HBD : Hid (Below w.heap.size w wd) := by show Below _ _ _; rw [← hwd]; exact (Below.refl _ _).drew
  refine wp_region_held_drew (S := fun X => MtS bx bm 1 (.slice A IB.length c) X ∧ MtS bx bm 0 (.slice A' IA.length c') X) (by kernel_rfl) (by rw [hwd]; exact HSD.out) (fun hHeld => ?_)
  rw [hwd] at hHeld ⊢
  clear hwd
  refine takeV 0 (some 6) ((cy)) rfl rfl (by kernel_rfl) (by kernel_rfl) (by kernel_rfl) (fun _ _ _ h => h) (by rfl) (by (intro _w _hSw; (try dsimp only at _hSw); go_simp)) (by assumption) ?_
  simp only [Act.put, List.setIfInBounds_toArray, List.set_cons_zero, List.set_cons_succ]
  refine takeV 1 (some 7) ((.pointer (some ⟨bm, 0, none⟩))) rfl rfl (by kernel_rfl) (by kernel_rfl) (by kernel_rfl) (fun _ _ _ h => h) (by rfl) (by (intro _w hSw; have k0 := hSw.1.1; clear hSw; go_simp)) (by assumption) ?_
  simp only [Act.put, List.setIfInBounds_toArray, List.set_cons_zero, List.set_cons_succ]
  refine takeV 2 (some 8) ((.pointer (some ⟨bm, 0, none⟩))) rfl rfl (by kernel_rfl) (by kernel_rfl) (by kernel_rfl) (fun _ _ _ h => h) (by rfl) (by (intro _w _hSw; (try dsimp only at _hSw); go_simp)) (by assumption) ?_
  simp only [Act.put, List.setIfInBounds_toArray, List.set_cons_zero, List.set_cons_succ]
  refine takeV 3 (some 9) ((.pointer (some ⟨bm, 1, none⟩))) rfl rfl (by kernel_rfl) (by kernel_rfl) (by kernel_rfl) (fun _ _ _ h => h) (by rfl) (by (intro _w _hSw; (try dsimp only at _hSw); go_simp)) (by assumption) ?_
  simp only [Act.put, List.setIfInBounds_toArray, List.set_cons_zero, List.set_cons_succ]
  refine takeV 4 (some 10) ((.slice A IB.length c)) rfl rfl (by kernel_rfl) (by kernel_rfl) (by kernel_rfl) (fun _ _ _ h => h) (by rfl) (by (intro _w hSw; have k0 := hSw.1.2; clear hSw; go_simp)) (by assumption) ?_
  simp only [Act.put, List.setIfInBounds_toArray, List.set_cons_zero, List.set_cons_succ]
  refine takeV 5 (some 11) ((cx)) rfl rfl (by kernel_rfl) (by kernel_rfl) (by kernel_rfl) (fun _ _ _ h => h) (by rfl) (by (intro _w _hSw; (try dsimp only at _hSw); go_simp)) (by assumption) ?_
  simp only [Act.put, List.setIfInBounds_toArray, List.set_cons_zero, List.set_cons_succ]
  refine takeV 6 (some 12) ((.pointer (some ⟨bm, 0, none⟩))) rfl rfl (by kernel_rfl) (by kernel_rfl) (by kernel_rfl) (fun _ _ _ h => h) (by rfl) (by (intro _w hSw; have k0 := hSw.1.1; clear hSw; go_simp)) (by assumption) ?_
  simp only [Act.put, List.setIfInBounds_toArray, List.set_cons_zero, List.set_cons_succ]
  refine takeV 7 (some 13) ((.pointer (some ⟨bm, 0, none⟩))) rfl rfl (by kernel_rfl) (by kernel_rfl) (by kernel_rfl) (fun _ _ _ h => h) (by rfl) (by (intro _w _hSw; (try dsimp only at _hSw); go_simp)) (by assumption) ?_
  simp only [Act.put, List.setIfInBounds_toArray, List.set_cons_zero, List.set_cons_succ]
  refine takeV 8 (some 14) ((.pointer (some ⟨bm, 0, none⟩))) rfl rfl (by kernel_rfl) (by kernel_rfl) (by kernel_rfl) (fun _ _ _ h => h) (by rfl) (by (intro _w _hSw; (try dsimp only at _hSw); go_simp)) (by assumption) ?_
  simp only [Act.put, List.setIfInBounds_toArray, List.set_cons_zero, List.set_cons_succ]
  refine takeV 9 (some 15) ((.slice A' IA.length c')) rfl rfl (by kernel_rfl) (by kernel_rfl) (by kernel_rfl) (fun _ _ _ h => h) (by rfl) (by (intro _w hSw; have k0 := hSw.2.2; clear hSw; go_simp)) (by assumption) ?_
  simp only [Act.put, List.setIfInBounds_toArray, List.set_cons_zero, List.set_cons_succ]
  have HC2 := Lib.hid (HCA.out wd (HY.out.up HBD.out (Nat.le_refl _)) (HX.out.up HBD.out (Nat.le_refl _)) (HI.out.1.up HBD.out (Nat.le_refl _)) (HI.out.2.up HBD.out (Nat.le_refl _)))
  refine callV 10 rfl (by kernel_rfl) (by rfl) (fun K hK => ?_)
  go_simp
  refine HC2.out.mono ?_
  rintro e w3 ⟨rfl, hb3⟩
  have HB3 := Lib.hid (HBD.out.trans (hb3.mono HBD.out.size))
  refine hK.out _ _ ⟨hHeld.1.next hb3, hHeld.2.next hb3⟩ (fun hHeld3 => ?_)
  clear hK K hHeld hb3
  try simp only [Act.put, List.setIfInBounds_toArray, List.set_cons_zero, List.set_cons_succ]
  refine takeV 11 (some 5) ((.int .i64 q)) rfl rfl (by kernel_rfl) (by kernel_rfl) (by kernel_rfl) (fun _ _ _ h => h) (by rfl) (by (intro _w _hSw; (try dsimp only at _hSw); go_simp)) (by assumption) ?_
  simp only [Act.put, List.setIfInBounds_toArray, List.set_cons_zero, List.set_cons_succ]
  refine wpAnyH_done (by kernel_rfl) ?_ _
  go_wp2
  go_ret
  exact ⟨ret_i64 HE.out.symm, HB3.out⟩
end Go.Proofs.Ytofmfainhflmmaa

/-
  CONTRACT: slices.BinarySearchFunc at rows, by agreeing's stands.
-/
namespace Go.Proofs.Ytofmfainhflmmaa
open Go.RowKit Go.Shelf
open Go.Sort (SWO SortedIn PermIn grow Holds putRow mapBlock)

theorem grow_belowM (w : World) (n : Nat) (os : Array Obj) : Below w.heap.size w (grow (w.drewN n) os) := by
  refine ⟨rfl, rfl, rfl, ?_, fun j hj => ?_⟩
  · unfold grow
    show _ ≤ (w.heap ++ os).size
    rw [Array.size_append]; omega
  · unfold grow
    show (w.heap ++ os)[j]? = _
    rw [Array.getElem?_append_left hj]
open Classical in
theorem txR_lenM (R : List Rw) : (txR R).length = R.length := List.length_map _
/-- a list of places, none of it in block g -/
def FarN (W : World) (g : Nat) (A : Option Addr) (I : List Nat) : Prop := Sl1 natV W W.heap.size A I ∧ (I ≠ [] → ∀ b o, A = some ⟨b, o, none⟩ → b ≠ g)
theorem FarN.keep {W W' : World} {g : Nat} {A : Option Addr} {I : List Nat} (h : FarN W g A I) (k : Kp g W W') : FarN W' g A I := by
  refine ⟨fun hl => ?_, h.2⟩
  obtain ⟨b, o, e, hlt, hc⟩ := h.1 hl
  exact ⟨b, o, e, Nat.lt_of_lt_of_le hlt k.size, fun j x hx => k.cell (h.2 hl b o e) (hc j x hx)⟩
theorem MtS.keep {W W' : World} {g bx bm o : Nat} {v : Value} (h : MtS bx bm o v W) (k : Kp g W W') (h1 : bx ≠ g) (h2 : bm ≠ g) : MtS bx bm o v W' := ⟨k.cell h1 h.1, k.cell h2 h.2⟩
abbrev RwM (w : World) (g : Nat) (I : List Nat) : Type := { x : Rw // RwN w g x ∧ ∀ i ∈ I, i < x.l.length }
theorem stands_grow (y x : Rw) (bx bm : Nat) (A A' : Option Addr) (c c' : Nat) (IB IA : List Nat) (w : World) (hy : RwOk w w.heap.size y) (hx : RwOk w w.heap.size x) (hI : Sl1 natV w w.heap.size A IB) (hI' : Sl1 natV w w.heap.size A' IA) (hm : MtS bx bm 1 (.slice A IB.length c) w) (hm' : MtS bx bm 0 (.slice A' IA.length c') w)
    (hlen : IB.length = IA.length) (hi : ∀ i ∈ IB, i < y.l.length) (hj : ∀ i ∈ IA, i < x.l.length) (hl : IB.length ≤ 1000000000) :
    Calls Try.prog 97 #[cellR y, cellR x, .pointer (some ⟨bx, 0, none⟩)] w fun e w' => e = .returned (.int .i64 (agO IB IA y.l x.l)) ∧ ∃ q os', w' = grow (w.drewN q) os' :=
  (calls_drawn (stands_any y x bx bm A A' c c' IB IA w hy hx hI hI' hm hm' hlen hi hj hl) (fun e w' ⟨h, _⟩ => by rw [h]; intro h; cases h)).mono fun _ _ ⟨⟨h1, h2⟩, h3⟩ => ⟨h1, below_grow h2 h3⟩
set_option maxRecDepth 100000 in
set_option maxHeartbeats 1000000 in
theorem findM_any (B g cap : Nat) (R : List Rw) (x : Rw) (bx bm : Nat) (A A' : Option Addr) (c c' : Nat) (IB IA : List Nat) (w : World) (hr : Own1 46 cellR w B (.slice (some ⟨g, 0, none⟩) R.length cap) R) (hg : g < w.heap.size) (hok : ∀ r ∈ R, RwN w g r) (hx : RwN w g x) (h0 : 0 < R.length) (hl : R.length ≤ 1000000000000) (hu : (txR R).Pairwise fun y z => ordM IB y z ≤ 0)
    (hIB : FarN w g A IB) (hIA : FarN w g A' IA) (hm : MtS bx bm 1 (.slice A IB.length c) w) (hm' : MtS bx bm 0 (.slice A' IA.length c') w) (hbx : bx ≠ g) (hbm : bm ≠ g) (hlen : IB.length = IA.length) (hi : ∀ r ∈ R, ∀ i ∈ IB, i < r.l.length) (hj : ∀ i ∈ IA, i < x.l.length) (hlI : IB.length ≤ 1000000000) :
    Calls Try.prog 78 #[.slice (some ⟨g, 0, none⟩) R.length cap, cellR x, .func (.func 97) #[] #[.pointer (some ⟨bx, 0, none⟩)]] w fun e w' => (∃ q, e = .returned (.tuple #[.int .i64 (((txR R).countP fun y => decide (agO IB IA y x.l < 0) : Nat) : Int), .bool q])) ∧ Below w.heap.size w w' := by
  have inst : Inhabited (RwM w g IB) := ⟨⟨R[0], ⟨hok _ (List.getElem_mem h0), hi _ (List.getElem_mem h0)⟩⟩⟩
  obtain ⟨ls, hls⟩ : ∃ ls : List (RwM w g IB), ls.map (·.1) = R := sub_list fun r hr => ⟨hok r hr, hi r hr⟩
  have hln : R.length = ls.length := by rw [← hls, List.length_map]
  have eg : ∀ args w, (callFunc 97 args).run Try.prog w = .ok (.enter 97 args) w := enters_of Try.func97 (by kernel_rfl) rfl
  have hr2 : w.ownsRow B 46 1 (.slice (some ⟨g, 0, none⟩) R.length cap) R.length (R.map cellR) := hr
  have hH : Holds (fun x : RwM w g IB => cellR x.1) w g 0 ls.toArray := fun j hj => by
    have hj2 : j < ls.length := by simpa using hj
    have hj3 : j < R.length := by omega
    rw [Nat.zero_add]
    refine ⟨?_, hr2.frozenAt j⟩
    rw [hr2.cellAt j (by omega), List.getElem?_map, ← hls, List.getElem?_map, List.getElem?_eq_getElem hj2, getElem!_pos ls.toArray j hj]
    rfl
  have hC : CmpLaysT Try.prog 97 #[.pointer (some ⟨bx, 0, none⟩)] (fun y : RwM w g IB => cellR y.1) (cellR x) (fun y : RwM w g IB => agO IB IA y.1.l x.l) g 0 ls.toArray.size w := fun m os dk _ y =>
    stands_grow y.1 x bx bm A A' c c' IB IA _ (y.2.1.keep swKp).ok (hx.keep swKp).ok (hIB.keep swKp).1 (hIA.keep swKp).1 (hm.keep swKp hbx hbm) (hm'.keep swKp hbx hbm) hlen y.2.2 hj hlI
  have hT : txR R = ls.map (fun y => y.1.l) := by rw [← hls]; unfold txR; rw [List.map_map]; rfl
  have hgT : ∀ i (hi : i < ls.length), (txR R)[i]'(by rw [txR_lenM, hln]; exact hi) = (ls.toArray[i]!).1.l := fun i hi => by
    rw [getElem!_pos ls.toArray i (by simpa using hi)]
    simp [hT]
  have hcon := Any.slices_BinarySearchFunc Try.bsRow (fun y : RwM w g IB => cellR y.1) (fun _ => rfl) (cellR x) (fun y : RwM w g IB => agO IB IA y.1.l x.l) 97 #[.pointer (some ⟨bx, 0, none⟩)] g 0 cap ls.toArray w eg hC hH hg (by simp; omega) (fun a b hab hb h => by
    have hb2 : b < ls.length := by simpa using hb
    rw [← hgT b hb2] at h
    rw [← hgT a (by omega)]
    by_cases e : a = b
    · subst e; exact h
    · have h3 := List.pairwise_iff_getElem.1 hu a b (by rw [txR_lenM]; omega) (by rw [txR_lenM]; omega) (by omega)
      exact ag_lt h3 h)
  have hsa : ls.toArray.size = R.length := by simp; omega
  rw [hsa] at hcon
  refine (show Calls Try.prog 78 _ w _ from hcon).mono ?_
  rintro e w2 ⟨rfl, nn, os, rfl⟩
  have hcnt : ls.toArray.toList.countP (fun y : RwM w g IB => decide (agO IB IA y.1.l x.l < 0)) = (txR R).countP (fun y => decide (agO IB IA y x.l < 0)) := by
    rw [hT, List.countP_map]; rfl
  obtain ⟨n, hn⟩ : ∃ n, ls.toArray.toList.countP (fun y : RwM w g IB => decide (agO IB IA y.1.l x.l < 0)) = n := ⟨_, rfl⟩
  rw [hn]
  refine ⟨⟨decide (n < R.length) && decide (agO IB IA (ls.toArray[n]!).1.l x.l = 0), by rw [hcnt.symm.trans hn]⟩, ?_⟩
  · have e1 := sortWorld_grown_c (fun y : RwM w g IB => cellR y.1) w g 0 0 nn ls.toArray #[] os
    rw [sortWorld_start _ w g 0 ls.toArray hH] at e1
    rw [show sortWorld (fun y : RwM w g IB => cellR y.1) w g 0 nn ls.toArray os = grow (w.drewN nn) os from by rw [e1]; simp]
    exact grow_belowM w nn os
set_option maxHeartbeats 1000000 in
theorem findM_nil (A : Option Addr) (cap : Nat) (x : Rw) (bx : Nat) (w : World) :
    Calls Try.prog 78 #[.slice A 0 cap, cellR x, .func (.func 97) #[] #[.pointer (some ⟨bx, 0, none⟩)]] w fun e w' => e = .returned (.tuple #[.int .i64 0, .bool false]) ∧ w' = w := by
  obtain ⟨A1, c1, l⟩ := x
  unfold cellR
  go_enter Try.func78, Try.ntmps78
  go_wp2
  refine wp_loop_rounds 1 ?_
  rw [rounds_succ]
  go_wp2
  go_ret2
  exact ⟨rfl, rfl⟩
end Go.Proofs.Ytofmfainhflmmaa

/-
  CONTRACT: slices.SortFunc at rows, by meet's order.
-/
namespace Go.Proofs.Ytofmfainhflmmaa
open Go.RowKit Go.Shelf
open Go.Sort (SWO SortedIn PermIn grow Holds putRow mapBlock)

theorem meet1_grow (x y : Rw) (bx bm : Nat) (A : Option Addr) (c : Nat) (I : List Nat) (w : World) (hx : RwOk w w.heap.size x) (hy : RwOk w w.heap.size y) (hI : Sl1 natV w w.heap.size A I) (hm : MtS bx bm 1 (.slice A I.length c) w)
    (hi : ∀ i ∈ I, i < x.l.length) (hj : ∀ i ∈ I, i < y.l.length) (hl : I.length ≤ 1000000000) :
    Calls Try.prog 91 #[cellR x, cellR y, .pointer (some ⟨bx, 0, none⟩)] w fun e w' => e = .returned (.int .i64 (ordM I x.l y.l)) ∧ ∃ q os', w' = grow (w.drewN q) os' :=
  (calls_drawn (meet1_any x y bx bm A c I w hx hy hI hm hi hj hl) (fun e w' ⟨h, _⟩ => by rw [h]; intro h; cases h)).mono fun _ _ ⟨⟨h1, h2⟩, h3⟩ => ⟨h1, below_grow h2 h3⟩
theorem swoM0 (I : List Nat) : SWO (ltOf (ordM I)) where
  irrefl x := by
    unfold ltOf
    rw [decide_eq_false_iff_not, ((ordM_is I).zero x x).2 rfl]; omega
  trans x y z h1 h2 := by
    unfold ltOf at *
    rw [decide_eq_true_eq] at *
    exact (ordM_is I).lt h1 (by omega)
  ntrans x y z h1 h2 := by
    unfold ltOf at *
    rw [decide_eq_false_iff_not] at *
    have a1 := (ordM_is I).swap x y
    have a2 := (ordM_is I).swap y z
    have a3 := (ordM_is I).swap x z
    have a4 := (ordM_is I).trans z y x (by omega) (by omega)
    omega
theorem swoM (w : World) (g : Nat) (I : List Nat) : SWO (ltOf fun x y : RwM w g I => ordM I x.1.l y.1.l) :=
  ⟨fun x => (swoM0 I).irrefl x.1.l, fun x y z => (swoM0 I).trans x.1.l y.1.l z.1.l, fun x y z => (swoM0 I).ntrans x.1.l y.1.l z.1.l⟩
section
variable {α : Type} [Inhabited α]
theorem heap_sortedG (enc : α → Value) {w : World} {g n : Nat} {os : Array Obj} {cur : Array Value} {e : TypeId} {fr : Nat × Nat} (d : Array α) (hb : w.heap[g]? = some (.cells cur e fr)) :
    (grow (putRow enc (Sort.ahead w n) g 0 d) os).heap[g]? = some (.cells (Go.Sort.putCells enc 0 d cur) e fr) := by
  have hg : g < w.heap.size := (Array.getElem?_eq_some_iff.1 hb).1
  rw [Go.Sort.heap_grow_old _ _ (by simpa using hg)]
  simp [putRow, mapBlock, Sort.ahead, Array.getElem?_modify, hb, Go.Sort.onCells]
theorem take_putCellsG (enc : α → Value) (cur : Array Value) (ts : List α) (h : ts.length ≤ cur.size) : (Go.Sort.putCells enc 0 ts.toArray cur).toList.take ts.length = ts.map enc := by
  apply List.ext_getElem?
  intro j
  by_cases hj : j < ts.length
  · rw [List.getElem?_take_of_lt hj, Array.getElem?_toList]
    simp [Go.Sort.putCells, hj, show j < cur.size by omega]
  · rw [List.getElem?_take_eq_none (by omega), List.getElem?_eq_none (by simp; omega)]
end
/-- what the sort leaves -/
structure MSorted (IB : List Nat) (w : World) (B g cap : Nat) (R : List Rw) (w' : World) : Prop where
  ex : ∃ R' : List Rw, R'.Perm R ∧ R'.Pairwise (fun x y => ordM IB x.l y.l ≤ 0) ∧ RowC w' g R' ∧ Own1 46 cellR w' B (.slice (some ⟨g, 0, none⟩) R'.length cap) R'
  kp : Kp g w w'

set_option maxRecDepth 100000 in
set_option maxHeartbeats 1000000 in
theorem sortM_any (B g cap : Nat) (R : List Rw) (bx bm : Nat) (A : Option Addr) (c : Nat) (IB : List Nat) (w : World) (hr : Own1 46 cellR w B (.slice (some ⟨g, 0, none⟩) R.length cap) R) (hg : g < w.heap.size) (hok : ∀ r ∈ R, RwN w g r) (h0 : 0 < R.length) (hl : R.length ≤ 1000000000000)
    (hIB : FarN w g A IB) (hm : MtS bx bm 1 (.slice A IB.length c) w) (hbx : bx ≠ g) (hbm : bm ≠ g) (hi : ∀ r ∈ R, ∀ i ∈ IB, i < r.l.length) (hlI : IB.length ≤ 1000000000) :
    Calls Try.prog 90 #[.slice (some ⟨g, 0, none⟩) R.length cap, .func (.func 91) #[] #[.pointer (some ⟨bx, 0, none⟩)]] w fun e w' => e = .returned (.tuple #[]) ∧ MSorted IB w B g cap R w' := by
  have inst : Inhabited (RwM w g IB) := ⟨⟨R[0], ⟨hok _ (List.getElem_mem h0), hi _ (List.getElem_mem h0)⟩⟩⟩
  obtain ⟨ls, hls⟩ : ∃ ls : List (RwM w g IB), ls.map (·.1) = R := sub_list fun r hr => ⟨hok r hr, hi r hr⟩
  have hln : R.length = ls.length := by rw [← hls, List.length_map]
  have eg : ∀ args w, (callFunc 91 args).run Try.prog w = .ok (.enter 91 args) w := enters_of Try.func91 (by kernel_rfl) rfl
  have hr2 : w.ownsRow B 46 1 (.slice (some ⟨g, 0, none⟩) R.length cap) R.length (R.map cellR) := hr
  have hH : Holds (fun x : RwM w g IB => cellR x.1) w g 0 ls.toArray := fun j hj => by
    have hj2 : j < ls.length := by simpa using hj
    have hj3 : j < R.length := by omega
    rw [Nat.zero_add]
    refine ⟨?_, hr2.frozenAt j⟩
    rw [hr2.cellAt j (by omega), List.getElem?_map, ← hls, List.getElem?_map, List.getElem?_eq_getElem hj2, getElem!_pos ls.toArray j hj]
    rfl
  have hC : CmpLays1 Try.prog 91 #[.pointer (some ⟨bx, 0, none⟩)] (fun x : RwM w g IB => cellR x.1) (fun x y : RwM w g IB => ordM IB x.1.l y.1.l) g 0 ls.toArray.size w := fun m os dk _ x y =>
    meet1_grow x.1 y.1 bx bm A c IB _ (x.2.1.keep swKp).ok (y.2.1.keep swKp).ok (hIB.keep swKp).1 (hm.keep swKp hbx hbm) x.2.2 y.2.2 hlI
  have hcon := Any.slices_SortFunc Try.sortRow (fun x : RwM w g IB => cellR x.1) (fun _ => rfl) (fun x y : RwM w g IB => ordM IB x.1.l y.1.l) (swoM w g IB) 91 #[.pointer (some ⟨bx, 0, none⟩)] g 0 cap ls.toArray w eg hC hH hg (by simp; omega)
  have hsa : ls.toArray.size = R.length := by simp; omega
  rw [hsa] at hcon
  refine (show Calls Try.prog 90 _ w _ from hcon).mono ?_
  rintro e w2 ⟨rfl, d', nn, os, hpm, hsd, rfl⟩
  have hsz : d'.size = ls.length := by have := hpm.1; simpa using this
  have hpr : d'.toList.Perm ls := by
    have h9 := hpm.2.2
    rw [← hsa, show ls.toArray.size = d'.size from hpm.1.symm, Array.extract_size] at h9
    have e1 : ls.toArray.extract 0 d'.size = ls.toArray := by rw [hsz]; simp
    rw [e1] at h9
    simpa using h9
  have hHd : Holds (fun x : RwM w g IB => cellR x.1) (sortWorld (fun x : RwM w g IB => cellR x.1) w g 0 nn d' os) g 0 d' := SW.holds (w0 := w) ⟨nn, os, rfl⟩ hg hH (by simpa using hpm.1)
  refine ⟨rfl, ⟨d'.toList.map (·.1), ?_, ?_, fun j r hx => ?_, ?_⟩, swKp⟩
  · rw [← hls]; exact hpr.map _
  · rw [List.pairwise_map, List.pairwise_iff_getElem]
    intro i j hi hj hij
    have hi2 : i < d'.size := by simpa using hi
    have hj2 : j < d'.size := by simpa using hj
    have hs := hsd i j (Nat.zero_le _) hij (by omega)
    rw [getElem!_pos d' i hi2, getElem!_pos d' j hj2] at hs
    unfold ltOf at hs
    have hs := of_decide_eq_false hs
    simp only [Array.getElem_toList]
    simp only at hs
    have := (ordM_is IB).swap d'[i].1.l d'[j].1.l
    omega
  · rw [List.getElem?_map] at hx
    obtain ⟨x1, hx1, rfl⟩ := Option.map_eq_some_iff.1 hx
    have hj : j < d'.size := by have := (List.getElem?_eq_some_iff.1 hx1).1; simpa using this
    have e1 : d'[j]! = x1 := by
      rw [getElem!_pos d' j hj]
      have := (List.getElem?_eq_some_iff.1 hx1).2
      simpa using this
    have h1 := hHd j hj
    rw [Nat.zero_add, e1] at h1
    exact h1
  · have hlen : (d'.toList.map (·.1)).length = R.length := by rw [List.length_map, Array.length_toList, hsz, hln]
    rcases hr2.2 with ⟨h1, _⟩ | ⟨g1, cap1, cur, h1, h2, h3, h4, h5, h6, h7⟩
    · cases h1
    · injection h1 with h1 _ h1c
      injection h1 with h1
      injection h1 with h1
      subst h1 h1c
      refine ⟨by rw [List.length_map, Nat.mul_one], .inr ⟨g, cap, _, by rw [hlen], h2, heap_sortedG _ d' h3, by rw [hlen]; exact h4, h5, by simp [Go.Sort.putCells, h6], ?_⟩⟩
      have h8 := take_putCellsG (fun x : RwM w g IB => cellR x.1) cur d'.toList (by rw [Array.length_toList, hsz, ← hln]; omega)
      rw [Nat.mul_one, List.length_map, List.map_map]
      simpa [Function.comp_def] using h8
end Go.Proofs.Ytofmfainhflmmaa
