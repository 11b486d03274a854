/-
  CONTRACT: calc.Names.
-/
import Derived.Test.YtlblbghlchedpaaDoorCxRef
import Derived.Test.YtlblbghlchedpaaDoorShelf
import Derived.Maps.OwnIn
import Derived.Lib.SlBuf
import Derived.Laws.OwnMore
import Derived.BigQuiet
namespace Go.Proofs.YtlblbghlchedpaaDoor
open Go.RowKit Go.Shelf
open Go.Sort (grow Holds putRow mapBlock)
attribute [local go_sem] Oper.semAt_some

theorem le_tr (a b c : Bt) (h1 : decide (a ≤ b) = true) (h2 : decide (b ≤ c) = true) : decide (a ≤ c) = true := by
  simp only [decide_eq_true_eq] at *
  exact List.le_trans h1 h2
theorem le_to (a b : Bt) : (decide (a ≤ b) || decide (b ≤ a)) = true := by
  simp only [Bool.or_eq_true, decide_eq_true_eq]
  exact List.le_total a b
theorem merge_is (l m : List Bt) (hp : l.Perm m) (hm : m.Pairwise (fun a b => decide (a ≤ b) = true)) : l.mergeSort (fun x y => decide (x ≤ y)) = m := by
  refine List.Perm.eq_of_pairwise (le := fun a b => decide (a ≤ b) = true) (fun a b _ _ h1 h2 => ?_) (List.pairwise_mergeSort le_tr le_to _) hm ((List.mergeSort_perm _ _).trans hp)
  simp only [decide_eq_true_eq] at h1 h2
  exact List.le_antisymm h1 h2
theorem told_sorted : (toldC.map (·.1)).mergeSort (fun x y => decide (x ≤ y)) = namesC := merge_is _ _ (by decide +kernel) (by decide +kernel)
theorem infoS : (Tryd.prog.info? 9).map (fun i => (i.zero, i.size, i.bytes)) = some (some (.string ⟨#[]⟩), 1, 16) := by kernel_rfl
theorem strRow (l : List (Bt × Fin 4)) : (l.map fun x => Value.string (strB x.1)).length = l.length := List.length_map _
/-- what stands behind some rounds -/
structure NmMid (w : World) (n : Nat) (pre : List (Bt × Fin 4)) (W : World) : Prop where
  size : n ≤ W.heap.size
  low : Below w.heap.size w W
  row : ∃ v, Boxed W w.heap.size 24 v ∧ W.ownsRow w.heap.size 9 1 v pre.length (pre.map fun x => Value.string (strB x.1))
theorem ownS_kept {W W' : World} {B n : Nat} {v : Value} {xs : List Value} {row : Option Nat} (h : W.ownsRow B 9 1 v n xs) (hg : W.grownBy W' row) (hr : ∀ r, row = some r → ∃ o : Obj, W.heap[r]? = some o ∧ o.isCells = false) : W'.ownsRow B 9 1 v n xs := by
  refine World.ownsRow.kept h hg ?_
  rcases h.2 with ⟨rfl, _⟩ | ⟨g, cap, cur, rfl, _, hgb, _⟩
  · exact .inl rfl
  · refine .inr (fun e => ?_)
    obtain ⟨o, ho, hc⟩ := hr g e.symm
    rw [hgb] at ho; cases ho; cases hc
theorem nmMid_own {w : World} {n : Nat} (h0 : w.heap.size < n) : OwnFrom n (NmMid w n) := fun pre X Y row g hg hr => by
  have hne : ∀ b, b < n → some b ≠ row := fun b hb e => by have := (hr b e.symm).1; omega
  obtain ⟨v, g1, g2⟩ := g.row
  exact ⟨Nat.le_trans g.size hg.size, g.low.grown hg g.low.size (fun j ej => by have := (hr j ej).1; omega), v, g1.kept hg (hne _ h0), ownS_kept g2 hg (fun r e => (hr r e).2)⟩
theorem rowS_succ {W : World} {B n : Nat} {v : Value} {xs : List Value} (h : W.ownsRow B 9 1 v (n + 1) xs) : ∃ g cap, v = .slice (some ⟨g, 0, none⟩) (n + 1) cap := by
  rcases h.2 with ⟨_, h0⟩ | ⟨g, cap, cur, rfl, _⟩
  · omega
  · exact ⟨g, cap, rfl⟩
theorem strOne (s : ByteArray) : ∀ u ∈ [Value.string s], u.oneCell' = true := by
  intro u hu
  simp at hu
  subst hu
  rfl
theorem strLit (W : World) (s : ByteArray) (j : Nat) (u : Value) (h : [Value.string s][j]? = some u) : (W.alloc (.cells #[.string s] 9)).cell? ((⟨W.heap.size, 0, none⟩ : Addr).add j) = some u := by
  have e : (⟨W.heap.size, 0, none⟩ : Addr).add j = ⟨W.heap.size, j, none⟩ := by unfold Addr.add; split <;> simp_all
  rw [e, World.cell?_alloc_new]
  simpa using h
/-- an append into the row that the box names -/
theorem nm_step {w W w1 : World} {n : Nat} {v v' : Value} {pre : List (Bt × Fin 4)} {x : Bt × Fin 4} {s : ByteArray} (hM : NmMid w n pre W) (hv : Boxed W w.heap.size 24 v) (ho : W.ownsRow w.heap.size 9 1 v pre.length (pre.map fun x => Value.string (strB x.1))) (hs : s = strB x.1)
    (hgrow : (W.alloc (.cells #[.string s] 9)).grownBy w1 v.ownBlock) (hown : w1.ownsRow w.heap.size 9 1 v' (pre.length + 1) ((pre.map fun x => Value.string (strB x.1)) ++ [.string s])) :
    Boxed w1 w.heap.size 24 v ∧ KeepsFrom n W (w1.setCell ⟨w.heap.size, 0, none⟩ v') ∧ Below w.heap.size W (w1.setCell ⟨w.heap.size, 0, none⟩ v') ∧ NmMid w n (pre ++ [x]) (w1.setCell ⟨w.heap.size, 0, none⟩ v') := by
  have hv1 : Boxed w1 w.heap.size _ v := (hv.alloc _).kept hgrow (hv.not_row (by decide) ho)
  have hlo : ∀ j, v.ownBlock = some j → w.heap.size ≤ j := fun j ej => (World.ownsRow.lt ho j ej).1
  have hs0 := hM.low.size
  have hsz := hgrow.size
  rw [World.size_alloc] at hsz
  have hb : Below w.heap.size W (w1.setCell ⟨w.heap.size, 0, none⟩ v') := (((Below.refl w.heap.size W).alloc hs0 _).grown hgrow (by rw [World.size_alloc]; omega) hlo).setCell (p := ⟨w.heap.size, 0, none⟩) (Nat.le_refl _) v'
  have hko : KeepsOthers W (w1.setCell ⟨w.heap.size, 0, none⟩ v') := by
    refine ((KeepsOthers.alloc W _).trans (KeepsOthers.of_grownBy hgrow fun j o ej hj => ?_)).trans (KeepsOthers.setCell _ _ _)
    rcases (World.ownsRow.alloc ho (.cells #[.string s] 9)).2 with ⟨rfl, _⟩ | ⟨g, cap, cur, rfl, _, hgb, _⟩
    · simp [Value.ownBlock] at ej
    · obtain rfl : g = j := by simpa [Value.ownBlock] using ej
      rw [hgb] at hj; cases hj; rfl
  refine ⟨hv1, hko.from _, hb, Nat.le_trans hM.size hb.size, hM.low.trans hb, v', hv1.set v', ?_⟩
  have hne : some w.heap.size ≠ v'.ownBlock := hv1.not_row (by decide) hown
  have h9 : (w1.setCell ⟨w.heap.size, 0, none⟩ v').ownsRow w.heap.size 9 1 v' (pre.length + 1) ((pre.map fun x => Value.string (strB x.1)) ++ [.string s]) := World.ownsRow.kept hown (grownBy_setCell' w1 w.heap.size v') (.inr hne.symm)
  rw [List.length_append, List.map_append, List.length_singleton]
  subst hs
  exact h9
/-- what the sort leaves -/
theorem sort_world {W : World} {g n : Nat} {d : Array (List UInt8)} {os : Array Obj} (hg : g < W.heap.size) (hH : Holds encStr W g 0 d) (d' : Array (List UInt8)) (hd : d.size = d'.size) :
    Below g W (grow (putRow encStr (Sort.ahead W n) g 0 d') os) ∧ (∀ j, j ≠ g → j < W.heap.size → (grow (putRow encStr (Sort.ahead W n) g 0 d') os).heap[j]? = W.heap[j]?) ∧ ∀ (j : Nat) (s : List UInt8), d'[j]? = some s → (grow (putRow encStr (Sort.ahead W n) g 0 d') os).cell? ⟨g, 0 + j, none⟩ = some (encStr s) := by
  have hsz : (putRow encStr (Sort.ahead W n) g 0 d').heap.size = W.heap.size := by simp [putRow, mapBlock, Sort.ahead]
  have hk : ∀ j, j ≠ g → j < W.heap.size → (grow (putRow encStr (Sort.ahead W n) g 0 d') os).heap[j]? = W.heap[j]? := fun j h1 h2 => by
    show ((putRow encStr (Sort.ahead W n) g 0 d').heap ++ os)[j]? = _
    rw [Array.getElem?_append_left (by rw [hsz]; omega)]
    show (W.heap.modify g _)[j]? = _
    rw [Array.getElem?_modify, if_neg (fun e => h1 e.symm)]
  refine ⟨⟨rfl, rfl, rfl, ?_, fun j hj => hk j (by omega) (by omega)⟩, hk, fun j s hs => ?_⟩
  · show W.heap.size ≤ ((putRow encStr (Sort.ahead W n) g 0 d').heap ++ os).size
    rw [Array.size_append, hsz]; omega
  · obtain ⟨hj, hjs⟩ := Array.getElem?_eq_some_iff.1 hs
    have h3 : Holds encStr (putRow encStr (Sort.ahead W n) g 0 d') g 0 d' := Go.Sort.holds_putRow encStr (Sort.ahead W n) g 0 d d' hH hd.symm
    have h4 := (h3 j hj).1
    rw [getElem!_pos d' j hj, hjs] at h4
    have hb : (grow (putRow encStr (Sort.ahead W n) g 0 d') os).heap[g]? = (putRow encStr (Sort.ahead W n) g 0 d').heap[g]? := Array.getElem?_append_left (by rw [hsz]; exact hg)
    rw [World.cell?_of_block (w := putRow encStr (Sort.ahead W n) g 0 d') (a := ⟨g, 0 + j, none⟩) hb]
    exact h4
set_option maxRecDepth 100000 in
set_option maxHeartbeats 2000000 in
theorem names_in (m : Nat) (hm3 : Hid (3 ≤ m)) (w : World) (hF : FamAt w w.heap.size) :
    CallsIn Fence.wide m Tryd.prog 7 #[] w fun e w' => (∃ A c, e = .returned (.slice A 27 c) ∧ SlB w' w'.heap.size A namesC) ∧ Below w.heap.size w w' := by
  obtain ⟨i0, hi, hz0, hz1, hz2⟩ := info_parts infoS
  have hmx : 1000 ≤ maxLen := by decide
  refine callsIn_of_wp_marks Tryd.func7 rfl trivial ?_ rfl
  simp only [Tryd.ntmps7, List.size_toArray, List.length_nil, Nat.reduceSub, Array.replicate_succ, Array.replicate_zero, List.push_toArray, List.append_toArray, List.nil_append, List.cons_append]
  have HF := Lib.hid hF
  clear hF
  gi_wp2_with fail
  refine ⟨trivial, wide_deepC _, ?_⟩
  refine (callsIn_wide.2 (toldOfC_any _)).mono ?_
  rintro e w9 ⟨rfl, rfl⟩
  gi_wp2_with fail
  obtain ⟨W2, hW2⟩ : ∃ W2, w.alloc (.cells #[.slice none 0 0] 24) = W2 := ⟨_, rfl⟩
  have hz : W2.heap.size = w.heap.size + 1 := by rw [← hW2]; simp
  have hBw : Below w.heap.size w W2 := by rw [← hW2]; exact (Below.refl _ _).alloc (Nat.le_refl _) _
  have p1 : Boxed W2 w.heap.size 24 (.slice none 0 0) := by rw [← hW2]; exact Boxed.new w _ _
  rw [hW2]
  clear hW2
  have hro : Fence.wide.round = none := rfl
  refine wpIn_rangeFunc_ownH hro (by have := hm3.out; omega) (gf := 20) (lb := #[]) rfl trivial (enters_of Tryd.func20 (by kernel_rfl) rfl)
    (ctold_stops (m - 1) w.heap.size W2 (by omega) ((HF.out.next hBw)))
    (fun h k => h.trans k) (fun W l o o' hl h h1 h2 => belowK_b (w := W2) (n₀ := w.heap.size) (by omega) W l o o' hl h h1 h2) (Below.refl _ _) (fun _ => rfl)
    (NmMid w W2.heap.size) (fun _ _ _ => False) (nmMid_own (by omega)) (fun cd pre X Y row h _ _ => h.elim)
    ⟨Nat.le_refl _, hBw, _, p1, World.ownsRow_nil _ _ _ _⟩
    (fun x a' W => a' = { tmps := #[.slice none 0 0, .pointer (some ⟨w.heap.size, 0, none⟩), .string (strB x.1), .func (.func 20) #[] #[], .string (strB x.1), .int .i64 (x.2.val : Int), undef, undef, undef, undef, undef, undef, undef], defers := [] })
    (fun x a' _ X Y row e hgr hr => e) ?assign ?body ?done ?stop
  case assign =>
    rintro lp pre x W K h hK
    unfold encC
    gi_wp2
    exact hK _ _ (keepsFrom_below (Below.refl _ W)) (Below.refl _ W) h rfl
  case body =>
    rintro l pre x a' W hwl hpx hMid rfl hlt
    obtain ⟨v, hv, ho⟩ := hMid.row
    obtain ⟨s, hs⟩ : ∃ s, strB x.1 = s := ⟨_, rfl⟩
    have HST := Lib.hid (fun w1 v' (h1 : (W.alloc (.cells #[.string s] 9)).grownBy w1 v.ownBlock) h2 => nm_step (x := x) (v' := v') hMid hv ho hs.symm h1 h2)
    have HO := Lib.hid ho
    have HLT := Lib.hid hlt
    have HLW := Lib.hid hMid.low.size
    have c1 : W.cell? _ = _ := hv.cell
    rw [hs]
    clear hMid hv ho hs hpx hlt
    gi_wp2_with (gi_at_builtin; refine wpListIn_append_own_at _ rfl _ _ 24 rfl w.heap.size 9 i0 (.string ⟨#[]⟩) 1 16 Tryd.underlying24 hi hz0 hz1 hz2 rfl (by decide) v pre.length (pre.map fun x => Value.string (strB x.1)) rfl (World.ownsRow.alloc HO.out _) ⟨W.heap.size, 0, none⟩ 1 1 [.string s] rfl rfl (strLit W s) (strOne s) (by have := HLT.out; omega) (by have := HLT.out; omega) (by have := HLW.out; simp; omega) ?_; intro v6 w6 hown6 hgrow6 _ _; obtain ⟨g6, cap6, rfl⟩ := rowS_succ hown6; have hst := HST.out w6 _ hgrow6 hown6; have HS6 := Lib.hid hst; clear hown6 hgrow6; have y0 := hst.1.cell; have y1 := hst.1.frozen; clear hst)
    exact ⟨HS6.out.2.1, HS6.out.2.2.1, HS6.out.2.2.2⟩
  case done =>
    rintro D ys W hD hys hMid hK
    subst hys
    obtain ⟨v, hv, ho⟩ := hMid.row
    have hlen : toldC.length = 26 + 1 := toldC_len
    rw [hlen] at ho
    obtain ⟨g, cap, rfl⟩ := rowS_succ ho
    have hmp : (toldC.map fun x => Value.string (strB x.1)) = (toldC.map (·.1)).map encStr := by rw [List.map_map]; rfl
    rw [hmp] at ho
    have hgW := World.ownsRow.lt ho g rfl
    have hH : Holds encStr W g 0 (toldC.map (·.1)).toArray := fun j hj => by
      have hj2 : j < 27 := by simpa [hlen] using hj
      refine ⟨?_, by rw [Nat.zero_add]; exact World.ownsRow.frozenAt ho j⟩
      rw [Nat.zero_add, ho.cellAt j (by omega), List.getElem?_map]
      have hj3 : j < toldC.length := by omega
      rw [getElem!_pos _ j hj]
      simp only [List.getElem?_map, List.getElem?_eq_getElem hj3, Option.map_some, List.getElem_toArray, List.getElem_map]
    have hne : w.heap.size ≠ g := fun e => hv.not_row (by decide) ho (by rw [e]; rfl)
    have c1 := hv.cell
    have HV := Lib.hid hv
    have HL := Lib.hid hMid.low
    have HS := Lib.hid (Tryd.slices_Sort_string g 0 cap (toldC.map (·.1)) W hH hgW.2 (by rw [List.length_map, toldC_len]; decide))
    rw [told_sorted, List.length_map, toldC_len] at HS
    have HW := Lib.hid (fun n os => sort_world (n := n) (os := os) hgW.2 hH namesC.toArray (by rw [List.size_toArray, List.length_map, toldC_len]; rfl))
    have HG := Lib.hid hgW
    have HKK := Lib.hid hK
    have HND : Hid (D ≠ g) := fun e => by
      subst e
      rcases ho.2 with ⟨h0, _⟩ | ⟨g', cap', cur, h0, _, hgb, _⟩
      · cases h0
      · injection h0 with h1
        injection h1 with h1
        injection h1 with h1
        subst h1
        rw [hK] at hgb
        cases hgb
    clear hv ho hH hgW hMid hK hlen hmp
    gi_wp2_with fail
    refine ⟨trivial, wide_deepC _, ?_⟩
    refine (callsIn_wide.2 HS.out).mono ?_
    rintro e w5 ⟨rfl, n5, os5, rfl⟩
    obtain ⟨hb5, hk5, hc5⟩ := HW.out n5 os5
    obtain ⟨W5, hW5⟩ : ∃ W5, grow (putRow encStr (Sort.ahead W n5) g 0 namesC.toArray) os5 = W5 := ⟨_, rfl⟩
    rw [hW5] at hb5 hk5 hc5
    rw [hW5]
    have hv5 : Boxed W5 w.heap.size 24 (.slice (some ⟨g, 0, none⟩) 27 cap) := (hk5 _ hne HV.out.lt).trans HV.out
    have hK5 : W5.heap[D]? = some (.deferred (some [])) := (hk5 D HND.out (Array.getElem?_eq_some_iff.1 HKK.out).1).trans HKK.out
    have HB5 := Lib.hid (HL.out.trans (hb5.mono HG.out.1))
    have HC5 := Lib.hid hc5
    have HZ5 : Hid (g < W5.heap.size) := Nat.lt_of_lt_of_le HG.out.2 hb5.size
    have c5 := hv5.cell
    clear hW5 hb5 hk5 hc5 hv5 c1
    gi_wp2
    refine ⟨by simp, .inl ⟨_, _, rfl, run_takeDeferred hK5, ?_⟩⟩
    refine ⟨_, results_tmp rfl _ _ _, ?_⟩
    refine ⟨⟨_, _, rfl, g, 0, rfl, Nat.lt_of_lt_of_le HZ5.out (grownBy_putObj' W5 D (.deferred none)).size, fun j s hs => ?_⟩, HB5.out.trans (belowK_b (w := W2) (n₀ := w.heap.size) (by omega) W5 D _ (.deferred none) hD hK5 rfl rfl)⟩
    have h9 := HC5.out j s (by simpa using hs)
    have hbk : (W5.putObj D (.deferred none)).heap[g]? = W5.heap[g]? := (grownBy_putObj' W5 D (.deferred none)).block g HZ5.out (fun e => HND.out (by injection e with e; exact e.symm))
    rw [World.cell?_of_block (w := W5) (a := ⟨g, 0 + j, none⟩) hbk]
    exact h9
  case stop =>
    rintro D cd pre W hD hsp hst hK
    exact hst.elim
theorem names_any (w : World) (hF : FamAt w w.heap.size) :
    Calls Tryd.prog 7 #[] w fun e w' => (∃ A c, e = .returned (.slice A 27 c) ∧ SlB w' w'.heap.size A namesC) ∧ Below w.heap.size w w' :=
  (callsIn_wide (n := 9)).1 (names_in 9 (Nat.le_of_ble_eq_true rfl) w hF)
end Go.Proofs.YtlblbghlchedpaaDoor
