/-
  CONTRACT: the document's reader (layer 5): node, given nodes.
-/
import Derived.Deep.RegionWith
import Derived.Test.YthbighnkohjfnaaGreatDoorJTDNod
namespace Go.Proofs.YthbighnkohjfnaaGreatDoor
open Go.RowKit

theorem bx_cells {W : World} {b : Nat} {s : ByteArray} {at_ deep many : Nat} {bad : Int} (h : BxD W b s at_ deep many bad) : (W.cell? ⟨b, 0, none⟩ = some (.string s) ∧ W.cell? ⟨b, 1, none⟩ = some (.int .i64 (at_ : Int)) ∧ W.cell? ⟨b, 2, none⟩ = some (.int .i64 (deep : Int)) ∧ W.cell? ⟨b, 3, none⟩ = some (.int .i64 (many : Int)) ∧ W.cell? ⟨b, 4, none⟩ = some (.int .i64 bad)) ∧
    (W.frozen? ⟨b, 1, none⟩ = false ∧ W.frozen? ⟨b, 2, none⟩ = false ∧ W.frozen? ⟨b, 3, none⟩ = false ∧ W.frozen? ⟨b, 4, none⟩ = false) := ⟨⟨h.cell 0, h.cell 1, h.cell 2, h.cell 3, h.cell 4⟩, h.fz 1, h.fz 2, h.fz 3, h.fz 4⟩
theorem nd_cells {W : World} {q : Nat} {k vk vn : Int} {vs s : ByteArray} {A : Option Addr} {n c : Nat} {ln co : Int} (h : NdB W q k vk vn vs s A n c ln co) : W.cell? ⟨q, 0, none⟩ = some (.int .i64 k) ∧ W.cell? ⟨q, 1, none⟩ = some (.int .i64 vk) ∧ W.cell? ⟨q, 2, none⟩ = some (.int .i64 vn) ∧ W.cell? ⟨q, 3, none⟩ = some (.string vs) ∧ W.cell? ⟨q, 4, none⟩ = some (.string s) ∧ W.cell? ⟨q, 5, none⟩ = some (.slice A n c) ∧ W.cell? ⟨q, 6, none⟩ = some (.int .i64 ln) ∧ W.cell? ⟨q, 7, none⟩ = some (.int .i64 co) :=
  ⟨h.cell 0, h.cell 1, h.cell 2, h.cell 3, h.cell 4, h.cell 5, h.cell 6, h.cell 7⟩
theorem nd_fz {W : World} {q : Nat} {k vk vn : Int} {vs s : ByteArray} {A : Option Addr} {n c : Nat} {ln co : Int} (h : NdB W q k vk vn vs s A n c ln co) : W.frozen? ⟨q, 0, none⟩ = false ∧ W.frozen? ⟨q, 1, none⟩ = false ∧ W.frozen? ⟨q, 2, none⟩ = false ∧ W.frozen? ⟨q, 3, none⟩ = false ∧ W.frozen? ⟨q, 4, none⟩ = false ∧ W.frozen? ⟨q, 5, none⟩ = false ∧ W.frozen? ⟨q, 6, none⟩ = false ∧ W.frozen? ⟨q, 7, none⟩ = false :=
  ⟨h.fz 0, h.fz 1, h.fz 2, h.fz 3, h.fz 4, h.fz 5, h.fz 6, h.fz 7⟩
/-- the blocks of node's call: what it answers, and the node in hand -/
structure NdM (w : World) (b : Nat) (s : ByteArray) (at_ deep many : Nat) (bad : Int) (k vk vn : Int) (vs t : ByteArray) (A : Option Addr) (n c : Nat) (ln co : Int) (W : World) : Prop where
  x : BxD W b s at_ deep many bad
  r : NdB W w.heap.size 0 0 0 ⟨#[]⟩ ⟨#[]⟩ none 0 0 0 0
  n : NdB W (w.heap.size + 1) k vk vn vs t A n c ln co
  o : Only b w W
theorem NdM.below {w W W' : World} {b : Nat} {s : ByteArray} {at_ deep many : Nat} {bad k vk vn : Int} {vs t : ByteArray} {A : Option Addr} {n c : Nat} {ln co : Int} (h : NdM w b s at_ deep many bad k vk vn vs t A n c ln co W) (hb : Below W.heap.size W W') : NdM w b s at_ deep many bad k vk vn vs t A n c ln co W' :=
  ⟨h.x.next hb, h.r.next hb, h.n.next hb, h.o.below hb (Nat.le_of_lt h.x.lt)⟩
section
variable {w W : World} {b : Nat} {s : ByteArray} {at_ deep many : Nat} {bad k vk vn : Int} {vs t : ByteArray} {A : Option Addr} {n c : Nat} {ln co : Int}
theorem NdM.box (h : NdM w b s at_ deep many bad k vk vn vs t A n c ln co W) (hb : b < w.heap.size) (j : Nat) (u : Value) {at2 deep2 many2 : Nat} {bad2 : Int} (hx : BxD (W.setCell ⟨b, j, none⟩ u) b s at2 deep2 many2 bad2) : NdM w b s at2 deep2 many2 bad2 k vk vn vs t A n c ln co (W.setCell ⟨b, j, none⟩ u) :=
  ⟨hx, h.r.other (by omega) j u, h.n.other (by omega) j u, h.o.setCell j u⟩
theorem NdM.nod (h : NdM w b s at_ deep many bad k vk vn vs t A n c ln co W) (hb : b < w.heap.size) (j : Nat) (u : Value) {k2 vk2 vn2 : Int} {vs2 t2 : ByteArray} {A2 : Option Addr} {n2 c2 : Nat} {ln2 co2 : Int} (hx : NdB (W.setCell ⟨w.heap.size + 1, j, none⟩ u) (w.heap.size + 1) k2 vk2 vn2 vs2 t2 A2 n2 c2 ln2 co2) : NdM w b s at_ deep many bad k2 vk2 vn2 vs2 t2 A2 n2 c2 ln2 co2 (W.setCell ⟨w.heap.size + 1, j, none⟩ u) :=
  ⟨h.x.other (by omega) j u, h.r.other (by omega) j u, hx, h.o.setNew (by omega) (by omega) j u⟩
end
theorem BxD.inj {W : World} {b : Nat} {s : ByteArray} {a d m a' d' m' : Nat} {x x' : Int} (h : BxD W b s a d m x) (h' : BxD W b s a' d' m' x') : a = a' ∧ d = d' ∧ m = m' ∧ x = x' := by
  have e := (show W.heap[b]? = _ from h).symm.trans h'
  simp at e
  omega
/-- the node in hand is answered -/
theorem NdM.ret {w W W' : World} {b : Nat} {s : ByteArray} {at_ deep many : Nat} {bad k vk vn : Int} {vs t : ByteArray} {A : Option Addr} {n c : Nat} {ln co : Int} (h : NdM w b s at_ deep many bad k vk vn vs t A n c ln co W)
    (hW : (((((((W.setCell ⟨w.heap.size, 0, none⟩ (.int .i64 k)).setCell ⟨w.heap.size, 1, none⟩ (.int .i64 vk)).setCell ⟨w.heap.size, 2, none⟩ (.int .i64 vn)).setCell ⟨w.heap.size, 3, none⟩ (.string vs)).setCell ⟨w.heap.size, 4, none⟩ (.string t)).setCell ⟨w.heap.size, 5, none⟩ (.slice A n c)).setCell ⟨w.heap.size, 6, none⟩ (.int .i64 ln)).setCell ⟨w.heap.size, 7, none⟩ (.int .i64 co) = W') (hb : b < w.heap.size) :
    BxD W' b s at_ deep many bad ∧ NdB W' w.heap.size k vk vn vs t A n c ln co ∧ Only b w W' ∧ W'.heap.size = W.heap.size ∧ ∀ g, g ≠ w.heap.size → W'.heap[g]? = W.heap[g]? := by
  have ot : ∀ (Y : World) (j g : Nat) (u : Value), g ≠ w.heap.size → (Y.setCell ⟨w.heap.size, j, none⟩ u).heap[g]? = Y.heap[g]? := fun Y j g u hg => heap_setCell_other Y ⟨w.heap.size, j, none⟩ g u hg
  have hall : ∀ g, g ≠ w.heap.size → W'.heap[g]? = W.heap[g]? := fun g hg => by
    rw [← hW, ot _ _ _ _ hg, ot _ _ _ _ hg, ot _ _ _ _ hg, ot _ _ _ _ hg, ot _ _ _ _ hg, ot _ _ _ _ hg, ot _ _ _ _ hg, ot _ _ _ _ hg]
  refine ⟨(hall b (by omega)).trans h.x, by rw [← hW]; exact h.r.set8, ?_, by rw [← hW]; simp, hall⟩
  have st : ∀ (Y : World) (j : Nat) (u : Value), Only b w Y → Only b w (Y.setCell ⟨w.heap.size, j, none⟩ u) := fun Y j u hY => hY.setNew (by omega) (Nat.le_refl _) j u
  rw [← hW]
  exact st _ _ _ (st _ _ _ (st _ _ _ (st _ _ _ (st _ _ _ (st _ _ _ (st _ _ _ (st _ _ _ h.o)))))))
theorem nd_result (W : World) (q : Nat) (k vk vn : Int) (vs t : ByteArray) (A : Option Addr) (n c : Nat) (ln co : Int) (h : NdB W q k vk vn vs t A n c ln co) (tmps : Array Value) (h4 : tmps[4]?.getD undef = .pointer (some ⟨q, 0, none⟩)) :
    (results Tryz.f40 tmps).run Tryz.prog W = .ok (ndV k vk vn vs t A n c ln co) W := by
  obtain ⟨c0, c1, c2, c3, c4, c5, c6, c7⟩ := nd_cells h
  rw [results_cell_one (p := 4) (ty := 37) (by kernel_rfl)]
  simp [h4]
  go_simp
  rfl
set_option maxRecDepth 100000 in
set_option maxHeartbeats 4000000 in
theorem node_of (f : Nat) (hN : NodesC f) : NodeC f := by
  intro b s at_ deep many w c r hB hd hcl hs hdeep hmany hf
  have hl : s.data.toList.length = s.size := Array.length_toList
  have has : at_ < s.size := by
    have : (s.data.toList.drop at_).length = (c :: r).length := by rw [hd]
    rw [List.length_drop, List.length_cons] at this
    omega
  have hr : s.data.toList.drop (at_ + 1) = r := by rw [← List.drop_drop, hd]; rfl
  have hb := hB.lt
  obtain ⟨ln, hln⟩ : ∃ ln, posL (s.data.toList.take at_) (1, 1) = ln := ⟨_, rfl⟩
  have hpl := fun W => (refPlace_any s at_ W (by omega) (by omega)).mono (R' := fun e w' => e = .returned (.tuple #[.int .i64 (ln.1 : Int), .int .i64 (ln.2 : Int)]) ∧ w' = W) (fun _ _ h => ⟨by rw [h.1, hln], h.2.symm⟩)
  obtain ⟨w1, hw1⟩ : ∃ w1, w.alloc (.cells #[.int .i64 0, .int .i64 0, .int .i64 0, .string ⟨#[]⟩, .string ⟨#[]⟩, .slice none 0 0, .int .i64 0, .int .i64 0] 37) = w1 := ⟨_, rfl⟩
  have hb1 : Below w.heap.size w w1 := by rw [← hw1]; exact (Below.refl _ _).alloc (Nat.le_refl _) _
  have hz1 : w1.heap.size = w.heap.size + 1 := by rw [← hw1]; simp
  have hr1 : NdB w1 w.heap.size 0 0 0 ⟨#[]⟩ ⟨#[]⟩ none 0 0 0 0 := by rw [← hw1]; exact NdB.new w 0 0 0 ⟨#[]⟩ ⟨#[]⟩ none 0 0 0 0
  have hB1 := hB.next hb1
  have c0 := hB1.cell 0
  have c1 := hB1.cell 1
  have HPL := Lib.hid hpl
  have HB1 := Lib.hid hb1
  have HZ1 := Lib.hid hz1
  have HR1 := Lib.hid hr1
  have HX1 := Lib.hid hB1
  have HN := Lib.hid hN
  have HLN := Lib.hid hln
  have HD := Lib.hid hd
  have HRR := Lib.hid hr
  have HL := Lib.hid hl
  have HW1 := Lib.hid hw1
  have HCL := Lib.hid hcl
  clear hpl hb1 hz1 hr1 hB1 hN hln hd hr hl hw1 hB hcl
  go_enter Tryz.func40, Tryz.ntmps40
  go_wp2_with fail
  rw [HW1.out]
  go_quiet (refine Calls.quiet_of_same (HPL.out _))
  obtain ⟨w2, hw2⟩ : ∃ w2, w1.drewN nq = w2 := ⟨_, rfl⟩
  have hb2 : Below w1.heap.size w1 w2 := by rw [← hw2]; exact below_dnD (Below.refl _ _) _
  have hz2 : w2.heap.size = w.heap.size + 1 := by rw [← hw2]; exact HZ1.out
  rw [hw2]
  clear hw2 c0 c1 HPL HW1
  have hM : NdM w b s at_ deep many (-1) 0 0 0 ⟨#[]⟩ ⟨#[]⟩ none 0 0 (ln.1 : Int) (ln.2 : Int) (w2.alloc (.cells #[.int .i64 0, .int .i64 0, .int .i64 0, .string ⟨#[]⟩, .string ⟨#[]⟩, .slice none 0 0, .int .i64 (ln.1 : Int), .int .i64 (ln.2 : Int)] 37)) := by
    have hb3 : Below w2.heap.size w2 (w2.alloc (.cells #[.int .i64 0, .int .i64 0, .int .i64 0, .string ⟨#[]⟩, .string ⟨#[]⟩, .slice none 0 0, .int .i64 (ln.1 : Int), .int .i64 (ln.2 : Int)] 37)) := (Below.refl _ _).alloc (Nat.le_refl _) _
    refine ⟨(HX1.out.next hb2).next hb3, (HR1.out.next hb2).next hb3, ?_, Only.of_below (HB1.out.trans ((hb2.mono HB1.out.size).trans (hb3.mono (by omega)))) (Nat.le_of_lt hb)⟩
    rw [← hz2]
    exact NdB.new w2 0 0 0 ⟨#[]⟩ ⟨#[]⟩ none 0 0 (ln.1 : Int) (ln.2 : Int)
  obtain ⟨⟨_, _, _, c3, _⟩, _, _, f3, _⟩ := bx_cells hM.x
  have HM := Lib.hid hM
  have hw3 : IntKind.i64.wrap ((many : Int) + 1) = ((many + 1 : Nat) : Int) := IntWalk.i64_in _ (by omega)
  clear hM
  have HZ2 := Lib.hid hz2
  clear hb2 hz2
  go_upto_region 4 with (fail)
  obtain ⟨w4, hw4⟩ : ∃ w4, (w2.alloc (.cells #[.int .i64 0, .int .i64 0, .int .i64 0, .string ⟨#[]⟩, .string ⟨#[]⟩, .slice none 0 0, .int .i64 (ln.1 : Int), .int .i64 (ln.2 : Int)] 37)).setCell ⟨b, 3, none⟩ (.int .i64 ((many : Int) + 1)) = w4 := ⟨_, rfl⟩
  have hM4 : NdM w b s at_ deep (many + 1) (-1) 0 0 0 ⟨#[]⟩ ⟨#[]⟩ none 0 0 (ln.1 : Int) (ln.2 : Int) w4 := by
    have h9 := HM.out.x.setMany (many + 1)
    rw [← hw4]
    rw [Int.natCast_add] at h9
    exact HM.out.box hb 3 _ h9
  rw [hw4, HZ2.out]
  have HM4 := Lib.hid hM4
  clear hw4 hM4 HM c3 f3 hw3 HR1 HX1
  have hcase : c = 40 ∨ c = 91 ∨ c = 123 ∨ (openC c = none ∧ c ≠ 40 ∧ c ≠ 91 ∧ c ≠ 123) := by
    by_cases h1 : c = 40
    · exact .inl h1
    · by_cases h2 : c = 91
      · exact .inr (.inl h2)
      · by_cases h3 : c = 123
        · exact .inr (.inr (.inl h3))
        · refine .inr (.inr (.inr ⟨?_, h1, h2, h3⟩))
          unfold openC
          rw [if_neg h1, if_neg h2, if_neg h3]
  rcases hcase with rfl | rfl | rfl | ⟨hop, hn1, hn2, hn3⟩
  · have HRD : Hid (nodeR pvL f (s.data.toList.drop at_) at_ many deep = if 50 ≤ deep ∨ 5000 ≤ many then .bad at_ else match nodesD pvL f (some 41) (s.data.toList.drop (at_ + 1)) (at_ + 1) (many + 1) (deep + 1) with
        | .bad b => .bad b
        | .ok kids s2 p2 m2 => .ok (.mk 3 0 0 [] [] kids at_) s2 p2 m2) := by
      show _ = _
      rw [HD.out, HRR.out]
      rfl
    go_wp2
    go_loopg [8] 3 (fun g x wr => ∃ k : Nat, x = .int .i64 (k : Int) ∧ k + g = 3 ∧ k ≤ 0 ∧ w4 = wr)
    case atStart => exact ⟨0, rfl, rfl, Nat.zero_le _, rfl⟩
    case round =>
      obtain ⟨k, rfl, hk, hk0, rfl⟩ := hrel
      rcases (by omega : k = 0) with rfl
      · obtain rfl : gk = 3 := by omega
        obtain ⟨⟨c0, c1, c2, c3, c4⟩, f1, f2, f3, f4⟩ := bx_cells HM4.out.x
        by_cases hg : 50 ≤ deep ∨ 5000 ≤ many
        · rw [if_pos hg] at HRD
          have HMZ := HM4.out.box hb 4 (.int .i64 (at_ : Int)) (HM4.out.x.setBad (at_ : Int))
          have HMZ := Lib.hid HMZ
          have hc1 : decide ((50 : Int) ≤ (deep : Int)) = true ∨ (decide ((50 : Int) ≤ (deep : Int)) = false ∧ decide ((5000 : Int) < (many : Int) + 1) = true) := by
            by_cases h5 : 50 ≤ deep
            · exact .inl (decide_eq_true (by omega))
            · exact .inr ⟨decide_eq_false (by omega), decide_eq_true (by omega)⟩
          rcases hc1 with hc1 | ⟨hc1, hc2⟩
          all_goals
            go_upto_region 10 with (fail)
            obtain ⟨w5, hw5⟩ : ∃ w5, w4.setCell ⟨b, 4, none⟩ (.int .i64 (at_ : Int)) = w5 := ⟨_, rfl⟩
            rw [hw5] at HMZ ⊢
            clear hw5
            obtain ⟨x0, x1, x2, x3, x4, x5, x6, x7⟩ := nd_cells HMZ.out.n
            obtain ⟨y0, y1, y2, y3, y4, y5, y6, y7⟩ := nd_cells HMZ.out.r
            obtain ⟨z0, z1, z2, z3, z4, z5, z6, z7⟩ := nd_fz HMZ.out.r
            go_wp2
            obtain ⟨wz, hwz⟩ : ∃ wz, (((((((w5.setCell ⟨w.heap.size, 0, none⟩ (.int .i64 0)).setCell ⟨w.heap.size, 1, none⟩ (.int .i64 0)).setCell ⟨w.heap.size, 2, none⟩ (.int .i64 0)).setCell ⟨w.heap.size, 3, none⟩ (.string ⟨#[]⟩)).setCell ⟨w.heap.size, 4, none⟩ (.string ⟨#[]⟩)).setCell ⟨w.heap.size, 5, none⟩ (.slice none 0 0)).setCell ⟨w.heap.size, 6, none⟩ (.int .i64 (ln.1 : Int))).setCell ⟨w.heap.size, 7, none⟩ (.int .i64 (ln.2 : Int)) = wz := ⟨_, rfl⟩
            obtain ⟨hxz, hnz, hoz, hsz, haz⟩ := HMZ.out.ret hwz hb
            rw [hwz]
            clear hwz
            refine bodyPost_ret (v := ndV 0 0 0 ⟨#[]⟩ ⟨#[]⟩ none 0 0 (ln.1 : Int) (ln.2 : Int)) (nd_result _ _ _ _ _ _ _ _ _ _ _ _ hnz _ rfl) rfl ?_
            refine ⟨hoz, ?_⟩
            rw [HRD.out]
            exact ⟨⟨_, _, _, _, _, _, _, _, _, _, rfl⟩, by omega, _, _, hxz⟩
        · rw [if_neg hg] at HRD
          have hc1 : decide ((50 : Int) ≤ (deep : Int)) = false := decide_eq_false (by omega)
          have hc2 : decide ((5000 : Int) < (many : Int) + 1) = false := decide_eq_false (by omega)
          obtain ⟨x0, x1, x2, x3, x4, x5, x6, x7⟩ := nd_cells HM4.out.n
          obtain ⟨y0, _⟩ := nd_fz HM4.out.n
          have HMA := Lib.hid (HM4.out.nod hb 0 (.int .i64 3) (HM4.out.n.setK 3))
          go_upto_region 12 with (fail)
          obtain ⟨w5, hw5⟩ : ∃ w5, w4.setCell ⟨w.heap.size + 1, 0, none⟩ (.int .i64 3) = w5 := ⟨_, rfl⟩
          rw [hw5] at HMA ⊢
          clear hw5 x0 x1 x2 x3 x4 x5 x6 x7 y0 c0 c1 c2 c3 c4 f1 f2 f3 f4 hc1 hc2 HM4
          obtain ⟨⟨c0, c1, c2, c3, c4⟩, f1, f2, f3, f4⟩ := bx_cells HMA.out.x
          have hwa : IntKind.i64.wrap ((at_ : Int) + 1) = ((at_ + 1 : Nat) : Int) := IntWalk.i64_in _ (by omega)
          have HMB := Lib.hid (HMA.out.box hb 1 (.int .i64 ((at_ + 1 : Nat) : Int)) (HMA.out.x.setAt (at_ + 1)))
          rw [Int.natCast_add] at HMB
          go_upto_region 13 with (fail)
          obtain ⟨w6, hw6⟩ : ∃ w6, w5.setCell ⟨b, 1, none⟩ (.int .i64 ((at_ : Int) + 1)) = w6 := ⟨_, rfl⟩
          rw [show ((1 : Nat) : Int) = 1 from rfl, hw6] at HMB
          rw [hw6]
          clear hw6 c0 c1 c2 c3 c4 f1 f2 f3 f4 HMA hwa
          obtain ⟨⟨c0, c1, c2, c3, c4⟩, f1, f2, f3, f4⟩ := bx_cells HMB.out.x
          have hwd : IntKind.i64.wrap ((deep : Int) + 1) = ((deep + 1 : Nat) : Int) := IntWalk.i64_in _ (by omega)
          have HMC := Lib.hid (HMB.out.box hb 2 (.int .i64 ((deep + 1 : Nat) : Int)) (HMB.out.x.setDeep (deep + 1)))
          rw [Int.natCast_add deep 1] at HMC
          go_upto_region 14 with (fail)
          obtain ⟨w7, hw7⟩ : ∃ w7, w6.setCell ⟨b, 2, none⟩ (.int .i64 ((deep : Int) + 1)) = w7 := ⟨_, rfl⟩
          rw [show ((1 : Nat) : Int) = 1 from rfl, hw7] at HMC
          rw [hw7]
          clear hw7 c0 c1 c2 c3 c4 f1 f2 f3 f4 HMB hwd
          have HCN := Lib.hid (HN.out b (some 41) s (at_ + 1) (deep + 1) (many + 1) w7 HMC.out.x (by omega) hs (by omega) (by omega) (fun c e => by cases e; rfl) (by omega))
          go_wp2_with fail
          refine HCN.out.mono ?_
          rintro en w8 ⟨ho8, hm8⟩
          have hu : ∃ A n cc at2 many2 bad2, en = .returned (.slice A n cc) ∧ BxD w8 b s at2 (deep + 1) many2 bad2 := by
            cases hq : nodesD pvL f (some 41) (s.data.toList.drop (at_ + 1)) (at_ + 1) (many + 1) (deep + 1) with
            | bad p =>
              rw [hq] at hm8
              obtain ⟨⟨A, n, cc, e⟩, _, a2, m2, hx⟩ := hm8
              exact ⟨A, n, cc, a2, m2, _, e, hx⟩
            | ok l s2 p2 m2 =>
              rw [hq] at hm8
              obtain ⟨_, _, _, _, ⟨A, cc, e, _⟩, hx⟩ := hm8
              exact ⟨A, _, cc, _, _, _, e, hx⟩
          obtain ⟨A, n, cc, at2, many2, bad2, rfl, hx8⟩ := hu
          have HM8 : Hid (NdM w b s at2 (deep + 1) many2 bad2 3 0 0 ⟨#[]⟩ ⟨#[]⟩ none 0 0 (ln.1 : Int) (ln.2 : Int) w8) := ⟨hx8, HMC.out.r.only ho8 (by omega), HMC.out.n.only ho8 (by omega), HMC.out.o.trans ho8⟩
          have HZ7 : Hid (w.heap.size + 2 ≤ w7.heap.size) := HMC.out.n.lt
          have HZ8 := Lib.hid ho8.bel.size
          have HH8 := Lib.hid hm8
          have HX8 := Lib.hid hx8
          clear hx8 ho8 hm8 HCN HMC
          obtain ⟨_, _, _, _, _, y5, _, _⟩ := nd_fz HM8.out.n
          obtain ⟨_, _, _, _, _, x5, _, _⟩ := nd_cells HM8.out.n
          have HM9 := Lib.hid (HM8.out.nod hb 5 (.slice A n cc) (HM8.out.n.setKids A n cc))
          go_upto_region 15 with (fail)
          obtain ⟨w9, hw9⟩ : ∃ w9, w8.setCell ⟨w.heap.size + 1, 5, none⟩ (.slice A n cc) = w9 := ⟨_, rfl⟩
          have HA9 : Hid (∀ g, g ≠ w.heap.size + 1 → w9.heap[g]? = w8.heap[g]?) := fun g hg => by rw [← hw9]; exact heap_setCell_other w8 ⟨w.heap.size + 1, 5, none⟩ g _ hg
          have HS9 : Hid (w9.heap.size = w8.heap.size) := by rw [← hw9]; show _ = _; simp
          rw [hw9] at HM9 ⊢
          clear hw9 y5 x5 HM8
          obtain ⟨⟨c0, c1, c2, c3, c4⟩, f1, f2, f3, f4⟩ := bx_cells HM9.out.x
          have hwd : IntKind.i64.wrap (((deep + 1 : Nat) : Int) - 1) = (deep : Int) := by rw [show ((deep + 1 : Nat) : Int) - 1 = (deep : Int) by omega]; exact IntWalk.i64_in _ (by omega)
          have HMZ := Lib.hid (HM9.out.box hb 2 (.int .i64 (deep : Int)) (HM9.out.x.setDeep deep))
          go_upto_region 16 with (fail)
          obtain ⟨wa, hwa⟩ : ∃ wa, w9.setCell ⟨b, 2, none⟩ (.int .i64 (deep : Int)) = wa := ⟨_, rfl⟩
          have HAa : Hid (∀ g, g ≠ b → wa.heap[g]? = w9.heap[g]?) := fun g hg => by rw [← hwa]; exact heap_setCell_other w9 ⟨b, 2, none⟩ g _ hg
          have HSa : Hid (wa.heap.size = w9.heap.size) := by rw [← hwa]; show _ = _; simp
          rw [hwa] at HMZ ⊢
          clear hwa c0 c1 c2 c3 c4 f1 f2 f3 f4 hwd HM9
          obtain ⟨x0, x1, x2, x3, x4, x5, x6, x7⟩ := nd_cells HMZ.out.n
          obtain ⟨y0, y1, y2, y3, y4, y5, y6, y7⟩ := nd_cells HMZ.out.r
          obtain ⟨z0, z1, z2, z3, z4, z5, z6, z7⟩ := nd_fz HMZ.out.r
          go_wp2
          obtain ⟨wz, hwz⟩ : ∃ wz, (((((((wa.setCell ⟨w.heap.size, 0, none⟩ (.int .i64 3)).setCell ⟨w.heap.size, 1, none⟩ (.int .i64 0)).setCell ⟨w.heap.size, 2, none⟩ (.int .i64 0)).setCell ⟨w.heap.size, 3, none⟩ (.string ⟨#[]⟩)).setCell ⟨w.heap.size, 4, none⟩ (.string ⟨#[]⟩)).setCell ⟨w.heap.size, 5, none⟩ (.slice A n cc)).setCell ⟨w.heap.size, 6, none⟩ (.int .i64 (ln.1 : Int))).setCell ⟨w.heap.size, 7, none⟩ (.int .i64 (ln.2 : Int)) = wz := ⟨_, rfl⟩
          obtain ⟨hxz, hnz, hoz, hsz, haz⟩ := HMZ.out.ret hwz hb
          rw [hwz]
          clear hwz
          refine bodyPost_ret (v := ndV 3 0 0 ⟨#[]⟩ ⟨#[]⟩ A n cc (ln.1 : Int) (ln.2 : Int)) (nd_result _ _ _ _ _ _ _ _ _ _ _ _ hnz _ rfl) rfl ?_
          refine ⟨hoz, ?_⟩
          rw [HRD.out]
          have hh8 := HH8.out
          cases hq : nodesD pvL f (some 41) (s.data.toList.drop (at_ + 1)) (at_ + 1) (many + 1) (deep + 1) with
          | bad p =>
            rw [hq] at hh8
            obtain ⟨_, hp, a2, m2, hx⟩ := hh8
            obtain ⟨_, _, _, hbad⟩ := HX8.out.inj hx
            rw [hbad] at hxz
            exact ⟨⟨_, _, _, _, _, _, _, _, _, _, rfl⟩, hp, _, _, hxz⟩
          | ok l s2 p2 m2 =>
            rw [hq] at hh8
            obtain ⟨g1, g2, g3, g4, ⟨A2, cc2, e, hsl⟩, hx⟩ := hh8
            obtain ⟨ha2, _, hm2, hbad⟩ := HX8.out.inj hx
            rw [hbad, ha2, hm2] at hxz
            injection e with e
            injection e with e1 e2 e3
            subst e1 e2 e3
            have h7 := HZ7.out
            have hk : ∀ g, w7.heap.size ≤ g → wz.heap[g]? = w8.heap[g]? := fun g hg => (haz g (by omega)).trans ((HAa.out g (by omega)).trans (HA9.out g (by omega)))
            have hs1 := HS9.out
            have hs2 := HSa.out
            have hsl2 := (hsl.keep (W' := wz) fun g hg => hk g hg.1).mono (B' := fun g => w.heap.size ≤ g ∧ g < wz.heap.size) fun g hg => ⟨by omega, by omega⟩
            rw [show 51 - (deep + 1) = 50 - deep by omega] at hsl2
            refine ⟨g1, by omega, g3, g4, ⟨A, cc, ?_, ?_⟩, hxz⟩
            · rw [ndOf_mk, HLN.out]
              show _ = Ending.returned (ndV 3 0 0 ⟨#[]⟩ ⟨#[]⟩ A (l.map (ndOf s.data.toList)).length cc (ln.1 : Int) (ln.2 : Int))
              rw [List.length_map]
            · rw [ndOf_mk]
              exact hsl2
  · have HRD : Hid (nodeR pvL f (s.data.toList.drop at_) at_ many deep = if 50 ≤ deep ∨ 5000 ≤ many then .bad at_ else match nodesD pvL f (some 93) (s.data.toList.drop (at_ + 1)) (at_ + 1) (many + 1) (deep + 1) with
        | .bad b => .bad b
        | .ok kids s2 p2 m2 => .ok (.mk 4 0 0 [] [] kids at_) s2 p2 m2) := by
      show _ = _
      rw [HD.out, HRR.out]
      rfl
    go_wp2
    go_loopg [8] 3 (fun g x wr => ∃ k : Nat, x = .int .i64 (k : Int) ∧ k + g = 3 ∧ k ≤ 1 ∧ w4 = wr)
    case atStart => exact ⟨0, rfl, rfl, Nat.zero_le _, rfl⟩
    case round =>
      obtain ⟨k, rfl, hk, hk0, rfl⟩ := hrel
      rcases (by omega : k = 0 ∨ k = 1) with rfl | rfl
      · obtain rfl : gk = 3 := by omega
        go_wp2
        go_roundg 2
        case measure => omega
        case rel => exact ⟨1, by go_num, by omega, by omega, rfl⟩
      · obtain rfl : gk = 2 := by omega
        obtain ⟨⟨c0, c1, c2, c3, c4⟩, f1, f2, f3, f4⟩ := bx_cells HM4.out.x
        by_cases hg : 50 ≤ deep ∨ 5000 ≤ many
        · rw [if_pos hg] at HRD
          have HMZ := HM4.out.box hb 4 (.int .i64 (at_ : Int)) (HM4.out.x.setBad (at_ : Int))
          have HMZ := Lib.hid HMZ
          have hc1 : decide ((50 : Int) ≤ (deep : Int)) = true ∨ (decide ((50 : Int) ≤ (deep : Int)) = false ∧ decide ((5000 : Int) < (many : Int) + 1) = true) := by
            by_cases h5 : 50 ≤ deep
            · exact .inl (decide_eq_true (by omega))
            · exact .inr ⟨decide_eq_false (by omega), decide_eq_true (by omega)⟩
          rcases hc1 with hc1 | ⟨hc1, hc2⟩
          all_goals
            go_upto_region 10 with (fail)
            obtain ⟨w5, hw5⟩ : ∃ w5, w4.setCell ⟨b, 4, none⟩ (.int .i64 (at_ : Int)) = w5 := ⟨_, rfl⟩
            rw [hw5] at HMZ ⊢
            clear hw5
            obtain ⟨x0, x1, x2, x3, x4, x5, x6, x7⟩ := nd_cells HMZ.out.n
            obtain ⟨y0, y1, y2, y3, y4, y5, y6, y7⟩ := nd_cells HMZ.out.r
            obtain ⟨z0, z1, z2, z3, z4, z5, z6, z7⟩ := nd_fz HMZ.out.r
            go_wp2
            obtain ⟨wz, hwz⟩ : ∃ wz, (((((((w5.setCell ⟨w.heap.size, 0, none⟩ (.int .i64 0)).setCell ⟨w.heap.size, 1, none⟩ (.int .i64 0)).setCell ⟨w.heap.size, 2, none⟩ (.int .i64 0)).setCell ⟨w.heap.size, 3, none⟩ (.string ⟨#[]⟩)).setCell ⟨w.heap.size, 4, none⟩ (.string ⟨#[]⟩)).setCell ⟨w.heap.size, 5, none⟩ (.slice none 0 0)).setCell ⟨w.heap.size, 6, none⟩ (.int .i64 (ln.1 : Int))).setCell ⟨w.heap.size, 7, none⟩ (.int .i64 (ln.2 : Int)) = wz := ⟨_, rfl⟩
            obtain ⟨hxz, hnz, hoz, hsz, haz⟩ := HMZ.out.ret hwz hb
            rw [hwz]
            clear hwz
            refine bodyPost_ret (v := ndV 0 0 0 ⟨#[]⟩ ⟨#[]⟩ none 0 0 (ln.1 : Int) (ln.2 : Int)) (nd_result _ _ _ _ _ _ _ _ _ _ _ _ hnz _ rfl) rfl ?_
            refine ⟨hoz, ?_⟩
            rw [HRD.out]
            exact ⟨⟨_, _, _, _, _, _, _, _, _, _, rfl⟩, by omega, _, _, hxz⟩
        · rw [if_neg hg] at HRD
          have hc1 : decide ((50 : Int) ≤ (deep : Int)) = false := decide_eq_false (by omega)
          have hc2 : decide ((5000 : Int) < (many : Int) + 1) = false := decide_eq_false (by omega)
          obtain ⟨x0, x1, x2, x3, x4, x5, x6, x7⟩ := nd_cells HM4.out.n
          obtain ⟨y0, _⟩ := nd_fz HM4.out.n
          have HMA := Lib.hid (HM4.out.nod hb 0 (.int .i64 4) (HM4.out.n.setK 4))
          go_upto_region 12 with (fail)
          obtain ⟨w5, hw5⟩ : ∃ w5, w4.setCell ⟨w.heap.size + 1, 0, none⟩ (.int .i64 4) = w5 := ⟨_, rfl⟩
          rw [hw5] at HMA ⊢
          clear hw5 x0 x1 x2 x3 x4 x5 x6 x7 y0 c0 c1 c2 c3 c4 f1 f2 f3 f4 hc1 hc2 HM4
          obtain ⟨⟨c0, c1, c2, c3, c4⟩, f1, f2, f3, f4⟩ := bx_cells HMA.out.x
          have hwa : IntKind.i64.wrap ((at_ : Int) + 1) = ((at_ + 1 : Nat) : Int) := IntWalk.i64_in _ (by omega)
          have HMB := Lib.hid (HMA.out.box hb 1 (.int .i64 ((at_ + 1 : Nat) : Int)) (HMA.out.x.setAt (at_ + 1)))
          rw [Int.natCast_add] at HMB
          go_upto_region 13 with (fail)
          obtain ⟨w6, hw6⟩ : ∃ w6, w5.setCell ⟨b, 1, none⟩ (.int .i64 ((at_ : Int) + 1)) = w6 := ⟨_, rfl⟩
          rw [show ((1 : Nat) : Int) = 1 from rfl, hw6] at HMB
          rw [hw6]
          clear hw6 c0 c1 c2 c3 c4 f1 f2 f3 f4 HMA hwa
          obtain ⟨⟨c0, c1, c2, c3, c4⟩, f1, f2, f3, f4⟩ := bx_cells HMB.out.x
          have hwd : IntKind.i64.wrap ((deep : Int) + 1) = ((deep + 1 : Nat) : Int) := IntWalk.i64_in _ (by omega)
          have HMC := Lib.hid (HMB.out.box hb 2 (.int .i64 ((deep + 1 : Nat) : Int)) (HMB.out.x.setDeep (deep + 1)))
          rw [Int.natCast_add deep 1] at HMC
          go_upto_region 14 with (fail)
          obtain ⟨w7, hw7⟩ : ∃ w7, w6.setCell ⟨b, 2, none⟩ (.int .i64 ((deep : Int) + 1)) = w7 := ⟨_, rfl⟩
          rw [show ((1 : Nat) : Int) = 1 from rfl, hw7] at HMC
          rw [hw7]
          clear hw7 c0 c1 c2 c3 c4 f1 f2 f3 f4 HMB hwd
          have HCN := Lib.hid (HN.out b (some 93) s (at_ + 1) (deep + 1) (many + 1) w7 HMC.out.x (by omega) hs (by omega) (by omega) (fun c e => by cases e; rfl) (by omega))
          go_wp2_with fail
          refine HCN.out.mono ?_
          rintro en w8 ⟨ho8, hm8⟩
          have hu : ∃ A n cc at2 many2 bad2, en = .returned (.slice A n cc) ∧ BxD w8 b s at2 (deep + 1) many2 bad2 := by
            cases hq : nodesD pvL f (some 93) (s.data.toList.drop (at_ + 1)) (at_ + 1) (many + 1) (deep + 1) with
            | bad p =>
              rw [hq] at hm8
              obtain ⟨⟨A, n, cc, e⟩, _, a2, m2, hx⟩ := hm8
              exact ⟨A, n, cc, a2, m2, _, e, hx⟩
            | ok l s2 p2 m2 =>
              rw [hq] at hm8
              obtain ⟨_, _, _, _, ⟨A, cc, e, _⟩, hx⟩ := hm8
              exact ⟨A, _, cc, _, _, _, e, hx⟩
          obtain ⟨A, n, cc, at2, many2, bad2, rfl, hx8⟩ := hu
          have HM8 : Hid (NdM w b s at2 (deep + 1) many2 bad2 4 0 0 ⟨#[]⟩ ⟨#[]⟩ none 0 0 (ln.1 : Int) (ln.2 : Int) w8) := ⟨hx8, HMC.out.r.only ho8 (by omega), HMC.out.n.only ho8 (by omega), HMC.out.o.trans ho8⟩
          have HZ7 : Hid (w.heap.size + 2 ≤ w7.heap.size) := HMC.out.n.lt
          have HZ8 := Lib.hid ho8.bel.size
          have HH8 := Lib.hid hm8
          have HX8 := Lib.hid hx8
          clear hx8 ho8 hm8 HCN HMC
          obtain ⟨_, _, _, _, _, y5, _, _⟩ := nd_fz HM8.out.n
          obtain ⟨_, _, _, _, _, x5, _, _⟩ := nd_cells HM8.out.n
          have HM9 := Lib.hid (HM8.out.nod hb 5 (.slice A n cc) (HM8.out.n.setKids A n cc))
          go_upto_region 15 with (fail)
          obtain ⟨w9, hw9⟩ : ∃ w9, w8.setCell ⟨w.heap.size + 1, 5, none⟩ (.slice A n cc) = w9 := ⟨_, rfl⟩
          have HA9 : Hid (∀ g, g ≠ w.heap.size + 1 → w9.heap[g]? = w8.heap[g]?) := fun g hg => by rw [← hw9]; exact heap_setCell_other w8 ⟨w.heap.size + 1, 5, none⟩ g _ hg
          have HS9 : Hid (w9.heap.size = w8.heap.size) := by rw [← hw9]; show _ = _; simp
          rw [hw9] at HM9 ⊢
          clear hw9 y5 x5 HM8
          obtain ⟨⟨c0, c1, c2, c3, c4⟩, f1, f2, f3, f4⟩ := bx_cells HM9.out.x
          have hwd : IntKind.i64.wrap (((deep + 1 : Nat) : Int) - 1) = (deep : Int) := by rw [show ((deep + 1 : Nat) : Int) - 1 = (deep : Int) by omega]; exact IntWalk.i64_in _ (by omega)
          have HMZ := Lib.hid (HM9.out.box hb 2 (.int .i64 (deep : Int)) (HM9.out.x.setDeep deep))
          go_upto_region 16 with (fail)
          obtain ⟨wa, hwa⟩ : ∃ wa, w9.setCell ⟨b, 2, none⟩ (.int .i64 (deep : Int)) = wa := ⟨_, rfl⟩
          have HAa : Hid (∀ g, g ≠ b → wa.heap[g]? = w9.heap[g]?) := fun g hg => by rw [← hwa]; exact heap_setCell_other w9 ⟨b, 2, none⟩ g _ hg
          have HSa : Hid (wa.heap.size = w9.heap.size) := by rw [← hwa]; show _ = _; simp
          rw [hwa] at HMZ ⊢
          clear hwa c0 c1 c2 c3 c4 f1 f2 f3 f4 hwd HM9
          obtain ⟨x0, x1, x2, x3, x4, x5, x6, x7⟩ := nd_cells HMZ.out.n
          obtain ⟨y0, y1, y2, y3, y4, y5, y6, y7⟩ := nd_cells HMZ.out.r
          obtain ⟨z0, z1, z2, z3, z4, z5, z6, z7⟩ := nd_fz HMZ.out.r
          go_wp2
          obtain ⟨wz, hwz⟩ : ∃ wz, (((((((wa.setCell ⟨w.heap.size, 0, none⟩ (.int .i64 4)).setCell ⟨w.heap.size, 1, none⟩ (.int .i64 0)).setCell ⟨w.heap.size, 2, none⟩ (.int .i64 0)).setCell ⟨w.heap.size, 3, none⟩ (.string ⟨#[]⟩)).setCell ⟨w.heap.size, 4, none⟩ (.string ⟨#[]⟩)).setCell ⟨w.heap.size, 5, none⟩ (.slice A n cc)).setCell ⟨w.heap.size, 6, none⟩ (.int .i64 (ln.1 : Int))).setCell ⟨w.heap.size, 7, none⟩ (.int .i64 (ln.2 : Int)) = wz := ⟨_, rfl⟩
          obtain ⟨hxz, hnz, hoz, hsz, haz⟩ := HMZ.out.ret hwz hb
          rw [hwz]
          clear hwz
          refine bodyPost_ret (v := ndV 4 0 0 ⟨#[]⟩ ⟨#[]⟩ A n cc (ln.1 : Int) (ln.2 : Int)) (nd_result _ _ _ _ _ _ _ _ _ _ _ _ hnz _ rfl) rfl ?_
          refine ⟨hoz, ?_⟩
          rw [HRD.out]
          have hh8 := HH8.out
          cases hq : nodesD pvL f (some 93) (s.data.toList.drop (at_ + 1)) (at_ + 1) (many + 1) (deep + 1) with
          | bad p =>
            rw [hq] at hh8
            obtain ⟨_, hp, a2, m2, hx⟩ := hh8
            obtain ⟨_, _, _, hbad⟩ := HX8.out.inj hx
            rw [hbad] at hxz
            exact ⟨⟨_, _, _, _, _, _, _, _, _, _, rfl⟩, hp, _, _, hxz⟩
          | ok l s2 p2 m2 =>
            rw [hq] at hh8
            obtain ⟨g1, g2, g3, g4, ⟨A2, cc2, e, hsl⟩, hx⟩ := hh8
            obtain ⟨ha2, _, hm2, hbad⟩ := HX8.out.inj hx
            rw [hbad, ha2, hm2] at hxz
            injection e with e
            injection e with e1 e2 e3
            subst e1 e2 e3
            have h7 := HZ7.out
            have hk : ∀ g, w7.heap.size ≤ g → wz.heap[g]? = w8.heap[g]? := fun g hg => (haz g (by omega)).trans ((HAa.out g (by omega)).trans (HA9.out g (by omega)))
            have hs1 := HS9.out
            have hs2 := HSa.out
            have hsl2 := (hsl.keep (W' := wz) fun g hg => hk g hg.1).mono (B' := fun g => w.heap.size ≤ g ∧ g < wz.heap.size) fun g hg => ⟨by omega, by omega⟩
            rw [show 51 - (deep + 1) = 50 - deep by omega] at hsl2
            refine ⟨g1, by omega, g3, g4, ⟨A, cc, ?_, ?_⟩, hxz⟩
            · rw [ndOf_mk, HLN.out]
              show _ = Ending.returned (ndV 4 0 0 ⟨#[]⟩ ⟨#[]⟩ A (l.map (ndOf s.data.toList)).length cc (ln.1 : Int) (ln.2 : Int))
              rw [List.length_map]
            · rw [ndOf_mk]
              exact hsl2
  · have HRD : Hid (nodeR pvL f (s.data.toList.drop at_) at_ many deep = if 50 ≤ deep ∨ 5000 ≤ many then .bad at_ else match nodesD pvL f (some 125) (s.data.toList.drop (at_ + 1)) (at_ + 1) (many + 1) (deep + 1) with
        | .bad b => .bad b
        | .ok kids s2 p2 m2 => .ok (.mk 5 0 0 [] [] kids at_) s2 p2 m2) := by
      show _ = _
      rw [HD.out, HRR.out]
      rfl
    go_wp2
    go_loopg [8] 3 (fun g x wr => ∃ k : Nat, x = .int .i64 (k : Int) ∧ k + g = 3 ∧ k ≤ 2 ∧ w4 = wr)
    case atStart => exact ⟨0, rfl, rfl, Nat.zero_le _, rfl⟩
    case round =>
      obtain ⟨k, rfl, hk, hk0, rfl⟩ := hrel
      rcases (by omega : k = 0 ∨ k = 1 ∨ k = 2) with rfl | rfl | rfl
      · obtain rfl : gk = 3 := by omega
        go_wp2
        go_roundg 2
        case measure => omega
        case rel => exact ⟨1, by go_num, by omega, by omega, rfl⟩
      · obtain rfl : gk = 2 := by omega
        go_wp2
        go_roundg 1
        case measure => omega
        case rel => exact ⟨2, by go_num, by omega, by omega, rfl⟩
      · obtain rfl : gk = 1 := by omega
        obtain ⟨⟨c0, c1, c2, c3, c4⟩, f1, f2, f3, f4⟩ := bx_cells HM4.out.x
        by_cases hg : 50 ≤ deep ∨ 5000 ≤ many
        · rw [if_pos hg] at HRD
          have HMZ := HM4.out.box hb 4 (.int .i64 (at_ : Int)) (HM4.out.x.setBad (at_ : Int))
          have HMZ := Lib.hid HMZ
          have hc1 : decide ((50 : Int) ≤ (deep : Int)) = true ∨ (decide ((50 : Int) ≤ (deep : Int)) = false ∧ decide ((5000 : Int) < (many : Int) + 1) = true) := by
            by_cases h5 : 50 ≤ deep
            · exact .inl (decide_eq_true (by omega))
            · exact .inr ⟨decide_eq_false (by omega), decide_eq_true (by omega)⟩
          rcases hc1 with hc1 | ⟨hc1, hc2⟩
          all_goals
            go_upto_region 10 with (fail)
            obtain ⟨w5, hw5⟩ : ∃ w5, w4.setCell ⟨b, 4, none⟩ (.int .i64 (at_ : Int)) = w5 := ⟨_, rfl⟩
            rw [hw5] at HMZ ⊢
            clear hw5
            obtain ⟨x0, x1, x2, x3, x4, x5, x6, x7⟩ := nd_cells HMZ.out.n
            obtain ⟨y0, y1, y2, y3, y4, y5, y6, y7⟩ := nd_cells HMZ.out.r
            obtain ⟨z0, z1, z2, z3, z4, z5, z6, z7⟩ := nd_fz HMZ.out.r
            go_wp2
            obtain ⟨wz, hwz⟩ : ∃ wz, (((((((w5.setCell ⟨w.heap.size, 0, none⟩ (.int .i64 0)).setCell ⟨w.heap.size, 1, none⟩ (.int .i64 0)).setCell ⟨w.heap.size, 2, none⟩ (.int .i64 0)).setCell ⟨w.heap.size, 3, none⟩ (.string ⟨#[]⟩)).setCell ⟨w.heap.size, 4, none⟩ (.string ⟨#[]⟩)).setCell ⟨w.heap.size, 5, none⟩ (.slice none 0 0)).setCell ⟨w.heap.size, 6, none⟩ (.int .i64 (ln.1 : Int))).setCell ⟨w.heap.size, 7, none⟩ (.int .i64 (ln.2 : Int)) = wz := ⟨_, rfl⟩
            obtain ⟨hxz, hnz, hoz, hsz, haz⟩ := HMZ.out.ret hwz hb
            rw [hwz]
            clear hwz
            refine bodyPost_ret (v := ndV 0 0 0 ⟨#[]⟩ ⟨#[]⟩ none 0 0 (ln.1 : Int) (ln.2 : Int)) (nd_result _ _ _ _ _ _ _ _ _ _ _ _ hnz _ rfl) rfl ?_
            refine ⟨hoz, ?_⟩
            rw [HRD.out]
            exact ⟨⟨_, _, _, _, _, _, _, _, _, _, rfl⟩, by omega, _, _, hxz⟩
        · rw [if_neg hg] at HRD
          have hc1 : decide ((50 : Int) ≤ (deep : Int)) = false := decide_eq_false (by omega)
          have hc2 : decide ((5000 : Int) < (many : Int) + 1) = false := decide_eq_false (by omega)
          obtain ⟨x0, x1, x2, x3, x4, x5, x6, x7⟩ := nd_cells HM4.out.n
          obtain ⟨y0, _⟩ := nd_fz HM4.out.n
          have HMA := Lib.hid (HM4.out.nod hb 0 (.int .i64 5) (HM4.out.n.setK 5))
          go_upto_region 12 with (fail)
          obtain ⟨w5, hw5⟩ : ∃ w5, w4.setCell ⟨w.heap.size + 1, 0, none⟩ (.int .i64 5) = w5 := ⟨_, rfl⟩
          rw [hw5] at HMA ⊢
          clear hw5 x0 x1 x2 x3 x4 x5 x6 x7 y0 c0 c1 c2 c3 c4 f1 f2 f3 f4 hc1 hc2 HM4
          obtain ⟨⟨c0, c1, c2, c3, c4⟩, f1, f2, f3, f4⟩ := bx_cells HMA.out.x
          have hwa : IntKind.i64.wrap ((at_ : Int) + 1) = ((at_ + 1 : Nat) : Int) := IntWalk.i64_in _ (by omega)
          have HMB := Lib.hid (HMA.out.box hb 1 (.int .i64 ((at_ + 1 : Nat) : Int)) (HMA.out.x.setAt (at_ + 1)))
          rw [Int.natCast_add] at HMB
          go_upto_region 13 with (fail)
          obtain ⟨w6, hw6⟩ : ∃ w6, w5.setCell ⟨b, 1, none⟩ (.int .i64 ((at_ : Int) + 1)) = w6 := ⟨_, rfl⟩
          rw [show ((1 : Nat) : Int) = 1 from rfl, hw6] at HMB
          rw [hw6]
          clear hw6 c0 c1 c2 c3 c4 f1 f2 f3 f4 HMA hwa
          obtain ⟨⟨c0, c1, c2, c3, c4⟩, f1, f2, f3, f4⟩ := bx_cells HMB.out.x
          have hwd : IntKind.i64.wrap ((deep : Int) + 1) = ((deep + 1 : Nat) : Int) := IntWalk.i64_in _ (by omega)
          have HMC := Lib.hid (HMB.out.box hb 2 (.int .i64 ((deep + 1 : Nat) : Int)) (HMB.out.x.setDeep (deep + 1)))
          rw [Int.natCast_add deep 1] at HMC
          go_upto_region 14 with (fail)
          obtain ⟨w7, hw7⟩ : ∃ w7, w6.setCell ⟨b, 2, none⟩ (.int .i64 ((deep : Int) + 1)) = w7 := ⟨_, rfl⟩
          rw [show ((1 : Nat) : Int) = 1 from rfl, hw7] at HMC
          rw [hw7]
          clear hw7 c0 c1 c2 c3 c4 f1 f2 f3 f4 HMB hwd
          have HCN := Lib.hid (HN.out b (some 125) s (at_ + 1) (deep + 1) (many + 1) w7 HMC.out.x (by omega) hs (by omega) (by omega) (fun c e => by cases e; rfl) (by omega))
          go_wp2_with fail
          refine HCN.out.mono ?_
          rintro en w8 ⟨ho8, hm8⟩
          have hu : ∃ A n cc at2 many2 bad2, en = .returned (.slice A n cc) ∧ BxD w8 b s at2 (deep + 1) many2 bad2 := by
            cases hq : nodesD pvL f (some 125) (s.data.toList.drop (at_ + 1)) (at_ + 1) (many + 1) (deep + 1) with
            | bad p =>
              rw [hq] at hm8
              obtain ⟨⟨A, n, cc, e⟩, _, a2, m2, hx⟩ := hm8
              exact ⟨A, n, cc, a2, m2, _, e, hx⟩
            | ok l s2 p2 m2 =>
              rw [hq] at hm8
              obtain ⟨_, _, _, _, ⟨A, cc, e, _⟩, hx⟩ := hm8
              exact ⟨A, _, cc, _, _, _, e, hx⟩
          obtain ⟨A, n, cc, at2, many2, bad2, rfl, hx8⟩ := hu
          have HM8 : Hid (NdM w b s at2 (deep + 1) many2 bad2 5 0 0 ⟨#[]⟩ ⟨#[]⟩ none 0 0 (ln.1 : Int) (ln.2 : Int) w8) := ⟨hx8, HMC.out.r.only ho8 (by omega), HMC.out.n.only ho8 (by omega), HMC.out.o.trans ho8⟩
          have HZ7 : Hid (w.heap.size + 2 ≤ w7.heap.size) := HMC.out.n.lt
          have HZ8 := Lib.hid ho8.bel.size
          have HH8 := Lib.hid hm8
          have HX8 := Lib.hid hx8
          clear hx8 ho8 hm8 HCN HMC
          obtain ⟨_, _, _, _, _, y5, _, _⟩ := nd_fz HM8.out.n
          obtain ⟨_, _, _, _, _, x5, _, _⟩ := nd_cells HM8.out.n
          have HM9 := Lib.hid (HM8.out.nod hb 5 (.slice A n cc) (HM8.out.n.setKids A n cc))
          go_upto_region 15 with (fail)
          obtain ⟨w9, hw9⟩ : ∃ w9, w8.setCell ⟨w.heap.size + 1, 5, none⟩ (.slice A n cc) = w9 := ⟨_, rfl⟩
          have HA9 : Hid (∀ g, g ≠ w.heap.size + 1 → w9.heap[g]? = w8.heap[g]?) := fun g hg => by rw [← hw9]; exact heap_setCell_other w8 ⟨w.heap.size + 1, 5, none⟩ g _ hg
          have HS9 : Hid (w9.heap.size = w8.heap.size) := by rw [← hw9]; show _ = _; simp
          rw [hw9] at HM9 ⊢
          clear hw9 y5 x5 HM8
          obtain ⟨⟨c0, c1, c2, c3, c4⟩, f1, f2, f3, f4⟩ := bx_cells HM9.out.x
          have hwd : IntKind.i64.wrap (((deep + 1 : Nat) : Int) - 1) = (deep : Int) := by rw [show ((deep + 1 : Nat) : Int) - 1 = (deep : Int) by omega]; exact IntWalk.i64_in _ (by omega)
          have HMZ := Lib.hid (HM9.out.box hb 2 (.int .i64 (deep : Int)) (HM9.out.x.setDeep deep))
          go_upto_region 16 with (fail)
          obtain ⟨wa, hwa⟩ : ∃ wa, w9.setCell ⟨b, 2, none⟩ (.int .i64 (deep : Int)) = wa := ⟨_, rfl⟩
          have HAa : Hid (∀ g, g ≠ b → wa.heap[g]? = w9.heap[g]?) := fun g hg => by rw [← hwa]; exact heap_setCell_other w9 ⟨b, 2, none⟩ g _ hg
          have HSa : Hid (wa.heap.size = w9.heap.size) := by rw [← hwa]; show _ = _; simp
          rw [hwa] at HMZ ⊢
          clear hwa c0 c1 c2 c3 c4 f1 f2 f3 f4 hwd HM9
          obtain ⟨x0, x1, x2, x3, x4, x5, x6, x7⟩ := nd_cells HMZ.out.n
          obtain ⟨y0, y1, y2, y3, y4, y5, y6, y7⟩ := nd_cells HMZ.out.r
          obtain ⟨z0, z1, z2, z3, z4, z5, z6, z7⟩ := nd_fz HMZ.out.r
          go_wp2
          obtain ⟨wz, hwz⟩ : ∃ wz, (((((((wa.setCell ⟨w.heap.size, 0, none⟩ (.int .i64 5)).setCell ⟨w.heap.size, 1, none⟩ (.int .i64 0)).setCell ⟨w.heap.size, 2, none⟩ (.int .i64 0)).setCell ⟨w.heap.size, 3, none⟩ (.string ⟨#[]⟩)).setCell ⟨w.heap.size, 4, none⟩ (.string ⟨#[]⟩)).setCell ⟨w.heap.size, 5, none⟩ (.slice A n cc)).setCell ⟨w.heap.size, 6, none⟩ (.int .i64 (ln.1 : Int))).setCell ⟨w.heap.size, 7, none⟩ (.int .i64 (ln.2 : Int)) = wz := ⟨_, rfl⟩
          obtain ⟨hxz, hnz, hoz, hsz, haz⟩ := HMZ.out.ret hwz hb
          rw [hwz]
          clear hwz
          refine bodyPost_ret (v := ndV 5 0 0 ⟨#[]⟩ ⟨#[]⟩ A n cc (ln.1 : Int) (ln.2 : Int)) (nd_result _ _ _ _ _ _ _ _ _ _ _ _ hnz _ rfl) rfl ?_
          refine ⟨hoz, ?_⟩
          rw [HRD.out]
          have hh8 := HH8.out
          cases hq : nodesD pvL f (some 125) (s.data.toList.drop (at_ + 1)) (at_ + 1) (many + 1) (deep + 1) with
          | bad p =>
            rw [hq] at hh8
            obtain ⟨_, hp, a2, m2, hx⟩ := hh8
            obtain ⟨_, _, _, hbad⟩ := HX8.out.inj hx
            rw [hbad] at hxz
            exact ⟨⟨_, _, _, _, _, _, _, _, _, _, rfl⟩, hp, _, _, hxz⟩
          | ok l s2 p2 m2 =>
            rw [hq] at hh8
            obtain ⟨g1, g2, g3, g4, ⟨A2, cc2, e, hsl⟩, hx⟩ := hh8
            obtain ⟨ha2, _, hm2, hbad⟩ := HX8.out.inj hx
            rw [hbad, ha2, hm2] at hxz
            injection e with e
            injection e with e1 e2 e3
            subst e1 e2 e3
            have h7 := HZ7.out
            have hk : ∀ g, w7.heap.size ≤ g → wz.heap[g]? = w8.heap[g]? := fun g hg => (haz g (by omega)).trans ((HAa.out g (by omega)).trans (HA9.out g (by omega)))
            have hs1 := HS9.out
            have hs2 := HSa.out
            have hsl2 := (hsl.keep (W' := wz) fun g hg => hk g hg.1).mono (B' := fun g => w.heap.size ≤ g ∧ g < wz.heap.size) fun g hg => ⟨by omega, by omega⟩
            rw [show 51 - (deep + 1) = 50 - deep by omega] at hsl2
            refine ⟨g1, by omega, g3, g4, ⟨A, cc, ?_, ?_⟩, hxz⟩
            · rw [ndOf_mk, HLN.out]
              show _ = Ending.returned (ndV 5 0 0 ⟨#[]⟩ ⟨#[]⟩ A (l.map (ndOf s.data.toList)).length cc (ln.1 : Int) (ln.2 : Int))
              rw [List.length_map]
            · rw [ndOf_mk]
              exact hsl2
  · have HWN : Hid (nodeR pvL f (s.data.toList.drop at_) at_ many deep = match wordN (c :: r) with
      | none => .bad (at_ + (c :: r).length)
      | some 0 => .bad at_
      | some (n + 1) => if 5000 ≤ many then .bad at_ else match wordOf pvL ((c :: r).take (n + 1)) at_ with
        | none => .bad at_
        | some x => if fitsB ((c :: r).drop (n + 1)) then .ok x ((c :: r).drop (n + 1)) (at_ + (n + 1)) (many + 1) else .bad (at_ + (n + 1))) := by
      show _ = _
      rw [HD.out]
      unfold nodeR
      dsimp only
      rw [hop]
      cases wordN (c :: r) with
      | none => rfl
      | some n => cases n <;> rfl
    have m1 : ((c.toNat : Int) != (((⟨#[40, 91, 123]⟩ : ByteArray)[0]'(by decide)).toNat : Int)) = true := by show ((c.toNat : Int) != 40) = true; rw [bne, show ((c.toNat : Int) == 40) = false from byteF (n := 40) hn1 (by decide)]; rfl
    have m2 : ((c.toNat : Int) != (((⟨#[40, 91, 123]⟩ : ByteArray)[1]'(by decide)).toNat : Int)) = true := by show ((c.toNat : Int) != 91) = true; rw [bne, show ((c.toNat : Int) == 91) = false from byteF (n := 91) hn2 (by decide)]; rfl
    have m3 : ((c.toNat : Int) != (((⟨#[40, 91, 123]⟩ : ByteArray)[2]'(by decide)).toNat : Int)) = true := by show ((c.toNat : Int) != 123) = true; rw [bne, show ((c.toNat : Int) == 123) = false from byteF (n := 123) hn3 (by decide)]; rfl
    have HW := Lib.hid (docWord_any b s at_ deep (many + 1) (-1) w4 HM4.out.x has (by omega))
    rw [HD.out] at HW
    have hopen := hop
    clear hop hn1 hn2 hn3
    go_wp2
    go_loopg [8] 3 (fun g x wr => ∃ k : Nat, x = .int .i64 (k : Int) ∧ k + g = 3 ∧ w4 = wr)
    case atStart => exact ⟨0, rfl, rfl, rfl⟩
    case round =>
      obtain ⟨k, rfl, hk, rfl⟩ := hrel
      rcases (by omega : k = 0 ∨ k = 1 ∨ k = 2 ∨ k = 3) with rfl | rfl | rfl | rfl
      · obtain rfl : gk = 3 := by omega
        go_wp2
        go_roundg 2
        case measure => omega
        case rel => exact ⟨1, by go_num, by omega, rfl⟩
      · obtain rfl : gk = 2 := by omega
        go_wp2
        go_roundg 1
        case measure => omega
        case rel => exact ⟨2, by go_num, by omega, rfl⟩
      · obtain rfl : gk = 1 := by omega
        go_wp2
        go_roundg 0
        case measure => omega
        case rel => exact ⟨3, by go_num, by omega, rfl⟩
      · obtain rfl : gk = 0 := by omega
        clear m1 m2 m3
        go_wp2_with fail
        refine HW.out.mono ?_
        rintro e wx ⟨rfl, mm, rfl⟩
        have HM5 : Hid (NdM w b s at_ deep (many + 1) (-1) 0 0 0 ⟨#[]⟩ ⟨#[]⟩ none 0 0 (ln.1 : Int) (ln.2 : Int) (w4.drewN mm)) := HM4.out.below (below_dnD (Below.refl _ _) _)
        obtain ⟨w5, hw5⟩ : ∃ w5, w4.drewN mm = w5 := ⟨_, rfl⟩
        rw [hw5] at HM5 ⊢
        clear hw5 HW HM4
        obtain ⟨⟨c0, c1, c2, c3, c4⟩, f1, f2, f3, f4⟩ := bx_cells HM5.out.x
        cases hwn : wordN (c :: r) with
        | none =>
          rw [hwn] at HWN
          have hwi : wordI (c :: r) = -1 := by unfold wordI; rw [hwn]
          rw [hwi]
          have HMZ := Lib.hid (HM5.out.box hb 4 (.int .i64 (s.size : Int)) (HM5.out.x.setBad (s.size : Int)))
          clear hwn hwi
          go_upto_region 20 with (fail)
          obtain ⟨w6, hw6⟩ : ∃ w6, w5.setCell ⟨b, 4, none⟩ (.int .i64 (s.size : Int)) = w6 := ⟨_, rfl⟩
          rw [hw6] at HMZ ⊢
          clear hw6 c0 c1 c2 c3 c4 f1 f2 f3 f4
          obtain ⟨x0, x1, x2, x3, x4, x5, x6, x7⟩ := nd_cells HMZ.out.n
          obtain ⟨y0, y1, y2, y3, y4, y5, y6, y7⟩ := nd_cells HMZ.out.r
          obtain ⟨z0, z1, z2, z3, z4, z5, z6, z7⟩ := nd_fz HMZ.out.r
          go_wp2
          obtain ⟨wz, hwz⟩ : ∃ wz, (((((((w6.setCell ⟨w.heap.size, 0, none⟩ (.int .i64 0)).setCell ⟨w.heap.size, 1, none⟩ (.int .i64 0)).setCell ⟨w.heap.size, 2, none⟩ (.int .i64 0)).setCell ⟨w.heap.size, 3, none⟩ (.string ⟨#[]⟩)).setCell ⟨w.heap.size, 4, none⟩ (.string ⟨#[]⟩)).setCell ⟨w.heap.size, 5, none⟩ (.slice none 0 0)).setCell ⟨w.heap.size, 6, none⟩ (.int .i64 (ln.1 : Int))).setCell ⟨w.heap.size, 7, none⟩ (.int .i64 (ln.2 : Int)) = wz := ⟨_, rfl⟩
          obtain ⟨hxz, hnz, hoz, hsz, haz⟩ := HMZ.out.ret hwz hb
          rw [hwz]
          clear hwz
          refine bodyPost_ret (v := ndV 0 0 0 ⟨#[]⟩ ⟨#[]⟩ none 0 0 (ln.1 : Int) (ln.2 : Int)) (nd_result _ _ _ _ _ _ _ _ _ _ _ _ hnz _ rfl) rfl ?_
          refine ⟨hoz, ?_⟩
          rw [HWN.out]
          have hsz2 : at_ + (c :: r).length = s.size := by have h1 := HL.out; have h2 : (s.data.toList.drop at_).length = (c :: r).length := by rw [HD.out]
                                                           rw [List.length_drop] at h2; omega
          dsimp only
          rw [hsz2]
          exact ⟨⟨_, _, _, _, _, _, _, _, _, _, rfl⟩, Nat.le_refl _, _, _, hxz⟩
        | some n0 =>
          cases n0 with
          | zero =>
            rw [hwn] at HWN
            have hwi : wordI (c :: r) = 0 := by unfold wordI; rw [hwn]; rfl
            rw [hwi]
            have HMZ := Lib.hid (HM5.out.box hb 4 (.int .i64 (at_ : Int)) (HM5.out.x.setBad (at_ : Int)))
            clear hwn hwi
            go_upto_region 23 with (fail)
            obtain ⟨w6, hw6⟩ : ∃ w6, w5.setCell ⟨b, 4, none⟩ (.int .i64 (at_ : Int)) = w6 := ⟨_, rfl⟩
            rw [hw6] at HMZ ⊢
            clear hw6 c0 c1 c2 c3 c4 f1 f2 f3 f4
            obtain ⟨x0, x1, x2, x3, x4, x5, x6, x7⟩ := nd_cells HMZ.out.n
            obtain ⟨y0, y1, y2, y3, y4, y5, y6, y7⟩ := nd_cells HMZ.out.r
            obtain ⟨z0, z1, z2, z3, z4, z5, z6, z7⟩ := nd_fz HMZ.out.r
            go_wp2
            obtain ⟨wz, hwz⟩ : ∃ wz, (((((((w6.setCell ⟨w.heap.size, 0, none⟩ (.int .i64 0)).setCell ⟨w.heap.size, 1, none⟩ (.int .i64 0)).setCell ⟨w.heap.size, 2, none⟩ (.int .i64 0)).setCell ⟨w.heap.size, 3, none⟩ (.string ⟨#[]⟩)).setCell ⟨w.heap.size, 4, none⟩ (.string ⟨#[]⟩)).setCell ⟨w.heap.size, 5, none⟩ (.slice none 0 0)).setCell ⟨w.heap.size, 6, none⟩ (.int .i64 (ln.1 : Int))).setCell ⟨w.heap.size, 7, none⟩ (.int .i64 (ln.2 : Int)) = wz := ⟨_, rfl⟩
            obtain ⟨hxz, hnz, hoz, hsz, haz⟩ := HMZ.out.ret hwz hb
            rw [hwz]
            clear hwz
            refine bodyPost_ret (v := ndV 0 0 0 ⟨#[]⟩ ⟨#[]⟩ none 0 0 (ln.1 : Int) (ln.2 : Int)) (nd_result _ _ _ _ _ _ _ _ _ _ _ _ hnz _ rfl) rfl ?_
            refine ⟨hoz, ?_⟩
            rw [HWN.out]
            exact ⟨⟨_, _, _, _, _, _, _, _, _, _, rfl⟩, by omega, _, _, hxz⟩
          | succ n0 =>
            have hwi : wordI (c :: r) = ((n0 + 1 : Nat) : Int) := by unfold wordI; rw [hwn]
            have hml := measL_le (c :: r)
            rw [measL_cons, hopen, if_neg (by decide), if_neg (by rw [HCL.out]; exact Bool.false_ne_true), hwn] at hml
            rw [hwn] at HWN
            dsimp only at HWN hml
            obtain ⟨N, hNe⟩ : ∃ N, n0 + 1 = N := ⟨_, rfl⟩
            rw [hNe] at hwi HWN hml
            have hN0 : 0 < N := by omega
            have hNs : at_ + N ≤ s.size := by
              have h2 : (s.data.toList.drop at_).length = (c :: r).length := by rw [HD.out]
              rw [List.length_drop] at h2
              have h1 := HL.out
              omega
            clear hNe hml
            rw [hwi]
            have hn0 : decide ((N : Int) < 0) = false := decide_eq_false (by omega)
            have hn1 : ((N : Int) == 0) = false := beq_eq_false_iff_ne.2 (by omega)
            by_cases h5 : 5000 ≤ many
            · rw [if_pos h5] at HWN
              have hc2 : decide ((5000 : Int) < (many : Int) + 1) = true := decide_eq_true (by omega)
              have HMZ := Lib.hid (HM5.out.box hb 4 (.int .i64 (at_ : Int)) (HM5.out.x.setBad (at_ : Int)))
              clear hwn hwi
              go_upto_region 23 with (fail)
              obtain ⟨w6, hw6⟩ : ∃ w6, w5.setCell ⟨b, 4, none⟩ (.int .i64 (at_ : Int)) = w6 := ⟨_, rfl⟩
              rw [hw6] at HMZ ⊢
              clear hw6 c0 c1 c2 c3 c4 f1 f2 f3 f4
              obtain ⟨x0, x1, x2, x3, x4, x5, x6, x7⟩ := nd_cells HMZ.out.n
              obtain ⟨y0, y1, y2, y3, y4, y5, y6, y7⟩ := nd_cells HMZ.out.r
              obtain ⟨z0, z1, z2, z3, z4, z5, z6, z7⟩ := nd_fz HMZ.out.r
              go_wp2
              obtain ⟨wz, hwz⟩ : ∃ wz, (((((((w6.setCell ⟨w.heap.size, 0, none⟩ (.int .i64 0)).setCell ⟨w.heap.size, 1, none⟩ (.int .i64 0)).setCell ⟨w.heap.size, 2, none⟩ (.int .i64 0)).setCell ⟨w.heap.size, 3, none⟩ (.string ⟨#[]⟩)).setCell ⟨w.heap.size, 4, none⟩ (.string ⟨#[]⟩)).setCell ⟨w.heap.size, 5, none⟩ (.slice none 0 0)).setCell ⟨w.heap.size, 6, none⟩ (.int .i64 (ln.1 : Int))).setCell ⟨w.heap.size, 7, none⟩ (.int .i64 (ln.2 : Int)) = wz := ⟨_, rfl⟩
              obtain ⟨hxz, hnz, hoz, hsz, haz⟩ := HMZ.out.ret hwz hb
              rw [hwz]
              clear hwz
              refine bodyPost_ret (v := ndV 0 0 0 ⟨#[]⟩ ⟨#[]⟩ none 0 0 (ln.1 : Int) (ln.2 : Int)) (nd_result _ _ _ _ _ _ _ _ _ _ _ _ hnz _ rfl) rfl ?_
              refine ⟨hoz, ?_⟩
              rw [HWN.out]
              exact ⟨⟨_, _, _, _, _, _, _, _, _, _, rfl⟩, by omega, _, _, hxz⟩
            · rw [if_neg h5] at HWN
              have hc2 : decide ((5000 : Int) < (many : Int) + 1) = false := decide_eq_false (by omega)
              clear hwn hwi
              have hNi : IntKind.i64.wrap ((at_ : Int) + (N : Int)) = ((at_ + N : Nat) : Int) := IntWalk.i64_in _ (by omega)
              have hb1 : (at_ : Int) ≤ (at_ : Int) + (N : Int) := by omega
              have hb2 : (at_ : Int) + (N : Int) ≤ (s.size : Int) := by omega
              have hb3 : (0 : Int) ≤ (at_ : Int) := by omega
              go_wp2_with fail
              go_quiet (fail)
              have HM6 : Hid (NdM w b s at_ deep (many + 1) (-1) 0 0 0 ⟨#[]⟩ ⟨#[]⟩ none 0 0 (ln.1 : Int) (ln.2 : Int) (w5.drewN nq)) := HM5.out.below (below_dnD (Below.refl _ _) _)
              obtain ⟨w6, hw6⟩ : ∃ w6, w5.drewN nq = w6 := ⟨_, rfl⟩
              rw [hw6] at HM6 ⊢
              clear hw6 HM5 c0 c1 c2 c3 c4 f1 f2 f3 f4
              go_wp2_with fail
              obtain ⟨wd, hwd⟩ : ∃ wd, s.extract at_ (at_ + N) = wd := ⟨_, rfl⟩
              have hwl : wd.data.toList = (c :: r).take N := by
                rw [← hwd, ByteArray.data_extract, Array.toList_extract, ← HD.out]
                show List.extract _ _ _ = _
                rw [List.extract_eq_take_drop, Nat.add_sub_cancel_left]
              have hwz : wd.size = N := by rw [← hwd, ByteArray.size_extract]; omega
              rw [hwd]
              clear hwd
              have HWD := Lib.hid (And.intro hwl hwz)
              have hnm := fun W => refNamed_any wd W (by omega)
              have HNM := Lib.hid hnm
              have HPA := Lib.hid (refParse_any wd w6 (by omega))
              clear hwl hwz hnm
              refine HPA.out.mono ?_
              rintro e wp ⟨hpe, hbp⟩
              obtain rfl := parseEnds_is hpe
              have HMP := Lib.hid (HM6.out.below hbp)
              clear hpe HPA
              have hwo : wordOf pvL ((c :: r).take N) at_ = (match pvL wd.data.toList with
                | some v => some (.mk 1 v.1 v.2.1 v.2.2 [] [] at_)
                | none => if namR wd.data.toList then some (.mk 2 0 0 [] ((c :: r).take N) [] at_) else none) := by
                unfold wordOf
                rw [HWD.out.1]
                cases pvL ((c :: r).take N) <;> rfl
              have HWO := Lib.hid hwo
              clear hwo hbp
              cases hpv : pvL wd.data.toList with
              | some v =>
                rw [hpv] at HWO
                unfold pvV
                dsimp only at HWO ⊢
                have hbv : Below wp.heap.size wp (wp.alloc (.cells #[.int .i64 v.1, .int .i64 v.2.1, .string ⟨v.2.2.toArray⟩] 35)) := (Below.refl _ _).alloc (Nat.le_refl _) _
                have HV1 : Hid ((wp.alloc (.cells #[.int .i64 v.1, .int .i64 v.2.1, .string ⟨v.2.2.toArray⟩] 35)).heap[wp.heap.size]? = some (.cells #[.int .i64 v.1, .int .i64 v.2.1, .string ⟨v.2.2.toArray⟩] 35 (0, 0))) := heap_alloc_new wp _
                have HM7 := Lib.hid (HMP.out.below hbv)
                have HNE : Hid (w.heap.size + 1 < wp.heap.size) := HMP.out.n.lt
                clear hbv
                go_wp2_with fail
                obtain ⟨w7, hw7⟩ : ∃ w7, wp.alloc (.cells #[.int .i64 v.1, .int .i64 v.2.1, .string ⟨v.2.2.toArray⟩] 35) = w7 := ⟨_, rfl⟩
                rw [hw7] at HV1 HM7 ⊢
                clear hw7
                refine (HNM.out _).mono ?_
                rintro e wq ⟨rfl, rfl⟩
                have v0 : w7.cell? ⟨wp.heap.size, 0, none⟩ = some (.int .i64 v.1) := by have h := HV1.out; simp [World.cell?, h]
                have v1 : w7.cell? ⟨wp.heap.size, 1, none⟩ = some (.int .i64 v.2.1) := by have h := HV1.out; simp [World.cell?, h]
                have v2 : w7.cell? ⟨wp.heap.size, 2, none⟩ = some (.string ⟨v.2.2.toArray⟩) := by have h := HV1.out; simp [World.cell?, h]
                obtain ⟨n0, n1, n2, n3, n4, n5, n6, n7⟩ := nd_cells HM7.out.n
                obtain ⟨g0, g1, g2, g3, g4, g5, g6, g7⟩ := nd_fz HM7.out.n
                have hlt5 := HNE.out
                have hne1 : (wp.heap.size == w.heap.size + 1) = false := beq_eq_false_iff_ne.2 (by omega)
                have hne2 : (w.heap.size + 1 == wp.heap.size) = false := beq_eq_false_iff_ne.2 (by omega)
                have hne3 : ¬ wp.heap.size = w.heap.size + 1 := by omega
                have hne4 : ¬ w.heap.size + 1 = wp.heap.size := by omega
                go_wp2_with fail
                go_region
                have HM8 : Hid (NdM w b s at_ deep (many + 1) (-1) 1 v.1 v.2.1 ⟨v.2.2.toArray⟩ ⟨#[]⟩ none 0 0 (ln.1 : Int) (ln.2 : Int) ((((w7.setCell ⟨w.heap.size + 1, 0, none⟩ (.int .i64 1)).setCell ⟨w.heap.size + 1, 1, none⟩ (.int .i64 v.1)).setCell ⟨w.heap.size + 1, 2, none⟩ (.int .i64 v.2.1)).setCell ⟨w.heap.size + 1, 3, none⟩ (.string ⟨v.2.2.toArray⟩)).drew) := by
                  have h1 := (HM7.out.n.setK 1).setV v.1 v.2.1 ⟨v.2.2.toArray⟩
                  have o1 := HM7.out.o
                  exact ⟨(((HM7.out.x.other (by omega) 0 _).other (by omega) 1 _).other (by omega) 2 _).other (by omega) 3 _, (((HM7.out.r.other (by omega) 0 _).other (by omega) 1 _).other (by omega) 2 _).other (by omega) 3 _, h1, ((((o1.setNew (by omega) (by omega) 0 _).setNew (by omega) (by omega) 1 _).setNew (by omega) (by omega) 2 _).setNew (by omega) (by omega) 3 _).drew⟩
                obtain ⟨w8, hw8⟩ : ∃ w8, ((((w7.setCell ⟨w.heap.size + 1, 0, none⟩ (.int .i64 1)).setCell ⟨w.heap.size + 1, 1, none⟩ (.int .i64 v.1)).setCell ⟨w.heap.size + 1, 2, none⟩ (.int .i64 v.2.1)).setCell ⟨w.heap.size + 1, 3, none⟩ (.string ⟨v.2.2.toArray⟩)).drew = w8 := ⟨_, rfl⟩
                rw [hw8] at HM8 ⊢
                clear hw8 v0 v1 v2 n0 n1 n2 n3 n4 n5 n6 n7 g0 g1 g2 g3 g4 g5 g6 g7 hlt5 hne1 hne2 hne3 hne4 HM7
                have HXX := HWO
                have HFL : Hid (ndOf s.data.toList (.mk 1 v.1 v.2.1 v.2.2 [] [] at_) = .mk 1 v.1 v.2.1 ⟨v.2.2.toArray⟩ ⟨#[]⟩ [] (ln.1 : Int) (ln.2 : Int)) := by
                  show _ = _
                  rw [ndOf_mk, HLN.out]
                  rfl
                have HM9 := Lib.hid (HM8.out.box hb 1 (.int .i64 ((at_ + N : Nat) : Int)) (HM8.out.x.setAt (at_ + N)))
                obtain ⟨⟨c0, c1, c2, c3, c4⟩, f1, f2, f3, f4⟩ := bx_cells HM8.out.x
                go_upto_region 34 with (fail)
                obtain ⟨w9, hw9⟩ : ∃ w9, w8.setCell ⟨b, 1, none⟩ (.int .i64 ((at_ : Int) + (N : Int))) = w9 := ⟨_, rfl⟩
                rw [Int.natCast_add at_ N, hw9] at HM9
                rw [hw9]
                clear hw9 c0 c1 c2 c3 c4 f1 f2 f3 f4 HM8
                obtain ⟨⟨c0, c1, c2, c3, c4⟩, f1, f2, f3, f4⟩ := bx_cells HM9.out.x
                have hdN : (c :: r).drop N = s.data.toList.drop (at_ + N) := by rw [← HD.out, List.drop_drop]
                rw [HXX.out] at HWN
                dsimp only at HWN
                by_cases hend : at_ + N = s.size
                · have hfit : fitsB ((c :: r).drop N) = true := by rw [hdN, List.drop_eq_nil_of_le (by have := HL.out; omega)]; rfl
                  rw [if_pos hfit] at HWN
                  have hq1 : decide ((at_ : Int) + (N : Int) < (s.size : Int)) = false := decide_eq_false (by omega)
                  have hq2 : decide (((at_ + N : Nat) : Int) < (s.size : Int)) = false := decide_eq_false (by omega)
                  go_wp2_with fail
                  go_quiet (fail)
                  have HMZ := Lib.hid (HM9.out.below (below_dnD (Below.refl w9.heap.size w9) nq))
                  obtain ⟨wa, hwa⟩ : ∃ wa, w9.drewN nq = wa := ⟨_, rfl⟩
                  rw [hwa] at HMZ ⊢
                  clear hwa c0 c1 c2 c3 c4 f1 f2 f3 f4
                  obtain ⟨x0, x1, x2, x3, x4, x5, x6, x7⟩ := nd_cells HMZ.out.n
                  obtain ⟨y0, y1, y2, y3, y4, y5, y6, y7⟩ := nd_cells HMZ.out.r
                  obtain ⟨z0, z1, z2, z3, z4, z5, z6, z7⟩ := nd_fz HMZ.out.r
                  go_wp2
                  obtain ⟨wz, hwz⟩ : ∃ wz, (((((((wa.setCell ⟨w.heap.size, 0, none⟩ (.int .i64 1)).setCell ⟨w.heap.size, 1, none⟩ (.int .i64 v.1)).setCell ⟨w.heap.size, 2, none⟩ (.int .i64 v.2.1)).setCell ⟨w.heap.size, 3, none⟩ (.string ⟨v.2.2.toArray⟩)).setCell ⟨w.heap.size, 4, none⟩ (.string ⟨#[]⟩)).setCell ⟨w.heap.size, 5, none⟩ (.slice none 0 0)).setCell ⟨w.heap.size, 6, none⟩ (.int .i64 (ln.1 : Int))).setCell ⟨w.heap.size, 7, none⟩ (.int .i64 (ln.2 : Int)) = wz := ⟨_, rfl⟩
                  obtain ⟨hxz, hnz, hoz, hsz, haz⟩ := HMZ.out.ret hwz hb
                  rw [hwz]
                  clear hwz
                  refine bodyPost_ret (v := ndV 1 v.1 v.2.1 ⟨v.2.2.toArray⟩ ⟨#[]⟩ none 0 0 (ln.1 : Int) (ln.2 : Int)) (nd_result _ _ _ _ _ _ _ _ _ _ _ _ hnz _ rfl) rfl ?_
                  refine ⟨hoz, ?_⟩
                  rw [HWN.out]
                  refine ⟨hdN, by omega, by omega, by omega, ⟨none, 0, by rw [HFL.out]; rfl, ?_⟩, hxz⟩
                  rw [HFL.out]
                  exact SlN.nil _ _ _ _
                · have hlt : at_ + N < s.size := by omega
                  have hq1 : decide ((at_ : Int) + (N : Int) < (s.size : Int)) = true := decide_eq_true (by omega)
                  have hq2 : decide (((at_ + N : Nat) : Int) < (s.size : Int)) = true := decide_eq_true (by omega)
                  have hq3 : (at_ : Int) + (N : Int) < (s.size : Int) := by omega
                  have hq4 : (0 : Int) ≤ (at_ : Int) + (N : Int) := by omega
                  have hgt : s.data.toList[at_ + N]? = some s[at_ + N] := by rw [List.getElem?_eq_getElem (by have := HL.out; omega)]; rfl
                  have hfe : fitsB ((c :: r).drop N) = fitC s[at_ + N] := by rw [hdN, drop_get hgt]; rfl
                  have HIN := Lib.hid (fun W => refIn_any ⟨#[32, 9, 10, 13, 40, 41, 91, 93, 123, 125, 59]⟩ s[at_ + N] W (by decide))
                  obtain ⟨fb, hfb⟩ : ∃ fb, fitC s[at_ + N] = fb := ⟨_, rfl⟩
                  have hfb2 : (⟨#[32, 9, 10, 13, 40, 41, 91, 93, 123, 125, 59]⟩ : ByteArray).data.toList.contains s[at_ + N] = fb := hfb
                  rw [hfb2] at HIN
                  rw [hfe, hfb] at HWN
                  clear hgt hfe hfb hfb2
                  go_wp2_with fail
                  go_quiet (fail)
                  have HMA := Lib.hid (HM9.out.below (below_dnD (Below.refl w9.heap.size w9) nq))
                  obtain ⟨wa, hwa⟩ : ∃ wa, w9.drewN nq = wa := ⟨_, rfl⟩
                  rw [hwa] at HMA ⊢
                  clear hwa c0 c1 c2 c3 c4 f1 f2 f3 f4 HM9
                  obtain ⟨⟨c0, c1, c2, c3, c4⟩, f1, f2, f3, f4⟩ := bx_cells HMA.out.x
                  go_wp2_with fail
                  go_quiet (fail)
                  have HMB := Lib.hid (HMA.out.below (below_dnD (Below.refl wa.heap.size wa) nq))
                  obtain ⟨wb, hwb⟩ : ∃ wb, wa.drewN nq = wb := ⟨_, rfl⟩
                  rw [hwb] at HMB ⊢
                  clear hwb c0 c1 c2 c3 c4 f1 f2 f3 f4 HMA
                  obtain ⟨⟨c0, c1, c2, c3, c4⟩, f1, f2, f3, f4⟩ := bx_cells HMB.out.x
                  go_wp2_with fail
                  refine (HIN.out _).mono ?_
                  rintro e wq ⟨rfl, rfl⟩
                  cases fb with
                  | true =>
                    rw [if_pos rfl] at HWN
                    have HMZ := HMB
                    clear c0 c1 c2 c3 c4 f1 f2 f3 f4
                    obtain ⟨x0, x1, x2, x3, x4, x5, x6, x7⟩ := nd_cells HMZ.out.n
                    obtain ⟨y0, y1, y2, y3, y4, y5, y6, y7⟩ := nd_cells HMZ.out.r
                    obtain ⟨z0, z1, z2, z3, z4, z5, z6, z7⟩ := nd_fz HMZ.out.r
                    go_wp2
                    obtain ⟨wz, hwz⟩ : ∃ wz, (((((((wb.setCell ⟨w.heap.size, 0, none⟩ (.int .i64 1)).setCell ⟨w.heap.size, 1, none⟩ (.int .i64 v.1)).setCell ⟨w.heap.size, 2, none⟩ (.int .i64 v.2.1)).setCell ⟨w.heap.size, 3, none⟩ (.string ⟨v.2.2.toArray⟩)).setCell ⟨w.heap.size, 4, none⟩ (.string ⟨#[]⟩)).setCell ⟨w.heap.size, 5, none⟩ (.slice none 0 0)).setCell ⟨w.heap.size, 6, none⟩ (.int .i64 (ln.1 : Int))).setCell ⟨w.heap.size, 7, none⟩ (.int .i64 (ln.2 : Int)) = wz := ⟨_, rfl⟩
                    obtain ⟨hxz, hnz, hoz, hsz, haz⟩ := HMZ.out.ret hwz hb
                    rw [hwz]
                    clear hwz
                    refine bodyPost_ret (v := ndV 1 v.1 v.2.1 ⟨v.2.2.toArray⟩ ⟨#[]⟩ none 0 0 (ln.1 : Int) (ln.2 : Int)) (nd_result _ _ _ _ _ _ _ _ _ _ _ _ hnz _ rfl) rfl ?_
                    refine ⟨hoz, ?_⟩
                    rw [HWN.out]
                    refine ⟨hdN, by omega, by omega, by omega, ⟨none, 0, by rw [HFL.out]; rfl, ?_⟩, hxz⟩
                    rw [HFL.out]
                    exact SlN.nil _ _ _ _
                  | false =>
                    rw [if_neg Bool.false_ne_true] at HWN
                    have HMZ := Lib.hid (HMB.out.box hb 4 (.int .i64 ((at_ + N : Nat) : Int)) (HMB.out.x.setBad ((at_ + N : Nat) : Int)))
                    go_upto_region 39 with (fail)
                    obtain ⟨wc, hwc⟩ : ∃ wc, wb.setCell ⟨b, 4, none⟩ (.int .i64 ((at_ : Int) + (N : Int))) = wc := ⟨_, rfl⟩
                    rw [Int.natCast_add at_ N, hwc, ← Int.natCast_add at_ N] at HMZ
                    rw [hwc]
                    clear hwc c0 c1 c2 c3 c4 f1 f2 f3 f4 HMB
                    obtain ⟨x0, x1, x2, x3, x4, x5, x6, x7⟩ := nd_cells HMZ.out.n
                    obtain ⟨y0, y1, y2, y3, y4, y5, y6, y7⟩ := nd_cells HMZ.out.r
                    obtain ⟨z0, z1, z2, z3, z4, z5, z6, z7⟩ := nd_fz HMZ.out.r
                    go_wp2
                    obtain ⟨wz, hwz⟩ : ∃ wz, (((((((wc.setCell ⟨w.heap.size, 0, none⟩ (.int .i64 1)).setCell ⟨w.heap.size, 1, none⟩ (.int .i64 v.1)).setCell ⟨w.heap.size, 2, none⟩ (.int .i64 v.2.1)).setCell ⟨w.heap.size, 3, none⟩ (.string ⟨v.2.2.toArray⟩)).setCell ⟨w.heap.size, 4, none⟩ (.string ⟨#[]⟩)).setCell ⟨w.heap.size, 5, none⟩ (.slice none 0 0)).setCell ⟨w.heap.size, 6, none⟩ (.int .i64 (ln.1 : Int))).setCell ⟨w.heap.size, 7, none⟩ (.int .i64 (ln.2 : Int)) = wz := ⟨_, rfl⟩
                    obtain ⟨hxz, hnz, hoz, hsz, haz⟩ := HMZ.out.ret hwz hb
                    rw [hwz]
                    clear hwz
                    refine bodyPost_ret (v := ndV 1 v.1 v.2.1 ⟨v.2.2.toArray⟩ ⟨#[]⟩ none 0 0 (ln.1 : Int) (ln.2 : Int)) (nd_result _ _ _ _ _ _ _ _ _ _ _ _ hnz _ rfl) rfl ?_
                    refine ⟨hoz, ?_⟩
                    rw [HWN.out]
                    exact ⟨⟨_, _, _, _, _, _, _, _, _, _, rfl⟩, by omega, _, _, hxz⟩
              | none =>
                rw [hpv] at HWO
                unfold pvV
                dsimp only at HWO ⊢
                have hbv : Below wp.heap.size wp (wp.alloc (.cells #[.int .i64 0, .int .i64 0, .string ⟨#[]⟩] 35)) := (Below.refl _ _).alloc (Nat.le_refl _) _
                have HV1 : Hid ((wp.alloc (.cells #[.int .i64 0, .int .i64 0, .string ⟨#[]⟩] 35)).heap[wp.heap.size]? = some (.cells #[.int .i64 0, .int .i64 0, .string ⟨#[]⟩] 35 (0, 0))) := heap_alloc_new wp _
                have HM7 := Lib.hid (HMP.out.below hbv)
                have HNE : Hid (w.heap.size + 1 < wp.heap.size) := HMP.out.n.lt
                clear hbv
                go_wp2_with fail
                obtain ⟨w7, hw7⟩ : ∃ w7, wp.alloc (.cells #[.int .i64 0, .int .i64 0, .string ⟨#[]⟩] 35) = w7 := ⟨_, rfl⟩
                rw [hw7] at HV1 HM7 ⊢
                clear hw7
                refine (HNM.out _).mono ?_
                rintro e wq ⟨rfl, rfl⟩
                obtain ⟨nm, hnm⟩ : ∃ nm, namR wd.data.toList = nm := ⟨_, rfl⟩
                rw [hnm] at HWO ⊢
                clear hnm
                cases nm with
                | false =>
                  rw [if_neg Bool.false_ne_true] at HWO
                  rw [HWO.out] at HWN
                  dsimp only at HWN
                  obtain ⟨⟨c0, c1, c2, c3, c4⟩, f1, f2, f3, f4⟩ := bx_cells HM7.out.x
                  have HMZ := Lib.hid (HM7.out.box hb 4 (.int .i64 (at_ : Int)) (HM7.out.x.setBad (at_ : Int)))
                  go_upto_region 29 with (fail)
                  obtain ⟨wc, hwc⟩ : ∃ wc, w7.setCell ⟨b, 4, none⟩ (.int .i64 (at_ : Int)) = wc := ⟨_, rfl⟩
                  rw [hwc] at HMZ ⊢
                  clear hwc c0 c1 c2 c3 c4 f1 f2 f3 f4
                  obtain ⟨x0, x1, x2, x3, x4, x5, x6, x7⟩ := nd_cells HMZ.out.n
                  obtain ⟨y0, y1, y2, y3, y4, y5, y6, y7⟩ := nd_cells HMZ.out.r
                  obtain ⟨z0, z1, z2, z3, z4, z5, z6, z7⟩ := nd_fz HMZ.out.r
                  go_wp2
                  obtain ⟨wz, hwz⟩ : ∃ wz, (((((((wc.setCell ⟨w.heap.size, 0, none⟩ (.int .i64 0)).setCell ⟨w.heap.size, 1, none⟩ (.int .i64 0)).setCell ⟨w.heap.size, 2, none⟩ (.int .i64 0)).setCell ⟨w.heap.size, 3, none⟩ (.string ⟨#[]⟩)).setCell ⟨w.heap.size, 4, none⟩ (.string ⟨#[]⟩)).setCell ⟨w.heap.size, 5, none⟩ (.slice none 0 0)).setCell ⟨w.heap.size, 6, none⟩ (.int .i64 (ln.1 : Int))).setCell ⟨w.heap.size, 7, none⟩ (.int .i64 (ln.2 : Int)) = wz := ⟨_, rfl⟩
                  obtain ⟨hxz, hnz, hoz, hsz, haz⟩ := HMZ.out.ret hwz hb
                  rw [hwz]
                  clear hwz
                  refine bodyPost_ret (v := ndV 0 0 0 ⟨#[]⟩ ⟨#[]⟩ none 0 0 (ln.1 : Int) (ln.2 : Int)) (nd_result _ _ _ _ _ _ _ _ _ _ _ _ hnz _ rfl) rfl ?_
                  refine ⟨hoz, ?_⟩
                  rw [HWN.out]
                  exact ⟨⟨_, _, _, _, _, _, _, _, _, _, rfl⟩, by omega, _, _, hxz⟩
                | true =>
                  rw [if_pos rfl] at HWO
                  have v0 : w7.cell? ⟨wp.heap.size, 0, none⟩ = some (.int .i64 0) := by have h := HV1.out; simp [World.cell?, h]
                  have v1 : w7.cell? ⟨wp.heap.size, 1, none⟩ = some (.int .i64 0) := by have h := HV1.out; simp [World.cell?, h]
                  have v2 : w7.cell? ⟨wp.heap.size, 2, none⟩ = some (.string ⟨#[]⟩) := by have h := HV1.out; simp [World.cell?, h]
                  obtain ⟨n0, n1, n2, n3, n4, n5, n6, n7⟩ := nd_cells HM7.out.n
                  obtain ⟨g0, g1, g2, g3, g4, g5, g6, g7⟩ := nd_fz HM7.out.n
                  have hlt5 := HNE.out
                  have hne1 : (wp.heap.size == w.heap.size + 1) = false := beq_eq_false_iff_ne.2 (by omega)
                  have hne2 : (w.heap.size + 1 == wp.heap.size) = false := beq_eq_false_iff_ne.2 (by omega)
                  have hne3 : ¬ wp.heap.size = w.heap.size + 1 := by omega
                  have hne4 : ¬ w.heap.size + 1 = wp.heap.size := by omega
                  go_wp2_with fail
                  go_region
                  have HM8 : Hid (NdM w b s at_ deep (many + 1) (-1) 1 0 0 ⟨#[]⟩ ⟨#[]⟩ none 0 0 (ln.1 : Int) (ln.2 : Int) ((((w7.setCell ⟨w.heap.size + 1, 0, none⟩ (.int .i64 1)).setCell ⟨w.heap.size + 1, 1, none⟩ (.int .i64 0)).setCell ⟨w.heap.size + 1, 2, none⟩ (.int .i64 0)).setCell ⟨w.heap.size + 1, 3, none⟩ (.string ⟨#[]⟩)).drew) := by
                    have h1 := (HM7.out.n.setK 1).setV 0 0 ⟨#[]⟩
                    have o1 := HM7.out.o
                    exact ⟨(((HM7.out.x.other (by omega) 0 _).other (by omega) 1 _).other (by omega) 2 _).other (by omega) 3 _, (((HM7.out.r.other (by omega) 0 _).other (by omega) 1 _).other (by omega) 2 _).other (by omega) 3 _, h1, ((((o1.setNew (by omega) (by omega) 0 _).setNew (by omega) (by omega) 1 _).setNew (by omega) (by omega) 2 _).setNew (by omega) (by omega) 3 _).drew⟩
                  obtain ⟨wy, hwy⟩ : ∃ wy, ((((w7.setCell ⟨w.heap.size + 1, 0, none⟩ (.int .i64 1)).setCell ⟨w.heap.size + 1, 1, none⟩ (.int .i64 0)).setCell ⟨w.heap.size + 1, 2, none⟩ (.int .i64 0)).setCell ⟨w.heap.size + 1, 3, none⟩ (.string ⟨#[]⟩)).drew = wy := ⟨_, rfl⟩
                  rw [hwy] at HM8 ⊢
                  clear hwy v0 v1 v2 n0 n1 n2 n3 n4 n5 n6 n7 g0 g1 g2 g3 g4 g5 g6 g7 hlt5 hne1 hne2 hne3 hne4 HM7
                  have HMY := HM8
                  clear HM8
                  obtain ⟨n0, n1, n2, n3, n4, n5, n6, n7⟩ := nd_cells HMY.out.n
                  obtain ⟨g0, g1, g2, g3, g4, g5, g6, g7⟩ := nd_fz HMY.out.n
                  have HM8 : Hid (NdM w b s at_ deep (many + 1) (-1) 2 0 0 ⟨#[]⟩ wd none 0 0 (ln.1 : Int) (ln.2 : Int) (((((wy.setCell ⟨w.heap.size + 1, 0, none⟩ (.int .i64 2)).setCell ⟨w.heap.size + 1, 4, none⟩ (.string wd)).setCell ⟨w.heap.size + 1, 1, none⟩ (.int .i64 0)).setCell ⟨w.heap.size + 1, 2, none⟩ (.int .i64 0)).setCell ⟨w.heap.size + 1, 3, none⟩ (.string ⟨#[]⟩))) := by
                    have h1 := ((HMY.out.n.setK 2).setS wd).setV 0 0 ⟨#[]⟩
                    have o1 := HMY.out.o
                    exact ⟨((((HMY.out.x.other (by omega) 0 _).other (by omega) 4 _).other (by omega) 1 _).other (by omega) 2 _).other (by omega) 3 _, ((((HMY.out.r.other (by omega) 0 _).other (by omega) 4 _).other (by omega) 1 _).other (by omega) 2 _).other (by omega) 3 _, h1, ((((o1.setNew (by omega) (by omega) 0 _).setNew (by omega) (by omega) 4 _).setNew (by omega) (by omega) 1 _).setNew (by omega) (by omega) 2 _).setNew (by omega) (by omega) 3 _⟩
                  go_upto_region 33 with (fail)
                  obtain ⟨w8, hw8⟩ : ∃ w8, (((((wy.setCell ⟨w.heap.size + 1, 0, none⟩ (.int .i64 2)).setCell ⟨w.heap.size + 1, 4, none⟩ (.string wd)).setCell ⟨w.heap.size + 1, 1, none⟩ (.int .i64 0)).setCell ⟨w.heap.size + 1, 2, none⟩ (.int .i64 0)).setCell ⟨w.heap.size + 1, 3, none⟩ (.string ⟨#[]⟩)) = w8 := ⟨_, rfl⟩
                  rw [hw8] at HM8 ⊢
                  clear hw8 n0 n1 n2 n3 n4 n5 n6 n7 g0 g1 g2 g3 g4 g5 g6 g7 HMY
                  have HXX := HWO
                  have HFL : Hid (ndOf s.data.toList (.mk 2 0 0 [] ((c :: r).take N) [] at_) = .mk 2 0 0 ⟨#[]⟩ wd [] (ln.1 : Int) (ln.2 : Int)) := by
                    show _ = _
                    rw [ndOf_mk, HLN.out]
                    have hwe : wd = ⟨((c :: r).take N).toArray⟩ := by rw [← HWD.out.1]
                    rw [hwe]
                    rfl
                  have HM9 := Lib.hid (HM8.out.box hb 1 (.int .i64 ((at_ + N : Nat) : Int)) (HM8.out.x.setAt (at_ + N)))
                  obtain ⟨⟨c0, c1, c2, c3, c4⟩, f1, f2, f3, f4⟩ := bx_cells HM8.out.x
                  go_upto_region 34 with (fail)
                  obtain ⟨w9, hw9⟩ : ∃ w9, w8.setCell ⟨b, 1, none⟩ (.int .i64 ((at_ : Int) + (N : Int))) = w9 := ⟨_, rfl⟩
                  rw [Int.natCast_add at_ N, hw9] at HM9
                  rw [hw9]
                  clear hw9 c0 c1 c2 c3 c4 f1 f2 f3 f4 HM8
                  obtain ⟨⟨c0, c1, c2, c3, c4⟩, f1, f2, f3, f4⟩ := bx_cells HM9.out.x
                  have hdN : (c :: r).drop N = s.data.toList.drop (at_ + N) := by rw [← HD.out, List.drop_drop]
                  rw [HXX.out] at HWN
                  dsimp only at HWN
                  by_cases hend : at_ + N = s.size
                  · have hfit : fitsB ((c :: r).drop N) = true := by rw [hdN, List.drop_eq_nil_of_le (by have := HL.out; omega)]; rfl
                    rw [if_pos hfit] at HWN
                    have hq1 : decide ((at_ : Int) + (N : Int) < (s.size : Int)) = false := decide_eq_false (by omega)
                    have hq2 : decide (((at_ + N : Nat) : Int) < (s.size : Int)) = false := decide_eq_false (by omega)
                    go_wp2_with fail
                    go_quiet (fail)
                    have HMZ := Lib.hid (HM9.out.below (below_dnD (Below.refl w9.heap.size w9) nq))
                    obtain ⟨wa, hwa⟩ : ∃ wa, w9.drewN nq = wa := ⟨_, rfl⟩
                    rw [hwa] at HMZ ⊢
                    clear hwa c0 c1 c2 c3 c4 f1 f2 f3 f4
                    obtain ⟨x0, x1, x2, x3, x4, x5, x6, x7⟩ := nd_cells HMZ.out.n
                    obtain ⟨y0, y1, y2, y3, y4, y5, y6, y7⟩ := nd_cells HMZ.out.r
                    obtain ⟨z0, z1, z2, z3, z4, z5, z6, z7⟩ := nd_fz HMZ.out.r
                    go_wp2
                    obtain ⟨wz, hwz⟩ : ∃ wz, (((((((wa.setCell ⟨w.heap.size, 0, none⟩ (.int .i64 2)).setCell ⟨w.heap.size, 1, none⟩ (.int .i64 0)).setCell ⟨w.heap.size, 2, none⟩ (.int .i64 0)).setCell ⟨w.heap.size, 3, none⟩ (.string ⟨#[]⟩)).setCell ⟨w.heap.size, 4, none⟩ (.string wd)).setCell ⟨w.heap.size, 5, none⟩ (.slice none 0 0)).setCell ⟨w.heap.size, 6, none⟩ (.int .i64 (ln.1 : Int))).setCell ⟨w.heap.size, 7, none⟩ (.int .i64 (ln.2 : Int)) = wz := ⟨_, rfl⟩
                    obtain ⟨hxz, hnz, hoz, hsz, haz⟩ := HMZ.out.ret hwz hb
                    rw [hwz]
                    clear hwz
                    refine bodyPost_ret (v := ndV 2 0 0 ⟨#[]⟩ wd none 0 0 (ln.1 : Int) (ln.2 : Int)) (nd_result _ _ _ _ _ _ _ _ _ _ _ _ hnz _ rfl) rfl ?_
                    refine ⟨hoz, ?_⟩
                    rw [HWN.out]
                    refine ⟨hdN, by omega, by omega, by omega, ⟨none, 0, by rw [HFL.out]; rfl, ?_⟩, hxz⟩
                    rw [HFL.out]
                    exact SlN.nil _ _ _ _
                  · have hlt : at_ + N < s.size := by omega
                    have hq1 : decide ((at_ : Int) + (N : Int) < (s.size : Int)) = true := decide_eq_true (by omega)
                    have hq2 : decide (((at_ + N : Nat) : Int) < (s.size : Int)) = true := decide_eq_true (by omega)
                    have hq3 : (at_ : Int) + (N : Int) < (s.size : Int) := by omega
                    have hq4 : (0 : Int) ≤ (at_ : Int) + (N : Int) := by omega
                    have hgt : s.data.toList[at_ + N]? = some s[at_ + N] := by rw [List.getElem?_eq_getElem (by have := HL.out; omega)]; rfl
                    have hfe : fitsB ((c :: r).drop N) = fitC s[at_ + N] := by rw [hdN, drop_get hgt]; rfl
                    have HIN := Lib.hid (fun W => refIn_any ⟨#[32, 9, 10, 13, 40, 41, 91, 93, 123, 125, 59]⟩ s[at_ + N] W (by decide))
                    obtain ⟨fb, hfb⟩ : ∃ fb, fitC s[at_ + N] = fb := ⟨_, rfl⟩
                    have hfb2 : (⟨#[32, 9, 10, 13, 40, 41, 91, 93, 123, 125, 59]⟩ : ByteArray).data.toList.contains s[at_ + N] = fb := hfb
                    rw [hfb2] at HIN
                    rw [hfe, hfb] at HWN
                    clear hgt hfe hfb hfb2
                    go_wp2_with fail
                    go_quiet (fail)
                    have HMA := Lib.hid (HM9.out.below (below_dnD (Below.refl w9.heap.size w9) nq))
                    obtain ⟨wa, hwa⟩ : ∃ wa, w9.drewN nq = wa := ⟨_, rfl⟩
                    rw [hwa] at HMA ⊢
                    clear hwa c0 c1 c2 c3 c4 f1 f2 f3 f4 HM9
                    obtain ⟨⟨c0, c1, c2, c3, c4⟩, f1, f2, f3, f4⟩ := bx_cells HMA.out.x
                    go_wp2_with fail
                    go_quiet (fail)
                    have HMB := Lib.hid (HMA.out.below (below_dnD (Below.refl wa.heap.size wa) nq))
                    obtain ⟨wb, hwb⟩ : ∃ wb, wa.drewN nq = wb := ⟨_, rfl⟩
                    rw [hwb] at HMB ⊢
                    clear hwb c0 c1 c2 c3 c4 f1 f2 f3 f4 HMA
                    obtain ⟨⟨c0, c1, c2, c3, c4⟩, f1, f2, f3, f4⟩ := bx_cells HMB.out.x
                    go_wp2_with fail
                    refine (HIN.out _).mono ?_
                    rintro e wq ⟨rfl, rfl⟩
                    cases fb with
                    | true =>
                      rw [if_pos rfl] at HWN
                      have HMZ := HMB
                      clear c0 c1 c2 c3 c4 f1 f2 f3 f4
                      obtain ⟨x0, x1, x2, x3, x4, x5, x6, x7⟩ := nd_cells HMZ.out.n
                      obtain ⟨y0, y1, y2, y3, y4, y5, y6, y7⟩ := nd_cells HMZ.out.r
                      obtain ⟨z0, z1, z2, z3, z4, z5, z6, z7⟩ := nd_fz HMZ.out.r
                      go_wp2
                      obtain ⟨wz, hwz⟩ : ∃ wz, (((((((wb.setCell ⟨w.heap.size, 0, none⟩ (.int .i64 2)).setCell ⟨w.heap.size, 1, none⟩ (.int .i64 0)).setCell ⟨w.heap.size, 2, none⟩ (.int .i64 0)).setCell ⟨w.heap.size, 3, none⟩ (.string ⟨#[]⟩)).setCell ⟨w.heap.size, 4, none⟩ (.string wd)).setCell ⟨w.heap.size, 5, none⟩ (.slice none 0 0)).setCell ⟨w.heap.size, 6, none⟩ (.int .i64 (ln.1 : Int))).setCell ⟨w.heap.size, 7, none⟩ (.int .i64 (ln.2 : Int)) = wz := ⟨_, rfl⟩
                      obtain ⟨hxz, hnz, hoz, hsz, haz⟩ := HMZ.out.ret hwz hb
                      rw [hwz]
                      clear hwz
                      refine bodyPost_ret (v := ndV 2 0 0 ⟨#[]⟩ wd none 0 0 (ln.1 : Int) (ln.2 : Int)) (nd_result _ _ _ _ _ _ _ _ _ _ _ _ hnz _ rfl) rfl ?_
                      refine ⟨hoz, ?_⟩
                      rw [HWN.out]
                      refine ⟨hdN, by omega, by omega, by omega, ⟨none, 0, by rw [HFL.out]; rfl, ?_⟩, hxz⟩
                      rw [HFL.out]
                      exact SlN.nil _ _ _ _
                    | false =>
                      rw [if_neg Bool.false_ne_true] at HWN
                      have HMZ := Lib.hid (HMB.out.box hb 4 (.int .i64 ((at_ + N : Nat) : Int)) (HMB.out.x.setBad ((at_ + N : Nat) : Int)))
                      go_upto_region 39 with (fail)
                      obtain ⟨wc, hwc⟩ : ∃ wc, wb.setCell ⟨b, 4, none⟩ (.int .i64 ((at_ : Int) + (N : Int))) = wc := ⟨_, rfl⟩
                      rw [Int.natCast_add at_ N, hwc, ← Int.natCast_add at_ N] at HMZ
                      rw [hwc]
                      clear hwc c0 c1 c2 c3 c4 f1 f2 f3 f4 HMB
                      obtain ⟨x0, x1, x2, x3, x4, x5, x6, x7⟩ := nd_cells HMZ.out.n
                      obtain ⟨y0, y1, y2, y3, y4, y5, y6, y7⟩ := nd_cells HMZ.out.r
                      obtain ⟨z0, z1, z2, z3, z4, z5, z6, z7⟩ := nd_fz HMZ.out.r
                      go_wp2
                      obtain ⟨wz, hwz⟩ : ∃ wz, (((((((wc.setCell ⟨w.heap.size, 0, none⟩ (.int .i64 2)).setCell ⟨w.heap.size, 1, none⟩ (.int .i64 0)).setCell ⟨w.heap.size, 2, none⟩ (.int .i64 0)).setCell ⟨w.heap.size, 3, none⟩ (.string ⟨#[]⟩)).setCell ⟨w.heap.size, 4, none⟩ (.string wd)).setCell ⟨w.heap.size, 5, none⟩ (.slice none 0 0)).setCell ⟨w.heap.size, 6, none⟩ (.int .i64 (ln.1 : Int))).setCell ⟨w.heap.size, 7, none⟩ (.int .i64 (ln.2 : Int)) = wz := ⟨_, rfl⟩
                      obtain ⟨hxz, hnz, hoz, hsz, haz⟩ := HMZ.out.ret hwz hb
                      rw [hwz]
                      clear hwz
                      refine bodyPost_ret (v := ndV 2 0 0 ⟨#[]⟩ wd none 0 0 (ln.1 : Int) (ln.2 : Int)) (nd_result _ _ _ _ _ _ _ _ _ _ _ _ hnz _ rfl) rfl ?_
                      refine ⟨hoz, ?_⟩
                      rw [HWN.out]
                      exact ⟨⟨_, _, _, _, _, _, _, _, _, _, rfl⟩, by omega, _, _, hxz⟩
end Go.Proofs.YthbighnkohjfnaaGreatDoor
