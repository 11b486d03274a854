import Derived.Test.YthbighnkohjfnaaGreatDoorProg
import Derived.WalkKit
import Derived.Deep.RegionHeld3
import Derived.Deep.RegionWith
import Derived.Test.YthbighnkohjfnaaGreatDoorJTRdr
/-
  A DRAWN REGION, WALKED BY HAND: an operation that yields its value in every world that meets S is taken first; one whose guard is not met is passed over; a call is met by its contract. (For regions with guards that are not met, where 'go_region_held3' warns.)
-/
namespace Go.Proofs.YthbighnkohjfnaaGreatDoor
open Go.RowKit

section
variable {P : Program} {ops : Array Oper} {Q : Exit → Act → World → Prop} {md : Region.Mode} {S : World → Prop}

theorem takeV {fuel : Nat} {listed : Array Bool} {a : Act} {w : World} (i : Nat) (d : Option Tmp) (v : Value) {oi : Oper} (hi : ops[i]? = some oi) (hd : oi.dst = d)
    (hs : Region.noSelect ops = true) (hf : Region.free md ops listed i = true) (hr : (Region.ready md ops listed).contains i = true)
    (hQ : ∀ c a w, Q (.panic c) (a.put d v) w → Q (.panic c) a w) (hw : Region.wanted oi (yielded ops a.tmps) = true) (hy : ∀ w, S w → (execOp a.eval oi).run P w = .ok (.value v) w) (hS : S w)
    (h : wpAnyH P md ops Q S fuel (listed.setIfInBounds i true) (a.put d v) w) : wpAnyH P md ops Q S (fuel + 1) listed a w := by
  subst hd; exact wpAnyH_take hi hs hf hr hQ (Or.inl ⟨hw, hy⟩) hS h

theorem skipV {fuel : Nat} {listed : Array Bool} {a : Act} {w : World} (i : Nat) (d : Option Tmp) {oi : Oper} (hi : ops[i]? = some oi) (hd : oi.dst = d)
    (hs : Region.noSelect ops = true) (hf : Region.free md ops listed i = true) (hr : (Region.ready md ops listed).contains i = true)
    (hQ : ∀ c a w, Q (.panic c) (a.put d undef) w → Q (.panic c) a w) (hw : Region.wanted oi (yielded ops a.tmps) = false) (hS : S w)
    (h : wpAnyH P md ops Q S fuel (listed.setIfInBounds i true) (a.put d undef) w) : wpAnyH P md ops Q S (fuel + 1) listed a w := by
  subst hd; exact wpAnyH_take hi hs hf hr hQ (Or.inr ⟨hw, rfl⟩) hS h

/-- One operation alone may come up, and it is wanted. -/
theorem callV {fuel : Nat} {listed : Array Bool} {a : Act} {w : World} (i : Nat) {oi : Oper} (hi : ops[i]? = some oi) (hr : Region.ready md ops listed = [i]) (hw : Region.wanted oi (yielded ops a.tmps) = true)
    (h : ∀ K' : Act → World → Prop, Shut (∀ a w, S w → (S w → wpAnyH P md ops Q S fuel (listed.setIfInBounds i true) a w) → K' a w) → Oper.wp P oi a w K' Q) : wpAnyH P md ops Q S (fuel + 1) listed a w :=
  wpAnyH_ready hr (by simp) (AllReadyH.cons hi (fun K' hK => by rw [if_pos hw]; exact h K' hK) AllReadyH.nil)
end

end Go.Proofs.YthbighnkohjfnaaGreatDoor

/-
  ROWS OF NODES, grown by one: what lies behind.
-/
namespace Go.Proofs.YthbighnkohjfnaaGreatDoor
open Go.RowKit

/-- two effects ready at once in a drawn region -/
theorem callVT {P : Program} {ops : Array Oper} {Q : Exit → Act → World → Prop} {md : Region.Mode} {S : World → Prop} {fuel : Nat} {listed : Array Bool} {a : Act} {w : World} (i j : Nat) {oi oj : Oper} (hi : ops[i]? = some oi) (hj : ops[j]? = some oj) (hr : Region.ready md ops listed = [i, j]) (hwi : Region.wanted oi (yielded ops a.tmps) = true) (hwj : Region.wanted oj (yielded ops a.tmps) = true)
    (h1 : ∀ K' : Act → World → Prop, Shut (∀ a w, S w → (S w → wpAnyH P md ops Q S fuel (listed.setIfInBounds i true) a w) → K' a w) → Oper.wp P oi a w K' Q)
    (h2 : ∀ K' : Act → World → Prop, Shut (∀ a w, S w → (S w → wpAnyH P md ops Q S fuel (listed.setIfInBounds j true) a w) → K' a w) → Oper.wp P oj a w K' Q) : wpAnyH P md ops Q S (fuel + 1) listed a w :=
  wpAnyH_ready hr (by simp) (AllReadyH.cons hi (fun K' hK => by rw [if_pos hwi]; exact h1 K' hK) (AllReadyH.cons hj (fun K' hK => by rw [if_pos hwj]; exact h2 K' hK) AllReadyH.nil))
/-- append of one node to a row that is owned -/
theorem wp_append_node {o : Oper} {a : Act} {w : World} {K : Act → World → Prop} {Q : Exit → Act → World → Prop} (s x : Operand) (ho : o.op = .call { callee := .builtin .append, args := #[s, x], argTypes := #[22, 22] })
    (lo : Nat) (v : Value) (l : List Ek) (hs : a.eval s = v) (hown : w.ownsRow lo 37 8 v l.length (catN l)) (n : Ek) (ad : Addr) (hx : a.eval x = .slice (some ad) 1 1)
    (hnews : ∀ j u, (cellsN n.1 (.slice n.2.1 n.1.kids.length n.2.2))[j]? = some u → w.cell? (ad.add j) = some u) (hl : l.length ≤ 200000) (hlo : lo ≤ w.heap.size)
    (h : ∀ g c w', w'.ownsRow lo 37 8 (.slice (some ⟨g, 0, none⟩) (l.length + 1) c) (l.length + 1) (catN (l ++ [n])) → w.grownBy w' v.ownBlock → (some g = v.ownBlock ∨ some g = some w.heap.size) → K (a.put o.dst (.slice (some ⟨g, 0, none⟩) (l.length + 1) c)) w') : o.wp Tryz.prog a w K Q := by
  obtain ⟨i0, hi, hz0, hz1, hz2⟩ := info_parts infoN
  have hmx : 300000 ≤ maxLen := by decide
  obtain ⟨v', w', hr, h2, h3, _, h5⟩ := run_append_own_at (P := Tryz.prog) w lo 22 o.type 37 i0 (.agg #[.int .i64 0, .int .i64 0, .int .i64 0, .string ⟨#[]⟩, .string ⟨#[]⟩, .slice none 0 0, .int .i64 0, .int .i64 0]) 8 96 Tryz.underlying22 hi hz0 hz1 hz2 rfl (by decide) v l.length (catN l) hown ad 1 1 (cellsN n.1 (.slice n.2.1 n.1.kids.length n.2.2)) rfl hnews (cellsN_one _ _ _ _) (by omega) (by omega) hlo
  obtain ⟨g, c, rfl⟩ := ownsRow_succ h2
  unfold Oper.wp execOp
  simp only [ho, resolve, invoke, builtin, Sem.run_bind, Sem.run_pure, Result.andThen_ok, List.map_toArray, List.map_cons, List.map_nil, hs, hx, hr]
  exact h g c w' (by rw [catN_snoc]; exact h2) h3 h5
/-- what a region that appends reads, and does not turn -/
def AddS (b nb : Nat) (vd vo : Value) (size : Nat) (cs : Array Value) (W : World) : Prop := W.heap[b]? = some (.cells #[vd, vo, .int .i64 (size : Int)] 41 (0, 0)) ∧ W.heap[nb]? = some (.cells cs 37 (0, 0))
theorem AddS.same {b nb : Nat} {vd vo : Value} {size : Nat} {cs : Array Value} {W W' : World} (h : AddS b nb vd vo size cs W) (h1 : W'.heap[b]? = W.heap[b]?) (h2 : W'.heap[nb]? = W.heap[nb]?) : AddS b nb vd vo size cs W' := ⟨h1.trans h.1, h2.trans h.2⟩
theorem AddS.lt {b nb : Nat} {vd vo : Value} {size : Nat} {cs : Array Value} {W : World} (h : AddS b nb vd vo size cs W) : b < W.heap.size ∧ nb < W.heap.size := ⟨(Array.getElem?_eq_some_iff.1 h.1).1, (Array.getElem?_eq_some_iff.1 h.2).1⟩
theorem AddS.alloc {b nb : Nat} {vd vo : Value} {size : Nat} {cs : Array Value} {W : World} (h : AddS b nb vd vo size cs W) (o : Obj) : AddS b nb vd vo size cs (W.alloc o) := h.same (Below.heap_alloc W o b h.lt.1) (Below.heap_alloc W o nb h.lt.2)
theorem AddS.box {b nb : Nat} {vd vo : Value} {size : Nat} {cs : Array Value} {W : World} (h : AddS b nb vd vo size cs W) (j : Nat) : W.cell? ⟨b, j, none⟩ = (#[vd, vo, Value.int .i64 (size : Int)])[j]? := by have := h.1; simp [World.cell?, this]
theorem AddS.nod {b nb : Nat} {vd vo : Value} {size : Nat} {cs : Array Value} {W : World} (h : AddS b nb vd vo size cs W) (j : Nat) : W.cell? ⟨nb, j, none⟩ = cs[j]? := by have := h.2; simp [World.cell?, this]
/-- the cells of the bracket that is open last -/
theorem catO_at (op : List Opn) (x : Opn) (i : Nat) (hi : i < 8) : (catN ((op ++ [x]).map Opn.ek))[op.length * 8 + i]? = (cellsN x.nd x.v)[i]? := by
  rw [catN_at _ _ _ hi, List.getElem?_map, List.getElem?_append_right (Nat.le_refl _), Nat.sub_self]
  show (cellsN x.nd (.slice x.A x.nd.kids.length x.c))[i]? = _
  rw [x.kids_len]
  rfl
/-- the bracket that is open last gets a kid: what lies behind it all -/
theorem RdS.addKid {lo b size t : Nat} {w W1 W2 : World} {vd : Value} {go co g c' : Nat} {done : List Ek} {op : List Opn} {x : Opn} {n : Ek}
    (h : RdS lo w b vd (.slice (some ⟨go, 0, none⟩) (op.length + 1) co) done (op ++ [x]) size t) (hn : SlN (49 - op.length) w (Fz lo w (rowsR vd (.slice (some ⟨go, 0, none⟩) (op.length + 1) co) done (op ++ [x]))) n.2.1 n.1.kids) (hk1 : KeepN w W1)
    (hl : Lv lo W2 (((rowsR vd (.slice (some ⟨go, 0, none⟩) (op.length + 1) co) done (op ++ [x])).set (op.length + 2) (.slice (some ⟨g, 0, none⟩) (x.l.length + 1) c', x.l ++ [n])).set 1 (.slice (some ⟨go, 0, none⟩) (op.length + 1) co, (op ++ [x.with n (some ⟨g, 0, none⟩) c']).map Opn.ek)))
    (hF : ∀ g1, Fz lo W1 (rowsR vd (.slice (some ⟨go, 0, none⟩) (op.length + 1) co) done (op ++ [x])) g1 → W2.heap[g1]? = W1.heap[g1]? ∧ Fz lo W2 (((rowsR vd (.slice (some ⟨go, 0, none⟩) (op.length + 1) co) done (op ++ [x])).set (op.length + 2) (.slice (some ⟨g, 0, none⟩) (x.l.length + 1) c', x.l ++ [n])).set 1 (.slice (some ⟨go, 0, none⟩) (op.length + 1) co, (op ++ [x.with n (some ⟨g, 0, none⟩) c']).map Opn.ek)) g1)
    (hbox : W2.heap[b]? = W1.heap[b]?) : RdS lo W2 b vd (.slice (some ⟨go, 0, none⟩) (op.length + 1) co) done (op ++ [x.with n (some ⟨g, 0, none⟩) c']) size (t + 1) := by
  rw [rowsR_with] at hl hF
  have h1 := h.keep hk1
  refine h1.turn (hbox.trans h1.box) hl hF (fun e he => .inl he) (fun i y hy e he => ?_) (by have := h.deep; simpa using this) (Nat.le_succ_of_le h.dl) (fun y hy => ?_)
  · rcases Nat.lt_or_ge i op.length with hlt | hge
    · rw [List.getElem?_append_left hlt] at hy
      exact .inl ⟨y, by rw [List.getElem?_append_left hlt]; exact hy, he⟩
    · rw [List.getElem?_append_right hge] at hy
      have hi : i = op.length := by
        have := (List.getElem?_eq_some_iff.1 hy).1
        simp at this
        omega
      subst hi
      rw [Nat.sub_self] at hy
      obtain rfl : x.with n (some ⟨g, 0, none⟩) c' = y := by simpa using hy
      rcases List.mem_append.1 he with he | he
      · exact .inl ⟨x, by rw [List.getElem?_append_right (Nat.le_refl _), Nat.sub_self]; rfl, he⟩
      · obtain rfl : e = n := by simpa using he
        exact .inr (hn.keepN hk1.toKeepNd)
  · rcases List.mem_append.1 hy with hy | hy
    · exact Nat.le_succ_of_le (h.kl y (List.mem_append_left _ hy))
    · obtain rfl : y = x.with n (some ⟨g, 0, none⟩) c' := by simpa using hy
      have := h.kl x (by simp)
      show (x.l ++ [n]).length ≤ _
      rw [List.length_append, List.length_singleton]
      omega
/-- a kid's slice is written into the row of open brackets -/
theorem catO_set (op : List Opn) (x : Opn) (n : Ek) (A : Option Addr) (c : Nat) : (catN ((op ++ [x]).map Opn.ek)).set (op.length * 8 + 5) (.slice A (x.l.length + 1) c) = catN ((op ++ [x.with n A c]).map Opn.ek) := by
  rw [List.map_append, List.map_append]
  show (catN (op.map Opn.ek ++ [x.ek])).set _ _ = catN (op.map Opn.ek ++ [(x.with n A c).ek])
  have hl : (catN (op.map Opn.ek)).length = op.length * 8 := by rw [catN_len, List.length_map]
  rw [catN_snoc, catN_snoc, List.set_append_right _ _ (by omega), hl, Nat.add_sub_cancel_left]
  congr 1
  show (cellsN x.nd _).set 5 _ = cellsN (x.with n A c).nd (.slice A (x.with n A c).nd.kids.length c)
  rw [Opn.kids_len]
  show _ = cellsN (x.with n A c).nd (.slice A (x.l ++ [n]).length c)
  rw [List.length_append, List.length_singleton]
  rfl
section
variable {lo b size t : Nat} {w4 w5 w6 : World} {vd : Value} {go co g1 c1 : Nat} {done : List Ek} {op : List Opn} {x : Opn} {e : Ek}
/-- behind the append to the kids -/
theorem kid_row (h : RdS lo w4 b vd (.slice (some ⟨go, 0, none⟩) (op.length + 1) co) done (op ++ [x]) size t) (ho : w5.ownsRow lo 37 8 (.slice (some ⟨g1, 0, none⟩) (x.l.length + 1) c1) (x.l.length + 1) (catN (x.l ++ [e]))) (hg : w4.grownBy w5 x.v.ownBlock) (hv : some g1 = x.v.ownBlock ∨ some g1 = some w4.heap.size) :
    Lv lo w5 ((rowsR vd (.slice (some ⟨go, 0, none⟩) (op.length + 1) co) done (op ++ [x])).set (op.length + 2) (.slice (some ⟨g1, 0, none⟩) (x.l.length + 1) c1, x.l ++ [e])) ∧
    (∀ g, Fz lo w4 (rowsR vd (.slice (some ⟨go, 0, none⟩) (op.length + 1) co) done (op ++ [x])) g → w5.heap[g]? = w4.heap[g]? ∧ Fz lo w5 ((rowsR vd (.slice (some ⟨go, 0, none⟩) (op.length + 1) co) done (op ++ [x])).set (op.length + 2) (.slice (some ⟨g1, 0, none⟩) (x.l.length + 1) c1, x.l ++ [e])) g) ∧
    w5.ownsRow lo 37 8 (.slice (some ⟨go, 0, none⟩) (op.length + 1) co) (op.length + 1) (catN ((op ++ [x]).map Opn.ek)) ∧ w5.heap[b]? = w4.heap[b]? := by
  have hx : (op ++ [x])[op.length]? = some x := by simp
  obtain ⟨hl, hF⟩ := h.lv.put (v' := .slice (some ⟨g1, 0, none⟩) (x.l.length + 1) c1) (l' := x.l ++ [e]) (rowsR_kid op.length x hx) (by rw [List.length_append, List.length_singleton]; exact ho) hg hv
  refine ⟨hl, hF, ?_, hg.block b h.lt (h.box_row (h.rowK hx))⟩
  have := hl.own 1 (.slice (some ⟨go, 0, none⟩) (op.length + 1) co, (op ++ [x]).map Opn.ek) (by rw [List.getElem?_set, if_neg (by omega)]; rfl)
  rw [List.length_map, List.length_append, List.length_singleton] at this
  exact this
/-- behind the store into the row of open brackets -/
theorem kid_put (n : Ek) (h : RdS lo w4 b vd (.slice (some ⟨go, 0, none⟩) (op.length + 1) co) done (op ++ [x]) size t) (ho : w5.ownsRow lo 37 8 (.slice (some ⟨g1, 0, none⟩) (x.l.length + 1) c1) (x.l.length + 1) (catN (x.l ++ [e]))) (hg : w4.grownBy w5 x.v.ownBlock) (hv : some g1 = x.v.ownBlock ∨ some g1 = some w4.heap.size)
    (hlo : lo ≤ w4.heap.size) (h6 : w5.setCell ⟨go, op.length * 8 + 5, none⟩ (.slice (some ⟨g1, 0, none⟩) (x.l.length + 1) c1) = w6) :
    Lv lo w6 (((rowsR vd (.slice (some ⟨go, 0, none⟩) (op.length + 1) co) done (op ++ [x])).set (op.length + 2) (.slice (some ⟨g1, 0, none⟩) (x.l.length + 1) c1, x.l ++ [e])).set 1 (.slice (some ⟨go, 0, none⟩) (op.length + 1) co, (op ++ [x.with n (some ⟨g1, 0, none⟩) c1]).map Opn.ek)) ∧
    (∀ g, Fz lo w4 (rowsR vd (.slice (some ⟨go, 0, none⟩) (op.length + 1) co) done (op ++ [x])) g → w6.heap[g]? = w4.heap[g]? ∧ Fz lo w6 (((rowsR vd (.slice (some ⟨go, 0, none⟩) (op.length + 1) co) done (op ++ [x])).set (op.length + 2) (.slice (some ⟨g1, 0, none⟩) (x.l.length + 1) c1, x.l ++ [e])).set 1 (.slice (some ⟨go, 0, none⟩) (op.length + 1) co, (op ++ [x.with n (some ⟨g1, 0, none⟩) c1]).map Opn.ek)) g) ∧
    w6.heap[b]? = w4.heap[b]? ∧ Below lo w4 w6 ∧ KeepTx w4 w6 ∧ (∀ g, g < w4.heap.size → some g ≠ x.v.ownBlock → g ≠ go → w6.heap[g]? = w4.heap[g]?) := by
  obtain ⟨hl, hF, hor, hb⟩ := kid_row h ho hg hv
  have hx : (op ++ [x])[op.length]? = some x := by simp
  obtain ⟨hst, hgs⟩ := hor.stored (op.length * 8 + 5) (.slice (some ⟨g1, 0, none⟩) (x.l.length + 1) c1)
  rw [h6, catO_set op x n] at hst
  rw [h6] at hgs
  obtain ⟨hl2, hF2⟩ := hl.put (i := 1) (v := .slice (some ⟨go, 0, none⟩) (op.length + 1) co) (l := (op ++ [x]).map Opn.ek) (v' := .slice (some ⟨go, 0, none⟩) (op.length + 1) co) (l' := (op ++ [x.with n (some ⟨g1, 0, none⟩) c1]).map Opn.ek) (by rw [List.getElem?_set, if_neg (by omega)]; rfl)
    (by rw [List.length_map, List.length_append, List.length_singleton]; exact hst) hgs (.inl rfl)
  have hbx : w5.heap[b]? = some _ := hb.trans h.box
  have hne : some b ≠ some go := row_ne hor hbx (by decide)
  refine ⟨hl2, fun g hg' => ⟨((hF2 g (hF g hg').2).1).trans (hF g hg').1, (hF2 g (hF g hg').2).2⟩, (hgs.block b (Array.getElem?_eq_some_iff.1 hbx).1 hne).trans hb, ?_, ?_, fun g h1 h2 h3 => (hgs.block g (Nat.lt_of_lt_of_le h1 hg.size) (fun e => h3 (by injection e))).trans (hg.block g h1 h2)⟩
  · exact (below_grown (h.rowK hx) hg hlo).trans (below_grown hor hgs (Nat.le_trans hlo hg.size))
  · exact (KeepTx.grown (h.rowK hx) hg).trans (KeepTx.grown hor hgs)
end
/-- a node's cells are written into a row's last place -/
theorem fill8 {W : World} {lo g c : Nat} {l : List Ek} {e : Ek} (h : W.ownsRow lo 37 8 (.slice (some ⟨g, 0, none⟩) (l.length + 1) c) (l.length + 1) (catN (l ++ [e]))) (n : Ek) {W8 : World}
    (h8 : (((((((W.setCell ⟨g, l.length * 8, none⟩ (.int .i64 n.1.k)).setCell ⟨g, l.length * 8 + 1, none⟩ (.int .i64 n.1.vk)).setCell ⟨g, l.length * 8 + 2, none⟩ (.int .i64 n.1.vn)).setCell ⟨g, l.length * 8 + 3, none⟩ (.string n.1.vs)).setCell ⟨g, l.length * 8 + 4, none⟩ (.string n.1.s)).setCell ⟨g, l.length * 8 + 5, none⟩ (.slice n.2.1 n.1.kids.length n.2.2)).setCell ⟨g, l.length * 8 + 6, none⟩ (.int .i64 n.1.ln)).setCell ⟨g, l.length * 8 + 7, none⟩ (.int .i64 n.1.co) = W8) :
    W8.ownsRow lo 37 8 (.slice (some ⟨g, 0, none⟩) (l.length + 1) c) (l.length + 1) (catN (l ++ [n])) ∧ W.grownBy W8 (some g) := by
  have s0 := h.stored (l.length * 8) (.int .i64 n.1.k)
  have s1 := s0.1.stored (l.length * 8 + 1) (.int .i64 n.1.vk)
  have s2 := s1.1.stored (l.length * 8 + 2) (.int .i64 n.1.vn)
  have s3 := s2.1.stored (l.length * 8 + 3) (.string n.1.vs)
  have s4 := s3.1.stored (l.length * 8 + 4) (.string n.1.s)
  have s5 := s4.1.stored (l.length * 8 + 5) (.slice n.2.1 n.1.kids.length n.2.2)
  have s6 := s5.1.stored (l.length * 8 + 6) (.int .i64 n.1.ln)
  have s7 := s6.1.stored (l.length * 8 + 7) (.int .i64 n.1.co)
  rw [h8] at s7
  refine ⟨?_, s0.2.trans (s1.2.trans (s2.2.trans (s3.2.trans (s4.2.trans (s5.2.trans (s6.2.trans s7.2))))))⟩
  have e1 := s7.1
  have hl : (catN l).length = l.length * 8 := catN_len l
  rw [catN_snoc] at e1 ⊢
  have st : ∀ (a b : List Value) (k : Nat) (u : Value), a.length = l.length * 8 → (a ++ b).set (l.length * 8 + k) u = a ++ b.set k u := fun a b k u ha => by
    rw [List.set_append_right _ _ (by omega), ha, Nat.add_sub_cancel_left]
  have st0 : ∀ (a b : List Value) (u : Value), a.length = l.length * 8 → (a ++ b).set (l.length * 8) u = a ++ b.set 0 u := fun a b u ha => st a b 0 u ha
  rw [st0 _ _ _ hl, st _ _ _ _ hl, st _ _ _ _ hl, st _ _ _ _ hl, st _ _ _ _ hl, st _ _ _ _ hl, st _ _ _ _ hl, st _ _ _ _ hl] at e1
  exact e1
/-- the place behind a row's last node, of noughts -/
structure Z8 (W : World) (g o : Nat) : Prop where
  c0 : W.cell? ⟨g, o, none⟩ = some (.int .i64 0)
  c1 : W.cell? ⟨g, o + 1, none⟩ = some (.int .i64 0)
  c2 : W.cell? ⟨g, o + 2, none⟩ = some (.int .i64 0)
  c3 : W.cell? ⟨g, o + 3, none⟩ = some (.string ⟨#[]⟩)
  c4 : W.cell? ⟨g, o + 4, none⟩ = some (.string ⟨#[]⟩)
  c5 : W.cell? ⟨g, o + 5, none⟩ = some (.slice none 0 0)
  c6 : W.cell? ⟨g, o + 6, none⟩ = some (.int .i64 0)
  c7 : W.cell? ⟨g, o + 7, none⟩ = some (.int .i64 0)
  fz : ∀ j, W.frozen? ⟨g, j, none⟩ = false
theorem row_z8 {W : World} {lo g c : Nat} {l : List Ek} (h : W.ownsRow lo 37 8 (.slice (some ⟨g, 0, none⟩) (l.length + 1) c) (l.length + 1) (catN (l ++ [(.mk 0 0 0 ⟨#[]⟩ ⟨#[]⟩ [] 0 0, none, 0)]))) : Z8 W g (l.length * 8) := by
  have zr : ∀ i, i < 8 → W.cell? ⟨g, l.length * 8 + i, none⟩ = (cellsN (.mk 0 0 0 ⟨#[]⟩ ⟨#[]⟩ [] 0 0) (.slice none 0 0))[i]? := fun i hi => by
    rw [h.cellAt (l.length * 8 + i) (by omega), catN_snoc, List.getElem?_append_right (by rw [catN_len]; omega), catN_len, Nat.add_sub_cancel_left]
    rfl
  exact ⟨zr 0 (by decide), zr 1 (by decide), zr 2 (by decide), zr 3 (by decide), zr 4 (by decide), zr 5 (by decide), zr 6 (by decide), zr 7 (by decide), h.frozenAt⟩
/-- what a push leaves: a row that is grown, and the reader's box written -/
def PushEnd (lo : Nat) (R : List (Value × List Ek)) (i b j : Nat) (cs : Array Value) (v' : Value) (l' : List Ek) (W W' : World) : Prop :=
  Lv lo W' (R.set i (v', l')) ∧ (∀ g, Fz lo W R g → W'.heap[g]? = W.heap[g]? ∧ Fz lo W' (R.set i (v', l')) g) ∧ W'.heap[b]? = some (.cells (cs.setIfInBounds j v') 41 (0, 0)) ∧ (lo ≤ b → Below lo W W') ∧ KeepTx W W'
section
variable {lo i b j : Nat} {R : List (Value × List Ek)} {cs : Array Value} {v : Value} {l : List Ek} {e : Ek} {w4 w5 w6 w7 : World} {g1 c1 : Nat}
theorem push_row (n : Ek) (h : Lv lo w4 R) (hi : R[i]? = some (v, l)) (hb : w4.heap[b]? = some (.cells cs 41 (0, 0))) (ho : w5.ownsRow lo 37 8 (.slice (some ⟨g1, 0, none⟩) (l.length + 1) c1) (l.length + 1) (catN (l ++ [e]))) (hg : w4.grownBy w5 v.ownBlock) (hv : some g1 = v.ownBlock ∨ some g1 = some w4.heap.size) (hlo : lo ≤ w4.heap.size)
    (h6 : (((((((w5.setCell ⟨g1, l.length * 8, none⟩ (.int .i64 n.1.k)).setCell ⟨g1, l.length * 8 + 1, none⟩ (.int .i64 n.1.vk)).setCell ⟨g1, l.length * 8 + 2, none⟩ (.int .i64 n.1.vn)).setCell ⟨g1, l.length * 8 + 3, none⟩ (.string n.1.vs)).setCell ⟨g1, l.length * 8 + 4, none⟩ (.string n.1.s)).setCell ⟨g1, l.length * 8 + 5, none⟩ (.slice n.2.1 n.1.kids.length n.2.2)).setCell ⟨g1, l.length * 8 + 6, none⟩ (.int .i64 n.1.ln)).setCell ⟨g1, l.length * 8 + 7, none⟩ (.int .i64 n.1.co) = w6) (h7 : w6.setCell ⟨b, j, none⟩ (.slice (some ⟨g1, 0, none⟩) (l.length + 1) c1) = w7) :
    PushEnd lo R i b j cs (.slice (some ⟨g1, 0, none⟩) (l.length + 1) c1) (l ++ [n]) w4 w7 := by
  have hlt := (List.getElem?_eq_some_iff.1 hi).1
  obtain ⟨hl5, hF5⟩ := h.put (v' := .slice (some ⟨g1, 0, none⟩) (l.length + 1) c1) (l' := l ++ [e]) hi (by rw [List.length_append, List.length_singleton]; exact ho) hg hv
  obtain ⟨hr6, hg6⟩ := fill8 ho n h6
  obtain ⟨hl6, hF6⟩ := hl5.put (i := i) (v := .slice (some ⟨g1, 0, none⟩) (l.length + 1) c1) (l := l ++ [e]) (v' := .slice (some ⟨g1, 0, none⟩) (l.length + 1) c1) (l' := l ++ [n]) (by rw [List.getElem?_set, if_pos rfl, if_pos hlt]) (by rw [List.length_append, List.length_singleton]; exact hr6) hg6 (.inl rfl)
  rw [List.set_set] at hl6 hF6
  have hb5 : w5.heap[b]? = some (.cells cs 41 (0, 0)) := (hg.block b (Array.getElem?_eq_some_iff.1 hb).1 (row_ne (h.own i _ hi) hb (by decide))).trans hb
  have hb6 : w6.heap[b]? = some (.cells cs 41 (0, 0)) := (hg6.block b (Array.getElem?_eq_some_iff.1 hb5).1 (row_ne ho hb5 (by decide))).trans hb5
  have hk := KeepNd.setBox (j := j) (u := .slice (some ⟨g1, 0, none⟩) (l.length + 1) c1) hb6
  have ht := KeepTx.setBox (j := j) (u := .slice (some ⟨g1, 0, none⟩) (l.length + 1) c1) hb6
  have hs := heap_setCell_same w6 b j cs _ (.slice (some ⟨g1, 0, none⟩) (l.length + 1) c1) hb6
  rw [h7] at hk ht hs
  refine ⟨hl6.keep hk, fun g hg' => ?_, hs, fun hlb => ?_, (KeepTx.grown (h.own i _ hi) hg).trans ((KeepTx.grown ho hg6).trans ht)⟩
  · obtain ⟨a1, a2⟩ := hF5 g hg'
    obtain ⟨a3, a4⟩ := hF6 g a2
    have a4' := a4
    obtain ⟨_, ⟨cs', hcs⟩, _⟩ := a4
    exact ⟨(hk.same g cs' hcs).trans (a3.trans a1), a4'.keep hk⟩
  · have hlo5 := Nat.le_trans hlo hg.size
    refine (below_grown (h.own i _ hi) hg hlo).trans ((below_grown ho hg6 hlo5).trans ?_)
    rw [← h7]
    exact (Below.refl lo w6).setCell (p := ⟨b, j, none⟩) hlb _
theorem push_box (n : Ek) (h : Lv lo w4 R) (hi : R[i]? = some (v, l)) (hb : w4.heap[b]? = some (.cells cs 41 (0, 0))) (ho : w5.ownsRow lo 37 8 (.slice (some ⟨g1, 0, none⟩) (l.length + 1) c1) (l.length + 1) (catN (l ++ [e]))) (hg : w4.grownBy w5 v.ownBlock) (hv : some g1 = v.ownBlock ∨ some g1 = some w4.heap.size) (hlo : lo ≤ w4.heap.size)
    (h6 : w5.setCell ⟨b, j, none⟩ (.slice (some ⟨g1, 0, none⟩) (l.length + 1) c1) = w6)
    (h7 : (((((((w6.setCell ⟨g1, l.length * 8, none⟩ (.int .i64 n.1.k)).setCell ⟨g1, l.length * 8 + 1, none⟩ (.int .i64 n.1.vk)).setCell ⟨g1, l.length * 8 + 2, none⟩ (.int .i64 n.1.vn)).setCell ⟨g1, l.length * 8 + 3, none⟩ (.string n.1.vs)).setCell ⟨g1, l.length * 8 + 4, none⟩ (.string n.1.s)).setCell ⟨g1, l.length * 8 + 5, none⟩ (.slice n.2.1 n.1.kids.length n.2.2)).setCell ⟨g1, l.length * 8 + 6, none⟩ (.int .i64 n.1.ln)).setCell ⟨g1, l.length * 8 + 7, none⟩ (.int .i64 n.1.co) = w7) :
    PushEnd lo R i b j cs (.slice (some ⟨g1, 0, none⟩) (l.length + 1) c1) (l ++ [n]) w4 w7 := by
  have hlt := (List.getElem?_eq_some_iff.1 hi).1
  obtain ⟨hl5, hF5⟩ := h.put (v' := .slice (some ⟨g1, 0, none⟩) (l.length + 1) c1) (l' := l ++ [e]) hi (by rw [List.length_append, List.length_singleton]; exact ho) hg hv
  have hb5 : w5.heap[b]? = some (.cells cs 41 (0, 0)) := (hg.block b (Array.getElem?_eq_some_iff.1 hb).1 (row_ne (h.own i _ hi) hb (by decide))).trans hb
  have hk := KeepNd.setBox (j := j) (u := .slice (some ⟨g1, 0, none⟩) (l.length + 1) c1) hb5
  have ht := KeepTx.setBox (j := j) (u := .slice (some ⟨g1, 0, none⟩) (l.length + 1) c1) hb5
  have hs := heap_setCell_same w5 b j cs _ (.slice (some ⟨g1, 0, none⟩) (l.length + 1) c1) hb5
  rw [h6] at hk ht hs
  have ho6 := ownsRow_same ho fun g hgb => by
    obtain ⟨cs', hcs⟩ := ownsRow_node ho hgb
    exact hk.same g cs' hcs
  obtain ⟨hr7, hg7⟩ := fill8 ho6 n h7
  obtain ⟨hl7, hF7⟩ := (hl5.keep hk).put (i := i) (v := .slice (some ⟨g1, 0, none⟩) (l.length + 1) c1) (l := l ++ [e]) (v' := .slice (some ⟨g1, 0, none⟩) (l.length + 1) c1) (l' := l ++ [n]) (by rw [List.getElem?_set, if_pos rfl, if_pos hlt]) (by rw [List.length_append, List.length_singleton]; exact hr7) hg7 (.inl rfl)
  rw [List.set_set] at hl7 hF7
  refine ⟨hl7, fun g hg' => ?_, (hg7.block b (Array.getElem?_eq_some_iff.1 hs).1 (row_ne ho6 hs (by decide))).trans hs, fun hlb => ?_, (KeepTx.grown (h.own i _ hi) hg).trans (ht.trans (KeepTx.grown ho6 hg7))⟩
  · obtain ⟨a1, a2⟩ := hF5 g hg'
    have a2' := a2.keep hk
    obtain ⟨_, ⟨cs', hcs⟩, _⟩ := a2
    obtain ⟨a3, a4⟩ := hF7 g a2'
    exact ⟨a3.trans ((hk.same g cs' hcs).trans a1), a4⟩
  · have hlo5 := Nat.le_trans hlo hg.size
    refine (below_grown (h.own i _ hi) hg hlo).trans (Below.trans ?_ (below_grown ho6 hg7 (Nat.le_trans hlo5 hk.size)))
    rw [← h6]
    exact (Below.refl lo w5).setCell (p := ⟨b, j, none⟩) hlb _
end
end Go.Proofs.YthbighnkohjfnaaGreatDoor

/-
  CONTRACT: add (a node put where it belongs: into the bracket that is open last).
-/
namespace Go.Proofs.YthbighnkohjfnaaGreatDoor
open Go.RowKit

set_option maxRecDepth 100000 in
set_option maxHeartbeats 4000000 in
theorem add_kid (lo b : Nat) (vd vo : Value) (done : List Ek) (op : List Opn) (x : Opn) (size t : Nat) (X : Nd) (KA : Option Addr) (c : Nat) (w : World) (h : RdS lo w b vd vo done (op ++ [x]) size t)
    (hn : SlN (49 - op.length) w (Fz lo w (rowsR vd vo done (op ++ [x]))) KA X.kids) (hlo : lo ≤ w.heap.size) (ht : t ≤ 100000) :
    Calls Tryz.prog 55 #[.pointer (some ⟨b, 0, none⟩), .agg #[.int .i64 X.k, .int .i64 X.vk, .int .i64 X.vn, .string X.vs, .string X.s, .slice KA X.kids.length c, .int .i64 X.ln, .int .i64 X.co]] w fun e w' =>
      e = .returned (.tuple #[]) ∧ ∃ A' c', RdS lo w' b vd vo done (op ++ [x.with (X, KA, c) A' c']) size (t + 1) ∧ Below lo w w' ∧ KeepTx w w' := by
  obtain ⟨go, co, rfl⟩ : ∃ go co, vo = .slice (some ⟨go, 0, none⟩) (op.length + 1) co := by
    have := h.rowO
    rw [List.length_append, List.length_singleton] at this
    exact ownsRow_succ this
  have hdeep : op.length + 1 ≤ 50 := by have := h.deep; rwa [List.length_append, List.length_singleton] at this
  have hb1 : Below w.heap.size w (w.alloc (.cells #[.int .i64 X.k, .int .i64 X.vk, .int .i64 X.vn, .string X.vs, .string X.s, .slice KA X.kids.length c, .int .i64 X.ln, .int .i64 X.co] 37)) := (Below.refl _ _).alloc (Nat.le_refl _) _
  have hN1 : (w.alloc (.cells #[.int .i64 X.k, .int .i64 X.vk, .int .i64 X.vn, .string X.vs, .string X.s, .slice KA X.kids.length c, .int .i64 X.ln, .int .i64 X.co] 37)).heap[w.heap.size]? = some (.cells #[.int .i64 X.k, .int .i64 X.vk, .int .i64 X.vn, .string X.vs, .string X.s, .slice KA X.kids.length c, .int .i64 X.ln, .int .i64 X.co] 37 (0, 0)) := heap_alloc_new w _
  have c1 := (h.next hb1).cell 1
  have hw : IntKind.i64.wrap (((op.length + 1 : Nat) : Int) - 1) = (op.length : Int) := by rw [show ((op.length + 1 : Nat) : Int) - 1 = (op.length : Int) by omega]; exact IntWalk.i64_in _ (by omega)
  have hge : decide ((0 : Int) ≤ (op.length : Int)) = true := decide_eq_true (by omega)
  have H := Lib.hid h
  have HB1 := Lib.hid hb1
  have HN1 := Lib.hid hN1
  have HN := Lib.hid hn
  clear h hb1 hN1 hn
  go_enter Tryz.func55, Tryz.ntmps55
  go_wp2_with fail
  clear c1
  obtain ⟨w1, hw1⟩ : ∃ w1, w.alloc (.cells #[.int .i64 X.k, .int .i64 X.vk, .int .i64 X.vn, .string X.vs, .string X.s, .slice KA X.kids.length c, .int .i64 X.ln, .int .i64 X.co] 37) = w1 := ⟨_, rfl⟩
  rw [hw1] at HB1 HN1 ⊢
  clear hw1
  go_region
  · obtain ⟨w2, hw2⟩ : ∃ w2, (w1.alloc (.cells #[.bool false] 4)).drew = w2 := ⟨_, rfl⟩
    have hb2 : Below w1.heap.size w1 w2 := by rw [← hw2]; exact ((Below.refl _ _).alloc (Nat.le_refl _) _).drew
    have HB2 : Hid (Below w.heap.size w w2) := HB1.out.trans (hb2.mono HB1.out.size)
    have H2 := Lib.hid (H.out.next HB2.out)
    have HS2 : Hid (AddS b w.heap.size vd (.slice (some ⟨go, 0, none⟩) (op.length + 1) co) size #[.int .i64 X.k, .int .i64 X.vk, .int .i64 X.vn, .string X.vs, .string X.s, .slice KA X.kids.length c, .int .i64 X.ln, .int .i64 X.co] w2) :=
      ⟨H2.out.box, (hb2.block _ (Array.getElem?_eq_some_iff.1 HN1.out).1).trans HN1.out⟩
    go_wp2_with fail
    rw [hw2]
    clear hw2 hb2
    obtain ⟨w3, hw3⟩ : ∃ w3, w2.drew = w3 := ⟨_, rfl⟩
    have hb3 : Below w2.heap.size w2 w3 := by rw [← hw3]; exact (Below.refl _ _).drew
    have H3 := Lib.hid (H2.out.next hb3)
    have HB3 : Hid (Below w.heap.size w w3) := HB2.out.trans (hb3.mono HB2.out.size)
    have HS3 : Hid (AddS b w.heap.size vd (.slice (some ⟨go, 0, none⟩) (op.length + 1) co) size #[.int .i64 X.k, .int .i64 X.vk, .int .i64 X.vn, .string X.vs, .string X.s, .slice KA X.kids.length c, .int .i64 X.ln, .int .i64 X.co] w3) := by rw [← hw3]; exact HS2.out
    have HKR := Lib.hid (H3.out.rowK (show (op ++ [x])[op.length]? = some x by simp))
    have HOR : Hid (w3.ownsRow lo 37 8 (.slice (some ⟨go, 0, none⟩) (op.length + 1) co) (op.length + 1) (catN ((op ++ [x]).map Opn.ek))) := by have := H3.out.rowO; rwa [List.length_append, List.length_singleton] at this
    have ck : w3.cell? ⟨go, op.length * 8 + 5, none⟩ = some (.slice x.A x.l.length x.c) := by rw [HOR.out.cellAt (op.length * 8 + 5) (by omega), catO_at op x 5 (by decide)]; rfl
    have fk := HOR.out.frozenAt (op.length * 8 + 5)
    have HLK : Hid (x.l.length ≤ t) := H3.out.kl x (by simp)
    refine wp_region_held_drew (S := AddS b w.heap.size vd (.slice (some ⟨go, 0, none⟩) (op.length + 1) co) size #[.int .i64 X.k, .int .i64 X.vk, .int .i64 X.vn, .string X.vs, .string X.s, .slice KA X.kids.length c, .int .i64 X.ln, .int .i64 X.co]) (by kernel_rfl) HS2.out (fun hHeld => ?_)
    rw [hw3] at hHeld ⊢
    clear hw3 hb3 H2 HB2 HS2
    have hix : (op.length : Int) < (op.length : Int) + 1 := by omega
    have hi0 : (0 : Int) ≤ (op.length : Int) := by omega
    refine takeV 0 (some 30) ((.pointer (some ⟨b, 0, none⟩))) rfl rfl (by kernel_rfl) (by kernel_rfl) (by kernel_rfl) (fun _ _ _ h => h) (by rfl) (by (intro _w _hSw; (try dsimp only at _hSw); go_simp)) (by assumption) ?_
    simp only [Act.put, List.setIfInBounds_toArray, List.set_cons_zero, List.set_cons_succ]
    refine takeV 1 (some 31) ((.pointer (some ⟨b, 0, none⟩))) rfl rfl (by kernel_rfl) (by kernel_rfl) (by kernel_rfl) (fun _ _ _ h => h) (by rfl) (by (intro _w _hSw; (try dsimp only at _hSw); go_simp)) (by assumption) ?_
    simp only [Act.put, List.setIfInBounds_toArray, List.set_cons_zero, List.set_cons_succ]
    refine takeV 2 (some 32) ((.pointer (some ⟨b, 1, none⟩))) rfl rfl (by kernel_rfl) (by kernel_rfl) (by kernel_rfl) (fun _ _ _ h => h) (by rfl) (by (intro _w _hSw; (try dsimp only at _hSw); go_simp)) (by assumption) ?_
    simp only [Act.put, List.setIfInBounds_toArray, List.set_cons_zero, List.set_cons_succ]
    refine takeV 3 (some 33) ((.slice (some ⟨go, 0, none⟩) (op.length + 1) co)) rfl rfl (by kernel_rfl) (by kernel_rfl) (by kernel_rfl) (fun _ _ _ h => h) (by rfl) (by (intro _w hSw; have q1 := hSw.box 1; clear hSw; go_simp)) (by assumption) ?_
    simp only [Act.put, List.setIfInBounds_toArray, List.set_cons_zero, List.set_cons_succ]
    refine takeV 4 (some 34) ((.int .i64 (op.length : Int))) rfl rfl (by kernel_rfl) (by kernel_rfl) (by kernel_rfl) (fun _ _ _ h => h) (by rfl) (by (intro _w _hSw; (try dsimp only at _hSw); go_simp)) (by assumption) ?_
    simp only [Act.put, List.setIfInBounds_toArray, List.set_cons_zero, List.set_cons_succ]
    refine takeV 5 (some 35) ((.pointer (some ⟨b, 0, none⟩))) rfl rfl (by kernel_rfl) (by kernel_rfl) (by kernel_rfl) (fun _ _ _ h => h) (by rfl) (by (intro _w _hSw; (try dsimp only at _hSw); go_simp)) (by assumption) ?_
    simp only [Act.put, List.setIfInBounds_toArray, List.set_cons_zero, List.set_cons_succ]
    refine takeV 6 (some 36) ((.pointer (some ⟨b, 0, none⟩))) rfl rfl (by kernel_rfl) (by kernel_rfl) (by kernel_rfl) (fun _ _ _ h => h) (by rfl) (by (intro _w _hSw; (try dsimp only at _hSw); go_simp)) (by assumption) ?_
    simp only [Act.put, List.setIfInBounds_toArray, List.set_cons_zero, List.set_cons_succ]
    refine takeV 7 (some 37) ((.pointer (some ⟨b, 1, none⟩))) rfl rfl (by kernel_rfl) (by kernel_rfl) (by kernel_rfl) (fun _ _ _ h => h) (by rfl) (by (intro _w _hSw; (try dsimp only at _hSw); go_simp)) (by assumption) ?_
    simp only [Act.put, List.setIfInBounds_toArray, List.set_cons_zero, List.set_cons_succ]
    refine takeV 8 (some 38) ((.slice (some ⟨go, 0, none⟩) (op.length + 1) co)) rfl rfl (by kernel_rfl) (by kernel_rfl) (by kernel_rfl) (fun _ _ _ h => h) (by rfl) (by (intro _w hSw; have q1 := hSw.box 1; clear hSw; go_simp)) (by assumption) ?_
    simp only [Act.put, List.setIfInBounds_toArray, List.set_cons_zero, List.set_cons_succ]
    refine takeV 9 (some 39) ((.int .i64 (op.length : Int))) rfl rfl (by kernel_rfl) (by kernel_rfl) (by kernel_rfl) (fun _ _ _ h => h) (by rfl) (by (intro _w _hSw; (try dsimp only at _hSw); go_simp)) (by assumption) ?_
    simp only [Act.put, List.setIfInBounds_toArray, List.set_cons_zero, List.set_cons_succ]
    refine takeV 10 (some 40) ((.pointer (some ⟨go, op.length * 8, none⟩))) rfl rfl (by kernel_rfl) (by kernel_rfl) (by kernel_rfl) (fun _ _ _ h => h) (by rfl) (by (intro _w _hSw; (try dsimp only at _hSw); go_simp)) (by assumption) ?_
    simp only [Act.put, List.setIfInBounds_toArray, List.set_cons_zero, List.set_cons_succ]
    refine takeV 11 (some 41) ((.pointer (some ⟨go, op.length * 8 + 5, none⟩))) rfl rfl (by kernel_rfl) (by kernel_rfl) (by kernel_rfl) (fun _ _ _ h => h) (by rfl) (by (intro _w _hSw; (try dsimp only at _hSw); go_simp)) (by assumption) ?_
    simp only [Act.put, List.setIfInBounds_toArray, List.set_cons_zero, List.set_cons_succ]
    refine takeV 13 (some 43) ((.agg #[.int .i64 X.k, .int .i64 X.vk, .int .i64 X.vn, .string X.vs, .string X.s, .slice KA X.kids.length c, .int .i64 X.ln, .int .i64 X.co])) rfl rfl (by kernel_rfl) (by kernel_rfl) (by kernel_rfl) (fun _ _ _ h => h) (by rfl) (by (intro _w hSw; have n0 := hSw.nod 0; have n1 := hSw.nod 1; have n2 := hSw.nod 2; have n3 := hSw.nod 3; have n4 := hSw.nod 4; have n5 := hSw.nod 5; have n6 := hSw.nod 6; have n7 := hSw.nod 7; clear hSw; go_simp)) (by assumption) ?_
    simp only [Act.put, List.setIfInBounds_toArray, List.set_cons_zero, List.set_cons_succ]
    refine callVT 12 14 rfl rfl (by kernel_rfl) (by rfl) (by rfl) (fun K1 hK1 => ?_) (fun K1 hK1 => ?_)
    go_simp
    refine hK1.out _ _ hHeld (fun hHeld => ?_)
    clear hK1 K1
    try simp only [Act.put, List.setIfInBounds_toArray, List.set_cons_zero, List.set_cons_succ]
    refine callV 14 rfl (by kernel_rfl) (by rfl) (fun K hK => ?_)
    go_simp
    refine hK.out _ _ (hHeld.alloc _) (fun hHeld => ?_)
    clear hK K
    try simp only [Act.put, List.setIfInBounds_toArray, List.set_cons_zero, List.set_cons_succ]
    rotate_left
    go_simp
    refine hK1.out _ _ (hHeld.alloc _) (fun hHeld => ?_)
    clear hK1 K1
    try simp only [Act.put, List.setIfInBounds_toArray, List.set_cons_zero, List.set_cons_succ]
    have ck2 := (World.cell?_alloc_lt w3 (.cells #[.int .i64 X.k, .int .i64 X.vk, .int .i64 X.vn, .string X.vs, .string X.s, .slice KA X.kids.length c, .int .i64 X.ln, .int .i64 X.co] 37) ⟨go, op.length * 8 + 5, none⟩ (HOR.out.lt go rfl).2).trans ck
    refine callV 12 rfl (by kernel_rfl) (by rfl) (fun K hK => ?_)
    go_simp
    refine hK.out _ _ hHeld (fun hHeld => ?_)
    clear hK K ck2
    try simp only [Act.put, List.setIfInBounds_toArray, List.set_cons_zero, List.set_cons_succ]
    all_goals
      have hb4 : Below w3.heap.size w3 (w3.alloc (.cells #[.int .i64 X.k, .int .i64 X.vk, .int .i64 X.vn, .string X.vs, .string X.s, .slice KA X.kids.length c, .int .i64 X.ln, .int .i64 X.co] 37)) := (Below.refl _ _).alloc (Nat.le_refl _) _
      have hnw : ∀ j u, (cellsN X (.slice KA X.kids.length c))[j]? = some u → (w3.alloc (.cells #[.int .i64 X.k, .int .i64 X.vk, .int .i64 X.vn, .string X.vs, .string X.s, .slice KA X.kids.length c, .int .i64 X.ln, .int .i64 X.co] 37)).cell? ((⟨w3.heap.size, 0, none⟩ : Addr).add j) = some u := fun j u hu => litN w3 X KA X.kids.length c j u hu
      obtain ⟨w4, hw4⟩ : ∃ w4, w3.alloc (.cells #[.int .i64 X.k, .int .i64 X.vk, .int .i64 X.vn, .string X.vs, .string X.s, .slice KA X.kids.length c, .int .i64 X.ln, .int .i64 X.co] 37) = w4 := ⟨_, rfl⟩
      rw [hw4] at hHeld hb4 hnw ⊢
      clear hw4 ck fk
      have H4 := Lib.hid (H3.out.next hb4)
      have HB4 : Hid (Below w.heap.size w w4) := HB3.out.trans (hb4.mono HB3.out.size)
      have HNB : Hid (w.heap.size < w4.heap.size) := hHeld.lt.2
      refine callV 15 rfl (by kernel_rfl) (by rfl) (fun K hK => ?_)
      refine wp_append_node (.tmp 42) (.tmp 44) rfl lo x.v x.l rfl (H4.out.rowK (show (op ++ [x])[op.length]? = some x by simp)) (X, KA, c) ⟨w3.heap.size, 0, none⟩ rfl hnw (by have := HLK.out; omega) (Nat.le_trans hlo HB4.out.size) ?_
      intro g1 c1 w5 ho5 hg5 hv5
      obtain ⟨hl5, hF5, hor5, hbx5⟩ := kid_row H4.out ho5 hg5 hv5
      have HOR5 := Lib.hid hor5
      have HO5 := Lib.hid ho5
      have HG5 := Lib.hid hg5
      have HV5 := Lib.hid hv5
      have nb1 : some w.heap.size ≠ x.v.ownBlock := fun e => Nat.lt_irrefl _ ((H.out.rowK (show (op ++ [x])[op.length]? = some x by simp)).lt _ e.symm).2
      have hS5 := hHeld.same hbx5 (hg5.block w.heap.size hHeld.lt.2 nb1)
      have y0 : w5.cell? ⟨go, op.length * 8 + 5, none⟩ = some (.slice x.A x.l.length x.c) := by rw [HOR5.out.cellAt (op.length * 8 + 5) (by omega), catO_at op x 5 (by decide)]; rfl
      have y1 := HOR5.out.frozenAt (op.length * 8 + 5)
      clear hl5 hF5 hor5 hbx5 ho5 hg5 hv5
      refine hK.out _ _ hS5 (fun hHeld => ?_)
      clear hK K hS5
      try simp only [Act.put, List.setIfInBounds_toArray]
      refine takeV 16 (some 46) ((.pointer (some ⟨go, op.length * 8, none⟩))) rfl rfl (by kernel_rfl) (by kernel_rfl) (by kernel_rfl) (fun _ _ _ h => h) (by rfl) (by (intro _w _hSw; (try dsimp only at _hSw); go_simp)) (by assumption) ?_
      simp only [Act.put]
      refine takeV 17 (some 47) ((.pointer (some ⟨go, op.length * 8 + 5, none⟩))) rfl rfl (by kernel_rfl) (by kernel_rfl) (by kernel_rfl) (fun _ _ _ h => h) (by rfl) (by (intro _w _hSw; (try dsimp only at _hSw); go_simp)) (by assumption) ?_
      simp only [Act.put]
      refine callV 18 rfl (by kernel_rfl) (by rfl) (fun K hK => ?_)
      go_simp
      obtain ⟨w6, hw6⟩ : ∃ w6, w5.setCell ⟨go, op.length * 8 + 5, none⟩ (.slice (some ⟨g1, 0, none⟩) (x.l.length + 1) c1) = w6 := ⟨_, rfl⟩
      obtain ⟨hl6, hF6, hbx6, hbel6, hkt6, hoth6⟩ := kid_put (X, KA, c) H4.out HO5.out HG5.out HV5.out (Nat.le_trans hlo HB4.out.size) hw6
      rw [hw6]
      clear hw6 y0 y1
      have hbx6' : w6.heap[b]? = w5.heap[b]? := hbx6.trans ((HG5.out.block b H4.out.lt (H4.out.box_row (H4.out.rowK (show (op ++ [x])[op.length]? = some x by simp)))).symm)
      have hne : w.heap.size ≠ go := fun e => Nat.lt_irrefl _ (e ▸ (H.out.rowO.lt go rfl).2)
      have hS6 : AddS b w.heap.size vd (.slice (some ⟨go, 0, none⟩) (op.length + 1) co) size #[.int .i64 X.k, .int .i64 X.vk, .int .i64 X.vn, .string X.vs, .string X.s, .slice KA X.kids.length c, .int .i64 X.ln, .int .i64 X.co] w6 :=
        hHeld.same hbx6' ((hoth6 w.heap.size HNB.out nb1 hne).trans (HG5.out.block w.heap.size HNB.out nb1).symm)
      have HF := Lib.hid (H.out.addKid HN.out (KeepN.of_below HB4.out) hl6 hF6 hbx6)
      have HE := Lib.hid ((HB4.out.mono hlo).trans hbel6)
      have HT := Lib.hid ((KeepTx.of_below HB4.out).trans hkt6)
      clear hl6 hF6 hbx6 hbel6 hkt6 hoth6 hbx6' hne nb1
      refine hK.out _ _ hS6 (fun hHeld => ?_)
      clear hK K hS6
      try simp only [Act.put, List.setIfInBounds_toArray]
      refine wpAnyH_done (by kernel_rfl) ?_ _
      go_wp2
      refine bodyPost_ret (results_none rfl _ _ _) rfl ?_
      exact ⟨rfl, _, _, HF.out, HE.out, HT.out⟩
  · obtain ⟨w2, hw2⟩ : ∃ w2, (w1.alloc (.cells #[.bool true] 4)).drew = w2 := ⟨_, rfl⟩
    have hb2 : Below w1.heap.size w1 w2 := by rw [← hw2]; exact ((Below.refl _ _).alloc (Nat.le_refl _) _).drew
    have HB2 : Hid (Below w.heap.size w w2) := HB1.out.trans (hb2.mono HB1.out.size)
    have H2 := Lib.hid (H.out.next HB2.out)
    have HS2 : Hid (AddS b w.heap.size vd (.slice (some ⟨go, 0, none⟩) (op.length + 1) co) size #[.int .i64 X.k, .int .i64 X.vk, .int .i64 X.vn, .string X.vs, .string X.s, .slice KA X.kids.length c, .int .i64 X.ln, .int .i64 X.co] w2) :=
      ⟨H2.out.box, (hb2.block _ (Array.getElem?_eq_some_iff.1 HN1.out).1).trans HN1.out⟩
    go_wp2_with fail
    rw [hw2]
    clear hw2 hb2
    obtain ⟨w3, hw3⟩ : ∃ w3, w2.drew = w3 := ⟨_, rfl⟩
    have hb3 : Below w2.heap.size w2 w3 := by rw [← hw3]; exact (Below.refl _ _).drew
    have H3 := Lib.hid (H2.out.next hb3)
    have HB3 : Hid (Below w.heap.size w w3) := HB2.out.trans (hb3.mono HB2.out.size)
    have HS3 : Hid (AddS b w.heap.size vd (.slice (some ⟨go, 0, none⟩) (op.length + 1) co) size #[.int .i64 X.k, .int .i64 X.vk, .int .i64 X.vn, .string X.vs, .string X.s, .slice KA X.kids.length c, .int .i64 X.ln, .int .i64 X.co] w3) := by rw [← hw3]; exact HS2.out
    have HKR := Lib.hid (H3.out.rowK (show (op ++ [x])[op.length]? = some x by simp))
    have HOR : Hid (w3.ownsRow lo 37 8 (.slice (some ⟨go, 0, none⟩) (op.length + 1) co) (op.length + 1) (catN ((op ++ [x]).map Opn.ek))) := by have := H3.out.rowO; rwa [List.length_append, List.length_singleton] at this
    have ck : w3.cell? ⟨go, op.length * 8 + 5, none⟩ = some (.slice x.A x.l.length x.c) := by rw [HOR.out.cellAt (op.length * 8 + 5) (by omega), catO_at op x 5 (by decide)]; rfl
    have fk := HOR.out.frozenAt (op.length * 8 + 5)
    have HLK : Hid (x.l.length ≤ t) := H3.out.kl x (by simp)
    refine wp_region_held_drew (S := AddS b w.heap.size vd (.slice (some ⟨go, 0, none⟩) (op.length + 1) co) size #[.int .i64 X.k, .int .i64 X.vk, .int .i64 X.vn, .string X.vs, .string X.s, .slice KA X.kids.length c, .int .i64 X.ln, .int .i64 X.co]) (by kernel_rfl) HS2.out (fun hHeld => ?_)
    rw [hw3] at hHeld ⊢
    clear hw3 hb3 H2 HB2 HS2
    have hix : (op.length : Int) < (op.length : Int) + 1 := by omega
    have hi0 : (0 : Int) ≤ (op.length : Int) := by omega
    refine takeV 0 (some 15) ((.pointer (some ⟨b, 0, none⟩))) rfl rfl (by kernel_rfl) (by kernel_rfl) (by kernel_rfl) (fun _ _ _ h => h) (by rfl) (by (intro _w _hSw; (try dsimp only at _hSw); go_simp)) (by assumption) ?_
    simp only [Act.put, List.setIfInBounds_toArray, List.set_cons_zero, List.set_cons_succ]
    refine takeV 1 (some 16) ((.pointer (some ⟨b, 0, none⟩))) rfl rfl (by kernel_rfl) (by kernel_rfl) (by kernel_rfl) (fun _ _ _ h => h) (by rfl) (by (intro _w _hSw; (try dsimp only at _hSw); go_simp)) (by assumption) ?_
    simp only [Act.put, List.setIfInBounds_toArray, List.set_cons_zero, List.set_cons_succ]
    refine takeV 2 (some 17) ((.pointer (some ⟨b, 1, none⟩))) rfl rfl (by kernel_rfl) (by kernel_rfl) (by kernel_rfl) (fun _ _ _ h => h) (by rfl) (by (intro _w _hSw; (try dsimp only at _hSw); go_simp)) (by assumption) ?_
    simp only [Act.put, List.setIfInBounds_toArray, List.set_cons_zero, List.set_cons_succ]
    refine takeV 3 (some 18) ((.slice (some ⟨go, 0, none⟩) (op.length + 1) co)) rfl rfl (by kernel_rfl) (by kernel_rfl) (by kernel_rfl) (fun _ _ _ h => h) (by rfl) (by (intro _w hSw; have q1 := hSw.box 1; clear hSw; go_simp)) (by assumption) ?_
    simp only [Act.put, List.setIfInBounds_toArray, List.set_cons_zero, List.set_cons_succ]
    refine takeV 4 (some 19) ((.int .i64 (op.length : Int))) rfl rfl (by kernel_rfl) (by kernel_rfl) (by kernel_rfl) (fun _ _ _ h => h) (by rfl) (by (intro _w _hSw; (try dsimp only at _hSw); go_simp)) (by assumption) ?_
    simp only [Act.put, List.setIfInBounds_toArray, List.set_cons_zero, List.set_cons_succ]
    refine takeV 5 (some 20) ((.pointer (some ⟨go, op.length * 8, none⟩))) rfl rfl (by kernel_rfl) (by kernel_rfl) (by kernel_rfl) (fun _ _ _ h => h) (by rfl) (by (intro _w _hSw; (try dsimp only at _hSw); go_simp)) (by assumption) ?_
    simp only [Act.put, List.setIfInBounds_toArray, List.set_cons_zero, List.set_cons_succ]
    refine takeV 6 (some 21) ((.pointer (some ⟨go, op.length * 8 + 5, none⟩))) rfl rfl (by kernel_rfl) (by kernel_rfl) (by kernel_rfl) (fun _ _ _ h => h) (by rfl) (by (intro _w _hSw; (try dsimp only at _hSw); go_simp)) (by assumption) ?_
    simp only [Act.put, List.setIfInBounds_toArray, List.set_cons_zero, List.set_cons_succ]
    refine takeV 8 (some 23) ((.agg #[.int .i64 X.k, .int .i64 X.vk, .int .i64 X.vn, .string X.vs, .string X.s, .slice KA X.kids.length c, .int .i64 X.ln, .int .i64 X.co])) rfl rfl (by kernel_rfl) (by kernel_rfl) (by kernel_rfl) (fun _ _ _ h => h) (by rfl) (by (intro _w hSw; have n0 := hSw.nod 0; have n1 := hSw.nod 1; have n2 := hSw.nod 2; have n3 := hSw.nod 3; have n4 := hSw.nod 4; have n5 := hSw.nod 5; have n6 := hSw.nod 6; have n7 := hSw.nod 7; clear hSw; go_simp)) (by assumption) ?_
    simp only [Act.put, List.setIfInBounds_toArray, List.set_cons_zero, List.set_cons_succ]
    refine callVT 7 10 rfl rfl (by kernel_rfl) (by rfl) (by rfl) (fun K1 hK1 => ?_) (fun K1 hK1 => ?_)
    go_simp
    refine hK1.out _ _ hHeld (fun hHeld => ?_)
    clear hK1 K1
    try simp only [Act.put, List.setIfInBounds_toArray, List.set_cons_zero, List.set_cons_succ]
    refine takeV 9 (some 24) ((.int .i64 (x.l.length : Int))) rfl rfl (by kernel_rfl) (by kernel_rfl) (by kernel_rfl) (fun _ _ _ h => h) (by rfl) (by (intro _w _hSw; (try dsimp only at _hSw); go_simp)) (by assumption) ?_
    simp only [Act.put, List.setIfInBounds_toArray, List.set_cons_zero, List.set_cons_succ]
    refine callV 10 rfl (by kernel_rfl) (by rfl) (fun K hK => ?_)
    go_simp
    refine hK.out _ _ (hHeld.alloc _) (fun hHeld => ?_)
    clear hK K
    try simp only [Act.put, List.setIfInBounds_toArray, List.set_cons_zero, List.set_cons_succ]
    rotate_left
    go_simp
    refine hK1.out _ _ (hHeld.alloc _) (fun hHeld => ?_)
    clear hK1 K1
    try simp only [Act.put, List.setIfInBounds_toArray, List.set_cons_zero, List.set_cons_succ]
    have ck2 := (World.cell?_alloc_lt w3 (.cells #[.int .i64 0, .int .i64 0, .int .i64 0, .string ⟨#[]⟩, .string ⟨#[]⟩, .slice none 0 0, .int .i64 0, .int .i64 0] 37) ⟨go, op.length * 8 + 5, none⟩ (HOR.out.lt go rfl).2).trans ck
    refine callV 7 rfl (by kernel_rfl) (by rfl) (fun K hK => ?_)
    go_simp
    refine hK.out _ _ hHeld (fun hHeld => ?_)
    clear hK K ck2
    try simp only [Act.put, List.setIfInBounds_toArray, List.set_cons_zero, List.set_cons_succ]
    refine takeV 9 (some 24) ((.int .i64 (x.l.length : Int))) rfl rfl (by kernel_rfl) (by kernel_rfl) (by kernel_rfl) (fun _ _ _ h => h) (by rfl) (by (intro _w _hSw; (try dsimp only at _hSw); go_simp)) (by assumption) ?_
    simp only [Act.put, List.setIfInBounds_toArray, List.set_cons_zero, List.set_cons_succ]
    all_goals
      have hb4 : Below w3.heap.size w3 (w3.alloc (.cells #[.int .i64 0, .int .i64 0, .int .i64 0, .string ⟨#[]⟩, .string ⟨#[]⟩, .slice none 0 0, .int .i64 0, .int .i64 0] 37)) := (Below.refl _ _).alloc (Nat.le_refl _) _
      have hnw : ∀ j u, (cellsN (.mk 0 0 0 ⟨#[]⟩ ⟨#[]⟩ [] 0 0) (.slice none 0 0))[j]? = some u → (w3.alloc (.cells #[.int .i64 0, .int .i64 0, .int .i64 0, .string ⟨#[]⟩, .string ⟨#[]⟩, .slice none 0 0, .int .i64 0, .int .i64 0] 37)).cell? ((⟨w3.heap.size, 0, none⟩ : Addr).add j) = some u := fun j u hu => litN w3 (.mk 0 0 0 ⟨#[]⟩ ⟨#[]⟩ [] 0 0) none 0 0 j u hu
      obtain ⟨w4, hw4⟩ : ∃ w4, w3.alloc (.cells #[.int .i64 0, .int .i64 0, .int .i64 0, .string ⟨#[]⟩, .string ⟨#[]⟩, .slice none 0 0, .int .i64 0, .int .i64 0] 37) = w4 := ⟨_, rfl⟩
      rw [hw4] at hHeld hb4 hnw ⊢
      clear hw4 ck fk
      have H4 := Lib.hid (H3.out.next hb4)
      have HB4 : Hid (Below w.heap.size w w4) := HB3.out.trans (hb4.mono HB3.out.size)
      have HNB : Hid (w.heap.size < w4.heap.size) := hHeld.lt.2
      refine callV 11 rfl (by kernel_rfl) (by rfl) (fun K hK => ?_)
      refine wp_append_node (.tmp 22) (.tmp 25) rfl lo x.v x.l rfl (H4.out.rowK (show (op ++ [x])[op.length]? = some x by simp)) (.mk 0 0 0 ⟨#[]⟩ ⟨#[]⟩ [] 0 0, none, 0) ⟨w3.heap.size, 0, none⟩ rfl hnw (by have := HLK.out; omega) (Nat.le_trans hlo HB4.out.size) ?_
      intro g1 c1 w5 ho5 hg5 hv5
      obtain ⟨hl5, hF5, hor5, hbx5⟩ := kid_row H4.out ho5 hg5 hv5
      have HOR5 := Lib.hid hor5
      have HO5 := Lib.hid ho5
      have HG5 := Lib.hid hg5
      have HV5 := Lib.hid hv5
      have nb1 : some w.heap.size ≠ x.v.ownBlock := fun e => Nat.lt_irrefl _ ((H.out.rowK (show (op ++ [x])[op.length]? = some x by simp)).lt _ e.symm).2
      have hS5 := hHeld.same hbx5 (hg5.block w.heap.size hHeld.lt.2 nb1)
      have y0 : w5.cell? ⟨go, op.length * 8 + 5, none⟩ = some (.slice x.A x.l.length x.c) := by rw [HOR5.out.cellAt (op.length * 8 + 5) (by omega), catO_at op x 5 (by decide)]; rfl
      have y1 := HOR5.out.frozenAt (op.length * 8 + 5)
      clear hl5 hF5 hor5 hbx5 ho5 hg5 hv5
      refine hK.out _ _ hS5 (fun hHeld => ?_)
      clear hK K hS5
      try simp only [Act.put, List.setIfInBounds_toArray]
      refine takeV 12 (some 27) ((.pointer (some ⟨go, op.length * 8, none⟩))) rfl rfl (by kernel_rfl) (by kernel_rfl) (by kernel_rfl) (fun _ _ _ h => h) (by rfl) (by (intro _w _hSw; (try dsimp only at _hSw); go_simp)) (by assumption) ?_
      simp only [Act.put]
      refine takeV 13 (some 28) ((.pointer (some ⟨go, op.length * 8 + 5, none⟩))) rfl rfl (by kernel_rfl) (by kernel_rfl) (by kernel_rfl) (fun _ _ _ h => h) (by rfl) (by (intro _w _hSw; (try dsimp only at _hSw); go_simp)) (by assumption) ?_
      simp only [Act.put]
      refine callV 14 rfl (by kernel_rfl) (by rfl) (fun K hK => ?_)
      go_simp
      obtain ⟨w6, hw6⟩ : ∃ w6, w5.setCell ⟨go, op.length * 8 + 5, none⟩ (.slice (some ⟨g1, 0, none⟩) (x.l.length + 1) c1) = w6 := ⟨_, rfl⟩
      obtain ⟨hl6, hF6, hbx6, hbel6, hkt6, hoth6⟩ := kid_put (X, KA, c) H4.out HO5.out HG5.out HV5.out (Nat.le_trans hlo HB4.out.size) hw6
      rw [hw6]
      clear hw6 y0 y1
      have hbx6' : w6.heap[b]? = w5.heap[b]? := hbx6.trans ((HG5.out.block b H4.out.lt (H4.out.box_row (H4.out.rowK (show (op ++ [x])[op.length]? = some x by simp)))).symm)
      have hne : w.heap.size ≠ go := fun e => Nat.lt_irrefl _ (e ▸ (H.out.rowO.lt go rfl).2)
      have hS6 : AddS b w.heap.size vd (.slice (some ⟨go, 0, none⟩) (op.length + 1) co) size #[.int .i64 X.k, .int .i64 X.vk, .int .i64 X.vn, .string X.vs, .string X.s, .slice KA X.kids.length c, .int .i64 X.ln, .int .i64 X.co] w6 :=
        hHeld.same hbx6' ((hoth6 w.heap.size HNB.out nb1 hne).trans (HG5.out.block w.heap.size HNB.out nb1).symm)
      have hrow6 : w6.ownsRow lo 37 8 (.slice (some ⟨g1, 0, none⟩) (x.l.length + 1) c1) (x.l.length + 1) (catN (x.l ++ [(.mk 0 0 0 ⟨#[]⟩ ⟨#[]⟩ [] 0 0, none, 0)])) := by
        have := hl6.own (op.length + 2) (.slice (some ⟨g1, 0, none⟩) (x.l.length + 1) c1, x.l ++ [(.mk 0 0 0 ⟨#[]⟩ ⟨#[]⟩ [] 0 0, none, 0)]) (by
          rw [List.getElem?_set, if_neg (by omega), List.getElem?_set, if_pos rfl, if_pos]
          show _ < (((op ++ [x]).map _).length + 1) + 1
          rw [List.length_map, List.length_append, List.length_singleton]
          omega)
        rw [List.length_append, List.length_singleton] at this
        exact this
      have HR6 := Lib.hid hrow6
      have HL6 := Lib.hid (And.intro hl6 (And.intro hF6 hbx6))
      have HB6 := Lib.hid (And.intro hbel6 hkt6)
      clear hl6 hF6 hbx6 hbel6 hkt6 hoth6 hbx6' hne nb1 hrow6
      refine hK.out _ _ hS6 (fun hHeld => ?_)
      clear hK K hS6
      try simp only [Act.put, List.setIfInBounds_toArray]
      refine wpAnyH_done (by kernel_rfl) ?_ _
      have z0 : w6.cell? ⟨g1, x.l.length * 8, none⟩ = some (.int .i64 0) := by rw [HR6.out.cellAt (x.l.length * 8) (by omega), catN_snoc, List.getElem?_append_right (by rw [catN_len]; exact Nat.le_refl _), catN_len, Nat.sub_self]; rfl
      have zr : ∀ i, i < 8 → w6.cell? ⟨g1, x.l.length * 8 + i, none⟩ = (cellsN (.mk 0 0 0 ⟨#[]⟩ ⟨#[]⟩ [] 0 0) (.slice none 0 0))[i]? := fun i hi => by
        rw [HR6.out.cellAt (x.l.length * 8 + i) (by omega), catN_snoc, List.getElem?_append_right (by rw [catN_len]; omega), catN_len, Nat.add_sub_cancel_left]
        rfl
      have z1 : w6.cell? ⟨g1, x.l.length * 8 + 1, none⟩ = some (.int .i64 0) := zr 1 (by decide)
      have z2 : w6.cell? ⟨g1, x.l.length * 8 + 2, none⟩ = some (.int .i64 0) := zr 2 (by decide)
      have z3 : w6.cell? ⟨g1, x.l.length * 8 + 3, none⟩ = some (.string ⟨#[]⟩) := zr 3 (by decide)
      have z4 : w6.cell? ⟨g1, x.l.length * 8 + 4, none⟩ = some (.string ⟨#[]⟩) := zr 4 (by decide)
      have z5 : w6.cell? ⟨g1, x.l.length * 8 + 5, none⟩ = some (.slice none 0 0) := zr 5 (by decide)
      have z6 : w6.cell? ⟨g1, x.l.length * 8 + 6, none⟩ = some (.int .i64 0) := zr 6 (by decide)
      have z7 : w6.cell? ⟨g1, x.l.length * 8 + 7, none⟩ = some (.int .i64 0) := zr 7 (by decide)
      have zf := HR6.out.frozenAt (x.l.length * 8)
      have zg := fun i => HR6.out.frozenAt (x.l.length * 8 + i)
      have f1 := zg 1
      have f2 := zg 2
      have f3 := zg 3
      have f4 := zg 4
      have f5 := zg 5
      have f6 := zg 6
      have f7 := zg 7
      have hjx : (x.l.length : Int) < (x.l.length : Int) + 1 := by omega
      have hj0 : (0 : Int) ≤ (x.l.length : Int) := by omega
      clear zr zg
      go_wp2
      obtain ⟨w8, hw8⟩ : ∃ w8, (((((((w6.setCell ⟨g1, x.l.length * 8, none⟩ (.int .i64 X.k)).setCell ⟨g1, x.l.length * 8 + 1, none⟩ (.int .i64 X.vk)).setCell ⟨g1, x.l.length * 8 + 2, none⟩ (.int .i64 X.vn)).setCell ⟨g1, x.l.length * 8 + 3, none⟩ (.string X.vs)).setCell ⟨g1, x.l.length * 8 + 4, none⟩ (.string X.s)).setCell ⟨g1, x.l.length * 8 + 5, none⟩ (.slice KA X.kids.length c)).setCell ⟨g1, x.l.length * 8 + 6, none⟩ (.int .i64 X.ln)).setCell ⟨g1, x.l.length * 8 + 7, none⟩ (.int .i64 X.co) = w8 := ⟨_, rfl⟩
      obtain ⟨hr8, hg8⟩ := fill8 HR6.out (X, KA, c) hw8
      refine bodyPost_ret (results_none rfl _ _ _) rfl ?_
      rw [hw8]
      clear hw8 z0 z1 z2 z3 z4 z5 z6 z7 zf f1 f2 f3 f4 f5 f6 f7 hjx hj0 hHeld
      obtain ⟨hl6, hF6, hbx6⟩ := HL6.out
      obtain ⟨hbel6, hkt6⟩ := HB6.out
      obtain ⟨hl8, hF8⟩ := hl6.put (i := op.length + 2) (v := .slice (some ⟨g1, 0, none⟩) (x.l.length + 1) c1) (l := x.l ++ [(.mk 0 0 0 ⟨#[]⟩ ⟨#[]⟩ [] 0 0, none, 0)]) (v' := .slice (some ⟨g1, 0, none⟩) (x.l.length + 1) c1) (l' := x.l ++ [(X, KA, c)]) (by
          rw [List.getElem?_set, if_neg (by omega), List.getElem?_set, if_pos rfl, if_pos]
          show _ < (((op ++ [x]).map _).length + 1) + 1
          rw [List.length_map, List.length_append, List.length_singleton]
          omega) (by rw [List.length_append, List.length_singleton]; exact hr8) hg8 (.inl rfl)
      rw [List.set_comm _ _ (by omega), List.set_set] at hl8 hF8
      have hbx : w6.heap[b]? = some _ := hbx6.trans H4.out.box
      have hbx8 : w8.heap[b]? = w4.heap[b]? := (hg8.block b (Array.getElem?_eq_some_iff.1 hbx).1 (row_ne HR6.out hbx (by decide))).trans hbx6
      have hlo6 : lo ≤ w6.heap.size := Nat.le_trans hlo (Nat.le_trans HB4.out.size hbel6.size)
      exact ⟨rfl, _, _, H.out.addKid HN.out (KeepN.of_below HB4.out) hl8 (fun g hg => ⟨((hF8 g (hF6 g hg).2).1).trans (hF6 g hg).1, (hF8 g (hF6 g hg).2).2⟩) hbx8, (HB4.out.mono hlo).trans (hbel6.trans (below_grown HR6.out hg8 hlo6)), (KeepTx.of_below HB4.out).trans (hkt6.trans (KeepTx.grown HR6.out hg8))⟩
end Go.Proofs.YthbighnkohjfnaaGreatDoor

/-
  CONTRACT: add (a node put where it belongs: within no bracket).
-/
namespace Go.Proofs.YthbighnkohjfnaaGreatDoor
open Go.RowKit

theorem nod_cell {W : World} {nb : Nat} {cs : Array Value} (h : W.heap[nb]? = some (.cells cs 37 (0, 0))) (j : Nat) : W.cell? ⟨nb, j, none⟩ = cs[j]? := by simp [World.cell?, h]
set_option maxRecDepth 100000 in
set_option maxHeartbeats 4000000 in
theorem add_done (lo b : Nat) (vd vo : Value) (done : List Ek) (size t : Nat) (X : Nd) (KA : Option Addr) (c : Nat) (w : World) (h : RdS lo w b vd vo done [] size t)
    (hn : SlN 50 w (Fz lo w (rowsR vd vo done [])) KA X.kids) (hlo : lo ≤ w.heap.size) (hlob : lo ≤ b) (ht : t ≤ 100000) :
    Calls Tryz.prog 55 #[.pointer (some ⟨b, 0, none⟩), .agg #[.int .i64 X.k, .int .i64 X.vk, .int .i64 X.vn, .string X.vs, .string X.s, .slice KA X.kids.length c, .int .i64 X.ln, .int .i64 X.co]] w fun e w' =>
      e = .returned (.tuple #[]) ∧ ∃ vd', RdS lo w' b vd' vo (done ++ [(X, KA, c)]) [] size (t + 1) ∧ Below lo w w' ∧ KeepTx w w' := by
  obtain ⟨Ao, co, rfl⟩ : ∃ Ao co, vo = .slice Ao 0 co := by
    rcases h.rowO.2 with ⟨rfl, _⟩ | ⟨g, cap, _, rfl, _⟩
    · exact ⟨none, 0, rfl⟩
    · exact ⟨_, _, rfl⟩
  obtain ⟨Ad, cd, rfl⟩ : ∃ Ad cd, vd = .slice Ad done.length cd := by
    rcases h.rowD.2 with ⟨rfl, e⟩ | ⟨g, cap, _, rfl, _⟩
    · exact ⟨none, 0, by rw [e]⟩
    · exact ⟨_, _, rfl⟩
  have hb1 : Below w.heap.size w (w.alloc (.cells #[.int .i64 X.k, .int .i64 X.vk, .int .i64 X.vn, .string X.vs, .string X.s, .slice KA X.kids.length c, .int .i64 X.ln, .int .i64 X.co] 37)) := (Below.refl _ _).alloc (Nat.le_refl _) _
  have hN1 : (w.alloc (.cells #[.int .i64 X.k, .int .i64 X.vk, .int .i64 X.vn, .string X.vs, .string X.s, .slice KA X.kids.length c, .int .i64 X.ln, .int .i64 X.co] 37)).heap[w.heap.size]? = some (.cells #[.int .i64 X.k, .int .i64 X.vk, .int .i64 X.vn, .string X.vs, .string X.s, .slice KA X.kids.length c, .int .i64 X.ln, .int .i64 X.co] 37 (0, 0)) := heap_alloc_new w _
  have c1 := (h.next hb1).cell 1
  have hw : IntKind.i64.wrap ((0 : Int) - 1) = -1 := by decide
  have H := Lib.hid h
  have HB1 := Lib.hid hb1
  have HN1 := Lib.hid hN1
  have HN := Lib.hid hn
  clear h hb1 hN1 hn
  go_enter Tryz.func55, Tryz.ntmps55
  go_wp2_with fail
  clear c1
  obtain ⟨w2, hw2⟩ : ∃ w2, w.alloc (.cells #[.int .i64 X.k, .int .i64 X.vk, .int .i64 X.vn, .string X.vs, .string X.s, .slice KA X.kids.length c, .int .i64 X.ln, .int .i64 X.co] 37) = w2 := ⟨_, rfl⟩
  rw [hw2] at HB1 HN1 ⊢
  clear hw2
  have H2 := Lib.hid (H.out.next HB1.out)
  have HS2 : Hid (w2.heap[w.heap.size]? = some (.cells #[.int .i64 X.k, .int .i64 X.vk, .int .i64 X.vn, .string X.vs, .string X.s, .slice KA X.kids.length c, .int .i64 X.ln, .int .i64 X.co] 37 (0, 0))) := HN1.out
  obtain ⟨w3, hw3⟩ : ∃ w3, w2.drew = w3 := ⟨_, rfl⟩
  have hb3 : Below w2.heap.size w2 w3 := by rw [← hw3]; exact (Below.refl _ _).drew
  have H3 := Lib.hid (H2.out.next hb3)
  have HB3 : Hid (Below w.heap.size w w3) := HB1.out.trans (hb3.mono HB1.out.size)
  have HL3 := Lib.hid H3.out.lv
  have HX3 := Lib.hid H3.out.box
  have HNR : Hid (some w.heap.size ≠ (Value.slice Ad done.length cd).ownBlock) := fun e => Nat.lt_irrefl _ (H.out.rowD.lt _ e.symm).2
  have HNB : Hid (w.heap.size ≠ b) := fun e => Nat.lt_irrefl _ (e ▸ H.out.lt)
  have HDL : Hid (done.length ≤ t) := H.out.dl
  clear hb3
  refine wp_region_held_drew (S := (fun W => W.heap[w.heap.size]? = some (.cells #[.int .i64 X.k, .int .i64 X.vk, .int .i64 X.vn, .string X.vs, .string X.s, .slice KA X.kids.length c, .int .i64 X.ln, .int .i64 X.co] 37 (0, 0)))) (by kernel_rfl) HS2.out (fun hHeld => ?_)
  rw [hw3] at hHeld ⊢
  clear hw3
  refine takeV 0 (some 48) ((.pointer (some ⟨b, 0, none⟩))) rfl rfl (by kernel_rfl) (by kernel_rfl) (by kernel_rfl) (fun _ _ _ h => h) (by rfl) (by (intro _w _hSw; (try dsimp only at _hSw); go_simp)) (by assumption) ?_
  simp only [Act.put, List.setIfInBounds_toArray, List.set_cons_zero, List.set_cons_succ]
  refine takeV 1 (some 49) ((.pointer (some ⟨b, 0, none⟩))) rfl rfl (by kernel_rfl) (by kernel_rfl) (by kernel_rfl) (fun _ _ _ h => h) (by rfl) (by (intro _w _hSw; (try dsimp only at _hSw); go_simp)) (by assumption) ?_
  simp only [Act.put, List.setIfInBounds_toArray, List.set_cons_zero, List.set_cons_succ]
  refine takeV 2 (some 50) ((.pointer (some ⟨b, 0, none⟩))) rfl rfl (by kernel_rfl) (by kernel_rfl) (by kernel_rfl) (fun _ _ _ h => h) (by rfl) (by (intro _w _hSw; (try dsimp only at _hSw); go_simp)) (by assumption) ?_
  simp only [Act.put, List.setIfInBounds_toArray, List.set_cons_zero, List.set_cons_succ]
  refine takeV 4 (some 52) ((.agg #[.int .i64 X.k, .int .i64 X.vk, .int .i64 X.vn, .string X.vs, .string X.s, .slice KA X.kids.length c, .int .i64 X.ln, .int .i64 X.co])) rfl rfl (by kernel_rfl) (by kernel_rfl) (by kernel_rfl) (fun _ _ _ h => h) (by rfl) (by (intro _w hSw; have n0 := nod_cell hSw 0; have n1 := nod_cell hSw 1; have n2 := nod_cell hSw 2; have n3 := nod_cell hSw 3; have n4 := nod_cell hSw 4; have n5 := nod_cell hSw 5; have n6 := nod_cell hSw 6; have n7 := nod_cell hSw 7; clear hSw; go_simp)) (by assumption) ?_
  simp only [Act.put, List.setIfInBounds_toArray, List.set_cons_zero, List.set_cons_succ]
  have cx := HX3.out
  have cb : w3.cell? ⟨b, 0, none⟩ = some (.slice Ad done.length cd) := by simp [World.cell?, cx]
  have cb2 := (World.cell?_alloc_lt w3 (.cells #[.int .i64 0, .int .i64 0, .int .i64 0, .string ⟨#[]⟩, .string ⟨#[]⟩, .slice none 0 0, .int .i64 0, .int .i64 0] 37) ⟨b, 0, none⟩ (Array.getElem?_eq_some_iff.1 cx).1).trans cb
  clear cx
  refine callVT 3 6 rfl rfl (by kernel_rfl) (by rfl) (by rfl) (fun K1 hK1 => ?_) (fun K1 hK1 => ?_)
  go_simp
  refine hK1.out _ _ hHeld (fun hHeld => ?_)
  clear hK1 K1
  try simp only [Act.put, List.setIfInBounds_toArray, List.set_cons_zero, List.set_cons_succ]
  refine takeV 5 (some 53) ((.int .i64 (done.length : Int))) rfl rfl (by kernel_rfl) (by kernel_rfl) (by kernel_rfl) (fun _ _ _ h => h) (by rfl) (by (intro _w _hSw; (try dsimp only at _hSw); go_simp)) (by assumption) ?_
  simp only [Act.put, List.setIfInBounds_toArray, List.set_cons_zero, List.set_cons_succ]
  refine callV 6 rfl (by kernel_rfl) (by rfl) (fun K hK => ?_)
  go_simp
  refine hK.out _ _ ((Below.heap_alloc w3 _ _ (Array.getElem?_eq_some_iff.1 hHeld).1).trans hHeld) (fun hHeld => ?_)
  clear hK K
  try simp only [Act.put, List.setIfInBounds_toArray, List.set_cons_zero, List.set_cons_succ]
  rotate_left
  go_simp
  refine hK1.out _ _ ((Below.heap_alloc w3 _ _ (Array.getElem?_eq_some_iff.1 hHeld).1).trans hHeld) (fun hHeld => ?_)
  clear hK1 K1
  try simp only [Act.put, List.setIfInBounds_toArray, List.set_cons_zero, List.set_cons_succ]
  refine callV 3 rfl (by kernel_rfl) (by rfl) (fun K hK => ?_)
  go_simp
  refine hK.out _ _ hHeld (fun hHeld => ?_)
  clear hK K
  try simp only [Act.put, List.setIfInBounds_toArray, List.set_cons_zero, List.set_cons_succ]
  refine takeV 5 (some 53) ((.int .i64 (done.length : Int))) rfl rfl (by kernel_rfl) (by kernel_rfl) (by kernel_rfl) (fun _ _ _ h => h) (by rfl) (by (intro _w _hSw; (try dsimp only at _hSw); go_simp)) (by assumption) ?_
  simp only [Act.put, List.setIfInBounds_toArray, List.set_cons_zero, List.set_cons_succ]
  all_goals
    clear cb cb2
    have hb4 : Below w3.heap.size w3 (w3.alloc (.cells #[.int .i64 0, .int .i64 0, .int .i64 0, .string ⟨#[]⟩, .string ⟨#[]⟩, .slice none 0 0, .int .i64 0, .int .i64 0] 37)) := (Below.refl _ _).alloc (Nat.le_refl _) _
    have hnw : ∀ j u, (cellsN (.mk 0 0 0 ⟨#[]⟩ ⟨#[]⟩ [] 0 0) (.slice none 0 0))[j]? = some u → (w3.alloc (.cells #[.int .i64 0, .int .i64 0, .int .i64 0, .string ⟨#[]⟩, .string ⟨#[]⟩, .slice none 0 0, .int .i64 0, .int .i64 0] 37)).cell? ((⟨w3.heap.size, 0, none⟩ : Addr).add j) = some u := fun j u hu => litN w3 (.mk 0 0 0 ⟨#[]⟩ ⟨#[]⟩ [] 0 0) none 0 0 j u hu
    obtain ⟨w4, hw4⟩ : ∃ w4, w3.alloc (.cells #[.int .i64 0, .int .i64 0, .int .i64 0, .string ⟨#[]⟩, .string ⟨#[]⟩, .slice none 0 0, .int .i64 0, .int .i64 0] 37) = w4 := ⟨_, rfl⟩
    rw [hw4] at hHeld hb4 hnw ⊢
    clear hw4
    have HL4 := Lib.hid (HL3.out.keep (KeepN.of_below hb4).toKeepNd)
    have HX4 := Lib.hid ((hb4.block b (Array.getElem?_eq_some_iff.1 HX3.out).1).trans HX3.out)
    have HB4 := Lib.hid hb4
    have hro := HL4.out.own 0 _ rfl
    have nbr : some w.heap.size ≠ ((.slice Ad done.length cd) : Value).ownBlock := HNR.out
    refine callV 7 rfl (by kernel_rfl) (by rfl) (fun K hK => ?_)
    refine wp_append_node (.tmp 51) (.tmp 54) rfl lo (.slice Ad done.length cd) done rfl hro (.mk 0 0 0 ⟨#[]⟩ ⟨#[]⟩ [] 0 0, none, 0) ⟨w3.heap.size, 0, none⟩ rfl hnw (by have := HDL.out; omega) (Nat.le_trans (Nat.le_trans hlo HB3.out.size) HB4.out.size) ?_
    intro g1 c1 w5 ho5 hg5 hv5
    have hS5 := (hg5.block _ (Array.getElem?_eq_some_iff.1 hHeld).1 nbr).trans hHeld
    have hbr := row_ne hro HX4.out (by decide)
    have HX5 := Lib.hid ((hg5.block b (Array.getElem?_eq_some_iff.1 HX4.out).1 hbr).trans HX4.out)
    have HNG : Hid (some w.heap.size ≠ some g1) := hv5.elim (fun e => e ▸ nbr) (fun e => e ▸ fun e2 => Nat.lt_irrefl _ ((show w.heap.size = w4.heap.size by injection e2) ▸ (Array.getElem?_eq_some_iff.1 hHeld).1))
    have HO5 := Lib.hid ho5
    have HG5 := Lib.hid hg5
    have HV5 := Lib.hid hv5
    clear ho5 hg5 hv5 hro nbr hbr hnw hb4
    refine hK.out _ _ hS5 (fun hHeld => ?_)
    clear hK K hS5
    try simp only [Act.put, List.setIfInBounds_toArray]
    have hjx : (done.length : Int) < (done.length : Int) + 1 := by omega
    have hj0 : (0 : Int) ≤ (done.length : Int) := by omega
    refine takeV 8 (some 56) ((.pointer (some ⟨g1, done.length * 8, none⟩))) rfl rfl (by kernel_rfl) (by kernel_rfl) (by kernel_rfl) (fun _ _ _ h => h) (by rfl) (by (intro _w _hSw; (try dsimp only at _hSw); go_simp)) (by assumption) ?_
    simp only [Act.put]
    refine takeV 10 (some 57) ((.pointer (some ⟨b, 0, none⟩))) rfl rfl (by kernel_rfl) (by kernel_rfl) (by kernel_rfl) (fun _ _ _ h => h) (by rfl) (by (intro _w _hSw; (try dsimp only at _hSw); go_simp)) (by assumption) ?_
    simp only [Act.put]
    refine takeV 11 (some 58) ((.pointer (some ⟨b, 0, none⟩))) rfl rfl (by kernel_rfl) (by kernel_rfl) (by kernel_rfl) (fun _ _ _ h => h) (by rfl) (by (intro _w _hSw; (try dsimp only at _hSw); go_simp)) (by assumption) ?_
    simp only [Act.put]
    refine callVT 9 12 rfl rfl (by kernel_rfl) (by rfl) (by rfl) (fun K1 hK1 => ?_) (fun K1 hK1 => ?_)
    have zz := row_z8 HO5.out
    have z0 := zz.c0
    have z1 := zz.c1
    have z2 := zz.c2
    have z3 := zz.c3
    have z4 := zz.c4
    have z5 := zz.c5
    have z6 := zz.c6
    have z7 := zz.c7
    have y0 := zz.fz (done.length * 8)
    have y1 := zz.fz (done.length * 8 + 1)
    have y2 := zz.fz (done.length * 8 + 2)
    have y3 := zz.fz (done.length * 8 + 3)
    have y4 := zz.fz (done.length * 8 + 4)
    have y5 := zz.fz (done.length * 8 + 5)
    have y6 := zz.fz (done.length * 8 + 6)
    have y7 := zz.fz (done.length * 8 + 7)
    clear zz
    go_simp
    clear z0 z1 z2 z3 z4 z5 z6 z7 y0 y1 y2 y3 y4 y5 y6 y7
    obtain ⟨w6, hw6⟩ : ∃ w6, (((((((w5.setCell ⟨g1, done.length * 8, none⟩ (.int .i64 X.k)).setCell ⟨g1, done.length * 8 + 1, none⟩ (.int .i64 X.vk)).setCell ⟨g1, done.length * 8 + 2, none⟩ (.int .i64 X.vn)).setCell ⟨g1, done.length * 8 + 3, none⟩ (.string X.vs)).setCell ⟨g1, done.length * 8 + 4, none⟩ (.string X.s)).setCell ⟨g1, done.length * 8 + 5, none⟩ (.slice KA X.kids.length c)).setCell ⟨g1, done.length * 8 + 6, none⟩ (.int .i64 X.ln)).setCell ⟨g1, done.length * 8 + 7, none⟩ (.int .i64 X.co) = w6 := ⟨_, rfl⟩
    rw [hw6]
    obtain ⟨hr6, hg6⟩ := fill8 HO5.out (X, KA, c) hw6
    have hX6 := (hg6.block b (Array.getElem?_eq_some_iff.1 HX5.out).1 (row_ne HO5.out HX5.out (by decide))).trans HX5.out
    have hS6 := (hg6.block _ (Array.getElem?_eq_some_iff.1 hHeld).1 HNG.out).trans hHeld
    refine hK1.out _ _ hS6 (fun hHeld => ?_)
    clear hK1 K1 hr6 hg6 hS6
    try simp only [Act.put, List.setIfInBounds_toArray]
    have cb : w6.cell? ⟨b, 0, none⟩ = some (.slice Ad done.length cd) := by simp [World.cell?, hX6]
    have fb : w6.frozen? ⟨b, 0, none⟩ = false := by simp [World.frozen?, hX6]
    refine callV 12 rfl (by kernel_rfl) (by rfl) (fun K hK => ?_)
    go_simp
    obtain ⟨w8, hw8⟩ : ∃ w8, w6.setCell ⟨b, 0, none⟩ (.slice (some ⟨g1, 0, none⟩) (done.length + 1) c1) = w8 := ⟨_, rfl⟩
    rw [hw8]
    have HP := Lib.hid (push_row (i := 0) (X, KA, c) HL4.out rfl HX4.out HO5.out HG5.out HV5.out (Nat.le_trans (Nat.le_trans hlo HB3.out.size) HB4.out.size) hw6 hw8)
    have hS8 : w8.heap[w.heap.size]? = some _ := (show w8.heap[w.heap.size]? = w6.heap[w.heap.size]? by rw [← hw8]; exact heap_setCell_other w6 ⟨b, 0, none⟩ w.heap.size _ HNB.out).trans hHeld
    clear hw6 hw8 cb fb hX6
    refine hK.out _ _ hS8 (fun hHeld => ?_)
    clear hK K hS8
    try simp only [Act.put, List.setIfInBounds_toArray]
    refine wpAnyH_done (by kernel_rfl) ?_ _
    rotate_left
    have cx := HX5.out
    have cb : w5.cell? ⟨b, 0, none⟩ = some (.slice Ad done.length cd) := by simp [World.cell?, cx]
    have fb : w5.frozen? ⟨b, 0, none⟩ = false := by simp [World.frozen?, cx]
    go_simp
    obtain ⟨w6, hw6⟩ : ∃ w6, w5.setCell ⟨b, 0, none⟩ (.slice (some ⟨g1, 0, none⟩) (done.length + 1) c1) = w6 := ⟨_, rfl⟩
    rw [hw6]
    have hk6 : KeepNd w5 w6 := by rw [← hw6]; exact KeepNd.setBox cx
    have hr6 := ownsRow_same HO5.out fun g hgb => by obtain ⟨cs', hcs⟩ := ownsRow_node HO5.out hgb; exact hk6.same g cs' hcs
    have hS6 := (hk6.same _ _ hHeld).trans hHeld
    refine hK1.out _ _ hS6 (fun hHeld => ?_)
    clear hK1 K1 hS6 cb fb cx hk6
    try simp only [Act.put, List.setIfInBounds_toArray]
    have zz := row_z8 hr6
    have z0 := zz.c0
    have z1 := zz.c1
    have z2 := zz.c2
    have z3 := zz.c3
    have z4 := zz.c4
    have z5 := zz.c5
    have z6 := zz.c6
    have z7 := zz.c7
    have y0 := zz.fz (done.length * 8)
    have y1 := zz.fz (done.length * 8 + 1)
    have y2 := zz.fz (done.length * 8 + 2)
    have y3 := zz.fz (done.length * 8 + 3)
    have y4 := zz.fz (done.length * 8 + 4)
    have y5 := zz.fz (done.length * 8 + 5)
    have y6 := zz.fz (done.length * 8 + 6)
    have y7 := zz.fz (done.length * 8 + 7)
    clear zz
    refine callV 9 rfl (by kernel_rfl) (by rfl) (fun K hK => ?_)
    go_simp
    clear z0 z1 z2 z3 z4 z5 z6 z7 y0 y1 y2 y3 y4 y5 y6 y7
    obtain ⟨w8, hw8⟩ : ∃ w8, (((((((w6.setCell ⟨g1, done.length * 8, none⟩ (.int .i64 X.k)).setCell ⟨g1, done.length * 8 + 1, none⟩ (.int .i64 X.vk)).setCell ⟨g1, done.length * 8 + 2, none⟩ (.int .i64 X.vn)).setCell ⟨g1, done.length * 8 + 3, none⟩ (.string X.vs)).setCell ⟨g1, done.length * 8 + 4, none⟩ (.string X.s)).setCell ⟨g1, done.length * 8 + 5, none⟩ (.slice KA X.kids.length c)).setCell ⟨g1, done.length * 8 + 6, none⟩ (.int .i64 X.ln)).setCell ⟨g1, done.length * 8 + 7, none⟩ (.int .i64 X.co) = w8 := ⟨_, rfl⟩
    rw [hw8]
    obtain ⟨_, hg8⟩ := fill8 hr6 (X, KA, c) hw8
    have HP := Lib.hid (push_box (i := 0) (X, KA, c) HL4.out rfl HX4.out HO5.out HG5.out HV5.out (Nat.le_trans (Nat.le_trans hlo HB3.out.size) HB4.out.size) hw6 hw8)
    have hS8 := (hg8.block _ (Array.getElem?_eq_some_iff.1 hHeld).1 HNG.out).trans hHeld
    clear hw6 hw8 hr6 hg8
    refine hK.out _ _ hS8 (fun hHeld => ?_)
    clear hK K hS8
    try simp only [Act.put, List.setIfInBounds_toArray]
    refine wpAnyH_done (by kernel_rfl) ?_ _
  all_goals
    go_wp2
    go_end0
    obtain ⟨hl8, hF8, hbx8, hbel8, hkt8⟩ := HP.out
    have hb34 := HB3.out.trans (HB4.out.mono HB3.out.size)
    refine ⟨rfl, _, ((H3.out.next HB4.out).turn (vd' := .slice (some ⟨g1, 0, none⟩) (done.length + 1) c1) (vo' := .slice Ao 0 co) (done' := done ++ [(X, KA, c)]) (op' := []) (size' := size) (t' := t + 1) hbx8 hl8 hF8 (fun e he => ?_) (fun i y hy => ?_) (Nat.zero_le _) ?_ (fun y hy => ?_)), (hb34.mono hlo).trans (hbel8 hlob), (KeepTx.of_below hb34).trans hkt8⟩
    · rcases List.mem_append.1 he with he | he
      · exact .inl he
      · obtain rfl : e = (X, KA, c) := by simpa using he
        exact .inr (HN.out.keepN (KeepN.of_below hb34).toKeepNd)
    · simp at hy
    · rw [List.length_append, List.length_singleton]
      have := HDL.out
      omega
    · cases hy
end Go.Proofs.YthbighnkohjfnaaGreatDoor
