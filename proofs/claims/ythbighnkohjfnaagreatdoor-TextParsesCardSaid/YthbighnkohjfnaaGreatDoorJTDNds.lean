/-
  CONTRACT: the document's reader (layer 5): nodes, given node; both, by fuel; Parse.
-/
import Derived.Test.YthbighnkohjfnaaGreatDoorJTDNode
import Derived.Test.YthbighnkohjfnaaGreatDoorJTAddD
namespace Go.Proofs.YthbighnkohjfnaaGreatDoor
open Go.RowKit

/-- blocks of the call's own, but for the row in hand -/
def FrD (w wr : World) (x : Value) (g : Nat) : Prop := w.heap.size ≤ g ∧ g < wr.heap.size ∧ x.ownBlock ≠ some g
/-- where nodes stands -/
structure NdsRun (f b : Nat) (e : Option UInt8) (s : ByteArray) (at_ deep many : Nat) (w : World) (g : Nat) (x : Value) (wr : World) (j m : Nat) (lp : List PN) (lE : List Ek) : Prop where
  box : BxD wr b s j deep m (-1)
  aj : at_ ≤ j
  js : j ≤ s.size
  m5 : m ≤ 5000
  fuel : s.size - j < g
  gf : g ≤ f
  is : nodesD pvL f e (s.data.toList.drop at_) at_ many deep = preR lp (nodesD pvL g e (s.data.toList.drop j) j m deep)
  nds : lE.map (·.1) = lp.map (ndOf s.data.toList)
  len : lE.length ≤ j
  row : wr.ownsRow w.heap.size 37 8 x lE.length (catN lE)
  kids : ∀ q ∈ lE, SlN (50 - deep) wr (FrD w wr x) q.2.1 q.1.kids
  only : Only b w wr
/-- it has gone wrong -/
structure NdsBad (f b : Nat) (e : Option UInt8) (s : ByteArray) (at_ deep many : Nat) (w wr : World) (p : Nat) : Prop where
  le : p ≤ s.size
  is : nodesD pvL f e (s.data.toList.drop at_) at_ many deep = .bad p
  box : ∃ j m, BxD wr b s j deep m (p : Int)
  only : Only b w wr
theorem row_only {W W' : World} {lo b n : Nat} {x : Value} {xs : List Value} (h : W.ownsRow lo 37 8 x n xs) (ho : Only b W W') (hb : b < lo) : W'.ownsRow lo 37 8 x n xs :=
  ownsRow_same h fun g hg => ho.block (fun e => by have := (h.lt g hg).1; omega) (h.lt g hg).2
section
variable {f b : Nat} {e : Option UInt8} {s : ByteArray} {at_ deep many : Nat} {w wr W : World} {g : Nat} {x : Value} {j m : Nat} {lp : List PN} {lE : List Ek}
/-- a step that turns the box alone -/
theorem NdsRun.kids_only (h : NdsRun f b e s at_ deep many w g x wr j m lp lE) (ho : Only b wr W) (hb : b < w.heap.size) : ∀ q ∈ lE, SlN (50 - deep) W (FrD w W x) q.2.1 q.1.kids := fun q hq =>
  ((h.kids q hq).keep fun g hg => ho.block (fun e => by have := hg.1; omega) hg.2.1).mono fun g hg => ⟨hg.1, Nat.lt_of_lt_of_le hg.2.1 ho.bel.size, hg.2.2⟩
theorem NdsRun.out (h : NdsRun f b e s at_ deep many w g x wr j m lp lE) (ho : Only b wr W) (hb : b < w.heap.size) (hs : s.size ≤ 20000) (hd : deep ≤ 50) {A : Option Addr} {c : Nat} (hx : x = .slice A lE.length c) : lE.length = lp.length ∧ SlN (51 - deep) W (fun g => w.heap.size ≤ g ∧ g < W.heap.size) A (lp.map (ndOf s.data.toList)) := by
  subst hx
  have hl : lE.length = lp.length := by
    have := congrArg List.length h.nds
    rwa [List.length_map, List.length_map] at this
  refine ⟨hl, ?_⟩
  have hrow := row_only h.row ho hb
  have h1 := sl_row (d := 50 - deep) (F := fun g => w.heap.size ≤ g ∧ g < W.heap.size) hrow (fun g hg => hrow.lt g hg) (by have := h.len; have := h.js; omega) (fun q hq => (h.kids_only ho hb q hq).mono fun g hg => ⟨hg.1, hg.2.1⟩)
  rw [h.nds, show 50 - deep + 1 = 51 - deep by omega] at h1
  exact h1
end
theorem closeC_is (c : UInt8) : (⟨#[41, 93, 125]⟩ : ByteArray).data.toList.contains c = closeC c := by
  unfold closeC
  rw [Bool.eq_iff_iff]
  simp [or_assoc]
/-- append of one node, in a plain region -/
theorem wpList_append_node {ops : Array Oper} {rest : List Oper} {o : Oper} {a : Act} {w : World} {Q : Exit → Act → World → Prop} (hgd : o.guard = none) (s x : Operand) (ho : o.op = .call { callee := .builtin .append, args := #[s, x], argTypes := #[22, 22] })
    (lo : Nat) (v : Value) (l : List Ek) (hs : a.eval s = v) (hown : w.ownsRow lo 37 8 v l.length (catN l)) (n : Ek) (ad : Addr) (hx : a.eval x = .slice (some ad) 1 1)
    (hnews : ∀ j u, (cellsN n.1 (.slice n.2.1 n.1.kids.length n.2.2))[j]? = some u → w.cell? (ad.add j) = some u) (hl : l.length ≤ 200000) (hlo : lo ≤ w.heap.size)
    (h : ∀ g c w', w'.ownsRow lo 37 8 (.slice (some ⟨g, 0, none⟩) (l.length + 1) c) (l.length + 1) (catN (l ++ [n])) → w.grownBy w' v.ownBlock → (some g = v.ownBlock ∨ some g = some w.heap.size) → wpList Tryz.prog ops Q rest (a.put o.dst (.slice (some ⟨g, 0, none⟩) (l.length + 1) c)) w') : wpList Tryz.prog ops Q (o :: rest) a w := by
  obtain ⟨i0, hi, hz0, hz1, hz2⟩ := info_parts infoN
  have hmx : 300000 ≤ maxLen := by decide
  refine wpList_append_own_at (w := w) hgd s x 22 ho lo 37 i0 (.agg #[.int .i64 0, .int .i64 0, .int .i64 0, .string ⟨#[]⟩, .string ⟨#[]⟩, .slice none 0 0, .int .i64 0, .int .i64 0]) 8 96 Tryz.underlying22 hi hz0 hz1 hz2 rfl (by decide) v l.length (catN l) hs hown ad 1 1 (cellsN n.1 (.slice n.2.1 n.1.kids.length n.2.2)) hx rfl hnews (cellsN_one _ _ _ _) (by omega) (by omega) hlo ?_
  intro v' w' h1 h2 _ h4
  obtain ⟨g, c, rfl⟩ := ownsRow_succ h1
  exact h g c w' (by rw [catN_snoc]; exact h1) h2 h4
theorem preR_pre (a b : List PN) (r : Rd (List PN)) : preR a (preR b r) = preR (a ++ b) r := by
  cases r with
  | bad p => rfl
  | ok l s p m => show Rd.ok (a ++ (b ++ l)) s p m = Rd.ok ((a ++ b) ++ l) s p m; rw [List.append_assoc]
/-- a node more -/
theorem NdsRun.more {f b : Nat} {e : Option UInt8} {s : ByteArray} {at_ deep many : Nat} {w wr w2 w4 w5 : World} {g : Nat} {A : Option Addr} {cc j m q p2 m2 : Nat} {lp : List PN} {lE : List Ek} {x : PN} {X : Nd} {A2 : Option Addr} {cq g1 c1 lo : Nat}
    (h : NdsRun f b e s at_ deep many w (g + 1) (.slice A lE.length cc) wr j m lp lE) (hb : b < w.heap.size) (ho4 : Only b wr w4) (hx4 : BxD w4 b s p2 deep m2 (-1))
    (ho5 : w5.ownsRow w.heap.size 37 8 (.slice (some ⟨g1, 0, none⟩) (lE.length + 1) c1) (lE.length + 1) (catN (lE ++ [(X, A2, cq)]))) (hg5 : w4.grownBy w5 (Value.slice A lE.length cc).ownBlock) (hv5 : some g1 = (Value.slice A lE.length cc).ownBlock ∨ some g1 = some w4.heap.size)
    (his : nodesD pvL f e (s.data.toList.drop at_) at_ many deep = preR lp (preR [x] (nodesD pvL g e (s.data.toList.drop p2) p2 m2 deep))) (hX : ndOf s.data.toList x = X) (hjq : j ≤ q) (hq : q < p2) (hp : p2 ≤ s.size) (hm : m2 ≤ 5000)
    (hlo : wr.heap.size ≤ lo) (h24 : ∀ g, g < w2.heap.size → w4.heap[g]? = w2.heap[g]?) (hz24 : w2.heap.size ≤ w4.heap.size) (hsl : SlN (50 - deep) w2 (fun g => lo ≤ g ∧ g < w2.heap.size) A2 X.kids) :
    NdsRun f b e s at_ deep many w g (.slice (some ⟨g1, 0, none⟩) (lE.length + 1) c1) w5 p2 m2 (lp ++ [x]) (lE ++ [(X, A2, cq)]) := by
  have hrow4 := row_only h.row ho4 hb
  have hfu := h.fuel
  have hjs := h.js
  have hgf := h.gf
  have haj := h.aj
  have hle := h.len
  have hown : ∀ g, (Value.slice A lE.length cc).ownBlock = some g → w.heap.size ≤ g ∧ g < wr.heap.size := fun g hg => h.row.lt g hg
  have hbn : some b ≠ (Value.slice A lE.length cc).ownBlock := fun e => by have := (hown b e.symm).1; omega
  have fr : ∀ k, w.heap.size ≤ k → k < w4.heap.size → some k ≠ (Value.slice A lE.length cc).ownBlock → FrD w w5 (.slice (some ⟨g1, 0, none⟩) (lE.length + 1) c1) k := fun k hk hk4 hne => by
    refine ⟨hk, Nat.lt_of_lt_of_le hk4 hg5.size, ?_⟩
    show some g1 ≠ some k
    rcases hv5 with e | e
    · rw [e]; exact fun e2 => hne e2.symm
    · rw [e]; exact fun e2 => by injection e2 with e2; omega
  have h4w : Only b w w4 := h.only.trans ho4
  have hlow : w.heap.size ≤ wr.heap.size := h.only.bel.size
  refine ⟨(hg5.block b hx4.lt hbn).trans hx4, by omega, hp, hm, by omega, by omega, by rw [his, preR_pre], ?_, ?_, ?_, fun z hz => ?_, ?_⟩
  · rw [List.map_append, List.map_append, h.nds]
    show _ ++ [X] = _ ++ [ndOf s.data.toList x]
    rw [hX]
  · rw [List.length_append, List.length_singleton]
    omega
  · rw [List.length_append, List.length_singleton]
    exact ho5
  · rcases List.mem_append.1 hz with hz | hz
    · refine ((h.kids z hz).keep fun k hk => ?_).mono fun k hk => fr k hk.1 (Nat.lt_of_lt_of_le hk.2.1 ho4.bel.size) (fun e => hk.2.2 e.symm)
      exact (hg5.block k (Nat.lt_of_lt_of_le hk.2.1 ho4.bel.size) (fun e => hk.2.2 e.symm)).trans (ho4.block (by have := hk.1; omega) hk.2.1)
    · obtain rfl : z = (X, A2, cq) := by simpa using hz
      have hne : ∀ k, lo ≤ k → some k ≠ (Value.slice A lE.length cc).ownBlock := fun k hk e => by have := (hown k e.symm).2; omega
      refine (hsl.keep fun k hk => ?_).mono fun k hk => fr k (by omega) (by omega) (hne k hk.1)
      exact (hg5.block k (by omega) (hne k hk.1)).trans (h24 k hk.2)
  · refine ⟨h4w.bel.trans ((below_grown hrow4 hg5 h4w.bel.size).mono (by omega)), fun k hk hs => (hg5.block k (Nat.lt_of_lt_of_le hs h4w.bel.size) (fun e => by have := (hown k e.symm).1; omega)).trans (h4w.oth k hk hs)⟩
/-- nodes is done -/
theorem nds_ok {f b : Nat} {e : Option UInt8} {s : ByteArray} {at_ deep many : Nat} {w wr W : World} {g : Nat} {A : Option Addr} {c j m : Nat} {lp : List PN} {lE : List Ek} {q : Nat} (h : NdsRun f b e s at_ deep many w g (.slice A lE.length c) wr j m lp lE) (ho : Only b wr W) (hb : b < w.heap.size) (hs : s.size ≤ 20000) (hd : deep ≤ 50)
    (hi : nodesD pvL f e (s.data.toList.drop at_) at_ many deep = preR lp (.ok [] (s.data.toList.drop q) q m)) (hq : q ≤ s.size) (hjq : j ≤ q) (hx : BxD W b s q deep m (-1)) : NdsEnd f b e s at_ deep many w (.returned (.slice A lE.length c)) W := by
  obtain ⟨hl, hsl⟩ := h.out ho hb hs hd rfl
  refine ⟨h.only.trans ho, ?_⟩
  rw [hi]
  show _ ∧ _
  rw [List.append_nil]
  exact ⟨rfl, Nat.le_trans h.aj hjq, hq, h.m5, ⟨A, c, by rw [hl], hsl⟩, hx⟩
theorem nds_bad {f b : Nat} {e : Option UInt8} {s : ByteArray} {at_ deep many : Nat} {w wr W : World} {g : Nat} {x : Value} {j m : Nat} {lp : List PN} {lE : List Ek} {q a2 m2 : Nat} {A : Option Addr} {n c : Nat} (h : NdsRun f b e s at_ deep many w g x wr j m lp lE) (ho : Only b wr W)
    (hi : nodesD pvL f e (s.data.toList.drop at_) at_ many deep = preR lp (.bad q)) (hq : q ≤ s.size) (hx : BxD W b s a2 deep m2 (q : Int)) : NdsEnd f b e s at_ deep many w (.returned (.slice A n c)) W := by
  refine ⟨h.only.trans ho, ?_⟩
  rw [hi]
  exact ⟨⟨A, n, c, rfl⟩, hq, a2, m2, hx⟩
set_option maxRecDepth 100000 in
set_option maxHeartbeats 4000000 in
theorem nodes_of (f : Nat) (hN : ∀ g, g < f → NodeC g) : NodesC f := by
  intro b e s at_ deep many w hB ha hs hdeep hmany hec hf
  have hb := hB.lt
  have hl : s.data.toList.length = s.size := Array.length_toList
  have hec2 : (e = none ∧ eB e = 0) ∨ ∃ c0, e = some c0 ∧ eB e = c0 ∧ closeC c0 = true := by
    cases e with
    | none => exact .inl ⟨rfl, rfl⟩
    | some c0 => exact .inr ⟨c0, rfl, rfl, hec c0 rfl⟩
  obtain ⟨eb, heb⟩ : ∃ eb, eB e = eb := ⟨_, rfl⟩
  rw [heb] at hec2 ⊢
  have HEC := Lib.hid hec2
  have HN := Lib.hid hN
  have HL := Lib.hid hl
  have hR0 : NdsRun f b e s at_ deep many w f (.slice none 0 0) w at_ many [] [] :=
    ⟨hB, Nat.le_refl _, ha, hmany, hf, Nat.le_refl _, (by cases nodesD pvL f e (s.data.toList.drop at_) at_ many deep <;> rfl), rfl, Nat.zero_le _, World.ownsRow_nil _ _ _ _, (fun q hq => by cases hq), Only.refl _ _⟩
  have HR0 := Lib.hid hR0
  clear hec2 hN hl hR0 hB hec heb
  go_enter Tryz.func20, Tryz.ntmps20
  go_wp2
  go_loopg [5] f (fun g x wr => (∃ (A : Option Addr) (n c : Nat), x = .slice A n c) ∧ ((∃ j m lp lE, Hid (NdsRun f b e s at_ deep many w g x wr j m lp lE)) ∨ ∃ p, Hid (NdsBad f b e s at_ deep many w wr p)))
  case atStart => exact ⟨⟨none, 0, 0, rfl⟩, .inl ⟨at_, many, [], [], HR0⟩⟩
  case round =>
    obtain ⟨⟨A, n, cc, rfl⟩, hrel⟩ := hrel
    rcases hrel with ⟨j, m, lp, lE, HR⟩ | ⟨p, HBD⟩
    · obtain ⟨⟨c0, c1, c2, c3, c4⟩, f1, f2, f3, f4⟩ := bx_cells HR.out.box
      obtain rfl : n = lE.length := by
        rcases HR.out.row.2 with ⟨e1, e2⟩ | ⟨_, _, _, e1, _⟩
        · injection e1 with _ e3 _
          omega
        · injection e1
      cases gk with
      | zero => exact absurd HR.out.fuel (by omega)
      | succ g =>
        have HSK := Lib.hid (docSkip_any b s j deep m (-1) wr HR.out.box HR.out.js (by omega))
        go_wp2_with fail
        refine HSK.out.mono ?_
        rintro e1 w1 ⟨rfl, hq, hx1, ho1⟩
        obtain ⟨q, hqe⟩ : ∃ q, j + skipN false (s.data.toList.drop j) = q := ⟨_, rfl⟩
        rw [hqe] at hq hx1
        have hdq : (s.data.toList.drop j).drop (skipN false (s.data.toList.drop j)) = s.data.toList.drop q := by rw [List.drop_drop, hqe]
        have HDQ := Lib.hid hdq
        have HQE := Lib.hid hqe
        have HX1 := Lib.hid hx1
        have HO1 := Lib.hid ho1
        clear c0 c1 c2 c3 c4 f1 f2 f3 f4 HSK hdq hqe hx1 ho1
        obtain ⟨⟨c0, c1, c2, c3, c4⟩, f1, f2, f3, f4⟩ := bx_cells HX1.out
        by_cases hend : q = s.size
        · subst hend
          have h1 : decide ((s.size : Int) ≤ (s.size : Int)) = true := decide_eq_true (by omega)
          have hnil : s.data.toList.drop s.size = [] := List.drop_eq_nil_of_le (by have := HL.out; omega)
          have HND : Hid (nodesD pvL f e (s.data.toList.drop at_) at_ many deep = preR lp (if e = none then .ok [] (s.data.toList.drop s.size) s.size m else .bad s.size)) := by
            show _ = _
            rw [HR.out.is, nodes_fin pvL (HDQ.out.trans hnil), HQE.out, hnil]
          clear hnil
          rcases HEC.out with ⟨e0, e1⟩ | ⟨c0, e0, e1, e2⟩
          · rw [if_pos e0] at HND
            subst e1
            go_wp2_with fail
            go_quiet (fail)
            go_wp2
            go_ret
            exact nds_ok HR.out (HO1.out.drewN _) hb hs hdeep HND.out (Nat.le_refl _) HR.out.js HX1.out
          · rw [if_neg (by rw [e0]; exact fun e => by cases e)] at HND
            have hc0 : 0 < eb.toNat := by
              subst e1
              rcases Nat.eq_zero_or_pos eb.toNat with h | h
              · have : eb = 0 := UInt8.toNat_inj.1 h
                rw [this] at e2
                cases e2
              · exact h
            have hc1 : decide ((0 : Int) < (eb.toNat : Int)) = true := decide_eq_true (by omega)
            clear e0 e1 e2
            go_wp2_with fail
            go_quiet (fail)
            go_wp2
            go_ret
            exact nds_bad (a2 := s.size) (m2 := m) HR.out ((HO1.out.drewN _).setCell 4 _) HND.out (Nat.le_refl _) (BxD.setBad (W := w1.drewN _) HX1.out (s.size : Int))
        · have hqs : q < s.size := by omega
          have h1 : decide ((s.size : Int) ≤ (q : Int)) = false := decide_eq_false (by omega)
          have h2 : (q : Int) < (s.size : Int) := by omega
          have h3 : (0 : Int) ≤ (q : Int) := by omega
          have hgt : s.data.toList[q]? = some s[q] := by rw [List.getElem?_eq_getElem (by have := HL.out; omega)]; rfl
          have hcr := drop_get hgt
          have HCR := Lib.hid hcr
          have HIN := Lib.hid (fun W => refIn_any ⟨#[41, 93, 125]⟩ s[q] W (by decide))
          rw [closeC_is] at HIN
          have hjq : j ≤ q := by have := HQE.out; omega
          clear hgt hcr
          cases hcl : closeC s[q] with
          | true =>
            rw [hcl] at HIN
            have HND : Hid (nodesD pvL f e (s.data.toList.drop at_) at_ many deep = preR lp (if e = some s[q] then .ok [] (s.data.toList.drop (q + 1)) (q + 1) m else .bad q)) := by
              show _ = _
              rw [HR.out.is, nodes_cls pvL (HDQ.out.trans HCR.out) hcl, HQE.out]
            have hways : (e = some s[q] ∧ eb = s[q]) ∨ (e ≠ some s[q] ∧ s[q] ≠ eb) := by
              rcases HEC.out with ⟨e0, e1⟩ | ⟨c0, e0, e1, e2⟩
              · refine .inr ⟨(by rw [e0]; exact fun h => (by cases h)), fun h => ?_⟩
                rw [h, e1] at hcl
                cases hcl
              · by_cases h : c0 = s[q]
                · exact .inl ⟨by rw [e0, h], by rw [e1, h]⟩
                · exact .inr ⟨by rw [e0]; exact fun h2 => h (by injection h2), fun h2 => h (by rw [h2, e1])⟩
            rcases hways with ⟨e0, e1⟩ | ⟨e0, e1⟩
            · rw [if_pos e0] at HND
              subst e1
              have hq1 : IntKind.i64.wrap ((q : Int) + 1) = ((q + 1 : Nat) : Int) := IntWalk.i64_in _ (by omega)
              have hx2 := HX1.out.setAt (q + 1)
              have hbs : ∀ W : World, (W.setCell ⟨b, 1, none⟩ (.int .i64 ((q : Int) + 1)) : World) = W.setCell ⟨b, 1, none⟩ (.int .i64 ((q + 1 : Nat) : Int)) := fun W => by rw [Int.natCast_add]; rfl
              clear e0 hcl
              go_wp2_with fail
              go_quiet (fail)
              go_wp2_with fail
              go_quiet (fail)
              go_wp2_with fail
              refine (HIN.out _).mono ?_
              rintro e2 wx ⟨rfl, rfl⟩
              go_wp2
              go_ret
              exact nds_ok HR.out ((HO1.out.drewN _).setCell 1 _) hb hs hdeep HND.out (by omega) (by omega) (BxD.setAt (W := w1.drewN _) HX1.out (q + 1))
            · rw [if_neg e0] at HND
              have hne : ((s[q].toNat : Int) != (eb.toNat : Int)) = true := by
                rw [bne, Bool.not_eq_true', beq_eq_false_iff_ne]
                exact fun h => e1 (UInt8.toNat_inj.1 (by omega))
              clear e0 e1 hcl
              go_wp2_with fail
              go_quiet (fail)
              go_wp2_with fail
              go_quiet (fail)
              go_wp2_with fail
              refine (HIN.out _).mono ?_
              rintro e2 wx ⟨rfl, rfl⟩
              go_wp2
              go_ret
              exact nds_bad (a2 := q) (m2 := m) HR.out ((HO1.out.drewN _).setCell 4 _) HND.out (by omega) (BxD.setBad (W := w1.drewN _) HX1.out (q : Int))
          | false =>
            rw [hcl] at HIN
            have HND : Hid (nodesD pvL f e (s.data.toList.drop at_) at_ many deep = preR lp (match nodeR pvL g (s.data.toList.drop q) q m deep with
                | .bad b => .bad b
                | .ok x s2 p2 m2 => preR [x] (nodesD pvL g e s2 p2 m2 deep))) := by
              show _ = _
              rw [HR.out.is, nodes_nod pvL (HDQ.out.trans HCR.out) hcl, HQE.out, HCR.out]
              cases nodeR pvL g (s[q] :: s.data.toList.drop (q + 1)) q m deep <;> rfl
            go_wp2_with fail
            go_quiet (fail)
            go_wp2_with fail
            go_quiet (fail)
            go_wp2_with fail
            refine (HIN.out _).mono ?_
            rintro e2 wx ⟨rfl, rfl⟩
            go_wp2_with fail
            refine ((HN.out g (by have := HR.out.gf; omega)) b s q deep m _ s[q] (s.data.toList.drop (q + 1)) (by exact HX1.out) HCR.out hcl hs hdeep HR.out.m5 (by have := HR.out.fuel; omega)).mono ?_
            rintro en w2 ⟨ho2, hm2⟩
            have HO2 : Hid (Only b wr w2) := (HO1.out.drewN _).trans ho2
            have HZ2 : Hid (wr.heap.size ≤ w2.heap.size) := HO2.out.bel.size
            clear c0 c1 c2 c3 c4 f1 f2 f3 f4
            cases hqq : nodeR pvL g (s.data.toList.drop q) q m deep with
            | bad p =>
              rw [hqq] at hm2 HND
              obtain ⟨⟨k, vk, vn, vs, t, A2, n2, cq, ln, co, rfl⟩, hp, a2, m2, hx2⟩ := hm2
              have hb3 : Below w2.heap.size w2 (w2.alloc (.cells #[.int .i64 k, .int .i64 vk, .int .i64 vn, .string vs, .string t, .slice A2 n2 cq, .int .i64 ln, .int .i64 co] 37)) := (Below.refl _ _).alloc (Nat.le_refl _) _
              have HX3 := Lib.hid (hx2.next hb3)
              have HO3 := Lib.hid (HO2.out.below hb3 (Nat.le_of_lt hx2.lt))
              have hpd : decide ((p : Int) < 0) = false := decide_eq_false (by omega)
              clear hb3 hx2 hqq ho2
              obtain ⟨⟨c0, c1, c2, c3, c4⟩, f1, f2, f3, f4⟩ := bx_cells HX3.out
              unfold ndV
              go_wp2
              go_roundg g
              case measure => omega
              case rel => exact ⟨⟨A, _, cc, rfl⟩, .inr ⟨p, ⟨hp, HND.out, ⟨a2, m2, HX3.out⟩, HR.out.only.trans HO3.out⟩⟩⟩
            | ok x s2 p2 m2 =>
              rw [hqq] at hm2 HND
              obtain ⟨g1, g2, g3, g4, ⟨A2, cq, rfl, hsl⟩, hx2⟩ := hm2
              subst g1
              obtain ⟨X, hX⟩ : ∃ X, ndOf s.data.toList x = X := ⟨_, rfl⟩
              rw [hX] at hsl
              rw [hX]
              have HXX := Lib.hid hX
              have hb3 : Below w2.heap.size w2 (w2.alloc (.cells #[.int .i64 X.k, .int .i64 X.vk, .int .i64 X.vn, .string X.vs, .string X.s, .slice A2 X.kids.length cq, .int .i64 X.ln, .int .i64 X.co] 37)) := (Below.refl _ _).alloc (Nat.le_refl _) _
              have hn3 := nd_cells (NdB.new w2 X.k X.vk X.vn X.vs X.s A2 X.kids.length cq X.ln X.co)
              have HX3 := Lib.hid (hx2.next hb3)
              have HO3 := Lib.hid (HO2.out.below hb3 (Nat.le_of_lt hx2.lt))
              have HSL := Lib.hid hsl
              have HB3 := Lib.hid hb3
              clear hb3 hx2 hqq ho2 hX hsl
              obtain ⟨⟨c0, c1, c2, c3, c4⟩, f1, f2, f3, f4⟩ := bx_cells HX3.out
              obtain ⟨n0, n1, n2, n3, n4, n5, n6, n7⟩ := hn3
              unfold ndV
              go_upto_region 17 with (fail)
              obtain ⟨w3, hw3⟩ : ∃ w3, w2.alloc (.cells #[.int .i64 X.k, .int .i64 X.vk, .int .i64 X.vn, .string X.vs, .string X.s, .slice A2 X.kids.length cq, .int .i64 X.ln, .int .i64 X.co] 37) = w3 := ⟨_, rfl⟩
              have hz3 : w3.heap.size = w2.heap.size + 1 := by rw [← hw3]; simp
              rw [hw3] at HX3 HO3 HB3 n0 n1 n2 n3 n4 n5 n6 n7 ⊢
              clear hw3 c0 c1 c2 c3 c4 f1 f2 f3 f4
              have hb4 : Below w3.heap.size w3 (w3.alloc (.cells #[.int .i64 X.k, .int .i64 X.vk, .int .i64 X.vn, .string X.vs, .string X.s, .slice A2 X.kids.length cq, .int .i64 X.ln, .int .i64 X.co] 37)) := (Below.refl _ _).alloc (Nat.le_refl _) _
              have hnw : ∀ i u, (cellsN X (.slice A2 X.kids.length cq))[i]? = some u → (w3.alloc (.cells #[.int .i64 X.k, .int .i64 X.vk, .int .i64 X.vn, .string X.vs, .string X.s, .slice A2 X.kids.length cq, .int .i64 X.ln, .int .i64 X.co] 37)).cell? ((⟨w3.heap.size, 0, none⟩ : Addr).add i) = some u := fun i u hu => litN w3 X A2 X.kids.length cq i u hu
              have HX4 := Lib.hid (HX3.out.next hb4)
              have HO4 := Lib.hid (HO3.out.below hb4 (Nat.le_of_lt HX3.out.lt))
              have H24 : Hid (∀ k, k < w2.heap.size → (w3.alloc (.cells #[.int .i64 X.k, .int .i64 X.vk, .int .i64 X.vn, .string X.vs, .string X.s, .slice A2 X.kids.length cq, .int .i64 X.ln, .int .i64 X.co] 37)).heap[k]? = w2.heap[k]?) := fun k hk => (hb4.block k (by omega)).trans (HB3.out.block k hk)
              have HZ4 : Hid (w2.heap.size ≤ (w3.alloc (.cells #[.int .i64 X.k, .int .i64 X.vk, .int .i64 X.vn, .string X.vs, .string X.s, .slice A2 X.kids.length cq, .int .i64 X.ln, .int .i64 X.co] 37)).heap.size) := Nat.le_trans HB3.out.size hb4.size
              have HRW := Lib.hid (row_only HR.out.row HO4.out hb)
              have HNW := Lib.hid hnw
              have HZW : Hid (w.heap.size ≤ (w3.alloc (.cells #[.int .i64 X.k, .int .i64 X.vk, .int .i64 X.vn, .string X.vs, .string X.s, .slice A2 X.kids.length cq, .int .i64 X.ln, .int .i64 X.co] 37)).heap.size) := Nat.le_trans HR.out.only.bel.size HO4.out.bel.size
              have HLE : Hid (lE.length ≤ 200000) := by have h1 := HR.out.len; have h2 := HR.out.js; show _ ≤ _; omega
              clear hb4 hnw
              clear hz3
              go_wp2_with (at_builtin; refine wpList_append_node rfl _ _ rfl w.heap.size (.slice A lE.length cc) lE rfl HRW.out (X, A2, cq) ⟨w3.heap.size, 0, none⟩ rfl HNW.out HLE.out HZW.out ?_; intro g1 cg w5 ho5 hg5 hv5; have HFIN := Lib.hid (HR.out.more (x := x) hb HO4.out HX4.out ho5 hg5 hv5 HND.out HXX.out hjq g2 g3 g4 HO1.out.bel.size H24.out HZ4.out HSL.out); clear ho5 hg5 hv5)
              go_roundg g
              case measure => omega
              case rel => exact ⟨⟨_, _, _, rfl⟩, .inl ⟨_, _, _, _, HFIN⟩⟩
    · obtain ⟨j, m, hx⟩ := HBD.out.box
      obtain ⟨⟨c0, c1, c2, c3, c4⟩, f1, f2, f3, f4⟩ := bx_cells hx
      have h1 : decide ((p : Int) < 0) = false := decide_eq_false (by omega)
      have HX := Lib.hid hx
      clear hx
      go_wp2
      go_ret
      refine ⟨HBD.out.only, ?_⟩
      rw [HBD.out.is]
      exact ⟨⟨_, _, _, rfl⟩, HBD.out.le, _, _, HX.out⟩
end Go.Proofs.YthbighnkohjfnaaGreatDoor
