/-
  WRITING OVER WHAT WAS ANSWERED: worlds that differ in bytes' blocks alone; CONTRACT: same, at pairs that are the document's.
-/
import Derived.Test.YtohpilamoglhcaaQRf7
import Derived.StillTailTactics
namespace Go.Proofs.Ytohpilamoglhcaa
open Go.RowKit

/-- blocks below B are kept, and all that are no bytes -/
structure KeepU (B : Nat) (w w' : World) : Prop where
  low : Below B w w'
  blk : ∀ (b : Nat) (cs : Array Value) (t : TypeId) (fr : Nat × Nat), t ≠ 5 → w.heap[b]? = some (Obj.cells cs t fr) → w'.heap[b]? = some (Obj.cells cs t fr)
theorem KeepU.refl (B : Nat) (w : World) : KeepU B w w := ⟨Below.refl _ _, fun _ _ _ _ _ h => h⟩
theorem KeepU.trans {B : Nat} {a b c : World} (h : KeepU B a b) (k : KeepU B b c) : KeepU B a c := ⟨h.low.trans k.low, fun b cs t fr ht hb => k.blk b cs t fr ht (h.blk b cs t fr ht hb)⟩
theorem KeepU.of_below {B : Nat} {w w' : World} (h : Below w.heap.size w w') (hB : B ≤ w.heap.size) : KeepU B w w' := ⟨h.mono hB, fun b _ _ _ _ hb => (h.block b (Array.getElem?_eq_some_iff.1 hb).1).trans hb⟩
theorem KeepU.mono {B B' : Nat} {w w' : World} (h : KeepU B w w') (hB : B' ≤ B) : KeepU B' w w' := ⟨h.low.mono hB, h.blk⟩
theorem KeepU.store {B g k : Nat} {w : World} {cs : Array Value} {fr : Nat × Nat} (u : Value) (hg : w.heap[g]? = some (.cells cs 5 fr)) (hB : B ≤ g) : KeepU B w (w.setCell ⟨g, k, none⟩ u) := by
  refine ⟨(Below.refl B w).setCell (p := ⟨g, k, none⟩) hB u, fun b cs2 t fr2 ht hb => ?_⟩
  by_cases e : b = g
  · subst e
    rw [hg] at hb
    injection hb with hb
    injection hb with _ hb
    exact absurd hb.symm ht
  · exact (heap_setCell_other w ⟨g, k, none⟩ b u e).trans hb
theorem KeepU.row {B B' s n : Nat} {w w' : World} {t : TypeId} {v : Value} {xs : List Value} (h : KeepU B w w') (ht : t ≠ 5) (hr : w.ownsRow B' t s v n xs) : w'.ownsRow B' t s v n xs := by
  refine ⟨hr.1, ?_⟩
  rcases hr.2 with h0 | ⟨g, cap, cur, e, hb, hg, r⟩
  · exact .inl h0
  · exact .inr ⟨g, cap, cur, e, hb, h.blk _ _ _ _ ht hg, r⟩
theorem KeepU.slR {B : Nat} {w w' : World} {A : Option Addr} {L : List Pr} (h : KeepU B w w') (hs : SlR w A L) : SlR w' A L := fun hl => by
  obtain ⟨g, o, e, ⟨cs, fr, hg⟩, hc⟩ := hs hl
  have h2 := h.blk _ _ _ _ (by decide) hg
  have hcell : ∀ a : Addr, a.block = g → w'.cell? a = w.cell? a := fun a ha => World.cell?_of_block (w := w) (by rw [ha, h2, hg])
  exact ⟨g, o, e, ⟨cs, fr, h2⟩, fun j p hp => ⟨(hcell _ rfl).trans (hc j p hp).1, (hcell _ rfl).trans (hc j p hp).2⟩⟩
/-- a block that is no bytes reads as before -/
theorem KeepU.cell {B : Nat} {w w' : World} (h : KeepU B w w') {b : Nat} {cs : Array Value} {t : TypeId} {fr : Nat × Nat} (hb : w.heap[b]? = some (.cells cs t fr)) (ht : t ≠ 5) (j : Nat) : w'.cell? ⟨b, j, none⟩ = w.cell? ⟨b, j, none⟩ :=
  World.cell?_of_block (w := w) (by show w'.heap[b]? = w.heap[b]?; rw [h.blk _ _ _ _ ht hb, hb])
theorem grown_set (w : World) (g k : Nat) (u : Value) : w.grownBy (w.setCell ⟨g, k, none⟩ u) (some g) := ⟨rfl, rfl, rfl, by simp, fun k' _ hk => heap_setCell_other w _ k' u (fun e => hk (by rw [e]))⟩
theorem BV.far {w : World} {B g k : Nat} {u v : Value} {l : By} (h : BV w B v l) (hne : v.ownBlock ≠ some g) : BV (w.setCell ⟨g, k, none⟩ u) B v l := by
  obtain ⟨A, c, e, h⟩ := h
  subst e
  exact ⟨A, c, rfl, World.ownsRow.kept h (grown_set w g k u) (.inr hne)⟩
theorem cells_set (l : By) (k : Nat) (d : UInt8) : (cellsL l).set k (.int .u8 d.toNat) = cellsL (l.set k d) := by
  unfold cellsL
  rw [List.map_set]
/-- a byte of a call's own is written -/
theorem ownB_set {w : World} {B g n c k : Nat} {l : By} (d : UInt8) (h : OwnB w B (.slice (some ⟨g, 0, none⟩) n c) l) (hn : n = l.length) : OwnB (w.setCell ⟨g, k, none⟩ (.int .u8 d.toNat)) B (.slice (some ⟨g, 0, none⟩) n c) (l.set k d) := by
  subst hn
  have := (World.ownsRow.stored (show w.ownsRow B 5 1 (.slice (some ⟨g, 0, none⟩) l.length c) l.length (cellsL l) from h) k (.int .u8 d.toNat)).1
  rw [cells_set] at this
  show World.ownsRow _ _ _ _ _ _ _
  rw [List.length_set]
  exact this
theorem ownB_some {w : World} {B n c : Nat} {A : Option Addr} {l : By} (h : OwnB w B (.slice A n c) l) (hl : 0 < l.length) : ∃ g cs, A = some ⟨g, 0, none⟩ ∧ n = l.length ∧ B ≤ g ∧ w.heap[g]? = some (.cells cs 5 (0, 0)) := by
  have h : w.ownsRow B 5 1 (.slice A n c) l.length (cellsL l) := h
  rcases h.2 with ⟨e, h0⟩ | ⟨g, cap, cur, e, hb, hg, _⟩
  · omega
  · injection e with e1 e2 e3
    exact ⟨g, cur, e1, e2, hb, hg⟩
theorem ownB_max {w : World} {B : Nat} {v : Value} {l : By} (h : OwnB w B v l) : l.length ≤ 9223372036854775807 := by
  rcases h.2 with ⟨_, h0⟩ | ⟨g, cap, cur, _, _, _, h1, h2, _⟩
  · omega
  · have : maxLen = 9223372036854775807 := by decide
    omega
theorem blksQ_app (l m : List Q3) : blksQ (l ++ m) = blksQ l ++ blksQ m := by
  unfold blksQ
  rw [List.flatMap_append, List.filterMap_append]
theorem mem_blksQ {qs : List Q3} {g : Nat} {r : Q3} (hr : r ∈ qs) (h : r.2.1.ownBlock = some g ∨ r.2.2.ownBlock = some g) : g ∈ blksQ qs := by
  unfold blksQ
  refine List.mem_filterMap.2 ⟨some g, List.mem_flatMap.2 ⟨r, hr, ?_⟩, rfl⟩
  rcases h with h | h <;> simp [h]
theorem blks_apart {qs : List Q3} (h : (blksQ qs).Pairwise (· < ·)) {i : Nat} {q : Q3} (hq : qs[i]? = some q) :
    (∀ g, q.2.1.ownBlock = some g → q.2.2.ownBlock ≠ some g ∧ ∀ r ∈ qs.drop (i + 1), r.2.1.ownBlock ≠ some g ∧ r.2.2.ownBlock ≠ some g) ∧
    (∀ g, q.2.2.ownBlock = some g → ∀ r ∈ qs.drop (i + 1), r.2.1.ownBlock ≠ some g ∧ r.2.2.ownBlock ≠ some g) := by
  have hs : qs = qs.take i ++ ([q] ++ qs.drop (i + 1)) := by
    obtain ⟨hi, rfl⟩ := List.getElem?_eq_some_iff.1 hq
    rw [List.singleton_append, List.getElem_cons_drop, List.take_append_drop]
  rw [hs, blksQ_app, blksQ_app] at h
  have h1 := List.pairwise_append.1 (List.pairwise_append.1 h).2.1
  have hmid : ∀ g, (q.2.1.ownBlock = some g ∨ q.2.2.ownBlock = some g) → ∀ r ∈ qs.drop (i + 1), r.2.1.ownBlock ≠ some g ∧ r.2.2.ownBlock ≠ some g := fun g hg r hr =>
    ⟨fun e => Nat.lt_irrefl g (h1.2.2 g (mem_blksQ (List.mem_singleton.2 rfl) hg) g (mem_blksQ hr (.inl e))), fun e => Nat.lt_irrefl g (h1.2.2 g (mem_blksQ (List.mem_singleton.2 rfl) hg) g (mem_blksQ hr (.inr e)))⟩
  refine ⟨fun g hg => ⟨fun e => ?_, hmid g (.inl hg)⟩, fun g hg => hmid g (.inr hg)⟩
  have h2 := h1.1
  unfold blksQ at h2
  simp [hg, e] at h2
/-- the pairs from a place on have their bytes still -/
def RestQ (w : World) (B : Nat) (qs : List Q3) : Prop := ∀ q ∈ qs, BV w B q.2.1 q.1.1 ∧ BV w B q.2.2 q.1.2
theorem RestQ.far {w : World} {B g k : Nat} {u : Value} {qs : List Q3} (h : RestQ w B qs) (hne : ∀ r ∈ qs, r.2.1.ownBlock ≠ some g ∧ r.2.2.ownBlock ≠ some g) : RestQ (w.setCell ⟨g, k, none⟩ u) B qs := fun r hr =>
  ⟨(h r hr).1.far (hne r hr).1, (h r hr).2.far (hne r hr).2⟩
theorem u8_next (c : UInt8) : ∃ d : UInt8, IntKind.u8.wrap ((c.toNat : Int) + 1) = ((d.toNat : Nat) : Int) := by
  refine ⟨c + 1, ?_⟩
  rw [UInt8.toNat_add]
  have := c.toNat_lt
  simp [IntKind.wrap, IntKind.bits, IntKind.signed]
theorem KeepU.drewN {B : Nat} {w w' : World} (h : KeepU B w w') (n : Nat) : KeepU B w (w'.drewN n) := ⟨qb_dn h.low n, h.blk⟩
theorem rowQ_at {w : World} {B n c : Nat} {A : Option Addr} {qs : List Q3} (h : w.ownsRow B 93 2 (.slice A n c) qs.length (qs.flatMap cellsQ)) {i : Nat} {q : Q3} (hq : qs[i]? = some q) : ∃ g cs, A = some ⟨g, 0, none⟩ ∧ w.heap[g]? = some (.cells cs 93 (0, 0)) ∧ w.cell? ⟨g, i * 2, none⟩ = some q.2.1 ∧ w.cell? ⟨g, i * 2 + 1, none⟩ = some q.2.2 := by
  have hi : i < qs.length := (List.getElem?_eq_some_iff.1 hq).1
  rcases h.2 with ⟨e, h0⟩ | ⟨g, cap, cur, e, _, hgb, _⟩
  · omega
  · injection e with e1 e2 e3
    subst e1 e2 e3
    refine ⟨g, cur, rfl, hgb, ?_, ?_⟩
    · have := h.cellAt (i * 2 + 0) (by omega)
      rw [flatQ qs i 0 (by decide), hq] at this
      simpa [cellsQ] using this
    · have := h.cellAt (i * 2 + 1) (by omega)
      rw [flatQ qs i 1 (by decide), hq] at this
      simpa [cellsQ] using this
theorem ownB_byte {w : World} {B g n c k : Nat} {l : By} (h : OwnB w B (.slice (some ⟨g, 0, none⟩) n c) l) (hn : n = l.length) (hk : k < l.length) : ∃ x : UInt8, w.cell? ⟨g, k, none⟩ = some (.int .u8 x.toNat) ∧ w.frozen? ⟨g, k, none⟩ = false := by
  subst hn
  have h : w.ownsRow B 5 1 (.slice (some ⟨g, 0, none⟩) l.length c) l.length (cellsL l) := h
  refine ⟨l[k], ?_, h.frozenAt k⟩
  rw [h.cellAt k (by omega)]
  unfold cellsL
  rw [List.getElem?_map, List.getElem?_eq_getElem hk]
  rfl
set_option maxRecDepth 100000 in
set_option maxHeartbeats 4000000 in
theorem same_any (A A' : Option Addr) (c c' n B : Nat) (qs : List Q3) (L : List Pr) (w : World) (hq : OwnQ w B (.slice A n c) qs) (hm : qs.map (·.1) = L) (hn : n = L.length) (hs : SlR w A' L) (hl : n ≤ 1000000) :
    Calls Try.prog 20 #[.slice A n c, .slice A' n c'] w fun e w' => e = .returned (.bool true) ∧ KeepU B w w' := by
  have HQ := Lib.hid hq
  have HS := Lib.hid hs
  have HM := Lib.hid hm
  have HN := Lib.hid hn
  have HQL : Hid (qs.length = n) := by show _ = _; rw [hn, ← hm, List.length_map]
  clear hq hs hm hn
  go_enter Try.func20, Try.ntmps20
  go_wp2_with fail
  go_loopg [15] n (fun gk x wr => ∃ (j : Nat), x = .int .i64 (j : Nat) ∧ j + gk = n ∧ Hid (RestQ wr B (qs.drop j)) ∧ Hid (KeepU B w wr))
  case atStart => exact ⟨0, rfl, by omega, HQ.out.el, KeepU.refl _ _⟩
  case round =>
    obtain ⟨j, rfl, hj, HR, HK⟩ := hrel
    cases gk with
    | zero =>
      have hjz : ¬ ((j : Int) < (n : Int)) := by omega
      have hjz' : decide ((j : Int) < (n : Int)) = false := decide_eq_false hjz
      go_wp2
      go_ret
      exact ⟨rfl, HK.out⟩
    | succ gk0 =>
      have hjz : ((j : Int) < (n : Int)) := by omega
      have hjz' : decide ((j : Int) < (n : Int)) = true := decide_eq_true hjz
      have hj0 : (0 : Int) ≤ (j : Int) := by omega
      obtain ⟨q, hqj⟩ : ∃ q, qs[j]? = some q := ⟨_, List.getElem?_eq_getElem (by rw [HQL.out]; omega)⟩
      have hap := blks_apart HQ.out.ap hqj
      have hpj : L[j]? = some q.1 := by rw [← HM.out, List.getElem?_map, hqj]; rfl
      have hmem : q ∈ qs.drop j := List.mem_of_getElem? (i := 0) (by rw [List.getElem?_drop, Nat.add_zero]; exact hqj)
      obtain ⟨g, cs, rfl, hg, hc1, hc2⟩ := rowQ_at HQ.out.row hqj
      obtain ⟨g2, o2, rfl, ⟨cs2, fr2, hg2⟩, hcR⟩ := HS.out (fun e => by rw [e] at hpj; simp at hpj)
      obtain ⟨p, u1, u2⟩ := q
      obtain ⟨⟨H1, k1, e1, ho1⟩, ⟨H2, k2, e2, ho2⟩⟩ := HR.out _ hmem
      simp only at e1 e2 ho1 ho2 hc1 hc2 hpj hap
      subst e1 e2
      have HAP := Lib.hid hap
      have HC1 : Hid (∀ X, KeepU B w X → X.cell? ⟨g, j * 2, none⟩ = some (.slice H1 p.1.length k1)) := fun X hX => (hX.cell hg (by decide) _).trans hc1
      have HC2 : Hid (∀ X, KeepU B w X → X.cell? ⟨g, j * 2 + 1, none⟩ = some (.slice H2 p.2.length k2)) := fun X hX => (hX.cell hg (by decide) _).trans hc2
      have HD1 : Hid (∀ X, KeepU B w X → X.cell? ⟨g2, o2 + j * 2, none⟩ = some (.string ⟨p.1.toArray⟩)) := fun X hX => (hX.cell hg2 (by decide) _).trans (hcR j _ hpj).1
      have HD2 : Hid (∀ X, KeepU B w X → X.cell? ⟨g2, o2 + j * 2 + 1, none⟩ = some (.string ⟨p.2.toArray⟩)) := fun X hX => (hX.cell hg2 (by decide) _).trans (hcR j _ hpj).2
      have HO1 := Lib.hid ho1
      have HO2 := Lib.hid ho2
      have HRD : Hid (RestQ wr B (qs.drop (j + 1))) := fun r hr => HR.out r (by
        have : qs.drop (j + 1) = (qs.drop j).drop 1 := by rw [List.drop_drop]
        rw [this] at hr
        exact List.mem_of_mem_drop hr)
      have hs1 : ∀ n, (convert 57 9 (.slice H1 p.1.length k1)).run Try.prog (wr.drewN n) = .ok (.string ⟨p.1.toArray⟩) (wr.drewN n) := fun n => slB_string (W := wr.drewN n) (B := wr.heap.size) (SlB.of_own ho1).2 k1
      have hs2 : ∀ n, (convert 57 9 (.slice H2 p.2.length k2)).run Try.prog (wr.drewN n) = .ok (.string ⟨p.2.toArray⟩) (wr.drewN n) := fun n => slB_string (W := wr.drewN n) (B := wr.heap.size) (SlB.of_own ho2).2 k2
      have e1 : (p.1 == p.1) = true := beq_self_eq_true _
      have e2 : (p.2 == p.2) = true := beq_self_eq_true _
      have q1 := HC1.out wr HK.out
      have q2 := HC2.out wr HK.out
      have q3 := HD1.out wr HK.out
      have q4 := HD2.out wr HK.out
      clear hqj hap hpj hmem hg hc1 hc2 hg2 hcR ho1 ho2 HR
      go_wp2_with fail
      go_quiet (fail)
      have HK1 := Lib.hid (HK.out.drewN nq)
      have HO1' := Lib.hid (HO1.out.next (qb_dn (Below.refl _ _) nq))
      have HO2' : Hid (BV (wr.drewN nq) B (.slice H2 p.2.length k2) p.2) := ⟨H2, k2, rfl, HO2.out.next (qb_dn (Below.refl _ _) nq)⟩
      have HRD' : Hid (RestQ (wr.drewN nq) B (qs.drop (j + 1))) := fun r hr => ⟨(HRD.out r hr).1.next (qb_dn (Below.refl _ _) nq), (HRD.out r hr).2.next (qb_dn (Below.refl _ _) nq)⟩
      clear HK HO1 HO2 HRD hs1 hs2 e1 e2 q3 q4
      go_wp2_with fail
      clear q1 q2
      go_loopg [50] p.1.length (fun gk x wr => ∃ (k : Nat) (l' : By), x = .int .i64 (k : Nat) ∧ k + gk = p.1.length ∧ Hid (l'.length = p.1.length) ∧ Hid (OwnB wr B (.slice H1 p.1.length k1) l') ∧ Hid (BV wr B (.slice H2 p.2.length k2) p.2) ∧ Hid (RestQ wr B (qs.drop (j + 1))) ∧ Hid (KeepU B w wr))
      case atStart => exact ⟨0, p.1, rfl, by omega, rfl, HO1'.out, HO2'.out, HRD'.out, HK1.out⟩
      case round =>
        obtain ⟨k, l', rfl, hk, HLL, HO, HV, HRR, HKK⟩ := hrel
        cases gk with
        | succ gk1 =>
          have hmx : p.1.length ≤ 9223372036854775807 := by rw [← HLL.out]; exact ownB_max HO.out
          have hkz : ((k : Int) < (p.1.length : Int)) := by omega
          have hkz' : decide ((k : Int) < (p.1.length : Int)) = true := decide_eq_true hkz
          have hk0 : (0 : Int) ≤ (k : Int) := by omega
          obtain ⟨g1, cs1, rfl, hnn, hB1, hg1⟩ := ownB_some HO.out (by rw [HLL.out]; omega)
          obtain ⟨x, hx, hf⟩ := ownB_byte (k := k) HO.out HLL.out.symm (by rw [HLL.out]; omega)
          obtain ⟨d, hd⟩ := u8_next x
          have q1 := HC1.out wr HKK.out
          have hap := HAP.out.1 g1 rfl
          have HN1 := Lib.hid (ownB_set (w := wr.drew) (k := k) d (HO.out.next (qb_dn (Below.refl _ _) 1)) HLL.out.symm)
          have HN2 : Hid (BV (wr.drew.setCell ⟨g1, k, none⟩ (.int .u8 d.toNat)) B (.slice H2 p.2.length k2) p.2) := BV.far (HV.out.next (qb_dn (Below.refl _ _) 1)) hap.1
          have HN3 : Hid (RestQ (wr.drew.setCell ⟨g1, k, none⟩ (.int .u8 d.toNat)) B (qs.drop (j + 1))) := RestQ.far (w := wr.drew) (fun r hr => ⟨(HRR.out r hr).1.next (qb_dn (Below.refl _ _) 1), (HRR.out r hr).2.next (qb_dn (Below.refl _ _) 1)⟩) hap.2
          have HN4 : Hid (KeepU B w (wr.drew.setCell ⟨g1, k, none⟩ (.int .u8 d.toNat))) := (HKK.out.drewN 1).trans (KeepU.store (w := wr.drew) _ hg1 hB1)
          have HN5 : Hid ((l'.set k d).length = p.1.length) := by show _ = _; rw [List.length_set]; exact HLL.out
          clear hap hg1 hB1 hnn
          go_wp2_with fail
          go_still_tail 16, (by kernel_rfl)
          change wpList _ _ _ _ _ wr.drew
          have y0 : wr.drew.cell? ⟨g1, k, none⟩ = some (.int .u8 x.toNat) := hx
          have y1 : wr.drew.frozen? ⟨g1, k, none⟩ = false := hf
          obtain ⟨wd, hwd⟩ : ∃ wd, wr.drew = wd := ⟨_, rfl⟩
          rw [hwd] at y0 y1 HN1 HN2 HN3 HN4 ⊢
          clear hx hf hwd q1
          go_wp2
          go_roundg gk1
          case measure => omega
          case rel => exact ⟨k + 1, _, by go_num, by omega, HN5.out, HN1.out, HN2.out, HN3.out, HN4.out⟩
        | zero =>
          have hkz : ¬ ((k : Int) < (p.1.length : Int)) := by omega
          have hkz' : decide ((k : Int) < (p.1.length : Int)) = false := decide_eq_false hkz
          obtain ⟨H9, k9, e9, ho9⟩ := HV.out
          cases e9
          have HO9 := Lib.hid ho9
          have q2 := HC2.out wr HKK.out
          clear ho9 HO
          go_wp2_with fail
          clear q2
          go_loopg [76] p.2.length (fun gk x wr => ∃ (k : Nat) (l' : By), x = .int .i64 (k : Nat) ∧ k + gk = p.2.length ∧ Hid (l'.length = p.2.length) ∧ Hid (OwnB wr B (.slice H2 p.2.length k2) l') ∧ Hid (RestQ wr B (qs.drop (j + 1))) ∧ Hid (KeepU B w wr))
          case atStart => exact ⟨0, p.2, rfl, by omega, rfl, HO9.out, HRR.out, HKK.out⟩
          case round =>
            obtain ⟨k, l', rfl, hk, HLL, HO, HRR, HKK⟩ := hrel
            cases gk with
            | succ gk1 =>
              have hmx : p.2.length ≤ 9223372036854775807 := by rw [← HLL.out]; exact ownB_max HO.out
              have hkz : ((k : Int) < (p.2.length : Int)) := by omega
              have hkz' : decide ((k : Int) < (p.2.length : Int)) = true := decide_eq_true hkz
              have hk0 : (0 : Int) ≤ (k : Int) := by omega
              obtain ⟨g1, cs1, rfl, hnn, hB1, hg1⟩ := ownB_some HO.out (by rw [HLL.out]; omega)
              obtain ⟨x, hx, hf⟩ := ownB_byte (k := k) HO.out HLL.out.symm (by rw [HLL.out]; omega)
              obtain ⟨d, hd⟩ := u8_next x
              have q2 := HC2.out wr HKK.out
              have hap := HAP.out.2 g1 rfl
              have HN1 := Lib.hid (ownB_set (w := wr.drew) (k := k) d (HO.out.next (qb_dn (Below.refl _ _) 1)) HLL.out.symm)
              have HN3 : Hid (RestQ (wr.drew.setCell ⟨g1, k, none⟩ (.int .u8 d.toNat)) B (qs.drop (j + 1))) := RestQ.far (w := wr.drew) (fun r hr => ⟨(HRR.out r hr).1.next (qb_dn (Below.refl _ _) 1), (HRR.out r hr).2.next (qb_dn (Below.refl _ _) 1)⟩) hap
              have HN4 : Hid (KeepU B w (wr.drew.setCell ⟨g1, k, none⟩ (.int .u8 d.toNat))) := (HKK.out.drewN 1).trans (KeepU.store (w := wr.drew) _ hg1 hB1)
              have HN5 : Hid ((l'.set k d).length = p.2.length) := by show _ = _; rw [List.length_set]; exact HLL.out
              clear hap hg1 hB1 hnn
              go_wp2_with fail
              go_still_tail 16, (by kernel_rfl)
              change wpList _ _ _ _ _ wr.drew
              have y0 : wr.drew.cell? ⟨g1, k, none⟩ = some (.int .u8 x.toNat) := hx
              have y1 : wr.drew.frozen? ⟨g1, k, none⟩ = false := hf
              obtain ⟨wd, hwd⟩ : ∃ wd, wr.drew = wd := ⟨_, rfl⟩
              rw [hwd] at y0 y1 HN1 HN3 HN4 ⊢
              clear hx hf hwd q2
              go_wp2
              go_roundg gk1
              case measure => omega
              case rel => exact ⟨k + 1, _, by go_num, by omega, HN5.out, HN1.out, HN3.out, HN4.out⟩
            | zero =>
              have hkz : ¬ ((k : Int) < (p.2.length : Int)) := by omega
              have hkz' : decide ((k : Int) < (p.2.length : Int)) = false := decide_eq_false hkz
              clear HO
              go_wp2
              go_roundg gk0
              case measure => omega
              case rel => exact ⟨j + 1, by go_num, by omega, HRR.out, HKK.out⟩
end Go.Proofs.Ytohpilamoglhcaa
