import Derived.RangeFuncCalls
import Derived.TacticsIn
import Derived.OrdersIn
import Derived.Test.YtofmfainhflmmaaJZCmp
import Derived.Maps.OwnIn
import Derived.RangeFuncWrites
import Derived.Test.YtofmfainhflmmaaJZMeet
import Derived.Test.YtofmfainhflmmaaJZMarks
import Derived.Test.YtofmfainhflmmaaJZRestP
import Derived.Test.YtofmfainhflmmaaJZAgree2
import Derived.Test.YtofmfainhflmmaaJZPlaces
import Derived.Test.YtofmfainhflmmaaJZRefMay
/-
  A DRAWN REGION IN A ROUND of a range over a function: walked as a plain one, where it defers nothing.
-/
namespace Go.Proofs.Ytofmfainhflmmaa
open Go.RowKit

/-- what a region ends in: behind its last operation alone -/
def onlyN (K : Act → World → Prop) : Exit → Act → World → Prop
  | .normal, a, w => K a w
  | _, _, _ => False
theorem not_lets {K : Act → World → Prop} (h : LetsOut (onlyN K)) : False := by
  obtain ⟨a, w, h⟩ := h
  exact h
theorem onlyN_to {K : Act → World → Prop} {Q : Exit → Act → World → Prop} (hK : ∀ a w, K a w → Q .normal a w) : ∀ e a w, onlyN K e a w → Q e a w
  | .normal, a, w, h => hK a w h
theorem oper_round {P : Program} {l n : Nat} {o : Oper} {a : Act} {w : World} {next : Act → World → Prop} {K : Act → World → Prop} {Q : Exit → Act → World → Prop} (hd : ∀ c, o.op ≠ .defer c) (h : Oper.wp P o a w next (onlyN K)) :
    Oper.wpIn (Fence.wide.inRound l) n P o a w next Q := by
  have hwd : (Fence.wide.inRound l).depth.isSome = true → 1 ≤ n := fun h => by cases h
  refine ⟨fun f hf => trivial, ?_⟩
  rw [show (Fence.wide.inRound l).round = some l from rfl, Oper.semAt_some l _ o hd]
  unfold Oper.wp at h
  generalize (execOp a.eval o).run P w = r at h ⊢
  cases r with
  | ok x w' =>
    cases x with
    | value v => exact h
    | skip => exact h
    | defer d => exact h
    | enter f args =>
      refine ⟨hwd, CallsIn.inRound l (callsIn_wide.2 (Calls.mono h ?_))⟩
      intro e w'' he
      cases e with
      | returned v => exact he
      | panicked c => exact he.elim
      | outgrown => exact (not_lets he).elim
    | row r args => exact ⟨hwd, fun c cs _ => by
        obtain ⟨v, w'', hr, hs⟩ := h c cs
        exact ⟨v, w'', hr, stepsIn_wide.2 hs⟩⟩
    | _ => exact h.elim
  | halt x w' =>
    cases x with
    | panic v => exact h.elim
    | _ => exact h.elim
theorem wpAnyIn_round {P : Program} {l n : Nat} {ops : Array Oper} {K : Act → World → Prop} {Q : Exit → Act → World → Prop} {md : Region.Mode} (hK : ∀ a w, K a w → Q .normal a w) (hd : ∀ (i : Nat) o, ops[i]? = some o → ∀ c, o.op ≠ .defer c) :
    ∀ (fuel : Nat) (listed : Array Bool) (a : Act) (w : World), wpAny P md ops (onlyN K) fuel listed a w → wpAnyIn (Fence.wide.inRound l) n P md ops Q fuel listed a w
  | 0, _, _, _, h => ⟨h.1, hK _ _ h.2⟩
  | fuel + 1, listed, a, w, h => by
    refine ⟨fun hr => hK _ _ (h.1 hr), fun i hi => ?_⟩
    have h1 := h.2 i hi
    unfold wpOp at h1
    unfold wpOpIn
    cases ho : ops[i]? with
    | none =>
      rw [ho] at h1
      exact wpAnyIn_round hK hd fuel _ a w h1
    | some o =>
      rw [ho] at h1
      simp only at h1 ⊢
      split
      · rename_i hw
        rw [if_pos hw] at h1
        rcases h1 with h1 | h1
        · exact oper_round (hd i o ho) (Oper.wp_mono (fun a w => wpAnyIn_round hK hd fuel _ a w) h1)
        · exact (not_lets h1.2).elim
      · rename_i hw
        rw [if_neg hw] at h1
        exact ⟨fun f hf => trivial, wpAnyIn_round hK hd fuel _ _ w h1⟩
/-- a region defers nothing -/
def noDef (ops : Array Oper) : Bool := ops.toList.all fun o => match o.op with
  | .defer _ => false
  | _ => true
theorem noDef_at {ops : Array Oper} (h : noDef ops = true) (i : Nat) (o : Oper) (ho : ops[i]? = some o) (c : Call) : o.op ≠ .defer c := fun e => by
  have hm : o ∈ ops.toList := by
    rw [← Array.getElem?_toList] at ho
    exact List.mem_of_getElem? ho
  have h1 := List.all_eq_true.1 h o hm
  simp only [e] at h1
  cases h1
/-- a drawn region in a round, by a held walk -/
theorem wpIn_region_round {P : Program} {l n id : Nat} {ops : Array Oper} {Q : Exit → Act → World → Prop} {S : World → Prop} {a : Act} {w : World} (hm : P.follows .mixedOrders = true) (hd : noDef ops = true) (hS : S w.drew)
    (h : S w.drew → wpAnyH P .any ops (onlyN (Q .normal)) S ops.size (Array.replicate ops.size false) a w.drew) : (Code.region id ops true).wpIn (Fence.wide.inRound l) n P Q a w :=
  wpIn_region_any hm (wpAnyIn_round (fun _ _ h => h) (noDef_at hd) _ _ _ _ (wpAny_of_held _ _ _ _ (h hS)))
end Go.Proofs.Ytofmfainhflmmaa

/-
  WORDS for the program's Join: the three boxes that it makes at first; what its loops keep.
-/
namespace Go.Proofs.Ytofmfainhflmmaa
open Go.RowKit

/-- three boxes: the two relations, the answer -/
structure Jn3 (n0 : Nat) (va vr vb vs : Value) (W : World) : Prop where
  lt : n0 + 3 ≤ W.heap.size
  k0 : W.heap[n0]? = some (.cells #[va, vr] 34 (0, 0))
  k1 : W.heap[n0 + 1]? = some (.cells #[vb, vs] 34 (0, 0))
  k2 : W.heap[n0 + 2]? = some (.cells #[.slice none 0 0, .slice none 0 0] 34 (0, 0))
theorem Jn3.next {n0 : Nat} {va vr vb vs : Value} {W W' : World} (h : Jn3 n0 va vr vb vs W) {B : Nat} (hb : Below B W W') (hB : n0 + 3 ≤ B) : Jn3 n0 va vr vb vs W' :=
  ⟨Nat.le_trans h.lt hb.size, (hb.block _ (by omega)).trans h.k0, (hb.block _ (by omega)).trans h.k1, (hb.block _ (by omega)).trans h.k2⟩
theorem Jn3.up {n0 : Nat} {va vr vb vs : Value} {W W' : World} (h : Jn3 n0 va vr vb vs W) (hb : Below W.heap.size W W') : Jn3 n0 va vr vb vs W' := h.next hb h.lt
theorem jn3_new (w : World) (va vr vb vs : Value) : Jn3 w.heap.size va vr vb vs (((w.alloc (.cells #[va, vr] 34)).alloc (.cells #[vb, vs] 34)).alloc (.cells #[.slice none 0 0, .slice none 0 0] 34)) := by
  have e1 := World.alloc_heap_new w (.cells #[va, vr] 34)
  have e2 := World.alloc_heap_new (w.alloc (.cells #[va, vr] 34)) (.cells #[vb, vs] 34)
  have e3 := World.alloc_heap_new ((w.alloc (.cells #[va, vr] 34)).alloc (.cells #[vb, vs] 34)) (.cells #[.slice none 0 0, .slice none 0 0] 34)
  rw [World.size_alloc] at e2
  rw [World.size_alloc, World.size_alloc] at e3
  refine ⟨by simp, ?_, ?_, e3⟩
  · rw [Below.heap_alloc _ _ _ (by simp; omega), Below.heap_alloc _ _ _ (by simp)]; exact e1
  · rw [Below.heap_alloc _ _ _ (by simp)]; exact e2
theorem Jn3.c {n0 : Nat} {va vr vb vs : Value} {W : World} (h : Jn3 n0 va vr vb vs W) : W.cell? ⟨n0, 0, none⟩ = some va ∧ W.cell? ⟨n0, 1, none⟩ = some vr ∧ W.cell? ⟨n0 + 1, 0, none⟩ = some vb ∧ W.cell? ⟨n0 + 1, 1, none⟩ = some vs := by
  have h0 := h.k0
  have h1 := h.k1
  refine ⟨?_, ?_, ?_, ?_⟩ <;> simp [World.cell?, h0, h1]
theorem Jn3.e {n0 : Nat} {va vr vb vs : Value} {W : World} (h : Jn3 n0 va vr vb vs W) : W.cell? ⟨n0 + 2, 0, none⟩ = some (.slice none 0 0) ∧ W.cell? ⟨n0 + 2, 1, none⟩ = some (.slice none 0 0) ∧ W.frozen? ⟨n0 + 2, 0, none⟩ = false ∧ W.frozen? ⟨n0 + 2, 1, none⟩ = false := by
  have h0 := h.k2
  refine ⟨?_, ?_, ?_, ?_⟩
  · simp [World.cell?, h0]
  · simp [World.cell?, h0]
  · simp [World.frozen?, h0]
  · simp [World.frozen?, h0]
/-- the columns that the second one has alone, by their places -/
theorem pick_rest {ca cb : List ByteArray} : pickC (shN false ca cb) cb = restC ca cb := by
  unfold pickC shN restC
  conv => rhs; rw [← List.zipIdx_map_fst 0 cb]
  rw [List.filter_map, List.map_map]
  have e : (List.filter ((fun c => !hasS c ca) ∘ Prod.fst) cb.zipIdx) = cb.zipIdx.filter fun x => hasS x.1 ca == false := by
    refine List.filter_congr fun x _ => ?_
    simp [Function.comp]
  rw [e]
  refine List.map_congr_left fun x hx => ?_
  obtain ⟨c, k⟩ := x
  have h1 : cb[k]? = some c := List.mk_mem_zipIdx_iff_getElem?.1 (List.mem_filter.1 hx).1
  show cb[k]! = c
  rw [List.getElem!_eq_getElem?_getD, h1]
  rfl
theorem agR_tx {IB IA : List Nat} {M : List Rw} {x : Rw} : txR (agR IB IA M x.l) = agL IB IA (txR M) x.l := by
  unfold agR txR agL
  rw [List.filter_map]
  rfl
theorem sl1_two {α : Type} (e : α → Value) (t : TypeId) (W : World) (x y : α) : Sl1 e (W.alloc (.cells #[e x, e y] t)) (W.alloc (.cells #[e x, e y] t)).heap.size (some ⟨W.heap.size, 0, none⟩) [x, y] := fun _ => by
  refine ⟨W.heap.size, 0, rfl, by simp, fun j z hz => ?_⟩
  rw [World.cell?_alloc_new]
  match j, hz with
  | 0, hz => simp at hz; subst hz; rfl
  | 1, hz => simp at hz; subst hz; rfl
  | j + 2, hz => simp at hz
theorem own_sl {α : Type} {t : TypeId} {e : α → Value} {W : World} {B : Nat} {A : Option Addr} {n c : Nat} {l : List α} (h : Own1 t e W B (.slice A n c) l) : Sl1 e W W.heap.size A l := by
  obtain ⟨A2, c2, e2, hs, _⟩ := h.form
  injection e2 with e2 _ _
  subst e2
  exact hs
/-- behind the meeting: the three boxes, the meeting, the box of the pointer to it -/
structure JnS (n0 : Nat) (va vr vb vs : Value) (w2 : World) (ca cb : List ByteArray) (RB : List Rw) (bm : Nat) (A' A A'' A4 : Option Addr) (c' c c'' cap : Nat) (M : List Rw) (pb : Nat) (X : World) : Prop where
  j : Jn3 n0 va vr vb vs X
  m : MeetAt w2 ca cb RB bm A' A A'' A4 c' c c'' cap M X
  k : X.heap[pb]? = some (.cells #[.pointer (some ⟨bm, 0, none⟩)] 81 (0, 0))
theorem JnS.up {n0 : Nat} {va vr vb vs : Value} {w2 : World} {ca cb : List ByteArray} {RB : List Rw} {bm : Nat} {A' A A'' A4 : Option Addr} {c' c c'' cap : Nat} {M : List Rw} {pb : Nat} {X Y : World} (h : JnS n0 va vr vb vs w2 ca cb RB bm A' A A'' A4 c' c c'' cap M pb X) (hb : Below X.heap.size X Y) : JnS n0 va vr vb vs w2 ca cb RB bm A' A A'' A4 c' c c'' cap M pb Y :=
  ⟨h.j.up hb, h.m.next hb, (hb.block _ (Array.getElem?_eq_some_iff.1 h.k).1).trans h.k⟩
theorem JnS.c {n0 : Nat} {va vr vb vs : Value} {w2 : World} {ca cb : List ByteArray} {RB : List Rw} {bm : Nat} {A' A A'' A4 : Option Addr} {c' c c'' cap : Nat} {M : List Rw} {pb : Nat} {X : World} (h : JnS n0 va vr vb vs w2 ca cb RB bm A' A A'' A4 c' c c'' cap M pb X) : X.cell? ⟨pb, 0, none⟩ = some (.pointer (some ⟨bm, 0, none⟩)) ∧ X.cell? ⟨bm, 2, none⟩ = some (.slice A'' (shN false ca cb).length c'') := by
  have h0 := h.k
  have h1 := h.m.k
  refine ⟨?_, ?_⟩ <;> simp [World.cell?, h0, h1]
theorem owns_kept {W W' : World} {B n k : Nat} {t : TypeId} {v : Value} {xs : List Value} {row : Option Nat} (h : W.ownsRow B t k v n xs) (hg : W.grownBy W' row) (hr : ∀ r, row = some r → ∃ o : Obj, W.heap[r]? = some o ∧ o.isCells = false) : W'.ownsRow B t k v n xs := by
  refine World.ownsRow.kept h hg ?_
  rcases h.2 with ⟨rfl, _⟩ | ⟨g, cap, cur, rfl, _, hgb, _⟩
  · exact .inl rfl
  · refine .inr (fun e => ?_)
    obtain ⟨o, ho, hc⟩ := hr g e.symm
    rw [hgb] at ho; cases ho; cases hc
/-- rows on their way, in a box; marks that stand open -/
structure JLv (n₀ : Nat) (w6 : World) (v : Value) (R : List Rw) (L : List (List Vl)) (Ds : List Nat) (X : World) : Prop where
  b : Below n₀ w6 X
  bx : Boxed X n₀ 32 v
  o : OwnR X (n₀ + 1) v R
  t : txR R = L
  ma : MarksAt n₀ Ds X
theorem marks_lt {lo : Nat} {Ds : List Nat} {W : World} (h : MarksAt lo Ds W) : ∀ D ∈ Ds, D < W.heap.size := fun D hD => (Array.getElem?_eq_some_iff.1 (h.2 D hD).2).1
theorem MarksAt.up {lo : Nat} {Ds : List Nat} {W W' : World} (h : MarksAt lo Ds W) (hb : Below W.heap.size W W') : MarksAt lo Ds W' := ⟨h.1, fun D hD => ⟨(h.2 D hD).1, (hb.block D (marks_lt h D hD)).trans (h.2 D hD).2⟩⟩
theorem JLv.up {n₀ : Nat} {w6 : World} {v : Value} {R : List Rw} {L : List (List Vl)} {Ds : List Nat} {X Y : World} (h : JLv n₀ w6 v R L Ds X) (hb : Below X.heap.size X Y) : JLv n₀ w6 v R L Ds Y :=
  ⟨h.b.trans (hb.mono (Nat.le_of_lt h.bx.lt)), (hb.block _ h.bx.lt).trans h.bx, h.o.next hb, h.t, h.ma.up hb⟩
theorem JLv.own {n₀ n : Nat} {w6 : World} {v : Value} {R : List Rw} {L : List (List Vl)} {Ds : List Nat} {X Y : World} {row : Option Nat} (h : JLv n₀ w6 v R L Ds X) (hn : n₀ < n) (hds : ∀ D ∈ Ds, D < n) (hg : X.grownBy Y row) (hr : ∀ r, row = some r → n ≤ r ∧ ∃ o : Obj, X.heap[r]? = some o ∧ o.isCells = false) : JLv n₀ w6 v R L Ds Y := by
  have hne : ∀ b, b < n → some b ≠ row := fun b hb e => by have := (hr b e.symm).1; omega
  have hr2 : ∀ r, row = some r → ∃ o : Obj, X.heap[r]? = some o ∧ o.isCells = false := fun r e => (hr r e).2
  refine ⟨h.b.trans ((Below.refl n₀ X).grown hg (Nat.le_of_lt h.bx.lt) (fun j ej => by have := (hr j ej).1; omega)), h.bx.kept hg (hne _ hn), ⟨owns_kept h.o.o hg hr2, fun x hx => owns_kept (h.o.i x hx) hg hr2, h.o.z⟩, h.t, h.ma.1, fun D hD => ⟨(h.ma.2 D hD).1, (hg.block D (marks_lt h.ma D hD) (hne _ (hds D hD))).trans (h.ma.2 D hD).2⟩⟩
/-- what stands behind some rows that agree -/
structure JMid (n₀ : Nat) (w6 : World) (n p : Nat) (Ds : List Nat) (acc : List (List Vl)) (x : Rw) (IR : List Nat) (M : List Rw) (pre : List { y : Rw // y ∈ M }) (W : World) : Prop where
  size : n ≤ W.heap.size
  rows : ∃ v R, JLv n₀ w6 v R (acc ++ pre.map fun y => x.l ++ pickV IR y.1.l) Ds W ∧ ∀ g, v.ownBlock = some g → g < p ∨ p + 2 < g
  kx : Boxed W p 46 (cellR x)
theorem jMid_own {n₀ : Nat} {w6 : World} {n p : Nat} {Ds : List Nat} {acc : List (List Vl)} {x : Rw} {IR : List Nat} {M : List Rw} (hn : n₀ < n) (hp : p < n) (hds : ∀ D ∈ Ds, D < n) : OwnFrom n (JMid n₀ w6 n p Ds acc x IR M) := fun pre X Y row h hg hr => by
  have hne : ∀ b, b < n → some b ≠ row := fun b hb e => by have := (hr b e.symm).1; omega
  obtain ⟨v, R, h1, h2⟩ := h.rows
  exact ⟨Nat.le_trans h.size hg.size, ⟨v, R, h1.own hn hds hg hr, h2⟩, h.kx.kept hg (hne _ hp)⟩
theorem own1_block {α : Type} {t : TypeId} {e : α → Value} {W : World} {B : Nat} {v : Value} {l : List α} (h : Own1 t e W B v l) : ∀ g, v.ownBlock = some g → B ≤ g ∧ g < W.heap.size := fun g hg => World.ownsRow.lt h g hg
/-- a row more, stored -/
theorem jn_step {n₀ : Nat} {w6 : World} {n p : Nat} {Ds : List Nat} {acc : List (List Vl)} {x : Rw} {IR : List Nat} {M : List Rw} {pre : List { y : Rw // y ∈ M }} {W : World} {v : Value} {R : List Rw}
    (hJ : JLv n₀ w6 v R (acc ++ pre.map fun y => x.l ++ pickV IR y.1.l) Ds W) (hv : ∀ g, v.ownBlock = some g → g < p ∨ p + 2 < g) (hkx : Boxed W p 46 (cellR x)) (hnp : p + 3 ≤ n) (hn0 : n₀ < p) (hsz : n ≤ W.heap.size)
    {w9 w10 : World} (hb : Below W.heap.size W w9) (y : { y : Rw // y ∈ M }) (r : Rw) (hr : OwnV w9 (n₀ + 1) (cellR r) r.l) (hz : zOk r.l) (hrl : r.l = x.l ++ pickV IR y.1.l) {v' : Value}
    (hown : Own1 46 cellR w10 (n₀ + 1) v' (R ++ [r])) (hgr : w9.grownBy w10 v.ownBlock) (hob : v'.ownBlock = v.ownBlock ∨ v'.ownBlock = some w9.heap.size) :
    KeepsFrom n W (w10.setCell ⟨n₀, 0, none⟩ v') ∧ KeepJ n₀ (p + 1) (p + 2) W (w10.setCell ⟨n₀, 0, none⟩ v') ∧ JMid n₀ w6 n p Ds acc x IR M (pre ++ [y]) (w10.setCell ⟨n₀, 0, none⟩ v') := by
  have hJ9 := hJ.up hb
  have hblk := own1_block hJ9.o.o
  have hv10 : Boxed w10 n₀ 32 v := hJ9.bx.kept hgr (hJ9.bx.not_row (by decide) hJ9.o.o)
  have hs9 := hb.size
  have hs10 := hgr.size
  have hoth : ∀ j, j < w9.heap.size → j ≠ n₀ → (∀ g, v.ownBlock = some g → j ≠ g) → (w10.setCell ⟨n₀, 0, none⟩ v').heap[j]? = w9.heap[j]? := fun j h1 h2 h3 =>
    (Below.heap_setCell w10 ⟨n₀, 0, none⟩ v' j h2).trans (hgr.block j h1 (fun e => h3 j e.symm rfl))
  have hlow : Below n₀ W (w10.setCell ⟨n₀, 0, none⟩ v') := ((hb.mono (by omega)).trans ((Below.refl n₀ w9).grown hgr (by omega) (fun j ej => by have := (hblk j ej).1; omega))).setCell (p := ⟨n₀, 0, none⟩) (Nat.le_refl _) v'
  have hmid : ∀ j, p ≤ j → j ≤ p + 2 → (w10.setCell ⟨n₀, 0, none⟩ v').heap[j]? = W.heap[j]? := fun j h1 h2 =>
    (hoth j (by omega) (by omega) (fun g hg => by have := hv g hg; omega)).trans (hb.block j (by omega))
  have hne9 : ∀ {i : Nat} {o : Obj}, w9.heap[i]? = some o → o.isCells = false → (w10.setCell ⟨n₀, 0, none⟩ v').heap[i]? = some o := fun {i o} hi ho => by
    refine (hoth i (Array.getElem?_eq_some_iff.1 hi).1 (fun e => ?_) (fun g hg e => ?_)).trans hi
    · subst e; rw [show w9.heap[i]? = _ from hJ9.bx] at hi; cases hi; cases ho
    · subst e
      rcases hJ9.o.o.2 with ⟨rfl, _⟩ | ⟨g2, cap, cur, rfl, _, hgb, _⟩
      · cases hg
      · obtain rfl : g2 = i := by simpa [Value.ownBlock] using hg
        rw [hgb] at hi; cases hi; cases ho
  have hown2 : OwnR w10 (n₀ + 1) v' (R ++ [r]) := OwnR.snoc (m := R.length + 1) hJ9.o hr hz (by have h9 := hown; unfold Own1 at h9; rw [List.length_append, List.map_append] at h9; exact h9) hgr
  refine ⟨⟨by rw [show (w10.setCell ⟨n₀, 0, none⟩ v').heap.size = w10.heap.size by simp [World.setCell]]; omega, fun i o _ hi ho => hne9 ((hb.block i (Array.getElem?_eq_some_iff.1 hi).1).trans hi) ho⟩, ⟨hlow, hmid _ (by omega) (by omega), hmid _ (by omega) (by omega)⟩, ?_, ⟨v', R ++ [r], ⟨hJ.b.trans hlow, hv10.set v', ?_, ?_, hJ.ma.1, fun D hD => ⟨(hJ.ma.2 D hD).1, hne9 (hJ9.ma.2 D hD).2 rfl⟩⟩, ?_⟩, (hmid p (Nat.le_refl _) (by omega)).trans hkx⟩
  · rw [show (w10.setCell ⟨n₀, 0, none⟩ v').heap.size = w10.heap.size by simp [World.setCell]]; omega
  · exact hown2.set (Nat.lt_succ_self _) 0 v'
  · unfold txR
    rw [List.map_append, List.map_append, ← List.append_assoc]
    have := hJ.t
    unfold txR at this
    rw [this]
    simp [hrl]
  · intro g hg
    rcases hob with e | e
    · exact hv g (by rw [← e]; exact hg)
    · rw [e] at hg
      injection hg with hg
      omega
theorem jn_ahead {n₀ : Nat} {w6 : World} {p : Nat} {L : List (List Vl)} {Ds : List Nat} {W : World} {v vx : Value} {R : List Rw}
    (hJ : JLv n₀ w6 v R L Ds W) (hv : ∀ g, v.ownBlock = some g → g < p ∨ p + 2 < g) (hkx : Boxed W p 46 vx) {w9 w10 : World} (hb : Below W.heap.size W w9) (hgr : w9.grownBy w10 v.ownBlock) :
    Boxed w10 n₀ 32 v ∧ Below n₀ w6 w10 ∧ Boxed w10 p 46 vx := by
  have hJ9 := hJ.up hb
  have hblk := own1_block hJ9.o.o
  refine ⟨hJ9.bx.kept hgr (hJ9.bx.not_row (by decide) hJ9.o.o), hJ9.b.trans ((Below.refl n₀ w9).grown hgr (Nat.le_of_lt hJ9.bx.lt) (fun j ej => by have := (hblk j ej).1; omega)), ?_⟩
  have hp := hkx.lt
  have hs := hb.size
  exact (hgr.block p (by omega) (fun e => by have := hv p e.symm; omega)).trans ((hb.block p hp).trans hkx)
theorem zOk_app {a b : List Vl} (ha : zOk a) (hb : zOk b) : zOk (a ++ b) := fun v hv => (List.mem_append.1 hv).elim (ha v) (hb v)
/-- append of one row -/
theorem wp_append_row {o : Oper} {a : Act} {w : World} {K : Act → World → Prop} {Q : Exit → Act → World → Prop} (d : Option Tmp) (hd : o.dst = d) (s x : Operand) (ho : o.op = .call { callee := .builtin .append, args := #[s, x], argTypes := #[32, 32] })
    (base : Nat) (v : Value) (l : List Rw) (hs : a.eval s = v) (hown : Own1 46 cellR w base v l) (r : Rw) (b : Nat) (hx : a.eval x = .slice (some ⟨b, 0, none⟩) 1 1)
    (hc : w.cell? ⟨b, 0, none⟩ = some (cellR r)) (hl : l.length ≤ 1000000000) (hlo : base ≤ w.heap.size)
    (h : ∀ v' w', Own1 46 cellR w' base v' (l ++ [r]) → w.grownBy w' v.ownBlock → (v'.ownBlock = v.ownBlock ∨ v'.ownBlock = some w.heap.size) → K (a.put d v') w') : o.wp Try.prog a w K Q := by
  subst hd
  obtain ⟨i0, hi, hz0, hz1, hz2⟩ := info_parts infoR
  have hmx : 2000000000 ≤ maxLen := by decide
  obtain ⟨v', w', hr, h2, h3, _, h5⟩ := run_append_own_at (P := Try.prog) w base 32 o.type 46 i0 (.slice none 0 0) 1 24 Try.underlying32 hi hz0 hz1 hz2 rfl (by decide) v l.length (l.map cellR) hown ⟨b, 0, none⟩ 1 1 ([r].map cellR) rfl (fun j u hu => by
      have hj : j = 0 := by have := (List.getElem?_eq_some_iff.1 hu).1; simp at this; exact this
      subst hj
      rw [addI]
      have : cellR r = u := by simpa using hu
      rw [← this]; exact hc) (fun u hu => by obtain ⟨x, _, rfl⟩ := List.mem_map.1 hu; rfl) (by omega) (by omega) hlo
  unfold Oper.wp execOp
  simp only [ho, resolve, invoke, builtin, Sem.run_bind, Sem.run_pure, Result.andThen_ok, List.map_toArray, List.map_cons, List.map_nil, hs, hx, hr]
  exact h v' w' (own1_of h2) h3 h5
theorem JnS.agf {n0 : Nat} {va vr vb vs : Value} {w2 : World} {ca cb : List ByteArray} {RB : List Rw} {bm : Nat} {A' A A'' A4 : Option Addr} {c' c c'' cap : Nat} {M : List Rw} {pb : Nat} {w6 W : World} (h : JnS n0 va vr vb vs w2 ca cb RB bm A' A A'' A4 c' c c'' cap M pb w6) (hb : Below w6.heap.size w6 W)
    {x : Rw} (hx : RwOk w6 w6.heap.size x) (hM : ∀ y ∈ M, RwOk w6 w6.heap.size y) {p : Nat} (h1 : W.heap[p + 1]? = some (.cells #[.pointer (some ⟨bm, 0, none⟩)] 81 (0, 0))) (h2 : W.heap[p + 2]? = some (.cells #[cellR x] 46 (0, 0))) :
    AgF w6.heap.size (p + 1) (p + 2) bm w2.heap.size A A' A4 c c' cap (shN true ca cb) (shA ca cb) M x W := by
  have hm := h.m.next hb
  have hk := hm.k
  have hlt : bm < w6.heap.size := by have := h.m.hi; omega
  refine ⟨hb.size, hlt, h1, h2, ?_, ?_, ?_, (own_sl h.m.o1).next hb (Nat.le_refl _), (own_sl h.m.o0).next hb (Nat.le_refl _), hm.o3, fun a e => ?_, fun y hy => (hM y hy).next hb (Nat.le_refl _), hx.next hb (Nat.le_refl _)⟩
  · simp [World.cell?, hk]
  · simp [World.cell?, hk]
  · simp [World.cell?, hk]
  · have := h.m.g a e
    omega
theorem JnS.apart {n0 : Nat} {va vr vb vs : Value} {w2 : World} {ca cb : List ByteArray} {RB : List Rw} {bm : Nat} {A' A A'' A4 : Option Addr} {c' c c'' cap : Nat} {M : List Rw} {pb : Nat} {w6 : World} (h : JnS n0 va vr vb vs w2 ca cb RB bm A' A A'' A4 c' c c'' cap M pb w6)
    {x : Rw} {wx : World} (hx : RwOk wx w2.heap.size x) (hM : ∀ y ∈ M, RwOk wx w2.heap.size y) :
    (∀ a, A4 = some a → a.block ≠ bm) ∧ ∀ a, A4 = some a → (∀ y ∈ M, y.l ≠ [] → ∀ b o, y.A = some ⟨b, o, none⟩ → b ≠ a.block) ∧ (x.l ≠ [] → ∀ b o, x.A = some ⟨b, o, none⟩ → b ≠ a.block) ∧ (shN true ca cb ≠ [] → ∀ b o, A = some ⟨b, o, none⟩ → b ≠ a.block) ∧ (shA ca cb ≠ [] → ∀ b o, A' = some ⟨b, o, none⟩ → b ≠ a.block) := by
  have hge : ∀ a, A4 = some a → w2.heap.size ≤ a.block := fun a e => (own1_block h.m.o3 a.block (by rw [e]; rfl)).1
  have hrow : ∀ (y : Rw), RwOk wx w2.heap.size y → ∀ a, A4 = some a → y.l ≠ [] → ∀ b o, y.A = some ⟨b, o, none⟩ → b ≠ a.block := fun y hy a e hne b o e2 e3 => by
    obtain ⟨b2, o2, e4, hlt, _⟩ := hy.s hne
    rw [e2] at e4
    injection e4 with e4
    injection e4 with e4
    have := hge a e
    omega
  have hown : ∀ {A5 : Option Addr} {n c : Nat} {l : List Nat}, Own1 3 natV w6 (bm + 2) (.slice A5 n c) l → ∀ a, A4 = some a → ∀ b o, A5 = some ⟨b, o, none⟩ → b ≠ a.block := fun hO a e b o e2 e3 => by
    have h1 := (own1_block hO b (by rw [e2]; rfl)).1
    have := h.m.g a e
    omega
  refine ⟨fun a e => ?_, fun a e => ⟨fun y hy => hrow y (hM y hy) a e, hrow x hx a e, fun _ b o e2 => hown h.m.o1 a e b o e2, fun _ b o e2 => hown h.m.o0 a e b o e2⟩⟩
  have := h.m.g a e
  omega
theorem joinT_snoc {IA IB IR : List Nat} {M R : List (List Vl)} {x : List Vl} : joinT IA IB IR M (R ++ [x]) = joinT IA IB IR M R ++ (agL IB IA M x).map fun y => x ++ pickV IR y := by
  unfold joinT
  rw [List.flatMap_append]
  simp
theorem agL_len {IA IB : List Nat} {M : List (List Vl)} {x : List Vl} : (agL IB IA M x).length ≤ M.length := List.length_filter_le _ _
theorem joinT_len {IA IB IR : List Nat} {M : List (List Vl)} : ∀ {R : List (List Vl)}, (joinT IA IB IR M R).length ≤ R.length * M.length
  | [] => by simp [joinT]
  | x :: R => by
    have ih := joinT_len (IA := IA) (IB := IB) (IR := IR) (M := M) (R := R)
    have e : joinT IA IB IR M (x :: R) = ((agL IB IA M x).map fun y => x ++ pickV IR y) ++ joinT IA IB IR M R := by unfold joinT; rw [List.flatMap_cons]
    rw [e, List.length_append, List.length_cons, Nat.succ_mul, List.length_map]
    have := agL_len (IA := IA) (IB := IB) (M := M) (x := x)
    omega
theorem keepJ_b {n₀ p : Nat} {w : World} (hn : n₀ ≤ w.heap.size) (hp : p + 2 < w.heap.size) (W : World) (l : Nat) (o o' : Obj) (hl : w.heap.size ≤ l) (h : W.heap[l]? = some o) (h1 : o.isCells = false) (h2 : o.isWalk = false) : KeepJ n₀ (p + 1) (p + 2) W (W.putObj l o') :=
  ⟨belowK_b hn W l o o' hl h h1 h2, World.putObj_heap_other (by omega), World.putObj_heap_other (by omega)⟩
theorem wpIn_region_roundG {P : Program} {l n id f : Nat} {ops : Array Oper} {Q : Exit → Act → World → Prop} {U T : World → Prop} {a : Act} {w : World} (hm : P.follows .mixedOrders = true) (hd : noDef ops = true)
    (h : wpAnyG P .any ops (onlyN (Q .normal)) U T f ops.size (Array.replicate ops.size false) a w.drew) : (Code.region id ops true).wpIn (Fence.wide.inRound l) n P Q a w :=
  wpIn_region_any hm (wpAnyIn_round (fun _ _ h => h) (noDef_at hd) _ _ _ _ (wpAny_of_G _ _ _ _ h))
theorem rel_of_own {w W' : World} {cols : List ByteArray} {T : List (List Vl)} {A10 A11 : Option Addr} {c10 c11 : Nat} {R : List Rw} (hb : Below w.heap.size w W') (hc : OwnC W' w.heap.size (.slice A10 cols.length c10) cols) (hr : OwnR W' w.heap.size (.slice A11 R.length c11) R) (ht : txR R = T) :
    RelEnd w cols T 0 (.returned (.tuple #[.agg #[.slice A10 cols.length c10, .slice A11 R.length c11], .int .i64 0])) W' :=
  ⟨hb, _, _, cols, R, rfl, hc, hr.ans, owns_apart hc hr.o (by decide), fun a n c e => (own1_block hr.o a.block (by rw [e]; rfl)).1, by rw [if_pos rfl], by rw [if_pos rfl]; exact ht⟩
theorem OffD.ownR {lo : Nat} {Ds : List Nat} {W W' : World} (h : OffD Ds W W') (hm : MarksAt lo Ds W) {B : Nat} {v : Value} {R : List Rw} (ho : OwnR W B v R) : OwnR W' B v R := ⟨h.owns hm ho.o, fun x hx => h.owns hm (ho.i x hx), ho.z⟩
theorem MarksAt.set {lo : Nat} {Ds : List Nat} {W : World} (h : MarksAt lo Ds W) {p : Addr} (hp : p.block < lo) (u : Value) : MarksAt lo Ds (W.setCell p u) := ⟨h.1, fun D hD => ⟨(h.2 D hD).1, (Below.heap_setCell W p u D (by have := (h.2 D hD).1; omega)).trans (h.2 D hD).2⟩⟩
theorem mayRel_nodup {cols : List ByteArray} {R : List Rw} (h : mayRel cols R = true) : cols.Nodup := by
  have h1 : colsB cols = true := by
    unfold mayRel at h
    simp only [Bool.and_eq_true] at h
    exact h.1.1.1
  unfold colsB onceB at h1
  simp only [Bool.and_eq_true, decide_eq_true_eq] at h1
  exact h1.2
theorem shN_len (yes : Bool) (ca cb : List ByteArray) : (shN yes ca cb).length ≤ cb.length := by
  unfold shN
  rw [List.length_map]
  refine Nat.le_trans (List.length_filter_le _ _) ?_
  rw [List.length_zipIdx]
  exact Nat.le_refl _
end Go.Proofs.Ytofmfainhflmmaa
