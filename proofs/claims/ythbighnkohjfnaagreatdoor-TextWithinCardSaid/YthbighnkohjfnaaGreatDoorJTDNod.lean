/-
  THE DOCUMENT's READER (layer 5): what node and nodes leave; their blocks.
-/
import Derived.Test.YthbighnkohjfnaaGreatDoorJTDWord
import Derived.Test.YthbighnkohjfnaaGreatDoorJTLink
import Derived.Test.YthbighnkohjfnaaGreatDoorJTPlace
import Derived.Test.YthbighnkohjfnaaGreatDoorJTNRef
import Derived.Test.YthbighnkohjfnaaGreatDoorJRefParse
namespace Go.Proofs.YthbighnkohjfnaaGreatDoor
open Go.RowKit

section
variable (pv : Bs → Option (Int × Int × Bs))
/-- one node, from its first byte on -/
def nodeR (f : Nat) (l : Bs) (q many deep : Nat) : Rd PN := match l with
  | [] => .bad q
  | c :: r => match openC c with
    | some kc => if 50 ≤ deep ∨ 5000 ≤ many then .bad q else match nodesD pv f (some kc.2) r (q + 1) (many + 1) (deep + 1) with
      | .bad b => .bad b
      | .ok kids s2 p2 m2 => .ok (.mk kc.1 0 0 [] [] kids q) s2 p2 m2
    | none => match wordN (c :: r) with
      | none => .bad (q + (c :: r).length)
      | some 0 => .bad q
      | some (n + 1) => if 5000 ≤ many then .bad q else match wordOf pv ((c :: r).take (n + 1)) q with
        | none => .bad q
        | some x => if fitsB ((c :: r).drop (n + 1)) then .ok x ((c :: r).drop (n + 1)) (q + (n + 1)) (many + 1) else .bad (q + (n + 1))
/-- nodes behind others -/
def preR (lp : List PN) : Rd (List PN) → Rd (List PN)
  | .bad b => .bad b
  | .ok l s p m => .ok (lp ++ l) s p m
theorem close_open {c : UInt8} (h : closeC c = true) : openC c = none := by
  unfold closeC at h
  have : c = 41 ∨ c = 93 ∨ c = 125 := by simpa [or_assoc] using h
  rcases this with rfl | rfl | rfl <;> rfl
theorem tokC_at (s : Bs) (p : Nat) : tokC s p = match s.drop (skipN false s) with
    | [] => .fin (p + skipN false s)
    | c :: r => match openC c with
      | some kc => .opn kc.1 kc.2 r (p + skipN false s)
      | none => if closeC c then .cls c r (p + skipN false s) else match wordN (c :: r) with
        | none => .flt (p + skipN false s + (c :: r).length)
        | some 0 => .flt (p + skipN false s)
        | some (n + 1) => .wrd ((c :: r).take (n + 1)) ((c :: r).drop (n + 1)) (p + skipN false s) := rfl
theorem nodes_fin {f p many deep : Nat} {e : Option UInt8} {s : Bs} (h : s.drop (skipN false s) = []) : nodesD pv (f + 1) e s p many deep = if e = none then .ok [] [] (p + skipN false s) many else .bad (p + skipN false s) :=
  nodesD_fin (by rw [tokC_at, h])
theorem nodes_cls {f p many deep : Nat} {e : Option UInt8} {s : Bs} {c : UInt8} {r : Bs} (h : s.drop (skipN false s) = c :: r) (hc : closeC c = true) : nodesD pv (f + 1) e s p many deep = if e = some c then .ok [] r (p + skipN false s + 1) many else .bad (p + skipN false s) :=
  nodesD_cls (by rw [tokC_at, h]; dsimp only; rw [close_open hc]; dsimp only; rw [if_pos hc])
theorem nodes_nod {f p many deep : Nat} {e : Option UInt8} {s : Bs} {c : UInt8} {r : Bs} (h : s.drop (skipN false s) = c :: r) (hc : closeC c = false) : nodesD pv (f + 1) e s p many deep = match nodeR pv f (c :: r) (p + skipN false s) many deep with
    | .bad b => .bad b
    | .ok x s2 p2 m2 => preR [x] (nodesD pv f e s2 p2 m2 deep) := by
  have htk := tokC_at s p
  rw [h] at htk
  dsimp only at htk
  unfold nodeR
  dsimp only
  cases ho : openC c with
  | some kc =>
    rw [ho] at htk
    dsimp only at htk ⊢
    rw [nodesD_opn htk]
    by_cases hg : 50 ≤ deep ∨ 5000 ≤ many
    · rw [if_pos hg, if_pos hg]
    · rw [if_neg hg, if_neg hg]
      cases nodesD pv f (some kc.2) r (p + skipN false s + 1) (many + 1) (deep + 1) with
      | bad b => rfl
      | ok kids s2 p2 m2 =>
        dsimp only
        cases nodesD pv f e s2 p2 m2 deep <;> rfl
  | none =>
    rw [ho] at htk
    dsimp only at htk ⊢
    rw [if_neg (by rw [hc]; exact Bool.false_ne_true)] at htk
    cases hw : wordN (c :: r) with
    | none => rw [hw] at htk; dsimp only at htk ⊢; rw [nodesD_flt htk]
    | some n =>
      rw [hw] at htk
      cases n with
      | zero => dsimp only at htk ⊢; rw [nodesD_flt htk]
      | succ n =>
        dsimp only at htk ⊢
        rw [nodesD_wrd htk]
        by_cases hg : 5000 ≤ many
        · rw [if_pos hg, if_pos hg]
        · rw [if_neg hg, if_neg hg]
          cases hx : wordOf pv ((c :: r).take (n + 1)) (p + skipN false s) with
          | none => rfl
          | some x =>
            dsimp only
            have hlen : ((c :: r).take (n + 1)).length = n + 1 := by
              rw [List.length_take]
              have : n + 1 ≤ (c :: r).length := by
                rw [wordN_cons] at hw
                by_cases h34 : c = 34
                · rw [if_pos h34] at hw
                  by_cases hq : r.contains 34 = true
                  · rw [if_pos hq] at hw
                    injection hw with hw
                    have hle : (r.takeWhile (fun b => b != 34)).length < r.length := by
                      have hm : (34 : UInt8) ∈ r := by simpa using hq
                      rcases Nat.lt_or_ge (r.takeWhile (fun b => b != 34)).length r.length with h | h
                      · exact h
                      · have e : r.takeWhile (fun b => b != 34) = r := (List.takeWhile_prefix _).eq_of_length (by have := (List.takeWhile_prefix (fun b => b != 34) (l := r)).length_le; omega)
                        have := tw_mem (show (34 : UInt8) ∈ r.takeWhile (fun b => b != 34) by rw [e]; exact hm)
                        exact absurd this (by decide)
                    rw [List.length_cons]
                    omega
                  · rw [if_neg hq] at hw; cases hw
                · rw [if_neg h34] at hw
                  injection hw with hw
                  have := (List.takeWhile_prefix wordC (l := c :: r)).length_le
                  omega
              omega
            rw [hlen]
            by_cases hf : fitsB ((c :: r).drop (n + 1)) = true
            · rw [if_pos hf, if_pos hf]
              dsimp only
              cases nodesD pv f e ((c :: r).drop (n + 1)) (p + skipN false s + (n + 1)) (many + 1) deep <;> rfl
            · rw [if_neg hf, if_neg hf]
end
theorem Only.setNew {b q : Nat} {w W : World} (h : Only b w W) (hb : b ≤ q) (hq : w.heap.size ≤ q) (j : Nat) (u : Value) : Only b w (W.setCell ⟨q, j, none⟩ u) :=
  ⟨h.bel.setCell (p := ⟨q, j, none⟩) hb u, fun g hg hs => (Below.heap_setCell _ _ _ _ (show g ≠ q by omega)).trans (h.oth g hg hs)⟩
theorem Only.below {b : Nat} {w W W' : World} (h : Only b w W) (hb : Below W.heap.size W W') (hbw : b ≤ W.heap.size) : Only b w W' := h.trans (Only.of_below hb hbw)
/-- a node in its block -/
def NdB (W : World) (q : Nat) (k vk vn : Int) (vs s : ByteArray) (A : Option Addr) (n c : Nat) (ln co : Int) : Prop := W.heap[q]? = some (.cells #[.int .i64 k, .int .i64 vk, .int .i64 vn, .string vs, .string s, .slice A n c, .int .i64 ln, .int .i64 co] 37 (0, 0))
section
variable {W W' : World} {q : Nat} {k vk vn : Int} {vs s : ByteArray} {A : Option Addr} {n c : Nat} {ln co : Int}
theorem NdB.cell (h : NdB W q k vk vn vs s A n c ln co) (j : Nat) : W.cell? ⟨q, j, none⟩ = (#[Value.int .i64 k, .int .i64 vk, .int .i64 vn, .string vs, .string s, .slice A n c, .int .i64 ln, .int .i64 co])[j]? := by unfold NdB at h; simp [World.cell?, h]
theorem NdB.fz (h : NdB W q k vk vn vs s A n c ln co) (j : Nat) : W.frozen? ⟨q, j, none⟩ = false := by unfold NdB at h; simp [World.frozen?, h]
theorem NdB.lt (h : NdB W q k vk vn vs s A n c ln co) : q < W.heap.size := (Array.getElem?_eq_some_iff.1 h).1
theorem NdB.only {b : Nat} (h : NdB W q k vk vn vs s A n c ln co) (ho : Only b W W') (hq : q ≠ b) : NdB W' q k vk vn vs s A n c ln co := (ho.block hq h.lt).trans h
theorem NdB.next (h : NdB W q k vk vn vs s A n c ln co) (hb : Below W.heap.size W W') : NdB W' q k vk vn vs s A n c ln co := (hb.block q h.lt).trans h
theorem NdB.setK (h : NdB W q k vk vn vs s A n c ln co) (k' : Int) : NdB (W.setCell ⟨q, 0, none⟩ (.int .i64 k')) q k' vk vn vs s A n c ln co := (heap_setCell_same _ _ _ _ _ _ h).trans (by simp)
theorem NdB.setKids (h : NdB W q k vk vn vs s A n c ln co) (A' : Option Addr) (n' c' : Nat) : NdB (W.setCell ⟨q, 5, none⟩ (.slice A' n' c')) q k vk vn vs s A' n' c' ln co := (heap_setCell_same _ _ _ _ _ _ h).trans (by simp)
theorem NdB.setS (h : NdB W q k vk vn vs s A n c ln co) (s' : ByteArray) : NdB (W.setCell ⟨q, 4, none⟩ (.string s')) q k vk vn vs s' A n c ln co := (heap_setCell_same _ _ _ _ _ _ h).trans (by simp)
theorem NdB.setV (h : NdB W q k vk vn vs s A n c ln co) (vk' vn' : Int) (vs' : ByteArray) : NdB (((W.setCell ⟨q, 1, none⟩ (.int .i64 vk')).setCell ⟨q, 2, none⟩ (.int .i64 vn')).setCell ⟨q, 3, none⟩ (.string vs')) q k vk' vn' vs' s A n c ln co :=
  (heap_setCell_same _ _ _ _ _ _ (heap_setCell_same _ _ _ _ _ _ (heap_setCell_same _ _ _ _ _ _ h))).trans (by simp)
theorem NdB.other (h : NdB W q k vk vn vs s A n c ln co) {q' : Nat} (hq : q ≠ q') (j : Nat) (u : Value) : NdB (W.setCell ⟨q', j, none⟩ u) q k vk vn vs s A n c ln co := (Below.heap_setCell _ _ _ _ (show q ≠ q' by exact hq)).trans h
theorem NdB.set8 {k' vk' vn' : Int} {vs' s' : ByteArray} {A' : Option Addr} {n' c' : Nat} {ln' co' : Int} (h : NdB W q k vk vn vs s A n c ln co) :
    NdB ((((((((W.setCell ⟨q, 0, none⟩ (.int .i64 k')).setCell ⟨q, 1, none⟩ (.int .i64 vk')).setCell ⟨q, 2, none⟩ (.int .i64 vn')).setCell ⟨q, 3, none⟩ (.string vs')).setCell ⟨q, 4, none⟩ (.string s')).setCell ⟨q, 5, none⟩ (.slice A' n' c')).setCell ⟨q, 6, none⟩ (.int .i64 ln')).setCell ⟨q, 7, none⟩ (.int .i64 co')) q k' vk' vn' vs' s' A' n' c' ln' co' :=
  (heap_setCell_same _ _ _ _ _ _ (heap_setCell_same _ _ _ _ _ _ (heap_setCell_same _ _ _ _ _ _ (heap_setCell_same _ _ _ _ _ _ (heap_setCell_same _ _ _ _ _ _ (heap_setCell_same _ _ _ _ _ _ (heap_setCell_same _ _ _ _ _ _ (heap_setCell_same _ _ _ _ _ _ h)))))))).trans (by simp)
theorem NdB.new (W : World) (k vk vn : Int) (vs s : ByteArray) (A : Option Addr) (n c : Nat) (ln co : Int) : NdB (W.alloc (.cells #[.int .i64 k, .int .i64 vk, .int .i64 vn, .string vs, .string s, .slice A n c, .int .i64 ln, .int .i64 co] 37)) W.heap.size k vk vn vs s A n c ln co := heap_alloc_new W _
end
theorem BxD.other {W : World} {b : Nat} {s : ByteArray} {at_ deep many : Nat} {bad : Int} (h : BxD W b s at_ deep many bad) {q : Nat} (hq : b ≠ q) (j : Nat) (u : Value) : BxD (W.setCell ⟨q, j, none⟩ u) b s at_ deep many bad := (Below.heap_setCell _ _ _ _ (show b ≠ q by exact hq)).trans h
def ndV (k vk vn : Int) (vs s : ByteArray) (A : Option Addr) (n c : Nat) (ln co : Int) : Value := .agg #[.int .i64 k, .int .i64 vk, .int .i64 vn, .string vs, .string s, .slice A n c, .int .i64 ln, .int .i64 co]
/-- what node leaves -/
def NdEnd (f b : Nat) (s : ByteArray) (at_ deep many : Nat) (w : World) (en : Ending) (w' : World) : Prop :=
  Only b w w' ∧ match nodeR pvL f (s.data.toList.drop at_) at_ many deep with
    | .bad p => (∃ k vk vn vs t A n c ln co, en = .returned (ndV k vk vn vs t A n c ln co)) ∧ p ≤ s.size ∧ ∃ at' many', BxD w' b s at' deep many' (p : Int)
    | .ok x s2 p2 m2 => s2 = s.data.toList.drop p2 ∧ at_ < p2 ∧ p2 ≤ s.size ∧ m2 ≤ 5000 ∧ (∃ A c, en = .returned (ndV (ndOf s.data.toList x).k (ndOf s.data.toList x).vk (ndOf s.data.toList x).vn (ndOf s.data.toList x).vs (ndOf s.data.toList x).s A (ndOf s.data.toList x).kids.length c (ndOf s.data.toList x).ln (ndOf s.data.toList x).co) ∧ SlN (50 - deep) w' (fun g => w.heap.size ≤ g ∧ g < w'.heap.size) A (ndOf s.data.toList x).kids) ∧ BxD w' b s p2 deep m2 (-1)
/-- what nodes leaves -/
def NdsEnd (f b : Nat) (e : Option UInt8) (s : ByteArray) (at_ deep many : Nat) (w : World) (en : Ending) (w' : World) : Prop :=
  Only b w w' ∧ match nodesD pvL f e (s.data.toList.drop at_) at_ many deep with
    | .bad p => (∃ A n c, en = .returned (.slice A n c)) ∧ p ≤ s.size ∧ ∃ at' many', BxD w' b s at' deep many' (p : Int)
    | .ok l s2 p2 m2 => s2 = s.data.toList.drop p2 ∧ at_ ≤ p2 ∧ p2 ≤ s.size ∧ m2 ≤ 5000 ∧ (∃ A c, en = .returned (.slice A l.length c) ∧ SlN (51 - deep) w' (fun g => w.heap.size ≤ g ∧ g < w'.heap.size) A (l.map (ndOf s.data.toList))) ∧ BxD w' b s p2 deep m2 (-1)
def eB : Option UInt8 → UInt8
  | none => 0
  | some c => c
/-- the contract of nodes, for so much fuel -/
def NodesC (f : Nat) : Prop := ∀ (b : Nat) (e : Option UInt8) (s : ByteArray) (at_ deep many : Nat) (w : World), BxD w b s at_ deep many (-1) → at_ ≤ s.size → s.size ≤ 20000 → deep ≤ 50 → many ≤ 5000 → (∀ c, e = some c → closeC c = true) → s.size - at_ < f →
  Calls Tryz.prog 20 #[.pointer (some ⟨b, 0, none⟩), .int .u8 ((eB e).toNat : Int)] w (NdsEnd f b e s at_ deep many w)
def NodeC (f : Nat) : Prop := ∀ (b : Nat) (s : ByteArray) (at_ deep many : Nat) (w : World) (c : UInt8) (r : Bs), BxD w b s at_ deep many (-1) → s.data.toList.drop at_ = c :: r → closeC c = false → s.size ≤ 20000 → deep ≤ 50 → many ≤ 5000 → s.size - at_ ≤ f →
  Calls Tryz.prog 40 #[.pointer (some ⟨b, 0, none⟩), .int .u8 (c.toNat : Int)] w (NdEnd f b s at_ deep many w)
end Go.Proofs.YthbighnkohjfnaaGreatDoor
