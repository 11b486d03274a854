/-
  CONTRACT: are nodes the same? (alike, by slices.EqualFunc), of trees so deep at most.
-/
import Derived.Test.YthbighnkohjfnaaGreatDoorWTMayL
namespace Go.Proofs.YthbighnkohjfnaaGreatDoor
open Go.RowKit

def eqVB (k n : Int) (s : ByteArray) (k' n' : Int) (s' : ByteArray) : Bool := (k == k') && (n == n') && (s.toList == s'.toList)
theorem eqVV (k n : Int) (s : ByteArray) (k' n' : Int) (s' : ByteArray) (w : World) : (binOp .eql 35 (.agg #[.int .i64 k, .int .i64 n, .string s]) (.agg #[.int .i64 k', .int .i64 n', .string s'])).run Tryz.prog w = .ok (.bool (eqVB k n s k' n' s')) w := by
  have u3 := Tryz.underlying3
  have u2 := Tryz.underlying2
  have u9 := Tryz.underlying9
  have a3 := Tryz.isAgg3
  have a2 := Tryz.isAgg2
  have a9 := Tryz.isAgg9
  have hS : Tryz.prog.underlying 35 = some (.struct (Tryz.prog.fieldsOf 35)) := by kernel_rfl
  have hp : Tryz.prog.stoodInHeld 35 = false := by kernel_rfl
  rw [run_eql_struct, show (10000 : Nat) = 9999 + 1 from rfl, run_equalIn_agg w 9999 35 _ _ hS hp]
  simp only [Program.fieldsOf, Tryz.underlying35]
  go_simp
  unfold eqVB
  by_cases h1 : k = k' <;> by_cases h2 : n = n' <;> by_cases h3 : s.toList = s'.toList <;> simp [h1, h2, h3]
mutual
def alkN : Nd → Nd → Bool
  | .mk k vk vn vs s kids _ _, y => (k == y.k) && (eqVB vk vn vs y.vk y.vn y.vs && ((s.toList == y.s.toList) && alkL kids y.kids))
def alkL : List Nd → List Nd → Bool
  | [], [] => true
  | x :: a, y :: b => alkN x y && alkL a b
  | _, _ => false
end
theorem alkN_eq (x y : Nd) : alkN x y = ((x.k == y.k) && (eqVB x.vk x.vn x.vs y.vk y.vn y.vs && ((x.s.toList == y.s.toList) && alkL x.kids y.kids))) := by cases x; rw [alkN]; rfl
theorem alkL_iff : ∀ (a b : List Nd), alkL a b = true ↔ a.length = b.length ∧ ∀ j (h : j < a.length) (h' : j < b.length), alkN a[j] b[j] = true
  | [], [] => by rw [alkL]; simp
  | [], y :: b => by simp [alkL]
  | x :: a, [] => by simp [alkL]
  | x :: a, y :: b => by
    rw [alkL, Bool.and_eq_true, alkL_iff a b]
    constructor
    · rintro ⟨h1, h2, h3⟩
      refine ⟨by simp [h2], fun j h h' => ?_⟩
      cases j with
      | zero => exact h1
      | succ j => exact h3 j (by simpa using h) (by simpa using h')
    · rintro ⟨h1, h2⟩
      exact ⟨h2 0 (by simp) (by simp), by simpa using h1, fun j h h' => h2 (j + 1) (by simpa using h) (by simpa using h')⟩
/-- the contract of alike, so deep -/
def AlkC (d : Nat) : Prop := ∀ (A A' : Option Addr) (c c' : Nat) (a b : List Nd) (w : World) (B B' : Nat → Prop), SlN d w B A a → SlN d w B' A' b → (∀ g, B g → g < w.heap.size) → (∀ g, B' g → g < w.heap.size) →
  Calls Tryz.prog 29 #[.slice A a.length c, .slice A' b.length c'] w fun e w' => e = .returned (.bool (alkL a b)) ∧ Below w.heap.size w w'
set_option maxRecDepth 100000 in
set_option maxHeartbeats 4000000 in
theorem alk1_any (d : Nat) (hA : AlkC d) (x y : Nd) (K K' : Option Addr) (kc kc' : Nat) (w : World) (B B' : Nat → Prop) (hk : SlN d w B K x.kids) (hk' : SlN d w B' K' y.kids) (hB : ∀ g, B g → g < w.heap.size) (hB' : ∀ g, B' g → g < w.heap.size) :
    Calls Tryz.prog 50 #[ndV x.k x.vk x.vn x.vs x.s K x.kids.length kc x.ln x.co, ndV y.k y.vk y.vn y.vs y.s K' y.kids.length kc' y.ln y.co] w fun e w' => e = .returned (.bool (alkN x y)) ∧ Below w.heap.size w w' := by
  obtain ⟨R, hR⟩ : ∃ R, alkN x y = R := ⟨_, rfl⟩
  rw [hR]
  rw [alkN_eq] at hR
  have HR := Lib.hid hR
  obtain ⟨w1, hw1⟩ : ∃ w1, w.alloc (.cells #[.int .i64 x.k, .int .i64 x.vk, .int .i64 x.vn, .string x.vs, .string x.s, .slice K x.kids.length kc, .int .i64 x.ln, .int .i64 x.co] 37) = w1 := ⟨_, rfl⟩
  have hb1 : Below w.heap.size w w1 := by rw [← hw1]; exact (Below.refl _ _).alloc (Nat.le_refl _) _
  have hz1 : w1.heap.size = w.heap.size + 1 := by rw [← hw1]; simp
  have hx1 : NdB w1 w.heap.size x.k x.vk x.vn x.vs x.s K x.kids.length kc x.ln x.co := by rw [← hw1]; exact NdB.new w x.k x.vk x.vn x.vs x.s K x.kids.length kc x.ln x.co
  obtain ⟨w2, hw2⟩ : ∃ w2, w1.alloc (.cells #[.int .i64 y.k, .int .i64 y.vk, .int .i64 y.vn, .string y.vs, .string y.s, .slice K' y.kids.length kc', .int .i64 y.ln, .int .i64 y.co] 37) = w2 := ⟨_, rfl⟩
  have hb2 : Below w1.heap.size w1 w2 := by rw [← hw2]; exact (Below.refl _ _).alloc (Nat.le_refl _) _
  have hy2 : NdB w2 (w.heap.size + 1) y.k y.vk y.vn y.vs y.s K' y.kids.length kc' y.ln y.co := by rw [← hw2, ← hz1]; exact NdB.new w1 y.k y.vk y.vn y.vs y.s K' y.kids.length kc' y.ln y.co
  have hx2 := hx1.next hb2
  have hbb : Below w.heap.size w w2 := hb1.trans (hb2.mono hb1.size)
  have hC := hA K K' kc kc' x.kids y.kids w2 B B' (hk.keep fun g hg => hbb.block g (hB g hg)) (hk'.keep fun g hg => hbb.block g (hB' g hg)) (fun g hg => Nat.lt_of_lt_of_le (hB g hg) hbb.size) (fun g hg => Nat.lt_of_lt_of_le (hB' g hg) hbb.size)
  have HC := Lib.hid hC
  have HBB := Lib.hid hbb
  have HW1 := Lib.hid hw1
  have HW2 := Lib.hid hw2
  have hq := eqVV x.vk x.vn x.vs y.vk y.vn y.vs
  obtain ⟨n0, n1, n2, n3, n4, n5, n6, n7⟩ := nd_cells hx2
  obtain ⟨m0, m1, m2, m3, m4, m5, m6, m7⟩ := nd_cells hy2
  clear hR hw1 hw2 hb1 hb2 hbb hx1 hx2 hy2 hk hk' hB hB' hC hA hz1
  unfold ndV
  go_enter Tryz.func50, Tryz.ntmps50
  go_upto_region 1 with (fail)
  rw [HW1.out, HW2.out]
  by_cases h1 : x.k = y.k
  · have g1 : (x.k == y.k) = true := beq_iff_eq.2 h1
    rw [g1] at HR
    clear h1
    go_wp2_with fail
    all_goals first
      | (go_ret; refine ⟨congrArg (fun b : Bool => Ending.returned (Value.bool b)) ?_, HBB.out⟩; rw [← HR.out]; simp [*]; done)
      | (refine HC.out.mono ?_; rintro e w9 ⟨rfl, hb9⟩; go_wp2; go_ret; refine ⟨congrArg (fun b : Bool => Ending.returned (Value.bool b)) ?_, HBB.out.trans (hb9.mono HBB.out.size)⟩; rw [← HR.out]; simp [*]; done)
  · have g1 : (x.k == y.k) = false := beq_eq_false_iff_ne.2 h1
    rw [g1] at HR
    clear h1
    go_wp2_with fail
    go_ret
    exact ⟨congrArg (fun b : Bool => Ending.returned (Value.bool b)) (by rw [← HR.out]; rfl), HBB.out⟩
end Go.Proofs.YthbighnkohjfnaaGreatDoor
