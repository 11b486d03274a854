/-
  CONTRACT: may nodes be? (nodeMayBe, allMayBe, mayBe), of nodes so deep at most, whose texts are not huge.
-/
import Derived.Test.YthbighnkohjfnaaGreatDoorWTSize
import Derived.Test.YthbighnkohjfnaaGreatDoorJTTake
import Derived.Test.YthbighnkohjfnaaGreatDoorJMay
import Derived.Laws.StructEq
namespace Go.Proofs.YthbighnkohjfnaaGreatDoor
open Go.RowKit

def zeroB (k n : Int) (s : ByteArray) : Bool := decide (k = 0) && (decide (n = 0) && s.toList.isEmpty)
theorem eqZ (k n : Int) (s : ByteArray) (w : World) : (binOp .eql 35 (.agg #[.int .i64 k, .int .i64 n, .string s]) (.agg #[.int .i64 0, .int .i64 0, .string ⟨#[]⟩])).run Tryz.prog w = .ok (.bool (zeroB k n s)) w := by
  have u3 := Tryz.underlying3
  have u2 := Tryz.underlying2
  have u9 := Tryz.underlying9
  have a3 := Tryz.isAgg3
  have a2 := Tryz.isAgg2
  have a9 := Tryz.isAgg9
  have hS : Tryz.prog.underlying 35 = some (.struct (Tryz.prog.fieldsOf 35)) := by kernel_rfl
  have hp : Tryz.prog.stoodInHeld 35 = false := by kernel_rfl
  rw [run_eql_struct, show (10000 : Nat) = 9999 + 1 from rfl, run_equalIn_agg w 9999 35 _ _ hS hp]
  simp only [Program.fieldsOf, Tryz.underlying35]
  go_simp
  unfold zeroB
  by_cases h1 : k = 0 <;> by_cases h2 : n = 0 <;> by_cases h3 : s.toList = [] <;> simp [h1, h2, h3]
mutual
def mayNd : Nat → Nd → Bool
  | deep, .mk k vk vn vs s kids _ _ =>
    if k = 1 then mayB vk vn vs && (s.toList.isEmpty && ((kids.length : Int) == 0))
    else if k = 2 then namP s.data.toList && (zeroB vk vn vs && ((kids.length : Int) == 0))
    else if k = 3 ∨ k = 4 ∨ k = 5 then decide (deep < 50) && (zeroB vk vn vs && (s.toList.isEmpty && mayNds (deep + 1) kids))
    else false
def mayNds : Nat → List Nd → Bool
  | _, [] => true
  | deep, x :: l => mayNd deep x && mayNds deep l
end
theorem mayNd_eq (deep : Nat) (x : Nd) : mayNd deep x = if x.k = 1 then mayB x.vk x.vn x.vs && (x.s.toList.isEmpty && ((x.kids.length : Int) == 0))
    else if x.k = 2 then namP x.s.data.toList && (zeroB x.vk x.vn x.vs && ((x.kids.length : Int) == 0))
    else if x.k = 3 ∨ x.k = 4 ∨ x.k = 5 then decide (deep < 50) && (zeroB x.vk x.vn x.vs && (x.s.toList.isEmpty && mayNds (deep + 1) x.kids))
    else false := by cases x; rw [mayNd]; rfl
theorem mayNds_all (deep : Nat) : ∀ l, mayNds deep l = l.all (mayNd deep)
  | [] => by rw [mayNds]; rfl
  | x :: l => by rw [mayNds, mayNds_all deep l]; rfl
mutual
/-- texts are not huge -/
def txN : Nd → Prop
  | .mk _ _ _ vs s kids _ _ => vs.size ≤ 60000 ∧ s.size ≤ 60000 ∧ txL kids
def txL : List Nd → Prop
  | [] => True
  | x :: l => txN x ∧ txL l
end
theorem txN_eq (x : Nd) : txN x ↔ x.vs.size ≤ 60000 ∧ x.s.size ≤ 60000 ∧ txL x.kids := by cases x; rw [txN]; rfl
theorem txL_mem : ∀ {l : List Nd}, txL l → ∀ x ∈ l, txN x
  | [], _, _, hx => by cases hx
  | y :: l, h, x, hx => by
    rw [txL] at h
    rcases List.mem_cons.1 hx with rfl | hx
    · exact h.1
    · exact txL_mem h.2 x hx
def checkN (k n : Int) (s : ByteArray) : Int := if mayB k n s = true then 0 else 10
theorem ck_no {k n : Int} {s : ByteArray} (h : (!mayB k n s) = true) : 10 = checkN k n s := by
  have : mayB k n s = false := by simpa using h
  unfold checkN; rw [this]; rfl
theorem ck_yes {k n : Int} {s : ByteArray} (h : (!mayB k n s) = false) : 0 = checkN k n s := by
  have : mayB k n s = true := by simpa using h
  unfold checkN; rw [this]; rfl
set_option maxHeartbeats 400000 in
theorem check_any (k n : Int) (s : ByteArray) (w : World) (hs : s.size ≤ maxLen) :
    Calls Tryz.prog 78 #[.agg #[.int .i64 k, .int .i64 n, .string s]] w fun e w' => e = .returned (.int .i64 (checkN k n s)) ∧ Below w.heap.size w w' := by
  go_enter Tryz.func78, Tryz.ntmps78
  go_wp2_with (go_at_call 63; refine (mayBe_any _ _ _ _ (by assumption)).mono ?_; rintro e w' ⟨rfl, hb⟩)
  all_goals go_ret
  all_goals refine ⟨congrArg (fun x : Int => Ending.returned (Value.int .i64 x)) ?_, ((Below.refl _ _).alloc (Nat.le_refl _) _).trans (hb.mono (by simp))⟩
  · exact ck_no ‹_›
  · exact ck_yes ‹_›
/-- the contract of allMayBe, so deep -/
def AllC (d : Nat) : Prop := ∀ (A : Option Addr) (c : Nat) (l : List Nd) (deep : Nat) (w : World) (B : Nat → Prop), SlN d w B A l → (∀ g, B g → g < w.heap.size) → txL l → deep ≤ 50 →
  Calls Tryz.prog 45 #[.slice A l.length c, .int .i64 (deep : Int)] w fun e w' => e = .returned (.bool (mayNds deep l)) ∧ Below w.heap.size w w'
set_option maxRecDepth 100000 in
set_option maxHeartbeats 4000000 in
theorem nodeMay_any (d : Nat) (hA : AllC d) (x : Nd) (K : Option Addr) (kc deep : Nat) (w : World) (B : Nat → Prop) (hk : SlN d w B K x.kids) (hB : ∀ g, B g → g < w.heap.size) (ht : txN x) (hd : deep ≤ 50) :
    Calls Tryz.prog 62 #[ndV x.k x.vk x.vn x.vs x.s K x.kids.length kc x.ln x.co, .int .i64 (deep : Int)] w fun e w' => e = .returned (.bool (mayNd deep x)) ∧ Below w.heap.size w w' := by
  rw [txN_eq] at ht
  have HT := Lib.hid ht
  obtain ⟨R, hR⟩ : ∃ R, mayNd deep x = R := ⟨_, rfl⟩
  rw [hR]
  rw [mayNd_eq] at hR
  have HR := Lib.hid hR
  have HZ := Lib.hid (eqZ x.vk x.vn x.vs)
  have hq := eqZ x.vk x.vn x.vs
  have hb1 : Below w.heap.size w (w.alloc (.cells #[.int .i64 x.k, .int .i64 x.vk, .int .i64 x.vn, .string x.vs, .string x.s, .slice K x.kids.length kc, .int .i64 x.ln, .int .i64 x.co] 37)) := (Below.refl _ _).alloc (Nat.le_refl _) _
  have hn1 := NdB.new w x.k x.vk x.vn x.vs x.s K x.kids.length kc x.ln x.co
  have hk1 : SlN d (w.alloc (.cells #[.int .i64 x.k, .int .i64 x.vk, .int .i64 x.vn, .string x.vs, .string x.s, .slice K x.kids.length kc, .int .i64 x.ln, .int .i64 x.co] 37)) B K x.kids := hk.keep fun g hg => hb1.block g (hB g hg)
  have HB1 := Lib.hid hb1
  have HK := Lib.hid hk1
  have HBB := Lib.hid hB
  have HA := Lib.hid hA
  have HN1 := Lib.hid hn1
  have hcc := fun W => check_any x.vk x.vn x.vs W (Nat.le_trans ht.1 (by decide))
  have hnm := fun W => named_any x.s W ht.2.1
  have HCC := Lib.hid hcc
  have HNM := Lib.hid hnm
  clear hR ht hb1 hk1 hk hB hA hn1 hcc hnm
  unfold ndV
  go_enter Tryz.func62, Tryz.ntmps62
  obtain ⟨n0, n1, n2, n3, n4, n5, n6, n7⟩ := nd_cells HN1.out
  go_upto_region 1 with (fail)
  obtain ⟨w1, hw1⟩ : ∃ w1, w.alloc (.cells #[.int .i64 x.k, .int .i64 x.vk, .int .i64 x.vn, .string x.vs, .string x.s, .slice K x.kids.length kc, .int .i64 x.ln, .int .i64 x.co] 37) = w1 := ⟨_, rfl⟩
  rw [hw1] at HB1 HK n0 n1 n2 n3 n4 n5 n6 n7 HN1 ⊢
  clear hw1
  by_cases k1 : x.k = 1
  · rw [if_pos k1] at HR
    have g1 : (x.k == 1) = true := beq_iff_eq.2 k1
    clear k1
    go_wp2_with fail
    refine (HCC.out _).mono ?_
    rintro e w2 ⟨rfl, hb2⟩
    have HN2 := Lib.hid (HN1.out.next hb2)
    have HB2 := Lib.hid (HB1.out.trans (hb2.mono HB1.out.size))
    clear n0 n1 n2 n3 n4 n5 n6 n7 hb2
    obtain ⟨n0, n1, n2, n3, n4, n5, n6, n7⟩ := nd_cells HN2.out
    cases hm : mayB x.vk x.vn x.vs with
    | false =>
      have hc : (checkN x.vk x.vn x.vs == 0) = false := by unfold checkN; rw [hm]; rfl
      rw [hm] at HR
      clear hm
      go_wp2_with fail
      all_goals go_ret
      all_goals refine ⟨congrArg (fun b : Bool => Ending.returned (Value.bool b)) ?_, HB2.out⟩
      all_goals rw [← HR.out]
      all_goals simp [*]
    | true =>
      have hc : (checkN x.vk x.vn x.vs == 0) = true := by unfold checkN; rw [hm]; rfl
      rw [hm] at HR
      clear hm
      go_wp2_with fail
      all_goals go_ret
      all_goals refine ⟨congrArg (fun b : Bool => Ending.returned (Value.bool b)) ?_, HB2.out⟩
      all_goals rw [← HR.out]
      all_goals simp [*]
  rw [if_neg k1] at HR
  have g1 : (x.k == 1) = false := beq_eq_false_iff_ne.2 k1
  clear k1
  by_cases k2 : x.k = 2
  · rw [if_pos k2] at HR
    have g2 : (x.k == 2) = true := beq_iff_eq.2 k2
    clear k2
    go_wp2_with fail
    refine (HNM.out _).mono ?_
    rintro e w2 ⟨rfl, hb2⟩
    have HN2 := Lib.hid (HN1.out.next hb2)
    have HB2 := Lib.hid (HB1.out.trans (hb2.mono HB1.out.size))
    clear n0 n1 n2 n3 n4 n5 n6 n7 hb2
    obtain ⟨n0, n1, n2, n3, n4, n5, n6, n7⟩ := nd_cells HN2.out
    go_wp2_with fail
    all_goals go_ret
    all_goals refine ⟨congrArg (fun b : Bool => Ending.returned (Value.bool b)) ?_, HB2.out⟩
    all_goals rw [← HR.out]
    all_goals simp [*]
  rw [if_neg k2] at HR
  have g2 : (x.k == 2) = false := beq_eq_false_iff_ne.2 k2
  clear k2
  have HCL := Lib.hid (HA.out K kc x.kids (deep + 1) w1 B HK.out (fun g hg => Nat.lt_of_lt_of_le (HBB.out g hg) HB1.out.size) HT.out.2.2)
  rw [Int.natCast_add] at HCL
  have hwr : IntKind.i64.wrap ((deep : Int) + 1) = ((deep + 1 : Nat) : Int) := IntWalk.i64_in _ (by omega)
  have key : ∀ (kk : Int), x.k = kk → (kk = 3 ∨ kk = 4 ∨ kk = 5) → R = (decide (deep < 50) && (zeroB x.vk x.vn x.vs && (x.s.toList.isEmpty && mayNds (deep + 1) x.kids))) := fun kk h1 h2 => by
    rw [← HR.out, if_pos (by rw [h1]; exact h2)]
  have no : x.k ≠ 3 → x.k ≠ 4 → x.k ≠ 5 → R = false := fun h3 h4 h5 => by
    rw [← HR.out, if_neg (by rintro (h | h | h) <;> contradiction)]
  have KEY := Lib.hid key
  have NO := Lib.hid no
  clear key no
  by_cases k3 : x.k = 3
  · have HE := Lib.hid (KEY.out 3 k3 (by omega))
    have g3 : (x.k == 3) = true := beq_iff_eq.2 k3
    clear k3
    by_cases hdp : deep < 50
    · have hd5 : decide ((deep : Int) < 50) = true := decide_eq_true (by omega)
      have hd6 : decide (deep < 50) = true := decide_eq_true hdp
      rw [hd6] at HE
      clear hd6
      go_wp2_with fail
      all_goals first
        | (go_ret; refine ⟨congrArg (fun b : Bool => Ending.returned (Value.bool b)) ?_, HB1.out⟩; rw [HE.out]; simp [*]; done)
        | (refine (HCL.out (by omega)).mono ?_; rintro e w2 ⟨rfl, hb2⟩; go_wp2; go_ret; refine ⟨congrArg (fun b : Bool => Ending.returned (Value.bool b)) ?_, HB1.out.trans (hb2.mono HB1.out.size)⟩; rw [HE.out]; simp [*])
    · have hd5 : decide ((deep : Int) < 50) = false := decide_eq_false (by omega)
      have hd6 : decide (deep < 50) = false := decide_eq_false hdp
      rw [hd6] at HE
      clear hd6
      go_wp2_with fail
      all_goals first
        | (go_ret; refine ⟨congrArg (fun b : Bool => Ending.returned (Value.bool b)) ?_, HB1.out⟩; rw [HE.out]; simp [*]; done)
        | (refine (HCL.out (by omega)).mono ?_; rintro e w2 ⟨rfl, hb2⟩; go_wp2; go_ret; refine ⟨congrArg (fun b : Bool => Ending.returned (Value.bool b)) ?_, HB1.out.trans (hb2.mono HB1.out.size)⟩; rw [HE.out]; simp [*])
  have g3 : (x.k == 3) = false := beq_eq_false_iff_ne.2 k3
  by_cases k4 : x.k = 4
  · have HE := Lib.hid (KEY.out 4 k4 (by omega))
    have g4 : (x.k == 4) = true := beq_iff_eq.2 k4
    clear k4
    by_cases hdp : deep < 50
    · have hd5 : decide ((deep : Int) < 50) = true := decide_eq_true (by omega)
      have hd6 : decide (deep < 50) = true := decide_eq_true hdp
      rw [hd6] at HE
      clear hd6
      go_wp2_with fail
      all_goals first
        | (go_ret; refine ⟨congrArg (fun b : Bool => Ending.returned (Value.bool b)) ?_, HB1.out⟩; rw [HE.out]; simp [*]; done)
        | (refine (HCL.out (by omega)).mono ?_; rintro e w2 ⟨rfl, hb2⟩; go_wp2; go_ret; refine ⟨congrArg (fun b : Bool => Ending.returned (Value.bool b)) ?_, HB1.out.trans (hb2.mono HB1.out.size)⟩; rw [HE.out]; simp [*])
    · have hd5 : decide ((deep : Int) < 50) = false := decide_eq_false (by omega)
      have hd6 : decide (deep < 50) = false := decide_eq_false hdp
      rw [hd6] at HE
      clear hd6
      go_wp2_with fail
      all_goals first
        | (go_ret; refine ⟨congrArg (fun b : Bool => Ending.returned (Value.bool b)) ?_, HB1.out⟩; rw [HE.out]; simp [*]; done)
        | (refine (HCL.out (by omega)).mono ?_; rintro e w2 ⟨rfl, hb2⟩; go_wp2; go_ret; refine ⟨congrArg (fun b : Bool => Ending.returned (Value.bool b)) ?_, HB1.out.trans (hb2.mono HB1.out.size)⟩; rw [HE.out]; simp [*])
  have g4 : (x.k == 4) = false := beq_eq_false_iff_ne.2 k4
  by_cases k5 : x.k = 5
  · have HE := Lib.hid (KEY.out 5 k5 (by omega))
    have g5 : (x.k == 5) = true := beq_iff_eq.2 k5
    clear k5
    by_cases hdp : deep < 50
    · have hd5 : decide ((deep : Int) < 50) = true := decide_eq_true (by omega)
      have hd6 : decide (deep < 50) = true := decide_eq_true hdp
      rw [hd6] at HE
      clear hd6
      go_wp2_with fail
      all_goals first
        | (go_ret; refine ⟨congrArg (fun b : Bool => Ending.returned (Value.bool b)) ?_, HB1.out⟩; rw [HE.out]; simp [*]; done)
        | (refine (HCL.out (by omega)).mono ?_; rintro e w2 ⟨rfl, hb2⟩; go_wp2; go_ret; refine ⟨congrArg (fun b : Bool => Ending.returned (Value.bool b)) ?_, HB1.out.trans (hb2.mono HB1.out.size)⟩; rw [HE.out]; simp [*])
    · have hd5 : decide ((deep : Int) < 50) = false := decide_eq_false (by omega)
      have hd6 : decide (deep < 50) = false := decide_eq_false hdp
      rw [hd6] at HE
      clear hd6
      go_wp2_with fail
      all_goals first
        | (go_ret; refine ⟨congrArg (fun b : Bool => Ending.returned (Value.bool b)) ?_, HB1.out⟩; rw [HE.out]; simp [*]; done)
        | (refine (HCL.out (by omega)).mono ?_; rintro e w2 ⟨rfl, hb2⟩; go_wp2; go_ret; refine ⟨congrArg (fun b : Bool => Ending.returned (Value.bool b)) ?_, HB1.out.trans (hb2.mono HB1.out.size)⟩; rw [HE.out]; simp [*])
  have g5 : (x.k == 5) = false := beq_eq_false_iff_ne.2 k5
  have HE := Lib.hid (NO.out k3 k4 k5)
  clear k3 k4 k5
  go_wp2_with fail
  go_ret
  exact ⟨congrArg (fun b : Bool => Ending.returned (Value.bool b)) HE.out.symm, HB1.out⟩
end Go.Proofs.YthbighnkohjfnaaGreatDoor
