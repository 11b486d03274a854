/-
  CONTRACT: appendNode, given appendNodes of its kids.
-/
import Derived.Test.YthbighnkohjfnaaGreatDoorWTPrnt
namespace Go.Proofs.YthbighnkohjfnaaGreatDoor
open Go.RowKit

mutual
/-- values may be -/
def pvN : Nd → Prop
  | .mk k vk vn vs _ kids _ _ => (k = 1 → mayB vk vn vs = true ∧ inI64 vn ∧ vs.size ≤ 60000) ∧ pvNs kids
def pvNs : List Nd → Prop
  | [] => True
  | x :: l => pvN x ∧ pvNs l
end
theorem pvN_eq (x : Nd) : pvN x ↔ (x.k = 1 → mayB x.vk x.vn x.vs = true ∧ inI64 x.vn ∧ x.vs.size ≤ 60000) ∧ pvNs x.kids := by cases x; rw [pvN]; rfl
theorem prN_eq (x : Nd) : prN x = if x.k = 1 then txtL x.vk x.vn x.vs else if x.k = 2 then x.s.data.toList else (if x.k = 3 then 40 else if x.k = 4 then 91 else 123) :: (prL x.kids ++ [if x.k = 3 then 41 else if x.k = 4 then 93 else 125]) := by cases x; rw [prN]; rfl
theorem opn_u8 (k : Int) : ((if k = 3 then 40 else if k = 4 then 91 else 123 : UInt8).toNat : Int) = if k = 3 then 40 else if k = 4 then 91 else 123 := by
  by_cases h3 : k = 3
  · rw [if_pos h3, if_pos h3]; rfl
  rw [if_neg h3, if_neg h3]
  by_cases h4 : k = 4
  · rw [if_pos h4, if_pos h4]; rfl
  rw [if_neg h4, if_neg h4]
  rfl
theorem cls_u8 (k : Int) : ((if k = 3 then 41 else if k = 4 then 93 else 125 : UInt8).toNat : Int) = if k = 3 then 41 else if k = 4 then 93 else 125 := by
  by_cases h3 : k = 3
  · rw [if_pos h3, if_pos h3]; rfl
  rw [if_neg h3, if_neg h3]
  by_cases h4 : k = 4
  · rw [if_pos h4, if_pos h4]; rfl
  rw [if_neg h4, if_neg h4]
  rfl
def AppC (lo : Nat) (W : World) (l : List UInt8) (e : Ending) (w' : World) : Prop := ∃ v', e = .returned v' ∧ OwB lo v' l W w'
/-- the contract of appendNodes, so deep -/
def PrC (w0 : World) (d : Nat) : Prop := ∀ (A : Option Addr) (c : Nat) (l : List Nd) (b : Value) (l0 : List UInt8) (W : World) (B : Nat → Prop), SlN d W B A l → (∀ g, B g → g < w0.heap.size) → pvNs l → Below w0.heap.size w0 W → OwB w0.heap.size b l0 W W → l0.length + (prL l).length ≤ 1000000000 →
  Calls Tryz.prog 27 #[b, .slice A l.length c] W (AppC w0.heap.size W (l0 ++ prL l))
set_option maxRecDepth 100000 in
set_option maxHeartbeats 4000000 in
theorem appNode_any (w0 : World) (d : Nat) (htab : Tab w0) (hA : PrC w0 d) (x : Nd) (K : Option Addr) (kc : Nat) (b : Value) (l0 : List UInt8) (W : World) (B : Nat → Prop) (hk : SlN d W B K x.kids) (hB : ∀ g, B g → g < w0.heap.size) (hp : pvN x) (hb0 : Below w0.heap.size w0 W) (hO : OwB w0.heap.size b l0 W W) (hlen : l0.length + (prN x).length ≤ 1000000000) :
    Calls Tryz.prog 28 #[b, ndV x.k x.vk x.vn x.vs x.s K x.kids.length kc x.ln x.co] W (AppC w0.heap.size W (l0 ++ prN x)) := by
  rw [pvN_eq] at hp
  have HP := Lib.hid hp
  obtain ⟨R, hR⟩ : ∃ R, prN x = R := ⟨_, rfl⟩
  rw [hR] at hlen ⊢
  rw [prN_eq] at hR
  have HR := Lib.hid hR
  have HLEN := Lib.hid hlen
  obtain ⟨w1, hw1⟩ : ∃ w1, W.alloc (.cells #[.int .i64 x.k, .int .i64 x.vk, .int .i64 x.vn, .string x.vs, .string x.s, .slice K x.kids.length kc, .int .i64 x.ln, .int .i64 x.co] 37) = w1 := ⟨_, rfl⟩
  have hb1 : Below W.heap.size W w1 := by rw [← hw1]; exact (Below.refl _ _).alloc (Nat.le_refl _) _
  have hn1 : NdB w1 W.heap.size x.k x.vk x.vn x.vs x.s K x.kids.length kc x.ln x.co := by rw [← hw1]; exact NdB.new W x.k x.vk x.vn x.vs x.s K x.kids.length kc x.ln x.co
  have ho1 := hO.next hb1
  have HW1 := Lib.hid hw1
  have HN1 := Lib.hid hn1
  have HO1 := Lib.hid ho1
  have HB1 := Lib.hid (hb0.trans (hb1.mono hO.le))
  have HK := Lib.hid (hk.keep (W' := w1) fun g hg => hb1.block g (Nat.lt_of_lt_of_le (hB g hg) hO.le))
  have HBB := Lib.hid hB
  have HA := Lib.hid hA
  have HT := Lib.hid htab
  obtain ⟨n0, n1, n2, n3, n4, n5, n6, n7⟩ := nd_cells hn1
  clear hp hR hlen hw1 hb1 hn1 ho1 hb0 hk hB hA htab hO
  unfold ndV
  go_enter Tryz.func28, Tryz.ntmps28
  go_upto_region 1 with (fail)
  rw [HW1.out]
  by_cases k1 : x.k = 1
  · have g1 : (x.k == 1) = true := beq_iff_eq.2 k1
    obtain ⟨p1, p2, p3⟩ := HP.out.1 k1
    rw [if_pos k1] at HR
    have HTX := Lib.hid (text_any x.vk x.vn x.vs w1 (Nat.le_trans p3 (by decide)) p2.1 p2.2 (tab_below HT.out HB1.out))
    have HM := Lib.hid p1
    clear k1 p1 p2 p3
    go_wp2_with fail
    refine HTX.out.mono ?_
    rintro e w2 ⟨he, hb2⟩
    obtain rfl : e = .returned (.tuple #[.string ⟨(txtL x.vk x.vn x.vs).toArray⟩, .int .i64 0]) := by
      rcases he with ⟨_, h⟩ | ⟨hno, _⟩
      · exact h
      · exact absurd (HM.out.symm.trans hno) (by decide)
    have HO2 := Lib.hid (HO1.out.next hb2)
    clear hb2 n0 n1 n2 n3 n4 n5 n6 n7
    have hz : (ByteArray.mk (txtL x.vk x.vn x.vs).toArray).size = R.length := by rw [← HR.out]; exact List.size_toArray
    have hz2 : (ByteArray.mk (txtL x.vk x.vn x.vs).toArray).data.toList = R := by rw [← HR.out]
    have HZ2 := Lib.hid hz2
    have HZ := Lib.hid hz
    clear hz hz2
    go_wp2_with (at_builtin; refine wpList_app_str rfl _ _ rfl rfl HO2.out _ rfl (by have := HZ.out; have := HLEN.out; omega) ?_; intro v3 w3 ho3; have HO3 := Lib.hid ho3; clear ho3)
    go_ret
    refine ⟨_, rfl, ?_⟩
    have h9 := HO3.out
    rw [HZ2.out] at h9
    exact h9
  have g1 : (x.k == 1) = false := beq_eq_false_iff_ne.2 k1
  rw [if_neg k1] at HR
  by_cases k2 : x.k = 2
  · have g2 : (x.k == 2) = true := beq_iff_eq.2 k2
    rw [if_pos k2] at HR
    have hz : x.s.size = R.length := by rw [← HR.out]; exact Array.length_toList.symm
    have HZ := Lib.hid hz
    clear k1 k2 hz
    go_wp2_with (at_builtin; refine wpList_app_str rfl _ _ rfl rfl HO1.out x.s rfl (by have := HZ.out; have := HLEN.out; omega) ?_; intro v3 w3 ho3; have HO3 := Lib.hid ho3; clear ho3)
    go_ret
    refine ⟨_, rfl, ?_⟩
    have h9 := HO3.out
    rw [HR.out] at h9
    exact h9
  have g2 : (x.k == 2) = false := beq_eq_false_iff_ne.2 k2
  rw [if_neg k2] at HR
  clear k1 k2
  obtain ⟨oc, hoc⟩ : ∃ oc : UInt8, (if x.k = 3 then 40 else if x.k = 4 then 91 else 123) = oc := ⟨_, rfl⟩
  obtain ⟨cc, hcc⟩ : ∃ cc : UInt8, (if x.k = 3 then 41 else if x.k = 4 then 93 else 125) = cc := ⟨_, rfl⟩
  rw [hoc, hcc] at HR
  have HOP : Hid (∀ w, Calls Tryz.prog 47 #[.int .i64 x.k] w fun e w' => e = .returned (.int .u8 (oc.toNat : Int)) ∧ w = w') := fun w => (opener_any x.k w).mono fun e w' h => ⟨by rw [h.1, ← hoc, opn_u8], h.2⟩
  have HCL : Hid (∀ w, Calls Tryz.prog 48 #[.int .i64 x.k] w fun e w' => e = .returned (.int .u8 (cc.toNat : Int)) ∧ w = w') := fun w => (closer_any x.k w).mono fun e w' h => ⟨by rw [h.1, ← hcc, cls_u8], h.2⟩
  have HLN : Hid (l0.length + (prL x.kids).length + 2 ≤ 1000000000) := by
    have h1 := HLEN.out
    have h2 := congrArg List.length HR.out
    simp only [List.length_cons, List.length_append, List.length_nil] at h2
    show _ ≤ _
    omega
  clear hoc hcc
  have HOS := Lib.hid HO1.out.start
  go_wp2_with fail
  refine (HOP.out _).mono ?_
  rintro e wx ⟨rfl, rfl⟩
  clear n0 n1 n2 n3 n4 n5 n6 n7
  go_wp2_with (at_builtin; refine wpList_app_byte rfl _ _ rfl rfl HOS.out oc rfl (by have := HLN.out; omega) ?_; intro v3 w3 ho3; have HO3 := Lib.hid ho3; clear ho3; obtain ⟨n0, n1, n2, n3, n4, n5, n6, n7⟩ := nd_cells (HO3.out.node HN1.out))
  have HCK := Lib.hid (HA.out K kc x.kids v3 (l0 ++ [oc]) w3 B (HK.out.keep fun g hg => HO3.out.bel.block g (HBB.out g hg)) HBB.out HP.out.2 (HB1.out.trans HO3.out.bel) HO3.out.start (by rw [List.length_append, List.length_singleton]; have := HLN.out; omega))
  refine HCK.out.mono ?_
  rintro e w4 ⟨v4, rfl, ho4⟩
  have HO4 := Lib.hid ho4
  clear ho4 n0 n1 n2 n3 n4 n5 n6 n7 HCK
  obtain ⟨n0, n1, n2, n3, n4, n5, n6, n7⟩ := nd_cells (HO4.out.node (HO3.out.node HN1.out))
  go_wp2_with fail
  refine (HCL.out _).mono ?_
  rintro e wx ⟨rfl, rfl⟩
  clear n0 n1 n2 n3 n4 n5 n6 n7
  go_wp2_with (at_builtin; refine wpList_app_byte rfl _ _ rfl rfl HO4.out cc rfl (by simp only [List.length_append, List.length_singleton]; have := HLN.out; omega) ?_; intro v5 w5 ho5; have HO5 := Lib.hid ho5; clear ho5)
  go_ret
  refine ⟨_, rfl, ?_⟩
  have h9 := HO1.out.trans (HO3.out.trans HO5.out)
  rw [← HR.out]
  rw [List.append_assoc, List.append_assoc] at h9
  exact h9
end Go.Proofs.YthbighnkohjfnaaGreatDoor
