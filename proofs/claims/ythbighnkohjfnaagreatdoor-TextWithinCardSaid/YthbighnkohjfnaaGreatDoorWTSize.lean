/-
  CONTRACT: how many nodes there are, up to one too many (count, Size).
-/
import Derived.Test.YthbighnkohjfnaaGreatDoorJTDNode
namespace Go.Proofs.YthbighnkohjfnaaGreatDoor
open Go.RowKit

mutual
def szN : Nd → Nat
  | .mk _ _ _ _ _ kids _ _ => 1 + szL kids
def szL : List Nd → Nat
  | [] => 0
  | x :: l => szN x + szL l
end
theorem szN_eq (x : Nd) : szN x = 1 + szL x.kids := by cases x; rw [szN]; rfl
theorem szL_nil : szL [] = 0 := by rw [szL]
theorem szL_cons (x : Nd) (l : List Nd) : szL (x :: l) = szN x + szL l := by rw [szL]
theorem szL_append : ∀ (a b : List Nd), szL (a ++ b) = szL a + szL b
  | [], b => by rw [szL_nil, Nat.zero_add]; rfl
  | x :: a, b => by rw [List.cons_append, szL_cons, szL_cons, szL_append a b]; omega
theorem szL_take {l : List Nd} {j : Nat} (h : j < l.length) : szL (l.take (j + 1)) = szL (l.take j) + (1 + szL l[j].kids) := by
  rw [List.take_succ_eq_append_getElem h, szL_append, szL_cons, szL_nil, szN_eq]
  omega
theorem szL_le (l : List Nd) (j : Nat) : szL (l.take j) ≤ szL l := by
  have h := szL_append (l.take j) (l.drop j)
  rw [List.take_append_drop] at h
  omega
/-- a number in its block -/
def BxI (W : World) (b : Nat) (n : Nat) : Prop := W.heap[b]? = some (.cells #[.int .i64 (n : Int)] 3 (0, 0))
section
variable {W W' : World} {b n : Nat}
theorem BxI.cell (h : BxI W b n) : W.cell? ⟨b, 0, none⟩ = some (.int .i64 (n : Int)) := by unfold BxI at h; simp [World.cell?, h]
theorem BxI.fz (h : BxI W b n) : W.frozen? ⟨b, 0, none⟩ = false := by unfold BxI at h; simp [World.frozen?, h]
theorem BxI.lt (h : BxI W b n) : b < W.heap.size := (Array.getElem?_eq_some_iff.1 h).1
theorem BxI.next (h : BxI W b n) (hb : Below W.heap.size W W') : BxI W' b n := (hb.block b h.lt).trans h
theorem BxI.set (h : BxI W b n) (m : Nat) : BxI (W.setCell ⟨b, 0, none⟩ (.int .i64 (m : Int))) b m := (heap_setCell_same _ _ _ _ _ _ h).trans (by simp)
end
def CntEnd (b n : Nat) (l : List Nd) (w : World) (e : Ending) (w' : World) : Prop := e = .returned (.tuple #[]) ∧ BxI w' b (min (n + szL l) 5001) ∧ Only b w w'
set_option maxRecDepth 100000 in
set_option maxHeartbeats 4000000 in
theorem count_any (d : Nat) (A : Option Addr) (c : Nat) (l : List Nd) (b n : Nat) (w : World) (B : Nat → Prop) (hs : SlN d w B A l) (hx : BxI w b n) (hB : ∀ g, B g → g ≠ b ∧ g < w.heap.size) (hn : n ≤ 5001) :
    Calls Tryz.prog 30 #[.slice A l.length c, .pointer (some ⟨b, 0, none⟩)] w (CntEnd b n l w) := by
  induction d generalizing A c l n w B with
  | zero =>
    obtain rfl : l = [] := hs
    have HX := Lib.hid hx
    have HN := Lib.hid hn
    clear hx
    go_enter Tryz.func30, Tryz.ntmps30
    go_wp2
    go_loopw [8] (fun i wr => i = .int .i64 0 ∧ wr = w) (fun i _ => 0)
    case atStart => exact ⟨rfl, rfl⟩
    case round =>
      obtain ⟨rfl, rfl⟩ := hrel
      go_wp2
      go_end0
      exact ⟨rfl, by rw [szL_nil, Nat.add_zero, Nat.min_eq_left HN.out]; exact HX.out, Only.refl _ _⟩
  | succ d ih =>
    have hl := hs.len
    have IH := Lib.hid ih
    have HS := Lib.hid hs
    have HX := Lib.hid hx
    have HB := Lib.hid hB
    clear ih hs hx hB
    go_enter Tryz.func30, Tryz.ntmps30
    go_wp2
    go_loopw [8] (fun i wr => ∃ j : Nat, j ≤ l.length ∧ i = .int .i64 j ∧ Hid (BxI wr b (min (n + szL (l.take j)) 5001) ∧ Only b w wr)) (fun i _ => l.length - (intOf i).toNat)
    case atStart => exact ⟨0, by omega, rfl, by rw [List.take_zero, szL_nil, Nat.add_zero, Nat.min_eq_left hn]; exact HX.out, Only.refl _ _⟩
    case round =>
      obtain ⟨j, hj, rfl, HR⟩ := hrel
      by_cases h1 : j < l.length
      · have hji : (j : Int) < (l.length : Int) := by omega
        have hsr : SlN (d + 1) wr B A l := HS.out.keep fun g hg => HR.out.2.block (HB.out g hg).1 (HB.out g hg).2
        obtain ⟨ba, o, K, kc, rfl, hBa, hp, hk⟩ := hsr.at_ h1
        have HT := Lib.hid (szL_take h1)
        obtain ⟨x, hpe⟩ : ∃ p, l[j] = p := ⟨_, rfl⟩
        rw [hpe] at hp hk HT
        obtain ⟨m, hm⟩ : ∃ m, min (n + szL (l.take j)) 5001 = m := ⟨_, rfl⟩
        rw [hm] at HR
        have c0 : wr.cell? ⟨ba, o + j * 8, none⟩ = some (.int .i64 x.k) := hp 0 (by decide)
        have c1 : wr.cell? ⟨ba, o + j * 8 + 1, none⟩ = some (.int .i64 x.vk) := hp 1 (by decide)
        have c2 : wr.cell? ⟨ba, o + j * 8 + 2, none⟩ = some (.int .i64 x.vn) := hp 2 (by decide)
        have c3 : wr.cell? ⟨ba, o + j * 8 + 3, none⟩ = some (.string x.vs) := hp 3 (by decide)
        have c4 : wr.cell? ⟨ba, o + j * 8 + 4, none⟩ = some (.string x.s) := hp 4 (by decide)
        have c5 : wr.cell? ⟨ba, o + j * 8 + 5, none⟩ = some (.slice K x.kids.length kc) := hp 5 (by decide)
        have c6 : wr.cell? ⟨ba, o + j * 8 + 6, none⟩ = some (.int .i64 x.ln) := hp 6 (by decide)
        have c7 : wr.cell? ⟨ba, o + j * 8 + 7, none⟩ = some (.int .i64 x.co) := hp 7 (by decide)
        have HK := Lib.hid hk
        have HM := Lib.hid hm
        clear hsr hp hpe hk hm
        go_upto_region 3 with (fail)
        obtain ⟨w3, hw3⟩ : ∃ w3, wr.alloc (.cells #[.int .i64 x.k, .int .i64 x.vk, .int .i64 x.vn, .string x.vs, .string x.s, .slice K x.kids.length kc, .int .i64 x.ln, .int .i64 x.co] 37) = w3 := ⟨_, rfl⟩
        have hN3 : NdB w3 wr.heap.size x.k x.vk x.vn x.vs x.s K x.kids.length kc x.ln x.co := by rw [← hw3]; exact NdB.new wr x.k x.vk x.vn x.vs x.s K x.kids.length kc x.ln x.co
        have hb3 : Below wr.heap.size wr w3 := by rw [← hw3]; exact (Below.refl _ _).alloc (Nat.le_refl _) _
        rw [hw3]
        clear hw3
        have hx3 := HR.out.1.next hb3
        have hbr : b < wr.heap.size := HR.out.1.lt
        have e0 := hx3.cell
        have e1 := hx3.fz
        by_cases hm5 : m ≤ 5000
        · have hd : decide ((5000 : Int) < (m : Int)) = false := decide_eq_false (by omega)
          have hw : IntKind.i64.wrap ((m : Int) + 1) = ((m + 1 : Nat) : Int) := IntWalk.i64_in _ (by omega)
          have HX3 := Lib.hid hx3
          have HB3 := Lib.hid hb3
          have HN3 := Lib.hid hN3
          clear hx3 hb3 hN3 c0 c1 c2 c3 c4 c5 c6 c7
          have hc5 : (w3.setCell ⟨b, 0, none⟩ (.int .i64 ((m : Int) + 1))).cell? ⟨wr.heap.size, 5, none⟩ = some (.slice K x.kids.length kc) := (HN3.out.other (q' := b) (by omega) 0 _).cell 5
          go_upto_region 5 with (fail)
          have hx4 := HX3.out.set (m + 1)
          rw [Int.natCast_add] at hx4
          have ho4 : Only b wr (w3.setCell ⟨b, 0, none⟩ (.int .i64 ((m : Int) + 1))) := (Only.of_below HB3.out (Nat.le_of_lt hbr)).setCell 0 _
          obtain ⟨w4, hw4⟩ : ∃ w4, w3.setCell ⟨b, 0, none⟩ (.int .i64 ((m : Int) + 1)) = w4 := ⟨_, rfl⟩
          have hx5 : BxI w4 b (m + 1) := by rw [← hw4]; exact hx4
          rw [hw4] at hc5 ho4 ⊢
          clear hw4 hx4
          have hcall := IH.out K kc x.kids (m + 1) w4 B (HK.out.keep fun g hg => ho4.block (HB.out g hg).1 (Nat.lt_of_lt_of_le (HB.out g hg).2 HR.out.2.bel.size)) hx5 (fun g hg => ⟨(HB.out g hg).1, Nat.lt_of_lt_of_le (HB.out g hg).2 (Nat.le_trans HR.out.2.bel.size ho4.bel.size)⟩) (by omega)
          have HC := Lib.hid hcall
          have HO4 := Lib.hid ho4
          clear hcall ho4 hx5
          go_wp2_with fail
          refine HC.out.mono ?_
          rintro e5 w5 ⟨rfl, hx5, ho5⟩
          have HX5 := Lib.hid hx5
          have HO5 := Lib.hid ho5
          clear hx5 ho5 HC
          go_wp2
          go_roundw
          case rel =>
            refine ⟨j + 1, by omega, by go_num, ?_, HR.out.2.trans (HO4.out.trans HO5.out)⟩
            have h5 := HX5.out
            rw [HT.out]
            have h6 := HM.out
            rw [show min (n + (szL (l.take j) + (1 + szL x.kids))) 5001 = min (m + 1 + szL x.kids) 5001 by omega]
            exact h5
          case measure => simp [intOf]; omega
        · have hd : decide ((5000 : Int) < (m : Int)) = true := decide_eq_true (by omega)
          go_wp2
          go_end0
          refine ⟨rfl, ?_, HR.out.2.trans (Only.of_below hb3 (Nat.le_of_lt hbr))⟩
          have h6 := HM.out
          have h7 := szL_le l j
          rw [show min (n + szL l) 5001 = m by omega]
          exact hx3
      · have hji : ¬ (j : Int) < (l.length : Int) := by omega
        go_wp2
        go_end0
        have h9 := HR.out.1
        rw [List.take_of_length_le (by omega)] at h9
        exact ⟨rfl, h9, HR.out.2⟩
theorem size_any (d : Nat) (A : Option Addr) (c : Nat) (l : List Nd) (w : World) (B : Nat → Prop) (hs : SlN d w B A l) (hB : ∀ g, B g → g < w.heap.size) :
    Calls Tryz.prog 15 #[.slice A l.length c] w fun e w' => e = .returned (.int .i64 (min (szL l) 5001 : Nat)) ∧ Below w.heap.size w w' := by
  have hb0 : Below w.heap.size w (w.alloc (.cells #[.int .i64 0] 3)) := (Below.refl _ _).alloc (Nat.le_refl _) _
  have hx0 : BxI (w.alloc (.cells #[.int .i64 0] 3)) w.heap.size 0 := heap_alloc_new w _
  have hC := count_any d A c l w.heap.size 0 (w.alloc (.cells #[.int .i64 0] 3)) B (hs.keep fun g hg => hb0.block g (hB g hg)) hx0 (fun g hg => by have := hB g hg; have := hb0.size; omega) (by omega)
  have HB0 := Lib.hid hb0
  have HC := Lib.hid hC
  clear hb0 hx0 hC
  go_enter Tryz.func15, Tryz.ntmps15
  go_wp2_with fail
  refine HC.out.mono ?_
  rintro e5 w5 ⟨rfl, hx5, ho5⟩
  have c0 := hx5.cell
  have HO := Lib.hid ho5
  clear hx5 ho5 HC
  go_wp2
  go_ret
  exact ⟨rfl, HB0.out.trans HO.out.bel⟩
end Go.Proofs.YthbighnkohjfnaaGreatDoor
