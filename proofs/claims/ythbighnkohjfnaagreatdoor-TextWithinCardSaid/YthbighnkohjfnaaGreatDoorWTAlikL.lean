/-
  CONTRACT: are nodes the same? (slices.EqualFunc, alike at every depth, Same).
-/
import Derived.Test.YthbighnkohjfnaaGreatDoorWTAlike
namespace Go.Proofs.YthbighnkohjfnaaGreatDoor
open Go.RowKit

set_option maxRecDepth 100000 in
set_option maxHeartbeats 4000000 in
theorem eqF_any (d : Nat) (A A' : Option Addr) (c c' : Nat) (a b : List Nd) (hA : a ≠ [] → AlkC d) (w : World) (B B' : Nat → Prop) (hs : SlN (d + 1) w B A a) (hs' : SlN (d + 1) w B' A' b) (hB : ∀ g, B g → g < w.heap.size) (hB' : ∀ g, B' g → g < w.heap.size) :
    Calls Tryz.prog 49 #[.slice A a.length c, .slice A' b.length c', .func (.func 50) #[] #[]] w fun e w' => e = .returned (.bool (alkL a b)) ∧ Below w.heap.size w w' := by
  have hl := hs.len
  have hl' := hs'.len
  obtain ⟨R, hR⟩ : ∃ R, alkL a b = R := ⟨_, rfl⟩
  rw [hR]
  have hI := alkL_iff a b
  rw [hR] at hI
  have HI := Lib.hid hI
  have HS := Lib.hid hs
  have HS' := Lib.hid hs'
  have HBB := Lib.hid hB
  have HBB' := Lib.hid hB'
  have HA := Lib.hid hA
  clear hs hs' hB hB' hA hR hI
  go_enter Tryz.func49, Tryz.ntmps49
  by_cases hlen : a.length = b.length
  · have hne : ((a.length : Int) != (b.length : Int)) = false := by rw [hlen]; exact bne_self_eq_false' _
    have HLN := Lib.hid hlen
    clear hlen
    go_wp2
    go_loopw [17] (fun i wr => ∃ j : Nat, j ≤ a.length ∧ i = .int .i64 j ∧ Hid ((∀ i (h : i < a.length) (h' : i < b.length), i < j → alkN a[i] b[i] = true) ∧ Below w.heap.size w wr)) (fun i _ => a.length - (intOf i).toNat)
    case atStart => exact ⟨0, Nat.zero_le _, rfl, (fun i _ _ h => absurd h (Nat.not_lt_zero _)), Below.refl _ _⟩
    case round =>
      obtain ⟨j, hj, rfl, HN⟩ := hrel
      by_cases h1 : j < a.length
      · have hji : (j : Int) < (a.length : Int) := by omega
        have h1' : j < b.length := by have := HLN.out; omega
        have hji' : (j : Int) < (b.length : Int) := by omega
        have hj0 : (0 : Int) ≤ (j : Int) := by omega
        have hsr : SlN (d + 1) wr B A a := HS.out.keep fun g hg => HN.out.2.block g (HBB.out g hg)
        have hsr' : SlN (d + 1) wr B' A' b := HS'.out.keep fun g hg => HN.out.2.block g (HBB'.out g hg)
        have hBr : ∀ g, B g → g < wr.heap.size := fun g hg => Nat.lt_of_lt_of_le (HBB.out g hg) HN.out.2.size
        have hBr' : ∀ g, B' g → g < wr.heap.size := fun g hg => Nat.lt_of_lt_of_le (HBB'.out g hg) HN.out.2.size
        have hAA := HA.out (fun e => by rw [e] at h1; exact absurd h1 (Nat.not_lt_zero _))
        have HST := Lib.hid (fun (hv : alkN a[j] b[j] = true) i (h : i < a.length) (h' : i < b.length) (hi : i < j + 1) => (show alkN a[i] b[i] = true from by
          by_cases e : i = j
          · subst e; exact hv
          · exact HN.out.1 i h h' (by omega)))
        have HFL := Lib.hid (fun (hv : alkN a[j] b[j] = false) => (show R = false from by
          rw [Bool.eq_false_iff]
          intro e
          have := (HI.out.1 e).2 j h1 h1'
          rw [hv] at this
          cases this))
        obtain ⟨ba, o, K, kc, rfl, hBa, hp, hk⟩ := hsr.at_ h1
        obtain ⟨w1, hw1⟩ : ∃ w1, wr.alloc (.cells #[.int .i64 a[j].k, .int .i64 a[j].vk, .int .i64 a[j].vn, .string a[j].vs, .string a[j].s, .slice K a[j].kids.length kc, .int .i64 a[j].ln, .int .i64 a[j].co] 37) = w1 := ⟨_, rfl⟩
        have hb1 : Below wr.heap.size wr w1 := by rw [← hw1]; exact (Below.refl _ _).alloc (Nat.le_refl _) _
        obtain ⟨bb, o', K', kc', rfl, hBb, hp', hk'⟩ := (hsr'.keep fun g hg => hb1.block g (hBr' g hg)).at_ h1'
        obtain ⟨x, hxe⟩ : ∃ p, a[j] = p := ⟨_, rfl⟩
        obtain ⟨y, hye⟩ : ∃ p, b[j] = p := ⟨_, rfl⟩
        rw [hxe] at hp hk hw1 HST HFL
        rw [hye] at hp' hk' HST HFL
        have c0 : wr.cell? ⟨ba, o + j * 8, none⟩ = some (.int .i64 x.k) := hp 0 (by decide)
        have c1 : wr.cell? ⟨ba, o + j * 8 + 1, none⟩ = some (.int .i64 x.vk) := hp 1 (by decide)
        have c2 : wr.cell? ⟨ba, o + j * 8 + 2, none⟩ = some (.int .i64 x.vn) := hp 2 (by decide)
        have c3 : wr.cell? ⟨ba, o + j * 8 + 3, none⟩ = some (.string x.vs) := hp 3 (by decide)
        have c4 : wr.cell? ⟨ba, o + j * 8 + 4, none⟩ = some (.string x.s) := hp 4 (by decide)
        have c5 : wr.cell? ⟨ba, o + j * 8 + 5, none⟩ = some (.slice K x.kids.length kc) := hp 5 (by decide)
        have c6 : wr.cell? ⟨ba, o + j * 8 + 6, none⟩ = some (.int .i64 x.ln) := hp 6 (by decide)
        have c7 : wr.cell? ⟨ba, o + j * 8 + 7, none⟩ = some (.int .i64 x.co) := hp 7 (by decide)
        have d0 : w1.cell? ⟨bb, o' + j * 8, none⟩ = some (.int .i64 y.k) := hp' 0 (by decide)
        have d1 : w1.cell? ⟨bb, o' + j * 8 + 1, none⟩ = some (.int .i64 y.vk) := hp' 1 (by decide)
        have d2 : w1.cell? ⟨bb, o' + j * 8 + 2, none⟩ = some (.int .i64 y.vn) := hp' 2 (by decide)
        have d3 : w1.cell? ⟨bb, o' + j * 8 + 3, none⟩ = some (.string y.vs) := hp' 3 (by decide)
        have d4 : w1.cell? ⟨bb, o' + j * 8 + 4, none⟩ = some (.string y.s) := hp' 4 (by decide)
        have d5 : w1.cell? ⟨bb, o' + j * 8 + 5, none⟩ = some (.slice K' y.kids.length kc') := hp' 5 (by decide)
        have d6 : w1.cell? ⟨bb, o' + j * 8 + 6, none⟩ = some (.int .i64 y.ln) := hp' 6 (by decide)
        have d7 : w1.cell? ⟨bb, o' + j * 8 + 7, none⟩ = some (.int .i64 y.co) := hp' 7 (by decide)
        have hx1 : NdB w1 wr.heap.size x.k x.vk x.vn x.vs x.s K x.kids.length kc x.ln x.co := by rw [← hw1]; exact NdB.new wr x.k x.vk x.vn x.vs x.s K x.kids.length kc x.ln x.co
        have hk1 := hk.keep (W' := w1) fun g hg => hb1.block g (hBr g hg)
        have hBb1 : ∀ g, B g → g < w1.heap.size := fun g hg => Nat.lt_of_lt_of_le (hBr g hg) hb1.size
        have hBb1' : ∀ g, B' g → g < w1.heap.size := fun g hg => Nat.lt_of_lt_of_le (hBr' g hg) hb1.size
        have HX1 := Lib.hid hx1
        have HB1 := Lib.hid (HN.out.2.trans (hb1.mono HN.out.2.size))
        have HW1 := Lib.hid hw1
        have HK := Lib.hid (And.intro hk1 (And.intro hk' (And.intro hBb1 (And.intro hBb1' hAA))))
        clear hsr hsr' hBr hBr' hAA hp hp' hk hk' hk1 hBb1 hBb1' hx1 hb1 hw1 hxe hye
        go_upto_region 6 with (fail)
        rw [HW1.out]
        clear c0 c1 c2 c3 c4 c5 c6 c7
        go_upto_region 7 with (fail)
        obtain ⟨w2, hw2⟩ : ∃ w2, w1.alloc (.cells #[.int .i64 y.k, .int .i64 y.vk, .int .i64 y.vn, .string y.vs, .string y.s, .slice K' y.kids.length kc', .int .i64 y.ln, .int .i64 y.co] 37) = w2 := ⟨_, rfl⟩
        have hb2 : Below w1.heap.size w1 w2 := by rw [← hw2]; exact (Below.refl _ _).alloc (Nat.le_refl _) _
        have hy2 : NdB w2 w1.heap.size y.k y.vk y.vn y.vs y.s K' y.kids.length kc' y.ln y.co := by rw [← hw2]; exact NdB.new w1 y.k y.vk y.vn y.vs y.s K' y.kids.length kc' y.ln y.co
        obtain ⟨n0, n1, n2, n3, n4, n5, n6, n7⟩ := nd_cells (HX1.out.next hb2)
        obtain ⟨m0, m1, m2, m3, m4, m5, m6, m7⟩ := nd_cells hy2
        rw [hw2]
        have hM := alk1_any d HK.out.2.2.2.2 x y K K' kc kc' w2 B B' (HK.out.1.keep fun g hg => hb2.block g (HK.out.2.2.1 g hg)) (HK.out.2.1.keep fun g hg => hb2.block g (HK.out.2.2.2.1 g hg)) (fun g hg => Nat.lt_of_lt_of_le (HK.out.2.2.1 g hg) hb2.size) (fun g hg => Nat.lt_of_lt_of_le (HK.out.2.2.2.1 g hg) hb2.size)
        unfold ndV at hM
        have HM := Lib.hid hM
        have HB2 := Lib.hid (HB1.out.trans (hb2.mono HB1.out.size))
        clear hM hw2 hb2 hy2 d0 d1 d2 d3 d4 d5 d6 d7
        cases hv : alkN x y
        · rw [hv] at HM
          have HE := Lib.hid (HFL.out hv)
          clear hv
          go_wp2_with fail
          refine HM.out.mono ?_
          rintro e w9 ⟨rfl, hb9⟩
          have HB9 := Lib.hid (HB2.out.trans (hb9.mono HB2.out.size))
          clear hb9 n0 n1 n2 n3 n4 n5 n6 n7 m0 m1 m2 m3 m4 m5 m6 m7
          go_wp2
          go_ret
          exact ⟨congrArg (fun b : Bool => Ending.returned (Value.bool b)) HE.out.symm, HB9.out⟩
        · rw [hv] at HM
          have HE := Lib.hid (HST.out hv)
          clear hv
          go_wp2_with fail
          refine HM.out.mono ?_
          rintro e w9 ⟨rfl, hb9⟩
          have HB9 := Lib.hid (HB2.out.trans (hb9.mono HB2.out.size))
          clear hb9 n0 n1 n2 n3 n4 n5 n6 n7 m0 m1 m2 m3 m4 m5 m6 m7
          go_wp2
          go_roundw
          case rel => exact ⟨j + 1, by omega, by go_num, HE.out, HB9.out⟩
          case measure => simp [intOf]; omega
      · have hji : ¬ (j : Int) < (a.length : Int) := by omega
        have HE : Hid (R = true) := HI.out.2 ⟨HLN.out, fun i h h' => HN.out.1 i h h' (by omega)⟩
        go_wp2
        go_ret
        exact ⟨congrArg (fun b : Bool => Ending.returned (Value.bool b)) HE.out.symm, HN.out.2⟩
  · have hne : ((a.length : Int) != (b.length : Int)) = true := by
      rw [bne, Bool.not_eq_true', beq_eq_false_iff_ne]
      omega
    have HE : Hid (R = false) := by
      show _ = _
      rw [Bool.eq_false_iff]
      exact fun e => hlen (HI.out.1 e).1
    clear hlen
    go_wp2
    go_ret
    exact ⟨congrArg (fun b : Bool => Ending.returned (Value.bool b)) HE.out.symm, Below.refl _ _⟩
set_option maxHeartbeats 1000000 in
theorem alk_one (d : Nat) (A A' : Option Addr) (c c' : Nat) (a b : List Nd) (hA : a ≠ [] → AlkC d) (w : World) (B B' : Nat → Prop) (hs : SlN (d + 1) w B A a) (hs' : SlN (d + 1) w B' A' b) (hB : ∀ g, B g → g < w.heap.size) (hB' : ∀ g, B' g → g < w.heap.size) :
    Calls Tryz.prog 29 #[.slice A a.length c, .slice A' b.length c'] w fun e w' => e = .returned (.bool (alkL a b)) ∧ Below w.heap.size w w' := by
  have HC := Lib.hid (eqF_any d A A' c c' a b hA w B B' hs hs' hB hB')
  clear hs hs' hB hB' hA
  go_enter Tryz.func29, Tryz.ntmps29
  go_wp2_with fail
  refine HC.out.mono ?_
  rintro e w2 ⟨rfl, hb2⟩
  go_wp2
  go_ret
  exact ⟨rfl, hb2⟩
theorem alk_any (d : Nat) : AlkC d := by
  induction d with
  | zero => exact fun A A' c c' a b w B B' hs hs' hB hB' => alk_one 0 A A' c c' a b (fun h => absurd (show a = [] from hs) h) w B B' hs.deeper hs'.deeper hB hB'
  | succ d ih => exact fun A A' c c' a b w B B' hs hs' hB hB' => alk_one d A A' c c' a b (fun _ => ih) w B B' hs hs' hB hB'
/-- Same, of trees so deep at most -/
def sameL (a b : List Nd) : Bool := mayL a && (mayL b && alkL a b)
set_option maxHeartbeats 1000000 in
theorem sameN_any (d : Nat) (A A' : Option Addr) (c c' : Nat) (a b : List Nd) (w : World) (B B' : Nat → Prop) (hs : SlN d w B A a) (hs' : SlN d w B' A' b) (hB : ∀ g, B g → g < w.heap.size) (hB' : ∀ g, B' g → g < w.heap.size) (ht : txL a) (ht' : txL b) :
    Calls Tryz.prog 14 #[.slice A a.length c, .slice A' b.length c'] w fun e w' => e = .returned (.bool (sameL a b)) ∧ Below w.heap.size w w' := by
  have HM := Lib.hid (mayL_any d A c a w B hs hB ht)
  have HM' := Lib.hid (fun W (hb : Below w.heap.size w W) => mayL_any d A' c' b W B' (hs'.keep fun g hg => hb.block g (hB' g hg)) (fun g hg => Nat.lt_of_lt_of_le (hB' g hg) hb.size) ht')
  have HC := Lib.hid (fun W (hb : Below w.heap.size w W) => alk_any d A A' c c' a b W B B' (hs.keep fun g hg => hb.block g (hB g hg)) (hs'.keep fun g hg => hb.block g (hB' g hg)) (fun g hg => Nat.lt_of_lt_of_le (hB g hg) hb.size) (fun g hg => Nat.lt_of_lt_of_le (hB' g hg) hb.size))
  clear hs hs' hB hB' ht ht'
  unfold sameL
  go_enter Tryz.func14, Tryz.ntmps14
  go_wp2_with fail
  refine HM.out.mono ?_
  rintro e w1 ⟨rfl, hb1⟩
  have HB1 := Lib.hid hb1
  clear hb1
  cases h1 : mayL a
  · go_wp2_with fail
    go_ret
    exact ⟨congrArg (fun b : Bool => Ending.returned (Value.bool b)) (by rw [h1]; rfl), HB1.out⟩
  go_wp2_with fail
  refine (HM'.out _ HB1.out).mono ?_
  rintro e w2 ⟨rfl, hb2⟩
  have HB2 := Lib.hid (HB1.out.trans (hb2.mono HB1.out.size))
  clear hb2
  cases h2 : mayL b
  · go_wp2_with fail
    go_ret
    exact ⟨congrArg (fun b : Bool => Ending.returned (Value.bool b)) (by rw [h1, h2]; rfl), HB2.out⟩
  go_wp2_with fail
  refine (HC.out _ HB2.out).mono ?_
  rintro e w3 ⟨rfl, hb3⟩
  go_wp2
  go_ret
  exact ⟨congrArg (fun b : Bool => Ending.returned (Value.bool b)) (by rw [h1, h2]; rfl), HB2.out.trans (hb3.mono HB2.out.size)⟩
end Go.Proofs.YthbighnkohjfnaaGreatDoor
