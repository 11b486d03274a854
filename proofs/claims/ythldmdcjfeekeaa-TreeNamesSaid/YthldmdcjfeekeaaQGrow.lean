/-
  CONTRACTS: great, grown (the statements' own).
-/
import Derived.Test.YthldmdcjfeekeaaQMet2
import Derived.Test.YthldmdcjfeekeaaQArgs
namespace Go.Proofs.Ythldmdcjfeekeaa
open Go.RowKit

def GrEnd (w : World) (l : List OpP) (e : Ending) (w' : World) : Prop := ∃ b, e = .returned (.bool b) ∧ w = w' ∧ (b = false → l.length ≤ 100 ∧ ∀ x ∈ l, x.k.length ≤ 5000 ∧ x.v.length ≤ 70000 ∧ x.t.length ≤ 5000)
set_option maxRecDepth 100000 in
set_option maxHeartbeats 2000000 in
theorem great_any (A : Option Addr) (c : Nat) (l : List OpP) (w : World) (hs : SlO w A l) (hl : l.length ≤ 9223372036854775807) :
    Calls Try.prog 9 #[.slice A l.length c] w (GrEnd w l) := by
  have HS := Lib.hid hs
  clear hs
  by_cases g : (100 : Int) < (l.length : Int)
  · have g' : decide ((100 : Int) < (l.length : Int)) = true := decide_eq_true g
    go_enter Try.func9, Try.ntmps9
    go_wp2
    go_ret
    exact ⟨true, rfl, rfl, fun h => by cases h⟩
  have g' : decide ((100 : Int) < (l.length : Int)) = false := decide_eq_false g
  go_enter Try.func9, Try.ntmps9
  go_wp2
  go_loopg [9] l.length (fun gk i wr => ∃ j : Nat, i = .int .i64 j ∧ j + gk = l.length ∧ wr = w ∧ Hid (∀ (k : Nat) x, k < j → l[k]? = some x → x.k.length ≤ 5000 ∧ x.v.length ≤ 70000 ∧ x.t.length ≤ 5000))
  case atStart => exact ⟨0, rfl, by omega, rfl, fun k x hk _ => by omega⟩
  case round =>
    obtain ⟨j, rfl, hj, rfl, HP⟩ := hrel
    cases gk with
    | zero =>
      have hjz : ¬ ((j : Int) < (l.length : Int)) := by omega
      have hjz' : decide ((j : Int) < (l.length : Int)) = false := decide_eq_false hjz
      have HF : Hid (l.length ≤ 100 ∧ ∀ x ∈ l, x.k.length ≤ 5000 ∧ x.v.length ≤ 70000 ∧ x.t.length ≤ 5000) := ⟨by omega, fun x hx => by
        obtain ⟨k, hk, rfl⟩ := List.mem_iff_getElem.1 hx
        exact HP.out k _ (by omega) (List.getElem?_eq_getElem hk)⟩
      go_wp2
      go_ret
      exact ⟨false, rfl, rfl, fun _ => HF.out⟩
    | succ gk =>
      have hjz : ((j : Int) < (l.length : Int)) := by omega
      have hjz' : decide ((j : Int) < (l.length : Int)) = true := decide_eq_true hjz
      have hjn : j < l.length := by omega
      obtain ⟨b, o, rfl, hat⟩ := HS.out (fun e => by rw [e] at hjn; simp at hjn)
      have hop := hat j _ (List.getElem?_eq_getElem hjn)
      obtain ⟨x, hx⟩ : ∃ x, l[j] = x := ⟨_, rfl⟩
      rw [hx] at hop
      have HX : Hid (∀ y, l[j]? = some y → y = x) := fun y hy => by rw [List.getElem?_eq_getElem hjn, hx] at hy; exact (Option.some.inj hy).symm
      obtain ⟨A1, c1, hk, _⟩ := hop.c2
      obtain ⟨A2, c2, hv, _⟩ := hop.c3
      obtain ⟨A3, c3, ht, _⟩ := hop.c4
      clear hop hat hx
      by_cases g1 : (5000 : Int) < (x.k.length : Int)
      · have g1' : decide ((5000 : Int) < (x.k.length : Int)) = true := decide_eq_true g1
        go_wp2
        go_ret
        exact ⟨true, rfl, rfl, fun h => by cases h⟩
      · have g1' : decide ((5000 : Int) < (x.k.length : Int)) = false := decide_eq_false g1
        by_cases g2 : (70000 : Int) < (x.v.length : Int)
        · have g2' : decide ((70000 : Int) < (x.v.length : Int)) = true := decide_eq_true g2
          go_wp2
          go_ret
          exact ⟨true, rfl, rfl, fun h => by cases h⟩
        · have g2' : decide ((70000 : Int) < (x.v.length : Int)) = false := decide_eq_false g2
          by_cases g3 : (5000 : Int) < (x.t.length : Int)
          · have g3' : decide ((5000 : Int) < (x.t.length : Int)) = true := decide_eq_true g3
            go_wp2
            go_ret
            exact ⟨true, rfl, rfl, fun h => by cases h⟩
          · have g3' : decide ((5000 : Int) < (x.t.length : Int)) = false := decide_eq_false g3
            have HQ : Hid (∀ (k : Nat) y, k < j + 1 → l[k]? = some y → y.k.length ≤ 5000 ∧ y.v.length ≤ 70000 ∧ y.t.length ≤ 5000) := fun k y hk hy => by
              by_cases e : k = j
              · subst e
                obtain rfl := HX.out y hy
                omega
              · exact HP.out k y (by omega) hy
            go_wp2
            go_roundg gk
            case measure => omega
            case rel => exact ⟨j + 1, by go_num, by omega, rfl, HQ.out⟩
/-- keys and values that Put takes -/
def KV (L : List Pr) : Prop := ∀ q ∈ L, q.1.length ≤ 4096 ∧ q.2.length ≤ 65536
theorem KV.put {L : List Pr} (h : KV L) {k x : By} (h1 : k.length ≤ 4096) (h2 : x.length ≤ 65536) : KV (putL L (k, x)) := fun q hq => by
  rcases mem_put.1 hq with rfl | ⟨hq, _⟩
  · exact ⟨h1, h2⟩
  · exact h q hq
def GwEnd (w : World) (n : Nat) (e : Ending) (w' : World) : Prop := ∃ u L, e = .returned (.pointer u) ∧ TreeV w' (.pointer u) L ∧ L.length ≤ n ∧ KV L ∧ Below w.heap.size w w'
theorem KV.cut {L : List Pr} (h : KV L) (k : By) : KV (cutL L k) := fun q hq => h q (mem_cut.1 hq).1
set_option maxRecDepth 100000 in
set_option maxHeartbeats 4000000 in
theorem grown_any (A : Option Addr) (c : Nat) (l : List OpP) (w : World) (hs : SlO w A l) (hl : l.length ≤ 100) :
    Calls Try.prog 27 #[.slice A l.length c] w (GwEnd w l.length) := by
  have HS := Lib.hid hs
  clear hs
  go_enter Try.func27, Try.ntmps27
  go_wp2
  go_loopg [3, 9] l.length (fun gk t i wr => ∃ (j : Nat) (u : Option Addr) (L : List Pr), i = .int .i64 j ∧ t = .pointer u ∧ j + gk = l.length ∧ Hid (TreeV wr (.pointer u) L) ∧ Hid (L.length ≤ j ∧ KV L) ∧ Hid (Below w.heap.size w wr))
  case atStart => exact ⟨0, none, [], rfl, rfl, by omega, treeV_nil _, ⟨Nat.le_refl _, fun _ h => by cases h⟩, Below.refl _ _⟩
  case round =>
    obtain ⟨j, u, L, rfl, rfl, hj, HT, HL, HB⟩ := hrel
    cases gk with
    | zero =>
      have hjz : ¬ ((j : Int) < (l.length : Int)) := by omega
      have hjz' : decide ((j : Int) < (l.length : Int)) = false := decide_eq_false hjz
      go_wp2
      go_ret
      exact ⟨_, L, rfl, HT.out, by have := HL.out.1; omega, HL.out.2, HB.out⟩
    | succ gk =>
      have hjz : ((j : Int) < (l.length : Int)) := by omega
      have hjz' : decide ((j : Int) < (l.length : Int)) = true := decide_eq_true hjz
      have hjn : j < l.length := by omega
      obtain ⟨b, o, rfl, hat⟩ := HS.out.next HB.out (fun e => by rw [e] at hjn; simp at hjn)
      have hop := hat j _ (List.getElem?_eq_getElem hjn)
      obtain ⟨x, hx⟩ : ∃ x, l[j] = x := ⟨_, rfl⟩
      rw [hx] at hop
      have hc0 := hop.c0
      obtain ⟨A1, c1, hk, hks⟩ := hop.c2
      obtain ⟨A2, c2, hv, hvs⟩ := hop.c3
      have HLT := Lib.hid hop.lt
      have HK := Lib.hid hk
      have HV := Lib.hid hv
      have HKS := Lib.hid hks
      have HVS := Lib.hid hvs
      clear hop hat hx hks hvs hv
      by_cases g1 : x.kind = 1
      · have g1' : (x.kind == 1) = true := by simpa using g1
        have HC := Lib.hid (cutM_any A1 c1 x.k wr HT.out HKS.out)
        rw [g1] at hc0
        clear g1 g1'
        go_wp2_with fail
        refine HC.out.mono ?_
        rintro e w1 ⟨v1, rfl, ⟨b1, rfl⟩, ht1, hb1⟩
        have HT1 := Lib.hid ht1
        have HB1 := Lib.hid (HB.out.trans (hb1.mono HB.out.size))
        clear ht1 hb1
        go_wp2
        go_roundg gk
        case measure => omega
        case rel => exact ⟨j + 1, _, _, by go_num, rfl, by omega, HT1.out, ⟨by have := cut_len' L x.k; have := HL.out.1; omega, HL.out.2.cut _⟩, HB1.out⟩
      · have g1' : (x.kind == 1) = false := by simpa using g1
        clear hk
        go_wp2_with fail
        by_cases g2 : x.k.length ≤ 4096 ∧ x.v.length ≤ 65536
        · have HPT := Lib.hid (fun X (hX : Below wr.heap.size wr X) => putM_any A1 A2 c1 c2 x.k x.v X (HT.out.next hX) (slB_next HKS.out hX) (slB_next HVS.out hX) g2.1 g2.2 (by have := HL.out.1; omega))
          clear hc0 g1 g1'
          have HS0 := Lib.hid (qb_dn (Below.refl wr.heap.size wr) 1)
          obtain ⟨we, hwe⟩ : ∃ X, wr.drew = X := ⟨_, rfl⟩
          refine wp_region_held_drew (S := fun X => Below wr.heap.size wr X) (by kernel_rfl) HS0.out (fun hHeld => ?_)
          rw [hwe] at hHeld ⊢
          clear hwe HS0
          refine takeV 0 (some 26) ((.pointer u)) rfl rfl (by kernel_rfl) (by kernel_rfl) (by kernel_rfl) (fun _ _ _ h => h) (by rfl) (by (intro _w _hSw; (try dsimp only at _hSw); go_simp)) (by assumption) ?_
          simp only [Act.put, List.setIfInBounds_toArray, List.set_cons_zero, List.set_cons_succ]
          refine takeV 1 (some 27) ((.slice (some ⟨b, o, none⟩) l.length c)) rfl rfl (by kernel_rfl) (by kernel_rfl) (by kernel_rfl) (fun _ _ _ h => h) (by rfl) (by (intro _w _hSw; (try dsimp only at _hSw); go_simp)) (by assumption) ?_
          simp only [Act.put, List.setIfInBounds_toArray, List.set_cons_zero, List.set_cons_succ]
          refine takeV 2 (some 28) ((.int .i64 (j : Nat))) rfl rfl (by kernel_rfl) (by kernel_rfl) (by kernel_rfl) (fun _ _ _ h => h) (by rfl) (by (intro _w _hSw; (try dsimp only at _hSw); go_simp)) (by assumption) ?_
          simp only [Act.put, List.setIfInBounds_toArray, List.set_cons_zero, List.set_cons_succ]
          refine takeV 3 (some 29) ((.pointer (some ⟨b, o + j * 6, none⟩))) rfl rfl (by kernel_rfl) (by kernel_rfl) (by kernel_rfl) (fun _ _ _ h => h) (by rfl) (by (intro _w _hSw; (try dsimp only at _hSw); go_simp)) (by assumption) ?_
          simp only [Act.put, List.setIfInBounds_toArray, List.set_cons_zero, List.set_cons_succ]
          refine takeV 4 (some 30) ((.pointer (some ⟨b, o + j * 6 + 2, none⟩))) rfl rfl (by kernel_rfl) (by kernel_rfl) (by kernel_rfl) (fun _ _ _ h => h) (by rfl) (by (intro _w _hSw; (try dsimp only at _hSw); go_simp)) (by assumption) ?_
          simp only [Act.put, List.setIfInBounds_toArray, List.set_cons_zero, List.set_cons_succ]
          refine takeV 5 (some 31) ((.slice A1 x.k.length c1)) rfl rfl (by kernel_rfl) (by kernel_rfl) (by kernel_rfl) (fun _ _ _ h => h) (by rfl) (by (intro _w hSw; have hk : _w.cell? ⟨b, o + j * 6 + 2, none⟩ = some (.slice A1 x.k.length c1) := (hSw.cell (p := ⟨b, o + j * 6 + 2, none⟩) HLT.out).trans HK.out; clear hSw; go_simp)) (by assumption) ?_
          simp only [Act.put, List.setIfInBounds_toArray, List.set_cons_zero, List.set_cons_succ]
          refine takeV 6 (some 32) ((.slice (some ⟨b, o, none⟩) l.length c)) rfl rfl (by kernel_rfl) (by kernel_rfl) (by kernel_rfl) (fun _ _ _ h => h) (by rfl) (by (intro _w _hSw; (try dsimp only at _hSw); go_simp)) (by assumption) ?_
          simp only [Act.put, List.setIfInBounds_toArray, List.set_cons_zero, List.set_cons_succ]
          refine takeV 7 (some 33) ((.int .i64 (j : Nat))) rfl rfl (by kernel_rfl) (by kernel_rfl) (by kernel_rfl) (fun _ _ _ h => h) (by rfl) (by (intro _w _hSw; (try dsimp only at _hSw); go_simp)) (by assumption) ?_
          simp only [Act.put, List.setIfInBounds_toArray, List.set_cons_zero, List.set_cons_succ]
          refine takeV 8 (some 34) ((.pointer (some ⟨b, o + j * 6, none⟩))) rfl rfl (by kernel_rfl) (by kernel_rfl) (by kernel_rfl) (fun _ _ _ h => h) (by rfl) (by (intro _w _hSw; (try dsimp only at _hSw); go_simp)) (by assumption) ?_
          simp only [Act.put, List.setIfInBounds_toArray, List.set_cons_zero, List.set_cons_succ]
          refine takeV 9 (some 35) ((.pointer (some ⟨b, o + j * 6 + 3, none⟩))) rfl rfl (by kernel_rfl) (by kernel_rfl) (by kernel_rfl) (fun _ _ _ h => h) (by rfl) (by (intro _w _hSw; (try dsimp only at _hSw); go_simp)) (by assumption) ?_
          simp only [Act.put, List.setIfInBounds_toArray, List.set_cons_zero, List.set_cons_succ]
          refine takeV 10 (some 36) ((.slice A2 x.v.length c2)) rfl rfl (by kernel_rfl) (by kernel_rfl) (by kernel_rfl) (fun _ _ _ h => h) (by rfl) (by (intro _w hSw; have hv : _w.cell? ⟨b, o + j * 6 + 3, none⟩ = some (.slice A2 x.v.length c2) := (hSw.cell (p := ⟨b, o + j * 6 + 3, none⟩) HLT.out).trans HV.out; clear hSw; go_simp)) (by assumption) ?_
          simp only [Act.put, List.setIfInBounds_toArray, List.set_cons_zero, List.set_cons_succ]
          refine callV 11 rfl (by kernel_rfl) (by rfl) (fun K hK => ?_)
          go_simp
          refine (HPT.out _ hHeld).mono ?_
          rintro e w1 ⟨v1, rfl, ⟨b1, rfl⟩, ht1, hb1⟩
          have HT1 := Lib.hid ht1
          have HB1 := Lib.hid (HB.out.trans ((hHeld.trans (hb1.mono hHeld.size)).mono HB.out.size))
          refine hK.out _ _ (below_more hHeld hb1 hHeld.size) (fun hHeld2 => ?_)
          clear hK K hHeld ht1 hb1
          have hHeld := hHeld2
          clear hHeld2
          try simp only [Act.put, List.setIfInBounds_toArray, List.set_cons_zero, List.set_cons_succ]
          refine takeV 12 (some 25) ((.tuple #[.pointer (some ⟨b1, 0, none⟩), .int .i64 0])) rfl rfl (by kernel_rfl) (by kernel_rfl) (by kernel_rfl) (fun _ _ _ h => h) (by rfl) (by (intro _w _hSw; (try dsimp only at _hSw); go_simp)) (by assumption) ?_
          simp only [Act.put, List.setIfInBounds_toArray, List.set_cons_zero, List.set_cons_succ]
          refine takeV 13 (some 38) ((.pointer (some ⟨b1, 0, none⟩))) rfl rfl (by kernel_rfl) (by kernel_rfl) (by kernel_rfl) (fun _ _ _ h => h) (by rfl) (by (intro _w _hSw; (try dsimp only at _hSw); go_simp)) (by assumption) ?_
          simp only [Act.put, List.setIfInBounds_toArray, List.set_cons_zero, List.set_cons_succ]
          refine takeV 14 (some 39) ((.int .i64 0)) rfl rfl (by kernel_rfl) (by kernel_rfl) (by kernel_rfl) (fun _ _ _ h => h) (by rfl) (by (intro _w _hSw; (try dsimp only at _hSw); go_simp)) (by assumption) ?_
          simp only [Act.put, List.setIfInBounds_toArray, List.set_cons_zero, List.set_cons_succ]
          refine takeV 15 (some 5) ((.pointer (some ⟨b1, 0, none⟩))) rfl rfl (by kernel_rfl) (by kernel_rfl) (by kernel_rfl) (fun _ _ _ h => h) (by rfl) (by (intro _w _hSw; (try dsimp only at _hSw); go_simp)) (by assumption) ?_
          simp only [Act.put, List.setIfInBounds_toArray, List.set_cons_zero, List.set_cons_succ]
          refine takeV 16 (some 6) ((.int .i64 0)) rfl rfl (by kernel_rfl) (by kernel_rfl) (by kernel_rfl) (fun _ _ _ h => h) (by rfl) (by (intro _w _hSw; (try dsimp only at _hSw); go_simp)) (by assumption) ?_
          simp only [Act.put, List.setIfInBounds_toArray, List.set_cons_zero, List.set_cons_succ]
          refine wpAnyH_done (by kernel_rfl) ?_ _
          go_wp2
          go_roundg gk
          case measure => omega
          case rel => exact ⟨j + 1, _, _, by go_num, rfl, by omega, HT1.out, ⟨by have := put_len L (x.k, x.v); have := HL.out.1; omega, HL.out.2.put g2.1 g2.2⟩, HB1.out⟩
        · have HPT := Lib.hid (fun X => putM_no (.pointer u) A1 A2 c1 c2 x.k x.v X (by omega))
          clear hc0 g1 g1'
          have HS0 := Lib.hid (qb_dn (Below.refl wr.heap.size wr) 1)
          obtain ⟨we, hwe⟩ : ∃ X, wr.drew = X := ⟨_, rfl⟩
          refine wp_region_held_drew (S := fun X => Below wr.heap.size wr X) (by kernel_rfl) HS0.out (fun hHeld => ?_)
          rw [hwe] at hHeld ⊢
          clear hwe HS0
          refine takeV 0 (some 26) ((.pointer u)) rfl rfl (by kernel_rfl) (by kernel_rfl) (by kernel_rfl) (fun _ _ _ h => h) (by rfl) (by (intro _w _hSw; (try dsimp only at _hSw); go_simp)) (by assumption) ?_
          simp only [Act.put, List.setIfInBounds_toArray, List.set_cons_zero, List.set_cons_succ]
          refine takeV 1 (some 27) ((.slice (some ⟨b, o, none⟩) l.length c)) rfl rfl (by kernel_rfl) (by kernel_rfl) (by kernel_rfl) (fun _ _ _ h => h) (by rfl) (by (intro _w _hSw; (try dsimp only at _hSw); go_simp)) (by assumption) ?_
          simp only [Act.put, List.setIfInBounds_toArray, List.set_cons_zero, List.set_cons_succ]
          refine takeV 2 (some 28) ((.int .i64 (j : Nat))) rfl rfl (by kernel_rfl) (by kernel_rfl) (by kernel_rfl) (fun _ _ _ h => h) (by rfl) (by (intro _w _hSw; (try dsimp only at _hSw); go_simp)) (by assumption) ?_
          simp only [Act.put, List.setIfInBounds_toArray, List.set_cons_zero, List.set_cons_succ]
          refine takeV 3 (some 29) ((.pointer (some ⟨b, o + j * 6, none⟩))) rfl rfl (by kernel_rfl) (by kernel_rfl) (by kernel_rfl) (fun _ _ _ h => h) (by rfl) (by (intro _w _hSw; (try dsimp only at _hSw); go_simp)) (by assumption) ?_
          simp only [Act.put, List.setIfInBounds_toArray, List.set_cons_zero, List.set_cons_succ]
          refine takeV 4 (some 30) ((.pointer (some ⟨b, o + j * 6 + 2, none⟩))) rfl rfl (by kernel_rfl) (by kernel_rfl) (by kernel_rfl) (fun _ _ _ h => h) (by rfl) (by (intro _w _hSw; (try dsimp only at _hSw); go_simp)) (by assumption) ?_
          simp only [Act.put, List.setIfInBounds_toArray, List.set_cons_zero, List.set_cons_succ]
          refine takeV 5 (some 31) ((.slice A1 x.k.length c1)) rfl rfl (by kernel_rfl) (by kernel_rfl) (by kernel_rfl) (fun _ _ _ h => h) (by rfl) (by (intro _w hSw; have hk : _w.cell? ⟨b, o + j * 6 + 2, none⟩ = some (.slice A1 x.k.length c1) := (hSw.cell (p := ⟨b, o + j * 6 + 2, none⟩) HLT.out).trans HK.out; clear hSw; go_simp)) (by assumption) ?_
          simp only [Act.put, List.setIfInBounds_toArray, List.set_cons_zero, List.set_cons_succ]
          refine takeV 6 (some 32) ((.slice (some ⟨b, o, none⟩) l.length c)) rfl rfl (by kernel_rfl) (by kernel_rfl) (by kernel_rfl) (fun _ _ _ h => h) (by rfl) (by (intro _w _hSw; (try dsimp only at _hSw); go_simp)) (by assumption) ?_
          simp only [Act.put, List.setIfInBounds_toArray, List.set_cons_zero, List.set_cons_succ]
          refine takeV 7 (some 33) ((.int .i64 (j : Nat))) rfl rfl (by kernel_rfl) (by kernel_rfl) (by kernel_rfl) (fun _ _ _ h => h) (by rfl) (by (intro _w _hSw; (try dsimp only at _hSw); go_simp)) (by assumption) ?_
          simp only [Act.put, List.setIfInBounds_toArray, List.set_cons_zero, List.set_cons_succ]
          refine takeV 8 (some 34) ((.pointer (some ⟨b, o + j * 6, none⟩))) rfl rfl (by kernel_rfl) (by kernel_rfl) (by kernel_rfl) (fun _ _ _ h => h) (by rfl) (by (intro _w _hSw; (try dsimp only at _hSw); go_simp)) (by assumption) ?_
          simp only [Act.put, List.setIfInBounds_toArray, List.set_cons_zero, List.set_cons_succ]
          refine takeV 9 (some 35) ((.pointer (some ⟨b, o + j * 6 + 3, none⟩))) rfl rfl (by kernel_rfl) (by kernel_rfl) (by kernel_rfl) (fun _ _ _ h => h) (by rfl) (by (intro _w _hSw; (try dsimp only at _hSw); go_simp)) (by assumption) ?_
          simp only [Act.put, List.setIfInBounds_toArray, List.set_cons_zero, List.set_cons_succ]
          refine takeV 10 (some 36) ((.slice A2 x.v.length c2)) rfl rfl (by kernel_rfl) (by kernel_rfl) (by kernel_rfl) (fun _ _ _ h => h) (by rfl) (by (intro _w hSw; have hv : _w.cell? ⟨b, o + j * 6 + 3, none⟩ = some (.slice A2 x.v.length c2) := (hSw.cell (p := ⟨b, o + j * 6 + 3, none⟩) HLT.out).trans HV.out; clear hSw; go_simp)) (by assumption) ?_
          simp only [Act.put, List.setIfInBounds_toArray, List.set_cons_zero, List.set_cons_succ]
          refine callV 11 rfl (by kernel_rfl) (by rfl) (fun K hK => ?_)
          go_simp
          refine (HPT.out _).mono ?_
          rintro e w1 ⟨rfl, rfl⟩
          have HT1 := Lib.hid (HT.out.next hHeld)
          have HB1 := Lib.hid (HB.out.trans (hHeld.mono HB.out.size))
          refine hK.out _ _ hHeld (fun hHeld2 => ?_)
          clear hK K hHeld
          have hHeld := hHeld2
          clear hHeld2
          try simp only [Act.put, List.setIfInBounds_toArray, List.set_cons_zero, List.set_cons_succ]
          refine takeV 12 (some 25) ((.tuple #[.pointer none, .int .i64 100])) rfl rfl (by kernel_rfl) (by kernel_rfl) (by kernel_rfl) (fun _ _ _ h => h) (by rfl) (by (intro _w _hSw; (try dsimp only at _hSw); go_simp)) (by assumption) ?_
          simp only [Act.put, List.setIfInBounds_toArray, List.set_cons_zero, List.set_cons_succ]
          refine takeV 13 (some 38) ((.pointer none)) rfl rfl (by kernel_rfl) (by kernel_rfl) (by kernel_rfl) (fun _ _ _ h => h) (by rfl) (by (intro _w _hSw; (try dsimp only at _hSw); go_simp)) (by assumption) ?_
          simp only [Act.put, List.setIfInBounds_toArray, List.set_cons_zero, List.set_cons_succ]
          refine takeV 14 (some 39) ((.int .i64 100)) rfl rfl (by kernel_rfl) (by kernel_rfl) (by kernel_rfl) (fun _ _ _ h => h) (by rfl) (by (intro _w _hSw; (try dsimp only at _hSw); go_simp)) (by assumption) ?_
          simp only [Act.put, List.setIfInBounds_toArray, List.set_cons_zero, List.set_cons_succ]
          refine takeV 15 (some 5) ((.pointer none)) rfl rfl (by kernel_rfl) (by kernel_rfl) (by kernel_rfl) (fun _ _ _ h => h) (by rfl) (by (intro _w _hSw; (try dsimp only at _hSw); go_simp)) (by assumption) ?_
          simp only [Act.put, List.setIfInBounds_toArray, List.set_cons_zero, List.set_cons_succ]
          refine takeV 16 (some 6) ((.int .i64 100)) rfl rfl (by kernel_rfl) (by kernel_rfl) (by kernel_rfl) (fun _ _ _ h => h) (by rfl) (by (intro _w _hSw; (try dsimp only at _hSw); go_simp)) (by assumption) ?_
          simp only [Act.put, List.setIfInBounds_toArray, List.set_cons_zero, List.set_cons_succ]
          refine wpAnyH_done (by kernel_rfl) ?_ _
          go_wp2
          go_roundg gk
          case measure => omega
          case rel => exact ⟨j + 1, _, _, by go_num, rfl, by omega, HT1.out, ⟨by have := HL.out.1; omega, HL.out.2⟩, HB1.out⟩
end Go.Proofs.Ythldmdcjfeekeaa
