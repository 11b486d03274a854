/-
  CONTRACTS: a sum in two words; the program's Total.
-/
import Derived.Test.YtofmfainhflmmaaYTotP
import Derived.Test.YtofmfainhflmmaaAdds
import Derived.Test.YtofmfainhflmmaaZSame
import Derived.Test.YtofmfainhflmmaaZOf
namespace Go.Proofs.Ytofmfainhflmmaa
open Go.RowKit Go.Shelf

theorem add64 (x y c : Int) (hx : 0 ≤ x) (hy : 0 ≤ y) (hc0 : 0 ≤ c) (hc : c ≤ 1) (w : World) : (callFunc 81 #[.int .u64 x, .int .u64 y, .int .u64 c]).run Try.prog w =
    .ok (.value (.tuple #[.int .u64 ((x + y + c) % 18446744073709551616), .int .u64 ((x + y + c) / 18446744073709551616)])) w := by
  obtain ⟨x, rfl⟩ := Int.eq_ofNat_of_zero_le hx
  obtain ⟨y, rfl⟩ := Int.eq_ofNat_of_zero_le hy
  obtain ⟨c, rfl⟩ := Int.eq_ofNat_of_zero_le hc0
  refine (Any7.bits_Add64 Try.addL x y c (by omega) w).trans ?_
  congr 5 <;> omega
theorem add64_0 (x y : Int) (hx : 0 ≤ x) (hy : 0 ≤ y) (w : World) : (callFunc 81 #[.int .u64 x, .int .u64 y, .int .u64 0]).run Try.prog w =
    .ok (.value (.tuple #[.int .u64 ((x + y) % 18446744073709551616), .int .u64 ((x + y) / 18446744073709551616)])) w := by
  simpa using add64 x y 0 hx hy (Int.le_refl 0) (by decide) w
theorem wu64 (n : Int) : IntKind.u64.wrap n = n % 18446744073709551616 := by simp [IntKind.wrap, IntKind.bits, IntKind.signed]
theorem loW_bd (s : Int) : 0 ≤ loW s ∧ loW s < 18446744073709551616 := by unfold loW; omega
theorem hiW_bd (s : Int) : 0 ≤ hiW s ∧ hiW s < 18446744073709551616 := by unfold hiW; omega
set_option maxRecDepth 100000 in
set_option maxHeartbeats 1000000 in
theorem plus_any (S n : Int) (w : World) (hn1 : -9223372036854775808 ≤ n) (hn2 : n ≤ 9223372036854775807) :
    Calls Try.prog 42 #[.agg #[.int .u64 (loW S), .int .u64 (hiW S)], .int .i64 n] w fun e w' => e = .returned (.agg #[.int .u64 (loW (S + n)), .int .u64 (hiW (S + n))]) ∧ Below w.heap.size w w' := by
  obtain ⟨u, hu⟩ : ∃ u, IntKind.u64.wrap n = u := ⟨_, rfl⟩
  obtain ⟨v, hv⟩ : ∃ v, IntKind.u64.wrap (n / 9223372036854775808) = v := ⟨_, rfl⟩
  have hu0 : 0 ≤ u ∧ u < 18446744073709551616 := by rw [← hu, wu64]; omega
  have hv0 : 0 ≤ v := by rw [← hv, wu64]; omega
  have HLO : Hid ((loW S + u) % 18446744073709551616 = loW (S + n)) := by show _ = _; rw [← hu, wu64]; exact lo_plus S n
  have HHI : Hid ((hiW S + v + (loW S + u) / 18446744073709551616) % 18446744073709551616 = hiW (S + n)) := by
    show _ = _
    rw [← hi_plus hn1 hn2, ← hu, ← hv, wu64, wu64]
    congr 3
    split <;> omega
  have hL := loW_bd S
  have hH := hiW_bd S
  generalize loW S = a at *
  generalize hiW S = b at *
  generalize loW (S + n) = a2 at *
  generalize hiW (S + n) = b2 at *
  have k0 : 0 ≤ (a + u) / 18446744073709551616 := by omega
  have k1 : (a + u) / 18446744073709551616 ≤ 1 := by omega
  obtain ⟨ha0, ha1⟩ := hL
  obtain ⟨hb0, hb1⟩ := hH
  obtain ⟨hu1, hu2⟩ := hu0
  go_enter Try.func42, Try.ntmps42
  go_wp2_with (first | simp only [add64_0 a u ha0 hu1] | simp only [add64 b v ((a + u) / 18446744073709551616) hb0 hv0 k0 k1])
  refine bodyPost_ret (v := .agg #[.int .u64 a2, .int .u64 b2]) (by rw [results_c1 rfl]; obtain x := HLO.out; obtain y := HHI.out; go_simp) rfl ⟨rfl, ?_⟩
  exact ((Below.refl _ _).alloc (Nat.le_refl _) _).alloc (by simp) _
set_option maxRecDepth 100000 in
set_option maxHeartbeats 1000000 in
theorem narrow_any (S : Int) (w : World) (h1 : -9223372036854775808 * 1000000000000 ≤ S) (h2 : S ≤ 9223372036854775807 * 1000000000000) :
    Calls Try.prog 43 #[.agg #[.int .u64 (loW S), .int .u64 (hiW S)]] w fun e w' => (∃ n, e = .returned (.tuple #[.int .i64 n, .bool (fitB S)]) ∧ (fitB S = true → n = S)) ∧ Below w.heap.size w w' := by
  have HF := Lib.hid (fit_narrow h1 h2)
  have HI := Lib.hid (fun h => narrow_is (s := S) h)
  have hL := loW_bd S
  generalize hiW S = b at *
  generalize loW S = a at *
  generalize fitB S = f at *
  clear h1 h2
  obtain ⟨n, hn⟩ : ∃ n, IntKind.i64.wrap a = n := ⟨_, rfl⟩
  obtain ⟨v, hv⟩ : ∃ v, IntKind.u64.wrap (n / 9223372036854775808) = v := ⟨_, rfl⟩
  go_enter Try.func43, Try.ntmps43
  go_wp2_with fail
  go_quiet (fail)
  go_wp2_with fail
  have HB : Hid ((b == v) = f) := by
    show _ = _
    have hwa : n = if a < 9223372036854775808 then a else a - 18446744073709551616 := by rw [← hn, IntKind.wrap_i64]; split <;> omega
    have hve : v = if n < 0 then 18446744073709551615 else 0 := by rw [← hv, wu64]; have : -9223372036854775808 ≤ n ∧ n ≤ 9223372036854775807 := by rw [hwa]; split <;> omega
                                                                   split <;> omega
    have h3 := HF.out
    rw [← hwa, ← hve] at h3
    cases f with
    | true => rw [beq_iff_eq]; exact h3.2 rfl
    | false => rw [beq_eq_false_iff_ne]; exact fun e => by have := h3.1 e; cases this
  have HN : Hid (f = true → n = S) := fun h => by
    have h3 := HI.out h
    rw [← h3, ← hn, IntKind.wrap_i64]
    split <;> omega
  refine bodyPost_ret (v := .tuple #[.int .i64 n, .bool f]) (by rw [results_tmp2 rfl, ← HB.out]; rfl) rfl ⟨⟨n, rfl, HN.out⟩, ?_⟩
  exact ((Below.refl _ _).alloc (Nat.le_refl _) _).trans (below_drewN _ _)
set_option maxHeartbeats 1000000 in
theorem number_any (n : Int) (w : World) :
    Calls Try.prog 44 #[.int .i64 n] w fun e w' => e = .returned (.agg #[.int .i64 1, .int .i64 n, .string ⟨#[]⟩]) ∧ Below w.heap.size w w' := by
  go_enter Try.func44, Try.ntmps44
  go_wp2_with fail
  refine bodyPost_ret (v := .agg #[.int .i64 1, .int .i64 n, .string ⟨#[]⟩]) (by rw [results_c1 rfl]; go_simp) rfl ⟨rfl, ?_⟩
  exact (Below.refl _ _).alloc (Nat.le_refl _) _
/-- a value as it is answered -/
def vlV (v : Vl) : Value := .agg #[.int .i64 v.1, .int .i64 v.2.1, .string v.2.2]
theorem heap_setCell_at {W : World} {B o : Nat} {cs : Array Value} {t : TypeId} {fr : Nat × Nat} (v' : Value) (h : W.heap[B]? = some (.cells cs t fr)) : (W.setCell ⟨B, o, none⟩ v').heap[B]? = some (.cells (cs.setIfInBounds o v') t fr) := by
  obtain ⟨hlt, hk⟩ := Array.getElem?_eq_some_iff.1 h
  show (W.heap.modify B _)[B]? = _
  rw [Array.getElem?_eq_getElem (by rw [Array.size_modify]; exact hlt), Array.getElem_modify_self, hk]
  rfl
/-- a sum on its way, in its block; behind it the block of the answer -/
structure TotSt (w : World) (S : Int) (wr : World) : Prop where
  b : Below w.heap.size w wr
  z : wr.heap[w.heap.size]? = some (.cells #[.int .i64 0, .int .i64 0, .string ⟨#[]⟩] 24 (0, 0))
  k : wr.heap[w.heap.size + 1]? = some (.cells #[.int .u64 (loW S), .int .u64 (hiW S)] 66 (0, 0))
theorem TotSt.lt {w wr : World} {S : Int} (h : TotSt w S wr) : w.heap.size + 1 < wr.heap.size := (Array.getElem?_eq_some_iff.1 h.k).1
theorem TotSt.next {w wr w1 : World} {S : Int} (h : TotSt w S wr) (hb : Below wr.heap.size wr w1) : TotSt w S w1 := by
  have hl := h.lt
  exact ⟨h.b.trans (hb.mono h.b.size), (hb.block _ (by omega)).trans h.z, (hb.block _ hl).trans h.k⟩
theorem TotSt.put {w wr : World} {S : Int} (S' : Int) (h : TotSt w S wr) : TotSt w S' ((wr.setCell ⟨w.heap.size + 1, 0, none⟩ (.int .u64 (loW S'))).setCell ⟨w.heap.size + 1, 1, none⟩ (.int .u64 (hiW S'))) := by
  refine ⟨(h.b.setCell (p := ⟨w.heap.size + 1, 0, none⟩) (Nat.le_succ _) _).setCell (p := ⟨w.heap.size + 1, 1, none⟩) (Nat.le_succ _) _, ?_, ?_⟩
  · rw [Below.heap_setCell _ ⟨w.heap.size + 1, 1, none⟩ _ _ (by show w.heap.size ≠ w.heap.size + 1; omega), Below.heap_setCell _ ⟨w.heap.size + 1, 0, none⟩ _ _ (by show w.heap.size ≠ w.heap.size + 1; omega)]
    exact h.z
  · exact heap_setCell_at _ (heap_setCell_at _ h.k)
theorem TotSt.c {w wr : World} {S : Int} (h : TotSt w S wr) : wr.cell? ⟨w.heap.size + 1, 0, none⟩ = some (.int .u64 (loW S)) ∧ wr.cell? ⟨w.heap.size + 1, 1, none⟩ = some (.int .u64 (hiW S)) ∧ wr.frozen? ⟨w.heap.size + 1, 0, none⟩ = false ∧ wr.frozen? ⟨w.heap.size + 1, 1, none⟩ = false := by
  have := h.k
  refine ⟨?_, ?_, ?_, ?_⟩ <;> simp [World.cell?, World.frozen?, this]
theorem TotSt.d {w wr : World} {S : Int} (h : TotSt w S wr) : wr.cell? ⟨w.heap.size, 0, none⟩ = some (.int .i64 0) ∧ wr.cell? ⟨w.heap.size, 1, none⟩ = some (.int .i64 0) ∧ wr.cell? ⟨w.heap.size, 2, none⟩ = some (.string ⟨#[]⟩) ∧ wr.frozen? ⟨w.heap.size, 0, none⟩ = false ∧ wr.frozen? ⟨w.heap.size, 1, none⟩ = false ∧ wr.frozen? ⟨w.heap.size, 2, none⟩ = false := by
  have := h.z
  refine ⟨?_, ?_, ?_, ?_, ?_, ?_⟩ <;> simp [World.cell?, World.frozen?, this]
theorem tot_new (w : World) : TotSt w 0 ((w.alloc (.cells #[.int .i64 0, .int .i64 0, .string ⟨#[]⟩] 24)).alloc (.cells #[.int .u64 0, .int .u64 0] 66)) := by
  obtain ⟨w1, h1⟩ : ∃ w1, w.alloc (.cells #[.int .i64 0, .int .i64 0, .string ⟨#[]⟩] 24) = w1 := ⟨_, rfl⟩
  have s1 : w1.heap.size = w.heap.size + 1 := by rw [← h1]; simp
  have b1 : Below w.heap.size w w1 := by rw [← h1]; exact (Below.refl _ _).alloc (Nat.le_refl _) _
  have b2 : Below w1.heap.size w1 (w1.alloc (.cells #[.int .u64 0, .int .u64 0] 66)) := (Below.refl _ _).alloc (Nat.le_refl _) _
  rw [h1]
  exact ⟨b1.trans (b2.mono (by omega)), (b2.block _ (by omega)).trans (by rw [← h1]; exact heap_alloc_new w _), by rw [← s1]; exact heap_alloc_new w1 _⟩
theorem cells_three {W : World} {b : Nat} {u0 u1 u2 v0 v1 v2 : Value} (c0 : W.cell? ⟨b, 0, none⟩ = some u0) (c1 : W.cell? ⟨b, 1, none⟩ = some u1) (c2 : W.cell? ⟨b, 2, none⟩ = some u2) :
    (((W.setCell ⟨b, 0, none⟩ v0).setCell ⟨b, 1, none⟩ v1).setCell ⟨b, 2, none⟩ v2).cell? ⟨b, 0, none⟩ = some v0 ∧ (((W.setCell ⟨b, 0, none⟩ v0).setCell ⟨b, 1, none⟩ v1).setCell ⟨b, 2, none⟩ v2).cell? ⟨b, 1, none⟩ = some v1 ∧ (((W.setCell ⟨b, 0, none⟩ v0).setCell ⟨b, 1, none⟩ v1).setCell ⟨b, 2, none⟩ v2).cell? ⟨b, 2, none⟩ = some v2 := by
  obtain ⟨h0, h1⟩ := cells_two (v0 := v0) (v1 := v1) c0 c1
  have h2 : ((W.setCell ⟨b, 0, none⟩ v0).setCell ⟨b, 1, none⟩ v1).cell? ⟨b, 2, none⟩ = some u2 := by
    rw [World.cell?_setCell_other _ _ _ _ (by simp), World.cell?_setCell_other _ _ _ _ (by simp)]; exact c2
  exact ⟨by rw [World.cell?_setCell_other _ _ _ _ (by simp)]; exact h0, by rw [World.cell?_setCell_other _ _ _ _ (by simp)]; exact h1, World.cell?_setCell_same _ _ _ h2⟩
set_option maxRecDepth 100000 in
set_option maxHeartbeats 2000000 in
theorem total_any (A : Option Addr) (c : Nat) (l : List Vl) (w : World) (hs : SlV w w.heap.size A l) (hz : nOk l) (hl : l.length ≤ 1000000000000) :
    Calls Try.prog 10 #[.slice A l.length c] w fun e w' => e = .returned (.tuple #[vlV (totV l), .int .i64 (totE l)]) ∧ Below w.heap.size w w' := by
  have HS := Lib.hid hs
  have HZ := Lib.hid hz
  clear hs hz
  obtain ⟨w0, hw0⟩ : ∃ w0, (w.alloc (.cells #[.int .i64 0, .int .i64 0, .string ⟨#[]⟩] 24)).alloc (.cells #[.int .u64 0, .int .u64 0] 66) = w0 := ⟨_, rfl⟩
  have HT0 : Hid (TotSt w 0 w0) := by show TotSt _ _ _; rw [← hw0]; exact tot_new w
  go_enter Try.func10, Try.ntmps10
  go_wp2
  go_loopg [11] l.length (fun g x11 wr => ∃ j : Nat, x11 = .int .i64 j ∧ j + g = l.length ∧ Hid (intsV (l.take j) = true) ∧ Hid (TotSt w (sumV (l.take j)) wr))
  case atStart => exact ⟨0, rfl, by omega, rfl, HT0.out⟩
  case round =>
    clear hw0
    obtain ⟨j, rfl, hj, HI, HT⟩ := hrel
    obtain ⟨d0, d1, d2, e0, e1, e2⟩ := HT.out.d
    obtain ⟨c0, c1, f0, f1⟩ := HT.out.c
    have HBD := Lib.hid (sumV_bd (nOk_take HZ.out j))
    have HLT := Lib.hid (List.length_take_of_le (l := l) (i := j) (by omega))
    cases gk with
    | zero =>
      have hji : ¬ (j : Int) < (l.length : Int) := by omega
      have HJE : Hid (l.take j = l) := List.take_of_length_le (by omega)
      have HNA := Lib.hid (narrow_any (sumV l) wr (by have := HBD.out.1; rw [HJE.out] at this; omega) (by have := HBD.out.2; rw [HJE.out] at this; omega))
      rw [HJE.out] at HI HT c0 c1
      obtain ⟨n, hnn⟩ : ∃ n, sumV l = n := ⟨_, rfl⟩
      have HSN := Lib.hid hnn
      rw [hnn] at HNA c0 c1
      clear HBD hnn
      go_wp2_with fail
      refine HNA.out.mono ?_
      rintro e w3 ⟨⟨m, rfl, hm⟩, hb3⟩
      have HM := Lib.hid hm
      have HT3 := Lib.hid (HT.out.next hb3)
      clear hm d0 d1 d2 e0 e1 e2 c0 c1 f0 f1 HNA
      obtain ⟨d0, d1, d2, e0, e1, e2⟩ := HT3.out.d
      cases hf : fitB n with
      | false =>
        have HE : Hid (totE l = 160 ∧ totV l = (0, 0, ⟨#[]⟩)) := totE_no (by unfold totB; rw [HSN.out, hf, Bool.and_false])
        rw [hf] at HM
        clear hf
        have HC3 := Lib.hid (cells_three (v0 := .int .i64 0) (v1 := .int .i64 0) (v2 := .string ⟨#[]⟩) d0 d1 d2)
        go_wp2
        refine bodyPost_ret (v := .tuple #[vlV (0, 0, ⟨#[]⟩), .int .i64 160]) (by rw [results_ct rfl]; obtain ⟨x0, x1, x2⟩ := HC3.out; clear d0 d1 d2; unfold vlV; go_simp) rfl ?_
        rw [HE.out.1, HE.out.2]
        exact ⟨rfl, ((HT3.out.b.setCell (p := ⟨w.heap.size, 0, none⟩) (Nat.le_refl _) _).setCell (p := ⟨w.heap.size, 1, none⟩) (Nat.le_refl _) _).setCell (p := ⟨w.heap.size, 2, none⟩) (Nat.le_refl _) _⟩
      | true =>
        rw [hf] at HM
        obtain rfl : m = n := HM.out rfl
        have HE : Hid (totE l = 0 ∧ totV l = (1, m, ⟨#[]⟩)) := by have := totE_yes (l := l) (by unfold totB; rw [HSN.out, hf, HI.out]; rfl); rw [HSN.out] at this; exact this
        clear hf
        have HNB := Lib.hid (number_any m w3)
        go_wp2_with fail
        refine HNB.out.mono ?_
        rintro e w4 ⟨rfl, hb4⟩
        have HT4 := Lib.hid (HT3.out.next hb4)
        clear d0 d1 d2 e0 e1 e2 hb4 hb3
        obtain ⟨d0, d1, d2, e0, e1, e2⟩ := HT4.out.d
        have HC3 := Lib.hid (cells_three (v0 := .int .i64 1) (v1 := .int .i64 m) (v2 := .string ⟨#[]⟩) d0 d1 d2)
        go_wp2
        refine bodyPost_ret (v := .tuple #[vlV (1, m, ⟨#[]⟩), .int .i64 0]) (by rw [results_ct rfl]; obtain ⟨x0, x1, x2⟩ := HC3.out; clear d0 d1 d2; unfold vlV; go_simp) rfl ?_
        rw [HE.out.1, HE.out.2]
        exact ⟨rfl, ((HT4.out.b.setCell (p := ⟨w.heap.size, 0, none⟩) (Nat.le_refl _) _).setCell (p := ⟨w.heap.size, 1, none⟩) (Nat.le_refl _) _).setCell (p := ⟨w.heap.size, 2, none⟩) (Nat.le_refl _) _⟩
    | succ g =>
      have hji : (j : Int) < (l.length : Int) := by omega
      have hjn : j < l.length := by omega
      obtain ⟨b, o, rfl, hb, hp⟩ := (HS.out.next HT.out.b (Nat.le_refl _)).at_ hjn
      have HTK : Hid (sumV (l.take (j + 1)) = sumV (l.take j) + l[j].2.1) := by show _ = _; rw [List.take_succ_eq_append_getElem hjn, sumV_snoc]
      have hzj := HZ.out _ (List.getElem_mem hjn)
      by_cases hk1 : l[j].1 = 1
      · have HI2 := Lib.hid (intsV_take hjn HI.out hk1)
        obtain ⟨v, hv⟩ : ∃ v, l[j] = v := ⟨_, rfl⟩
        rw [hv] at hp hzj hk1 HTK
        obtain ⟨p0, p1, p2⟩ : _ ∧ _ ∧ _ := ⟨hp.c0, hp.c1, hp.c2⟩
        obtain ⟨k, n, s⟩ := v
        simp only at p0 p1 p2 hk1 hzj HTK
        subst hk1
        have HPL := Lib.hid (fun W => plus_any (sumV (l.take j)) n W hzj.1 hzj.2)
        obtain ⟨S, hS⟩ : ∃ S, sumV (l.take j) = S := ⟨_, rfl⟩
        rw [hS] at HT HTK HPL c0 c1
        have hlt := HT.out.lt
        clear hv hp hzj hS HBD HLT
        have HBA : Hid (Below wr.heap.size wr (wr.alloc (.cells #[.int .i64 1, .int .i64 n, .string s] 24))) := (Below.refl _ _).alloc (Nat.le_refl _) _
        go_wp2_with fail
        refine (HPL.out _).mono ?_
        rintro e w3 ⟨rfl, hb3⟩
        have HT3 := Lib.hid ((HT.out.next HBA.out).next hb3)
        have HTP := Lib.hid (HT3.out.put (S + n))
        clear d0 d1 d2 e0 e1 e2 c0 c1 f0 f1 hb3 HPL p0 p1 p2
        obtain ⟨c0, c1, f0, f1⟩ := HT3.out.c
        go_wp2
        go_roundg g
        case measure => omega
        case rel => exact ⟨j + 1, by go_num, by omega, HI2.out, by rw [HTK.out]; exact HTP.out⟩
      · have HE : Hid (totE l = 160 ∧ totV l = (0, 0, ⟨#[]⟩)) := totE_no (by unfold totB; rw [intsV_no hjn hk1, Bool.false_and])
        obtain ⟨v, hv⟩ : ∃ v, l[j] = v := ⟨_, rfl⟩
        rw [hv] at hp hk1
        obtain ⟨p0, p1, p2⟩ : _ ∧ _ ∧ _ := ⟨hp.c0, hp.c1, hp.c2⟩
        obtain ⟨k, n, s⟩ := v
        simp only at p0 p1 p2 hk1
        have hkb : (k != 1) = true := by simpa using hk1
        have hlt : w.heap.size < wr.heap.size := by have := HT.out.lt; omega
        have HC3 := Lib.hid (cells_three (v0 := .int .i64 0) (v1 := .int .i64 0) (v2 := .string ⟨#[]⟩) d0 d1 d2)
        have HBS := Lib.hid (((HT.out.b.setCell (p := ⟨w.heap.size, 0, none⟩) (Nat.le_refl _) (.int .i64 0)).setCell (p := ⟨w.heap.size, 1, none⟩) (Nat.le_refl _) (.int .i64 0)).setCell (p := ⟨w.heap.size, 2, none⟩) (Nat.le_refl _) (.string ⟨#[]⟩))
        clear hv hp HTK hzj
        go_wp2
        refine bodyPost_ret (v := .tuple #[vlV (0, 0, ⟨#[]⟩), .int .i64 160]) (by rw [results_ct rfl]; obtain ⟨x0, x1, x2⟩ := HC3.out; clear d0 d1 d2; unfold vlV; go_simp) rfl ?_
        rw [HE.out.1, HE.out.2]
        exact ⟨rfl, HBS.out.alloc HBS.out.size _⟩
end Go.Proofs.Ytofmfainhflmmaa
