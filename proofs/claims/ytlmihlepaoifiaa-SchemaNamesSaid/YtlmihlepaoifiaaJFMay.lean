/-
  CONTRACTS of package facts: cmp.Or at numbers, ofFact, a triple's compare and mayBe, isFact, mayBe, Check.
-/
import Derived.Test.YtlmihlepaoifiaaJFSame
import Derived.Test.YtlmihlepaoifiaaJDSl
import Derived.Test.YtlmihlepaoifiaaJOrd
namespace Go.Proofs.Ytlmihlepaoifiaa
open Go.RowKit Go.Shelf
open VOrd (IsOrd lexO lex_is ordI_is ordT_is ordT)

/-- a value that reads as spans -/
def SVa (W : World) (v : Value) (l : List Sp) : Prop := ∃ A c, v = .slice A l.length c ∧ SlS W W.heap.size A l ∧ l.length ≤ c ∧ c ≤ maxLen
theorem SV.a {W : World} {v : Value} {l : List Sp} (h : SV W v l) : SVa W v l := by
  obtain ⟨A, c, e, h1, h2, h3, _⟩ := h
  exact ⟨A, c, e, h1, h2, h3⟩
theorem SVa.next {W W' : World} {v : Value} {l : List Sp} (h : SVa W v l) (hb : Below W.heap.size W W') : SVa W' v l := by
  obtain ⟨A, c, e, h1, h2, h3⟩ := h
  exact ⟨A, c, e, (h1.next hb (Nat.le_refl _)).more hb.size, h2, h3⟩
/-- a value that reads as facts, wherever their spans lie -/
def FVa (W : World) (v : Value) (fs : List FactP) : Prop := ∃ A c, v = .slice A fs.length c ∧ (fs ≠ [] → ∃ b o, A = some ⟨b, o, none⟩ ∧ b < W.heap.size ∧ ∀ (j : Nat) (f : FactP), fs[j]? = some f → ∃ sv, FcV W b (o + j * 6) f sv ∧ SVa W sv f.l) ∧ fs.length ≤ c ∧ c ≤ maxLen
theorem FVa.next {W W' : World} {v : Value} {fs : List FactP} (h : FVa W v fs) (hb : Below W.heap.size W W') : FVa W' v fs := by
  obtain ⟨A, c, e, hs, h2, h3⟩ := h
  refine ⟨A, c, e, fun hl => ?_, h2, h3⟩
  obtain ⟨b, o, e, hlt, hc⟩ := hs hl
  refine ⟨b, o, e, Nat.lt_of_lt_of_le hlt hb.size, fun j f hf => ?_⟩
  obtain ⟨sv, hc, hsv⟩ := hc j f hf
  exact ⟨sv, hc.next hb hlt, hsv.next hb⟩
theorem FV.a {W : World} {v : Value} {fs : List FactP} (h : FV W v fs) : FVa W v fs := by
  obtain ⟨A, c, e, hs, h2, h3⟩ := h
  refine ⟨A, c, e, fun hl => ?_, h2, h3⟩
  obtain ⟨b, o, e, hlt, hc⟩ := hs hl
  refine ⟨b, o, e, hlt, fun j f hf => ?_⟩
  obtain ⟨c0, c1, c2, c3, c4, sv, c5, hsv⟩ := hc j f hf
  exact ⟨sv, ⟨c0, c1, c2, c3, c4, c5⟩, hsv.a⟩
theorem fva_at {W : World} {A : Option Addr} {c : Nat} {fs : List FactP} (h : FVa W (.slice A fs.length c) fs) {j : Nat} (hj : j < fs.length) : ∃ b o sv, A = some ⟨b, o, none⟩ ∧ b < W.heap.size ∧ FcV W b (o + j * 6) fs[j] sv ∧ SVa W sv fs[j].l := by
  obtain ⟨A2, c2, e, hs, _⟩ := h
  injection e with e _ _
  subst e
  obtain ⟨b, o, e, hlt, hc⟩ := hs (List.length_pos_iff.1 (by omega))
  obtain ⟨sv, hc, hsv⟩ := hc j _ (List.getElem?_eq_getElem hj)
  exact ⟨b, o, sv, e, hlt, hc, hsv⟩
def orL : List Int → Int
  | [] => 0
  | x :: l => if x = 0 then orL l else x
set_option maxRecDepth 100000 in
set_option maxHeartbeats 1000000 in
theorem cmpOr_any (b c : Nat) (l : List Int) (w : World) (hs : ∀ (j : Nat) (v : Int), l[j]? = some v → w.cell? ⟨b, j, none⟩ = some (.int .i64 v)) (hl : l.length ≤ 1000) :
    Calls Try.prog 68 #[.slice (some ⟨b, 0, none⟩) l.length c] w fun e w' => e = .returned (.int .i64 (orL l)) ∧ w = w' := by
  have HS := Lib.hid hs
  clear hs
  go_enter Try.func68, Try.ntmps68
  go_wp2
  go_loopg [5, 8] l.length (fun g _ y wr => ∃ j : Nat, y = .int .i64 j ∧ j + g = l.length ∧ Hid (orL (l.drop j) = orL l) ∧ wr = w)
  case atStart => exact ⟨0, rfl, by omega, by rw [List.drop_zero]; rfl, rfl⟩
  case round =>
    obtain ⟨j, rfl, hj, HO, rfl⟩ := hrel
    cases gk with
    | zero =>
      have hji : ¬ (j : Int) < (l.length : Int) := by omega
      have HE : Hid (orL l = 0) := by
        show _ = _
        have := HO.out
        rw [List.drop_eq_nil_of_le (by omega)] at this
        exact this.symm
      go_wp2
      go_ret
      exact ⟨by rw [HE.out]; rfl, rfl⟩
    | succ g =>
      have hji : (j : Int) < (l.length : Int) := by omega
      have hjn : j < l.length := by omega
      have hc := HS.out j _ (List.getElem?_eq_getElem hjn)
      have hd := List.drop_eq_getElem_cons hjn
      obtain ⟨x, hx⟩ : ∃ x, l[j] = x := ⟨_, rfl⟩
      rw [hx] at hc hd
      have HD := Lib.hid hd
      clear hd hx
      by_cases h0 : x = 0
      · have HN : Hid (orL (l.drop (j + 1)) = orL l) := by
          show _ = _
          rw [← HO.out, HD.out]
          show _ = if x = 0 then orL (l.drop (j + 1)) else x
          rw [if_pos h0]
        subst h0
        have hz : ((0 : Int) != 0) = false := rfl
        go_wp2
        go_roundg g
        case measure => omega
        case rel => exact ⟨j + 1, by go_num, by omega, HN.out, rfl⟩
      · have hz : (x != 0) = true := by simpa using h0
        have HN : Hid (orL l = x) := by
          show _ = _
          rw [← HO.out, HD.out]
          show (if x = 0 then orL (l.drop (j + 1)) else x) = x
          rw [if_neg h0]
        clear h0
        go_wp2
        go_ret
        exact ⟨by rw [HN.out]; rfl, rfl⟩

/-- a triple in a box -/
def TrAt (W : World) (b : Nat) (e a k m : Int) (s : ByteArray) : Prop := W.heap[b]? = some (.cells #[.int .i64 e, .int .i64 a, .int .i64 k, .int .i64 m, .string s] 87 (0, 0))
theorem TrAt.cell {W : World} {b : Nat} {e a k m : Int} {s : ByteArray} (h : TrAt W b e a k m s) (j : Nat) : W.cell? ⟨b, j, none⟩ = (#[Value.int .i64 e, .int .i64 a, .int .i64 k, .int .i64 m, .string s])[j]? := by unfold TrAt at h; simp [World.cell?, h]
theorem TrAt.k0 {W : World} {b : Nat} {e a k m : Int} {s : ByteArray} (h : TrAt W b e a k m s) : W.cell? ⟨b, 0, none⟩ = some (.int .i64 e) := h.cell 0
theorem TrAt.k1 {W : World} {b : Nat} {e a k m : Int} {s : ByteArray} (h : TrAt W b e a k m s) : W.cell? ⟨b, 1, none⟩ = some (.int .i64 a) := h.cell 1
theorem TrAt.k2 {W : World} {b : Nat} {e a k m : Int} {s : ByteArray} (h : TrAt W b e a k m s) : W.cell? ⟨b, 2, none⟩ = some (.int .i64 k) := h.cell 2
theorem TrAt.k3 {W : World} {b : Nat} {e a k m : Int} {s : ByteArray} (h : TrAt W b e a k m s) : W.cell? ⟨b, 3, none⟩ = some (.int .i64 m) := h.cell 3
theorem TrAt.k4 {W : World} {b : Nat} {e a k m : Int} {s : ByteArray} (h : TrAt W b e a k m s) : W.cell? ⟨b, 4, none⟩ = some (.string s) := h.cell 4
theorem TrAt.lt {W : World} {b : Nat} {e a k m : Int} {s : ByteArray} (h : TrAt W b e a k m s) : b < W.heap.size := (Array.getElem?_eq_some_iff.1 h).1
theorem TrAt.next {W W' : World} {b : Nat} {e a k m : Int} {s : ByteArray} (h : TrAt W b e a k m s) (hb : Below W.heap.size W W') : TrAt W' b e a k m s := (hb.block b h.lt).trans h
theorem trAt_new (W : World) (e a k m : Int) (s : ByteArray) : TrAt (W.alloc (.cells #[.int .i64 e, .int .i64 a, .int .i64 k, .int .i64 m, .string s] 87)) W.heap.size e a k m s := heap_alloc_new W _
/-- two triples in boxes -/
def TrS (w : World) (b : Nat) (e a k m : Int) (s : ByteArray) (b' : Nat) (e' a' k' m' : Int) (s' : ByteArray) (W : World) : Prop := TrAt W b e a k m s ∧ TrAt W b' e' a' k' m' s' ∧ Below w.heap.size w W
theorem TrS.next {w W W' : World} {b : Nat} {e a k m : Int} {s : ByteArray} {b' : Nat} {e' a' k' m' : Int} {s' : ByteArray} (h : TrS w b e a k m s b' e' a' k' m' s' W) (hb : Below W.heap.size W W') : TrS w b e a k m s b' e' a' k' m' s' W' := ⟨h.1.next hb, h.2.1.next hb, h.2.2.trans (hb.mono h.2.2.size)⟩

theorem orL3 (e a k m e' a' k' m' : Int) (s s' : ByteArray) : orL [ordI e e', ordI a a', ordV k m s k' m' s'] = ordTr (e, a, k, m, s) (e', a', k', m', s') := by
  show (if ordI e e' = 0 then (if ordI a a' = 0 then (if ordV k m s k' m' s' = 0 then 0 else ordV k m s k' m' s') else ordI a a') else ordI e e') = if ordI e e' = 0 then (if ordI a a' = 0 then ordV k m s k' m' s' else ordI a a') else ordI e e'
  by_cases h : ordV k m s k' m' s' = 0
  · rw [if_pos h, h]
  · rw [if_neg h]
set_option maxRecDepth 100000 in
set_option maxHeartbeats 2000000 in
theorem trCmp_any (e a k m e' a' k' m' : Int) (s s' : ByteArray) (w : World) :
    Calls Try.prog 56 #[.agg #[.int .i64 e, .int .i64 a, .int .i64 k, .int .i64 m, .string s], .agg #[.int .i64 e', .int .i64 a', .int .i64 k', .int .i64 m', .string s']] w fun en w' => en = .returned (.int .i64 (ordTr (e, a, k, m, s) (e', a', k', m', s'))) ∧ Below w.heap.size w w' := by
  obtain ⟨w0, hw0⟩ : ∃ w0, (w.alloc (.cells #[.int .i64 e, .int .i64 a, .int .i64 k, .int .i64 m, .string s] 87)).alloc (.cells #[.int .i64 e', .int .i64 a', .int .i64 k', .int .i64 m', .string s'] 87) = w0 := ⟨_, rfl⟩
  have HB0 : Hid (Below w.heap.size w w0) := by rw [← hw0]; exact ((Below.refl _ w).alloc (Nat.le_refl _) _).alloc (by simp) _
  have HT : Hid (TrS w w.heap.size e a k m s (w.heap.size + 1) e' a' k' m' s' w0) := by
    refine ⟨?_, ?_, HB0.out⟩
    · rw [← hw0]; exact (trAt_new w e a k m s).next ((Below.refl _ _).alloc (Nat.le_refl _) _)
    · rw [← hw0]
      have := trAt_new (w.alloc (.cells #[.int .i64 e, .int .i64 a, .int .i64 k, .int .i64 m, .string s] 87)) e' a' k' m' s'
      rwa [World.size_alloc] at this
  have HE := Lib.hid (orL3 e a k m e' a' k' m' s s')
  go_enter Try.func56, Try.ntmps56
  go_upto_region 1 with (fail)
  try rw [hw0]
  clear hw0
  refine wp_region_held_drew (S := TrS w w.heap.size e a k m s (w.heap.size + 1) e' a' k' m' s') (by kernel_rfl) (HT.out.next (below_ind (Below.refl _ w0) 1)) (fun hHeld => ?_)
  refine takeV 0 (some 5) ((.pointer (some ⟨w.heap.size, 0, none⟩))) rfl rfl (by kernel_rfl) (by kernel_rfl) (by kernel_rfl) (fun _ _ _ h => h) (by rfl) (by (intro _w _hSw; (try dsimp only at _hSw); go_simp)) (by assumption) ?_
  simp only [Act.put, List.setIfInBounds_toArray, List.set_cons_zero, List.set_cons_succ]
  refine takeV 1 (some 6) ((.int .i64 e)) rfl rfl (by kernel_rfl) (by kernel_rfl) (by kernel_rfl) (fun _ _ _ h => h) (by rfl) (by (intro _w hSw; have q0 := hSw.1.k0; clear hSw; go_simp)) (by assumption) ?_
  simp only [Act.put, List.setIfInBounds_toArray, List.set_cons_zero, List.set_cons_succ]
  refine takeV 2 (some 7) ((.pointer (some ⟨w.heap.size + 1, 0, none⟩))) rfl rfl (by kernel_rfl) (by kernel_rfl) (by kernel_rfl) (fun _ _ _ h => h) (by rfl) (by (intro _w _hSw; (try dsimp only at _hSw); go_simp)) (by assumption) ?_
  simp only [Act.put, List.setIfInBounds_toArray, List.set_cons_zero, List.set_cons_succ]
  refine takeV 3 (some 8) ((.int .i64 e')) rfl rfl (by kernel_rfl) (by kernel_rfl) (by kernel_rfl) (fun _ _ _ h => h) (by rfl) (by (intro _w hSw; have q0 := hSw.2.1.k0; clear hSw; go_simp)) (by assumption) ?_
  simp only [Act.put, List.setIfInBounds_toArray, List.set_cons_zero, List.set_cons_succ]
  refine takeV 5 (some 10) ((.pointer (some ⟨w.heap.size, 1, none⟩))) rfl rfl (by kernel_rfl) (by kernel_rfl) (by kernel_rfl) (fun _ _ _ h => h) (by rfl) (by (intro _w _hSw; (try dsimp only at _hSw); go_simp)) (by assumption) ?_
  simp only [Act.put, List.setIfInBounds_toArray, List.set_cons_zero, List.set_cons_succ]
  refine takeV 6 (some 11) ((.int .i64 a)) rfl rfl (by kernel_rfl) (by kernel_rfl) (by kernel_rfl) (fun _ _ _ h => h) (by rfl) (by (intro _w hSw; have q0 := hSw.1.k1; clear hSw; go_simp)) (by assumption) ?_
  simp only [Act.put, List.setIfInBounds_toArray, List.set_cons_zero, List.set_cons_succ]
  refine takeV 7 (some 12) ((.pointer (some ⟨w.heap.size + 1, 1, none⟩))) rfl rfl (by kernel_rfl) (by kernel_rfl) (by kernel_rfl) (fun _ _ _ h => h) (by rfl) (by (intro _w _hSw; (try dsimp only at _hSw); go_simp)) (by assumption) ?_
  simp only [Act.put, List.setIfInBounds_toArray, List.set_cons_zero, List.set_cons_succ]
  refine takeV 8 (some 13) ((.int .i64 a')) rfl rfl (by kernel_rfl) (by kernel_rfl) (by kernel_rfl) (fun _ _ _ h => h) (by rfl) (by (intro _w hSw; have q0 := hSw.2.1.k1; clear hSw; go_simp)) (by assumption) ?_
  simp only [Act.put, List.setIfInBounds_toArray, List.set_cons_zero, List.set_cons_succ]
  refine takeV 10 (some 15) ((.pointer (some ⟨w.heap.size, 2, none⟩))) rfl rfl (by kernel_rfl) (by kernel_rfl) (by kernel_rfl) (fun _ _ _ h => h) (by rfl) (by (intro _w _hSw; (try dsimp only at _hSw); go_simp)) (by assumption) ?_
  simp only [Act.put, List.setIfInBounds_toArray, List.set_cons_zero, List.set_cons_succ]
  refine takeV 11 (some 16) ((.agg #[.int .i64 k, .int .i64 m, .string s])) rfl rfl (by kernel_rfl) (by kernel_rfl) (by kernel_rfl) (fun _ _ _ h => h) (by rfl) (by (intro _w hSw; have q0 := hSw.1.k2; have q1 := hSw.1.k3; have q2 := hSw.1.k4; clear hSw; go_simp)) (by assumption) ?_
  simp only [Act.put, List.setIfInBounds_toArray, List.set_cons_zero, List.set_cons_succ]
  refine takeV 12 (some 17) ((.pointer (some ⟨w.heap.size + 1, 2, none⟩))) rfl rfl (by kernel_rfl) (by kernel_rfl) (by kernel_rfl) (fun _ _ _ h => h) (by rfl) (by (intro _w _hSw; (try dsimp only at _hSw); go_simp)) (by assumption) ?_
  simp only [Act.put, List.setIfInBounds_toArray, List.set_cons_zero, List.set_cons_succ]
  refine takeV 13 (some 18) ((.agg #[.int .i64 k', .int .i64 m', .string s'])) rfl rfl (by kernel_rfl) (by kernel_rfl) (by kernel_rfl) (fun _ _ _ h => h) (by rfl) (by (intro _w hSw; have q0 := hSw.2.1.k2; have q1 := hSw.2.1.k3; have q2 := hSw.2.1.k4; clear hSw; go_simp)) (by assumption) ?_
  simp only [Act.put, List.setIfInBounds_toArray, List.set_cons_zero, List.set_cons_succ]
  refine callV 4 rfl (by kernel_rfl) (by rfl) (fun K hK => ?_)
  go_simp
  go_at_call 51
  refine (cmpI64_any e e' _).mono ?_
  rintro en w3 ⟨rfl, rfl⟩
  refine hK.out _ _ hHeld (fun hHeld => ?_)
  clear hK K
  try simp only [Act.put, List.setIfInBounds_toArray, List.set_cons_zero, List.set_cons_succ]
  refine callV 9 rfl (by kernel_rfl) (by rfl) (fun K hK => ?_)
  go_simp
  go_at_call 51
  refine (cmpI64_any a a' _).mono ?_
  rintro en w3 ⟨rfl, rfl⟩
  refine hK.out _ _ hHeld (fun hHeld => ?_)
  clear hK K
  try simp only [Act.put, List.setIfInBounds_toArray, List.set_cons_zero, List.set_cons_succ]
  refine callV 14 rfl (by kernel_rfl) (by rfl) (fun K hK => ?_)
  go_simp
  go_at_call 52
  refine (compare_any k m s k' m' s' _).mono ?_
  rintro en w3 ⟨rfl, hb3⟩
  have g3 := hHeld.next hb3
  refine hK.out _ _ g3 (fun hHeld => ?_)
  clear hK K g3 hb3
  try simp only [Act.put, List.setIfInBounds_toArray, List.set_cons_zero, List.set_cons_succ]
  refine callV 15 rfl (by kernel_rfl) (by rfl) (fun K hK => ?_)
  go_simp
  have hcl : ∀ (j : Nat) (v : Int), [ordI e e', ordI a a', ordV k m s k' m' s'][j]? = some v → (w3.alloc (.cells #[.int .i64 (ordI e e'), .int .i64 (ordI a a'), .int .i64 (ordV k m s k' m' s')] 3)).cell? ⟨w3.heap.size, j, none⟩ = some (.int .i64 v) := fun j v hv => by
    simp only [World.cell?, heap_alloc_new]
    match j, hv with
    | 0, hv | 1, hv | 2, hv => cases hv; rfl
  have hor := cmpOr_any w3.heap.size 3 [ordI e e', ordI a a', ordV k m s k' m' s'] _ hcl (by show 3 ≤ 1000; decide)
  rw [HE.out, show [ordI e e', ordI a a', ordV k m s k' m' s'].length = 3 from rfl] at hor
  refine hK.out _ _ (hHeld.next ((Below.refl _ _).alloc (Nat.le_refl _) _)) (fun hHeld => ?_)
  clear hK K hcl
  try simp only [Act.put, List.setIfInBounds_toArray, List.set_cons_zero, List.set_cons_succ]
  refine callV 16 rfl (by kernel_rfl) (by rfl) (fun K hK => ?_)
  go_simp
  go_at_call 68
  refine hor.mono ?_
  rintro en w5 ⟨rfl, rfl⟩
  refine hK.out _ _ hHeld (fun hHeld => ?_)
  clear hK K hor
  try simp only [Act.put, List.setIfInBounds_toArray, List.set_cons_zero, List.set_cons_succ]
  refine takeV 17 (some 4) ((.int .i64 (ordTr (e, a, k, m, s) (e', a', k', m', s')))) rfl rfl (by kernel_rfl) (by kernel_rfl) (by kernel_rfl) (fun _ _ _ h => h) (by rfl) (by (intro _w _hSw; (try dsimp only at _hSw); go_simp)) (by assumption) ?_
  simp only [Act.put, List.setIfInBounds_toArray, List.set_cons_zero, List.set_cons_succ]
  refine wpAnyH_done (by kernel_rfl) ?_ _
  have HBE := Lib.hid hHeld.2.2
  clear hHeld
  go_wp2
  go_ret
  exact ⟨rfl, HBE.out⟩

set_option maxRecDepth 100000 in
set_option maxHeartbeats 1000000 in
theorem trMay_any (f : FactP) (w : World) (hs : f.s.size ≤ maxLen) :
    Calls Try.prog 66 #[.agg #[.int .i64 f.e, .int .i64 f.a, .int .i64 f.k, .int .i64 f.m, .string f.s]] w fun en w' => en = .returned (.bool (mayD (datF f))) ∧ Below w.heap.size w w' := by
  have HC := Lib.hid (fun X => dCheck_any (datF f) X hs)
  obtain ⟨v, hv⟩ : ∃ v, mayD (datF f) = v := ⟨_, rfl⟩
  rw [hv] at HC ⊢
  clear hv
  go_enter Try.func66, Try.ntmps66
  go_wp2_with fail
  refine (HC.out _).mono ?_
  rintro en w1 ⟨rfl, hb⟩
  have HB := Lib.hid (((Below.refl _ w).alloc (Nat.le_refl _) (.cells #[.int .i64 f.e, .int .i64 f.a, .int .i64 f.k, .int .i64 f.m, .string f.s] 87)).trans (hb.mono (by simp)))
  clear hb HC
  cases v
  · go_wp2
    go_ret
    exact ⟨rfl, HB.out⟩
  · go_wp2
    go_ret
    exact ⟨rfl, HB.out⟩
set_option maxRecDepth 100000 in
theorem ofFact_any (f : FactP) (sv : Value) (w : World) (hsv : ∃ A n c, sv = .slice A n c) : Calls Try.prog 55 #[.agg #[.int .i64 f.e, .int .i64 f.a, .int .i64 f.k, .int .i64 f.m, .string f.s, sv]] w fun e w' => e = .returned (.agg #[.int .i64 f.e, .int .i64 f.a, .int .i64 f.k, .int .i64 f.m, .string f.s]) ∧ Below w.heap.size w w' := by
  obtain ⟨A, n, c, rfl⟩ := hsv
  go_enter Try.func55, Try.ntmps55
  go_wp2
  refine bodyPost_ret (v := .agg #[.int .i64 f.e, .int .i64 f.a, .int .i64 f.k, .int .i64 f.m, .string f.s]) ?_ rfl ⟨rfl, ?_⟩
  · rw [results_cell_only rfl]; go_simp
  · exact ((Below.refl _ w).alloc (Nat.le_refl _) _).alloc (by simp) _
/-- a fact in a box, the value of its spans named -/
def FcBx (W : World) (bx : Nat) (f : FactP) (sv : Value) : Prop := W.heap[bx]? = some (.cells #[.int .i64 f.e, .int .i64 f.a, .int .i64 f.k, .int .i64 f.m, .string f.s, sv] 30 (0, 0))
theorem FcBx.cell {W : World} {bx : Nat} {f : FactP} {sv : Value} (h : FcBx W bx f sv) (j : Nat) : W.cell? ⟨bx, j, none⟩ = (#[Value.int .i64 f.e, .int .i64 f.a, .int .i64 f.k, .int .i64 f.m, .string f.s, sv])[j]? := by unfold FcBx at h; simp [World.cell?, h]
theorem FcBx.k0 {W : World} {bx : Nat} {f : FactP} {sv : Value} (h : FcBx W bx f sv) : W.cell? ⟨bx, 0, none⟩ = some (.int .i64 f.e) := h.cell 0
theorem FcBx.k1 {W : World} {bx : Nat} {f : FactP} {sv : Value} (h : FcBx W bx f sv) : W.cell? ⟨bx, 1, none⟩ = some (.int .i64 f.a) := h.cell 1
theorem FcBx.k2 {W : World} {bx : Nat} {f : FactP} {sv : Value} (h : FcBx W bx f sv) : W.cell? ⟨bx, 2, none⟩ = some (.int .i64 f.k) := h.cell 2
theorem FcBx.k3 {W : World} {bx : Nat} {f : FactP} {sv : Value} (h : FcBx W bx f sv) : W.cell? ⟨bx, 3, none⟩ = some (.int .i64 f.m) := h.cell 3
theorem FcBx.k4 {W : World} {bx : Nat} {f : FactP} {sv : Value} (h : FcBx W bx f sv) : W.cell? ⟨bx, 4, none⟩ = some (.string f.s) := h.cell 4
theorem FcBx.k5 {W : World} {bx : Nat} {f : FactP} {sv : Value} (h : FcBx W bx f sv) : W.cell? ⟨bx, 5, none⟩ = some sv := h.cell 5
theorem FcBx.lt {W : World} {bx : Nat} {f : FactP} {sv : Value} (h : FcBx W bx f sv) : bx < W.heap.size := (Array.getElem?_eq_some_iff.1 h).1
theorem FcBx.next {W W' : World} {bx : Nat} {f : FactP} {sv : Value} (h : FcBx W bx f sv) (hb : Below W.heap.size W W') : FcBx W' bx f sv := (hb.block bx h.lt).trans h
theorem fcBx_new (W : World) (f : FactP) (sv : Value) : FcBx (W.alloc (.cells #[.int .i64 f.e, .int .i64 f.a, .int .i64 f.k, .int .i64 f.m, .string f.s, sv] 30)) W.heap.size f sv := heap_alloc_new W _
set_option maxRecDepth 100000 in
set_option maxHeartbeats 2000000 in
theorem isFact_big (f : FactP) (sv : Value) (w : World) (hsv : SVa w sv f.l) (hs : f.s.size ≤ maxLen) (hl : f.l.length ≤ 9223372036854775807) :
    Calls Try.prog 54 #[.agg #[.int .i64 f.e, .int .i64 f.a, .int .i64 f.k, .int .i64 f.m, .string f.s, sv]] w fun e w' => e = .returned (.bool (mayF f)) ∧ Below w.heap.size w w' := by
  obtain ⟨A, c, rfl, hsl, _⟩ := id hsv
  have HM : Hid (mayF f = (mayD (datF f) && decide (0 < f.l.length) && setB f.l)) := rfl
  obtain ⟨w0, hw0⟩ : ∃ w0, w.alloc (.cells #[.int .i64 f.e, .int .i64 f.a, .int .i64 f.k, .int .i64 f.m, .string f.s, .slice A f.l.length c] 30) = w0 := ⟨_, rfl⟩
  have HB0 : Hid (Below w.heap.size w w0) := by rw [← hw0]; exact (Below.refl _ w).alloc (Nat.le_refl _) _
  have HX0 : Hid (FcBx w0 w.heap.size f (.slice A f.l.length c)) := by rw [← hw0]; exact fcBx_new w f _
  have HS := Lib.hid hsl
  have HO := Lib.hid (fun X => ofFact_any f (.slice A f.l.length c) X ⟨_, _, _, rfl⟩)
  have HT := Lib.hid (fun X => trMay_any f X hs)
  obtain ⟨v1, hv1⟩ : ∃ v, mayD (datF f) = v := ⟨_, rfl⟩
  obtain ⟨v3, hv3⟩ : ∃ v, setB f.l = v := ⟨_, rfl⟩
  rw [hv1] at HT HM
  have HC := Lib.hid (fun X (h : SlS X X.heap.size A f.l) => checkS_big A c f.l X h hl)
  rw [hv3] at HC HM
  have c0 := HX0.out.k0
  have c1 := HX0.out.k1
  have c2 := HX0.out.k2
  have c3 := HX0.out.k3
  have c4 := HX0.out.k4
  have c5 := HX0.out.k5
  clear hsv hsl hv1 hv3 hs
  go_enter Try.func54, Try.ntmps54
  go_upto_region 1 with (fail)
  try rw [hw0]
  clear hw0
  go_wp2_with fail
  refine (HO.out _).mono ?_
  rintro e w1 ⟨rfl, hb1⟩
  have HX1 := Lib.hid (HX0.out.next hb1)
  have HB1 := Lib.hid (HB0.out.trans (hb1.mono HB0.out.size))
  clear hb1 c0 c1 c2 c3 c4 c5
  go_wp2_with fail
  refine (HT.out _).mono ?_
  rintro e w2 ⟨rfl, hb2⟩
  have HX2 := Lib.hid (HX1.out.next hb2)
  have HB2 := Lib.hid (HB1.out.trans (hb2.mono HB1.out.size))
  clear hb2
  have c5 := HX2.out.k5
  have HS2 := Lib.hid ((HS.out.next HB2.out (Nat.le_refl _)).more HB2.out.size)
  have HC2 := Lib.hid (HC.out w2 HS2.out)
  cases v1
  · have HF : Hid (mayF f = false) := HM.out
    go_wp2
    go_ret
    exact ⟨by rw [HF.out]; rfl, HB2.out⟩
  · by_cases h0 : 0 < f.l.length
    · have hd0 : decide ((0 : Int) < (f.l.length : Int)) = true := decide_eq_true (by omega)
      have HF : Hid (mayF f = v3) := by show _ = _; rw [HM.out, decide_eq_true h0]; rfl
      go_wp2_with fail
      refine HC2.out.mono ?_
      rintro e w3 ⟨rfl, hb3⟩
      have HB3 := Lib.hid (HB2.out.trans (hb3.mono HB2.out.size))
      clear hb3
      cases v3
      · go_wp2
        go_ret
        exact ⟨by rw [HF.out]; rfl, HB3.out⟩
      · go_wp2
        go_ret
        exact ⟨by rw [HF.out]; rfl, HB3.out⟩
    · have hd0 : decide ((0 : Int) < (f.l.length : Int)) = false := decide_eq_false (by omega)
      have HF : Hid (mayF f = false) := by show _ = _; rw [HM.out, decide_eq_false h0]; rfl
      go_wp2
      go_ret
      exact ⟨by rw [HF.out]; rfl, HB2.out⟩

/-- what the loop over facts holds in a round -/
def FMS (w : World) (bx : Nat) (f : FactP) (sv : Value) (b o : Nat) (p : FactP) (pv : Value) (W : World) : Prop := FcBx W bx f sv ∧ SVa W sv f.l ∧ FcV W b o p pv ∧ b < W.heap.size ∧ Below w.heap.size w W
theorem FMS.next {w W W' : World} {bx : Nat} {f : FactP} {sv : Value} {b o : Nat} {p : FactP} {pv : Value} (h : FMS w bx f sv b o p pv W) (hb : Below W.heap.size W W') : FMS w bx f sv b o p pv W' :=
  ⟨h.1.next hb, h.2.1.next hb, h.2.2.1.next hb h.2.2.2.1, Nat.lt_of_lt_of_le h.2.2.2.1 hb.size, h.2.2.2.2.trans (hb.mono h.2.2.2.2.size)⟩
set_option maxRecDepth 100000 in
set_option maxHeartbeats 4000000 in
theorem mayFs_big (A : Option Addr) (c : Nat) (fs : List FactP) (w : World) (hs : FVa w (.slice A fs.length c) fs) (hl : fs.length ≤ 1954687338268) (hz : ∀ f ∈ fs, f.s.size ≤ maxLen ∧ f.l.length ≤ 9223372036854775807) :
    Calls Try.prog 43 #[.slice A fs.length c] w fun e w' => e = .returned (.bool (mayFs fs)) ∧ Below w.heap.size w w' := by
  have HS := Lib.hid hs
  have HZ := Lib.hid hz
  clear hs hz
  go_enter Try.func43, Try.ntmps43
  go_wp2
  go_loopg [3, 4, 7] fs.length (fun g x y z wr => ∃ (j : Nat), z = .int .i64 j ∧ j + g = fs.length ∧ Hid (∀ i, i < j → FOk fs i) ∧ Hid (Below w.heap.size w wr))
  case atStart => exact ⟨0, rfl, by omega, fun i hi => by omega, Below.refl _ _⟩
  case round =>
    obtain ⟨j, rfl, hj, HO, HB⟩ := hrel
    cases gk with
    | zero =>
      have hjz : ¬ ((j : Int) < (fs.length : Int)) := by omega
      have HE := Lib.hid (mayFs_all (fs := fs) (fun i hi => HO.out i (by omega)))
      go_wp2
      go_ret
      exact ⟨by rw [HE.out]; rfl, HB.out⟩
    | succ g =>
      have hjz : (j : Int) < (fs.length : Int) := by omega
      have hjn : j < fs.length := by omega
      have hfv := HS.out.next HB.out
      obtain ⟨b, o, sv, rfl, hlt, hc, hsv⟩ := fva_at hfv hjn
      obtain ⟨f, hf⟩ : ∃ f, fs[j] = f := ⟨_, rfl⟩
      rw [hf] at hc hsv
      have HFG : Hid (fs[j]? = some f) := by show _ = _; rw [List.getElem?_eq_getElem hjn, hf]
      have hzf := HZ.out f (by rw [← hf]; exact List.getElem_mem _)
      obtain ⟨As, cs, rfl, hsv'⟩ := id hsv
      have HSV : Hid (SVa wr (.slice As f.l.length cs) f.l) := ⟨As, cs, rfl, hsv'⟩
      have HFVR := Lib.hid hfv
      have HCV := Lib.hid hc
      have c0 := hc.1
      have c1 := hc.2.1
      have c2 := hc.2.2.1
      have c3 := hc.2.2.2.1
      have c4 := hc.2.2.2.2.1
      have c5 := hc.2.2.2.2.2
      have HBL := Lib.hid hlt
      have HIF := Lib.hid (fun X (h : SVa X (.slice As f.l.length cs) f.l) => isFact_big f (.slice As f.l.length cs) X h hzf.1 hzf.2)
      have HOF := Lib.hid (fun X => ofFact_any f (.slice As f.l.length cs) X ⟨_, _, _, rfl⟩)
      have HX := Lib.hid (fcBx_new wr f (.slice As f.l.length cs))
      have HBN := Lib.hid ((Below.refl wr.heap.size wr).alloc (Nat.le_refl _) (.cells #[.int .i64 f.e, .int .i64 f.a, .int .i64 f.k, .int .i64 f.m, .string f.s, .slice As f.l.length cs] 30))
      clear hf hc hsv hsv' hfv hlt
      cases hmv : mayF f
      · have HMV := Lib.hid hmv
        have HN := Lib.hid (mayFs_no (fs := fs) (i := j) (fun h => by have := (h f HFG.out).1; rw [hmv] at this; cases this))
        have HMS : Hid (FMS w wr.heap.size f (.slice As f.l.length cs) b (o + j * 6) f (.slice As f.l.length cs) (wr.alloc (.cells #[.int .i64 f.e, .int .i64 f.a, .int .i64 f.k, .int .i64 f.m, .string f.s, .slice As f.l.length cs] 30)).drew) := FMS.next ⟨HX.out, HSV.out.next HBN.out, HCV.out.next HBN.out HBL.out, Nat.lt_of_lt_of_le HBL.out HBN.out.size, HB.out.trans (HBN.out.mono HB.out.size)⟩ (below_ind (Below.refl _ _) 1)
        clear hmv
        go_wp2
        refine wp_region_held_drew (S := FMS w wr.heap.size f (.slice As f.l.length cs) b (o + j * 6) f (.slice As f.l.length cs)) (by kernel_rfl) HMS.out (fun hHeld => ?_)
        refine takeV 0 (some 12) ((.agg #[.int .i64 f.e, .int .i64 f.a, .int .i64 f.k, .int .i64 f.m, .string f.s, .slice As f.l.length cs])) rfl rfl (by kernel_rfl) (by kernel_rfl) (by kernel_rfl) (fun _ _ _ h => h) (by rfl) (by (intro _w hSw; have q0 := hSw.1.k0; have q1 := hSw.1.k1; have q2 := hSw.1.k2; have q3 := hSw.1.k3; have q4 := hSw.1.k4; have q5 := hSw.1.k5; clear hSw; go_simp)) (by assumption) ?_
        simp only [Act.put, List.setIfInBounds_toArray, List.set_cons_zero, List.set_cons_succ]
        refine callV 1 rfl (by kernel_rfl) (by rfl) (fun K hK => ?_)
        go_simp
        go_at_call 54
        refine (HIF.out _ hHeld.2.1).mono ?_
        rintro e w3 ⟨rfl, hb3⟩
        have g3 := hHeld.next hb3
        rw [HMV.out]
        refine hK.out _ _ g3 (fun hHeld => ?_)
        clear hK g3 K hb3
        try simp only [Act.put, List.setIfInBounds_toArray, List.set_cons_zero, List.set_cons_succ]
        refine takeV 2 (some 14) ((.bool true)) rfl rfl (by kernel_rfl) (by kernel_rfl) (by kernel_rfl) (fun _ _ _ h => h) (by rfl) (by (intro _w _hSw; (try dsimp only at _hSw); go_simp)) (by assumption) ?_
        simp only [Act.put, List.setIfInBounds_toArray, List.set_cons_zero, List.set_cons_succ]
        refine takeV 3 (some 15) ((.bool true)) rfl rfl (by kernel_rfl) (by kernel_rfl) (by kernel_rfl) (fun _ _ _ h => h) (by rfl) (by (intro _w _hSw; (try dsimp only at _hSw); go_simp)) (by assumption) ?_
        simp only [Act.put, List.setIfInBounds_toArray, List.set_cons_zero, List.set_cons_succ]
        refine skipV 4 (some 16) rfl rfl (by kernel_rfl) (by kernel_rfl) (by kernel_rfl) (fun _ _ _ h => h) (by rfl) (by assumption) ?_
        simp only [Act.put, List.setIfInBounds_toArray, List.set_cons_zero, List.set_cons_succ]
        refine skipV 5 (some 17) rfl rfl (by kernel_rfl) (by kernel_rfl) (by kernel_rfl) (fun _ _ _ h => h) (by rfl) (by assumption) ?_
        simp only [Act.put, List.setIfInBounds_toArray, List.set_cons_zero, List.set_cons_succ]
        refine skipV 6 (some 18) rfl rfl (by kernel_rfl) (by kernel_rfl) (by kernel_rfl) (fun _ _ _ h => h) (by rfl) (by assumption) ?_
        simp only [Act.put, List.setIfInBounds_toArray, List.set_cons_zero, List.set_cons_succ]
        refine skipV 7 (some 19) rfl rfl (by kernel_rfl) (by kernel_rfl) (by kernel_rfl) (fun _ _ _ h => h) (by rfl) (by assumption) ?_
        simp only [Act.put, List.setIfInBounds_toArray, List.set_cons_zero, List.set_cons_succ]
        refine skipV 8 (some 20) rfl rfl (by kernel_rfl) (by kernel_rfl) (by kernel_rfl) (fun _ _ _ h => h) (by rfl) (by assumption) ?_
        simp only [Act.put, List.setIfInBounds_toArray, List.set_cons_zero, List.set_cons_succ]
        refine skipV 9 (some 21) rfl rfl (by kernel_rfl) (by kernel_rfl) (by kernel_rfl) (fun _ _ _ h => h) (by rfl) (by assumption) ?_
        simp only [Act.put, List.setIfInBounds_toArray, List.set_cons_zero, List.set_cons_succ]
        refine skipV 10 (some 22) rfl rfl (by kernel_rfl) (by kernel_rfl) (by kernel_rfl) (fun _ _ _ h => h) (by rfl) (by assumption) ?_
        simp only [Act.put, List.setIfInBounds_toArray, List.set_cons_zero, List.set_cons_succ]
        refine skipV 11 (some 23) rfl rfl (by kernel_rfl) (by kernel_rfl) (by kernel_rfl) (fun _ _ _ h => h) (by rfl) (by assumption) ?_
        simp only [Act.put, List.setIfInBounds_toArray, List.set_cons_zero, List.set_cons_succ]
        refine skipV 12 (some 24) rfl rfl (by kernel_rfl) (by kernel_rfl) (by kernel_rfl) (fun _ _ _ h => h) (by rfl) (by assumption) ?_
        simp only [Act.put, List.setIfInBounds_toArray, List.set_cons_zero, List.set_cons_succ]
        refine skipV 13 (some 25) rfl rfl (by kernel_rfl) (by kernel_rfl) (by kernel_rfl) (fun _ _ _ h => h) (by rfl) (by assumption) ?_
        simp only [Act.put, List.setIfInBounds_toArray, List.set_cons_zero, List.set_cons_succ]
        refine skipV 14 (some 26) rfl rfl (by kernel_rfl) (by kernel_rfl) (by kernel_rfl) (fun _ _ _ h => h) (by rfl) (by assumption) ?_
        simp only [Act.put, List.setIfInBounds_toArray, List.set_cons_zero, List.set_cons_succ]
        refine skipV 15 (some 27) rfl rfl (by kernel_rfl) (by kernel_rfl) (by kernel_rfl) (fun _ _ _ h => h) (by rfl) (by assumption) ?_
        simp only [Act.put, List.setIfInBounds_toArray, List.set_cons_zero, List.set_cons_succ]
        refine skipV 16 (some 28) rfl rfl (by kernel_rfl) (by kernel_rfl) (by kernel_rfl) (fun _ _ _ h => h) (by rfl) (by assumption) ?_
        simp only [Act.put, List.setIfInBounds_toArray, List.set_cons_zero, List.set_cons_succ]
        refine skipV 17 (some 29) rfl rfl (by kernel_rfl) (by kernel_rfl) (by kernel_rfl) (fun _ _ _ h => h) (by rfl) (by assumption) ?_
        simp only [Act.put, List.setIfInBounds_toArray, List.set_cons_zero, List.set_cons_succ]
        refine takeV 18 (some 30) ((.bool true)) rfl rfl (by kernel_rfl) (by kernel_rfl) (by kernel_rfl) (fun _ _ _ h => h) (by rfl) (by (intro _w _hSw; (try dsimp only at _hSw); go_simp)) (by assumption) ?_
        simp only [Act.put, List.setIfInBounds_toArray, List.set_cons_zero, List.set_cons_succ]
        refine wpAnyH_done (by kernel_rfl) ?_ _
        have HBZ := Lib.hid hHeld.2.2.2.2
        clear hHeld
        go_wp2
        go_ret
        exact ⟨by rw [HN.out]; rfl, HBZ.out⟩
      · have HMV := Lib.hid hmv
        cases j with
        | zero =>
          have HY : Hid (∀ i, i < 0 + 1 → FOk fs i) := fun i hi f' hf' => by
            obtain rfl : i = 0 := by omega
            rw [HFG.out] at hf'
            cases hf'
            exact ⟨HMV.out, fun p hi => by omega⟩
          have HMS : Hid (FMS w wr.heap.size f (.slice As f.l.length cs) b (o + 0 * 6) f (.slice As f.l.length cs) (wr.alloc (.cells #[.int .i64 f.e, .int .i64 f.a, .int .i64 f.k, .int .i64 f.m, .string f.s, .slice As f.l.length cs] 30)).drew) := FMS.next ⟨HX.out, HSV.out.next HBN.out, HCV.out.next HBN.out HBL.out, Nat.lt_of_lt_of_le HBL.out HBN.out.size, HB.out.trans (HBN.out.mono HB.out.size)⟩ (below_ind (Below.refl _ _) 1)
          clear hmv
          simp only [Nat.zero_mul, Nat.add_zero] at c0 c1 c2 c3 c4 c5
          go_wp2
          refine wp_region_held_drew (S := FMS w wr.heap.size f (.slice As f.l.length cs) b (o + 0 * 6) f (.slice As f.l.length cs)) (by kernel_rfl) HMS.out (fun hHeld => ?_)
          refine takeV 0 (some 12) ((.agg #[.int .i64 f.e, .int .i64 f.a, .int .i64 f.k, .int .i64 f.m, .string f.s, .slice As f.l.length cs])) rfl rfl (by kernel_rfl) (by kernel_rfl) (by kernel_rfl) (fun _ _ _ h => h) (by rfl) (by (intro _w hSw; have q0 := hSw.1.k0; have q1 := hSw.1.k1; have q2 := hSw.1.k2; have q3 := hSw.1.k3; have q4 := hSw.1.k4; have q5 := hSw.1.k5; clear hSw; go_simp)) (by assumption) ?_
          simp only [Act.put, List.setIfInBounds_toArray, List.set_cons_zero, List.set_cons_succ]
          refine callV 1 rfl (by kernel_rfl) (by rfl) (fun K hK => ?_)
          go_simp
          go_at_call 54
          refine (HIF.out _ hHeld.2.1).mono ?_
          rintro e w3 ⟨rfl, hb3⟩
          have g3 := hHeld.next hb3
          rw [HMV.out]
          refine hK.out _ _ g3 (fun hHeld => ?_)
          clear hK g3 K hb3
          try simp only [Act.put, List.setIfInBounds_toArray, List.set_cons_zero, List.set_cons_succ]
          refine takeV 2 (some 14) ((.bool false)) rfl rfl (by kernel_rfl) (by kernel_rfl) (by kernel_rfl) (fun _ _ _ h => h) (by rfl) (by (intro _w _hSw; (try dsimp only at _hSw); go_simp)) (by assumption) ?_
          simp only [Act.put, List.setIfInBounds_toArray, List.set_cons_zero, List.set_cons_succ]
          refine takeV 3 (some 15) ((.bool false)) rfl rfl (by kernel_rfl) (by kernel_rfl) (by kernel_rfl) (fun _ _ _ h => h) (by rfl) (by (intro _w _hSw; (try dsimp only at _hSw); go_simp)) (by assumption) ?_
          simp only [Act.put, List.setIfInBounds_toArray, List.set_cons_zero, List.set_cons_succ]
          refine takeV 4 (some 16) ((.int .i64 0)) rfl rfl (by kernel_rfl) (by kernel_rfl) (by kernel_rfl) (fun _ _ _ h => h) (by rfl) (by (intro _w _hSw; (try dsimp only at _hSw); go_simp)) (by assumption) ?_
          simp only [Act.put, List.setIfInBounds_toArray, List.set_cons_zero, List.set_cons_succ]
          refine takeV 5 (some 17) ((.bool false)) rfl rfl (by kernel_rfl) (by kernel_rfl) (by kernel_rfl) (fun _ _ _ h => h) (by rfl) (by (intro _w _hSw; (try dsimp only at _hSw); go_simp)) (by assumption) ?_
          simp only [Act.put, List.setIfInBounds_toArray, List.set_cons_zero, List.set_cons_succ]
          refine takeV 6 (some 18) ((.bool false)) rfl rfl (by kernel_rfl) (by kernel_rfl) (by kernel_rfl) (fun _ _ _ h => h) (by rfl) (by (intro _w _hSw; (try dsimp only at _hSw); go_simp)) (by assumption) ?_
          simp only [Act.put, List.setIfInBounds_toArray, List.set_cons_zero, List.set_cons_succ]
          refine skipV 7 (some 19) rfl rfl (by kernel_rfl) (by kernel_rfl) (by kernel_rfl) (fun _ _ _ h => h) (by rfl) (by assumption) ?_
          simp only [Act.put, List.setIfInBounds_toArray, List.set_cons_zero, List.set_cons_succ]
          refine skipV 8 (some 20) rfl rfl (by kernel_rfl) (by kernel_rfl) (by kernel_rfl) (fun _ _ _ h => h) (by rfl) (by assumption) ?_
          simp only [Act.put, List.setIfInBounds_toArray, List.set_cons_zero, List.set_cons_succ]
          refine skipV 9 (some 21) rfl rfl (by kernel_rfl) (by kernel_rfl) (by kernel_rfl) (fun _ _ _ h => h) (by rfl) (by assumption) ?_
          simp only [Act.put, List.setIfInBounds_toArray, List.set_cons_zero, List.set_cons_succ]
          refine skipV 10 (some 22) rfl rfl (by kernel_rfl) (by kernel_rfl) (by kernel_rfl) (fun _ _ _ h => h) (by rfl) (by assumption) ?_
          simp only [Act.put, List.setIfInBounds_toArray, List.set_cons_zero, List.set_cons_succ]
          refine skipV 11 (some 23) rfl rfl (by kernel_rfl) (by kernel_rfl) (by kernel_rfl) (fun _ _ _ h => h) (by rfl) (by assumption) ?_
          simp only [Act.put, List.setIfInBounds_toArray, List.set_cons_zero, List.set_cons_succ]
          refine skipV 12 (some 24) rfl rfl (by kernel_rfl) (by kernel_rfl) (by kernel_rfl) (fun _ _ _ h => h) (by rfl) (by assumption) ?_
          simp only [Act.put, List.setIfInBounds_toArray, List.set_cons_zero, List.set_cons_succ]
          refine skipV 13 (some 25) rfl rfl (by kernel_rfl) (by kernel_rfl) (by kernel_rfl) (fun _ _ _ h => h) (by rfl) (by assumption) ?_
          simp only [Act.put, List.setIfInBounds_toArray, List.set_cons_zero, List.set_cons_succ]
          refine skipV 14 (some 26) rfl rfl (by kernel_rfl) (by kernel_rfl) (by kernel_rfl) (fun _ _ _ h => h) (by rfl) (by assumption) ?_
          simp only [Act.put, List.setIfInBounds_toArray, List.set_cons_zero, List.set_cons_succ]
          refine skipV 15 (some 27) rfl rfl (by kernel_rfl) (by kernel_rfl) (by kernel_rfl) (fun _ _ _ h => h) (by rfl) (by assumption) ?_
          simp only [Act.put, List.setIfInBounds_toArray, List.set_cons_zero, List.set_cons_succ]
          refine skipV 16 (some 28) rfl rfl (by kernel_rfl) (by kernel_rfl) (by kernel_rfl) (fun _ _ _ h => h) (by rfl) (by assumption) ?_
          simp only [Act.put, List.setIfInBounds_toArray, List.set_cons_zero, List.set_cons_succ]
          refine takeV 17 (some 29) ((.bool false)) rfl rfl (by kernel_rfl) (by kernel_rfl) (by kernel_rfl) (fun _ _ _ h => h) (by rfl) (by (intro _w _hSw; (try dsimp only at _hSw); go_simp)) (by assumption) ?_
          simp only [Act.put, List.setIfInBounds_toArray, List.set_cons_zero, List.set_cons_succ]
          refine takeV 18 (some 30) ((.bool false)) rfl rfl (by kernel_rfl) (by kernel_rfl) (by kernel_rfl) (fun _ _ _ h => h) (by rfl) (by (intro _w _hSw; (try dsimp only at _hSw); go_simp)) (by assumption) ?_
          simp only [Act.put, List.setIfInBounds_toArray, List.set_cons_zero, List.set_cons_succ]
          refine wpAnyH_done (by kernel_rfl) ?_ _
          have HBZ := Lib.hid hHeld.2.2.2.2
          clear hHeld
          go_wp2
          go_roundg g
          case measure => omega
          case rel => exact ⟨0 + 1, rfl, by omega, HY.out, HBZ.out⟩
        | succ k =>
          have hkl : k < fs.length := by omega
          obtain ⟨b', o', pv, e9, _, hcp, hpv⟩ := fva_at HFVR.out hkl
          cases e9
          obtain ⟨p, hp⟩ : ∃ p, fs[k] = p := ⟨_, rfl⟩
          rw [hp] at hcp hpv
          have HPG : Hid (fs[k]? = some p) := by show _ = _; rw [List.getElem?_eq_getElem hkl, hp]
          obtain ⟨Ap, cp, rfl, _⟩ := hpv
          have HOP := Lib.hid (fun X => ofFact_any p (.slice Ap p.l.length cp) X ⟨_, _, _, rfl⟩)
          have hk0 : (0 : Int) < ((k + 1 : Nat) : Int) := by omega
          have hki : (k : Int) < (fs.length : Int) := by omega
          have hwr : IntKind.i64.wrap (k : Int) = (k : Int) := by
            rw [IntWalk.i64_in _ (by omega)]
          have HMS : Hid (FMS w wr.heap.size f (.slice As f.l.length cs) b (o + k * 6) p (.slice Ap p.l.length cp) (wr.alloc (.cells #[.int .i64 f.e, .int .i64 f.a, .int .i64 f.k, .int .i64 f.m, .string f.s, .slice As f.l.length cs] 30)).drew) := FMS.next ⟨HX.out, HSV.out.next HBN.out, hcp.next HBN.out HBL.out, Nat.lt_of_lt_of_le HBL.out HBN.out.size, HB.out.trans (HBN.out.mono HB.out.size)⟩ (below_ind (Below.refl _ _) 1)
          clear hmv hp hcp
          by_cases hle : ordTr (triF p) (triF f) < 0
          · have hd : decide ((0 : Int) ≤ ordTr (p.e, p.a, p.k, p.m, p.s) (f.e, f.a, f.k, f.m, f.s)) = false := decide_eq_false (by have : ordTr (p.e, p.a, p.k, p.m, p.s) (f.e, f.a, f.k, f.m, f.s) < 0 := hle; omega)
            have HY : Hid (∀ i, i < k + 1 + 1 → FOk fs i) := fun i hi => by
              by_cases hik : i = k + 1
              · subst hik
                intro f' hf'
                rw [HFG.out] at hf'
                cases hf'
                refine ⟨HMV.out, fun q _ hq => ?_⟩
                rw [show k + 1 - 1 = k by omega, HPG.out] at hq
                cases hq
                exact hle
              · exact HO.out i (by omega)
            clear hle
            go_wp2
            refine wp_region_held_drew (S := FMS w wr.heap.size f (.slice As f.l.length cs) b (o + k * 6) p (.slice Ap p.l.length cp)) (by kernel_rfl) HMS.out (fun hHeld => ?_)
            refine takeV 0 (some 12) ((.agg #[.int .i64 f.e, .int .i64 f.a, .int .i64 f.k, .int .i64 f.m, .string f.s, .slice As f.l.length cs])) rfl rfl (by kernel_rfl) (by kernel_rfl) (by kernel_rfl) (fun _ _ _ h => h) (by rfl) (by (intro _w hSw; have q0 := hSw.1.k0; have q1 := hSw.1.k1; have q2 := hSw.1.k2; have q3 := hSw.1.k3; have q4 := hSw.1.k4; have q5 := hSw.1.k5; clear hSw; go_simp)) (by assumption) ?_
            simp only [Act.put, List.setIfInBounds_toArray, List.set_cons_zero, List.set_cons_succ]
            refine callV 1 rfl (by kernel_rfl) (by rfl) (fun K hK => ?_)
            go_simp
            go_at_call 54
            refine (HIF.out _ hHeld.2.1).mono ?_
            rintro e w3 ⟨rfl, hb3⟩
            have g3 := hHeld.next hb3
            rw [HMV.out]
            refine hK.out _ _ g3 (fun hHeld => ?_)
            clear hK g3 K hb3
            try simp only [Act.put, List.setIfInBounds_toArray, List.set_cons_zero, List.set_cons_succ]
            refine takeV 2 (some 14) ((.bool false)) rfl rfl (by kernel_rfl) (by kernel_rfl) (by kernel_rfl) (fun _ _ _ h => h) (by rfl) (by (intro _w _hSw; (try dsimp only at _hSw); go_simp)) (by assumption) ?_
            simp only [Act.put, List.setIfInBounds_toArray, List.set_cons_zero, List.set_cons_succ]
            refine takeV 3 (some 15) ((.bool false)) rfl rfl (by kernel_rfl) (by kernel_rfl) (by kernel_rfl) (fun _ _ _ h => h) (by rfl) (by (intro _w _hSw; (try dsimp only at _hSw); go_simp)) (by assumption) ?_
            simp only [Act.put, List.setIfInBounds_toArray, List.set_cons_zero, List.set_cons_succ]
            refine takeV 4 (some 16) ((.int .i64 ((k + 1 : Nat) : Int))) rfl rfl (by kernel_rfl) (by kernel_rfl) (by kernel_rfl) (fun _ _ _ h => h) (by rfl) (by (intro _w _hSw; (try dsimp only at _hSw); go_simp)) (by assumption) ?_
            simp only [Act.put, List.setIfInBounds_toArray, List.set_cons_zero, List.set_cons_succ]
            refine takeV 5 (some 17) ((.bool true)) rfl rfl (by kernel_rfl) (by kernel_rfl) (by kernel_rfl) (fun _ _ _ h => h) (by rfl) (by (intro _w _hSw; (try dsimp only at _hSw); go_simp)) (by assumption) ?_
            simp only [Act.put, List.setIfInBounds_toArray, List.set_cons_zero, List.set_cons_succ]
            refine takeV 6 (some 18) ((.bool true)) rfl rfl (by kernel_rfl) (by kernel_rfl) (by kernel_rfl) (fun _ _ _ h => h) (by rfl) (by (intro _w _hSw; (try dsimp only at _hSw); go_simp)) (by assumption) ?_
            simp only [Act.put, List.setIfInBounds_toArray, List.set_cons_zero, List.set_cons_succ]
            refine takeV 7 (some 19) ((.slice (some ⟨b, o, none⟩) fs.length c)) rfl rfl (by kernel_rfl) (by kernel_rfl) (by kernel_rfl) (fun _ _ _ h => h) (by rfl) (by (intro _w _hSw; (try dsimp only at _hSw); go_simp)) (by assumption) ?_
            simp only [Act.put, List.setIfInBounds_toArray, List.set_cons_zero, List.set_cons_succ]
            refine takeV 8 (some 20) ((.int .i64 ((k + 1 : Nat) : Int))) rfl rfl (by kernel_rfl) (by kernel_rfl) (by kernel_rfl) (fun _ _ _ h => h) (by rfl) (by (intro _w _hSw; (try dsimp only at _hSw); go_simp)) (by assumption) ?_
            simp only [Act.put, List.setIfInBounds_toArray, List.set_cons_zero, List.set_cons_succ]
            refine takeV 9 (some 21) ((.int .i64 (k : Int))) rfl rfl (by kernel_rfl) (by kernel_rfl) (by kernel_rfl) (fun _ _ _ h => h) (by rfl) (by (intro _w _hSw; (try dsimp only at _hSw); go_simp)) (by assumption) ?_
            simp only [Act.put, List.setIfInBounds_toArray, List.set_cons_zero, List.set_cons_succ]
            refine takeV 10 (some 22) ((.pointer (some ⟨b, o + k * 6, none⟩))) rfl rfl (by kernel_rfl) (by kernel_rfl) (by kernel_rfl) (fun _ _ _ h => h) (by rfl) (by (intro _w _hSw; (try dsimp only at _hSw); go_simp)) (by assumption) ?_
            simp only [Act.put, List.setIfInBounds_toArray, List.set_cons_zero, List.set_cons_succ]
            refine takeV 11 (some 23) ((.agg #[.int .i64 p.e, .int .i64 p.a, .int .i64 p.k, .int .i64 p.m, .string p.s, .slice Ap p.l.length cp])) rfl rfl (by kernel_rfl) (by kernel_rfl) (by kernel_rfl) (fun _ _ _ h => h) (by rfl) (by (intro _w hSw; have q0 := hSw.2.2.1.1; have q1 := hSw.2.2.1.2.1; have q2 := hSw.2.2.1.2.2.1; have q3 := hSw.2.2.1.2.2.2.1; have q4 := hSw.2.2.1.2.2.2.2.1; have q5 := hSw.2.2.1.2.2.2.2.2; clear hSw; go_simp)) (by assumption) ?_
            simp only [Act.put, List.setIfInBounds_toArray, List.set_cons_zero, List.set_cons_succ]
            refine takeV 13 (some 25) ((.agg #[.int .i64 f.e, .int .i64 f.a, .int .i64 f.k, .int .i64 f.m, .string f.s, .slice As f.l.length cs])) rfl rfl (by kernel_rfl) (by kernel_rfl) (by kernel_rfl) (fun _ _ _ h => h) (by rfl) (by (intro _w hSw; have q0 := hSw.1.k0; have q1 := hSw.1.k1; have q2 := hSw.1.k2; have q3 := hSw.1.k3; have q4 := hSw.1.k4; have q5 := hSw.1.k5; clear hSw; go_simp)) (by assumption) ?_
            simp only [Act.put, List.setIfInBounds_toArray, List.set_cons_zero, List.set_cons_succ]
            refine callV 12 rfl (by kernel_rfl) (by rfl) (fun K hK => ?_)
            go_simp
            go_at_call 55
            refine (HOP.out _).mono ?_
            rintro e w4 ⟨rfl, hb4⟩
            have g4 := hHeld.next hb4
            refine hK.out _ _ g4 (fun hHeld => ?_)
            clear hK g4 K hb4
            try simp only [Act.put, List.setIfInBounds_toArray, List.set_cons_zero, List.set_cons_succ]
            refine callV 14 rfl (by kernel_rfl) (by rfl) (fun K hK => ?_)
            go_simp
            go_at_call 55
            refine (HOF.out _).mono ?_
            rintro e w4 ⟨rfl, hb4⟩
            have g4 := hHeld.next hb4
            refine hK.out _ _ g4 (fun hHeld => ?_)
            clear hK g4 K hb4
            try simp only [Act.put, List.setIfInBounds_toArray, List.set_cons_zero, List.set_cons_succ]
            refine callV 15 rfl (by kernel_rfl) (by rfl) (fun K hK => ?_)
            go_simp
            go_at_call 56
            refine (trCmp_any _ _ _ _ _ _ _ _ _ _ _).mono ?_
            rintro e w5 ⟨rfl, hb5⟩
            have g5 := hHeld.next hb5
            refine hK.out _ _ g5 (fun hHeld => ?_)
            clear hK g5 K hb5
            try simp only [Act.put, List.setIfInBounds_toArray, List.set_cons_zero, List.set_cons_succ]
            refine takeV 16 (some 28) ((.bool false)) rfl rfl (by kernel_rfl) (by kernel_rfl) (by kernel_rfl) (fun _ _ _ h => h) (by rfl) (by (intro _w _hSw; (try dsimp only at _hSw); go_simp)) (by assumption) ?_
            simp only [Act.put, List.setIfInBounds_toArray, List.set_cons_zero, List.set_cons_succ]
            refine takeV 17 (some 29) ((.bool false)) rfl rfl (by kernel_rfl) (by kernel_rfl) (by kernel_rfl) (fun _ _ _ h => h) (by rfl) (by (intro _w _hSw; (try dsimp only at _hSw); go_simp)) (by assumption) ?_
            simp only [Act.put, List.setIfInBounds_toArray, List.set_cons_zero, List.set_cons_succ]
            refine takeV 18 (some 30) ((.bool false)) rfl rfl (by kernel_rfl) (by kernel_rfl) (by kernel_rfl) (fun _ _ _ h => h) (by rfl) (by (intro _w _hSw; (try dsimp only at _hSw); go_simp)) (by assumption) ?_
            simp only [Act.put, List.setIfInBounds_toArray, List.set_cons_zero, List.set_cons_succ]
            refine wpAnyH_done (by kernel_rfl) ?_ _
            have HBZ := Lib.hid hHeld.2.2.2.2
            clear hHeld
            go_wp2
            go_roundg g
            case measure => omega
            case rel => exact ⟨k + 1 + 1, by go_num, by omega, HY.out, HBZ.out⟩
          · have hd : decide ((0 : Int) ≤ ordTr (p.e, p.a, p.k, p.m, p.s) (f.e, f.a, f.k, f.m, f.s)) = true := decide_eq_true (by have : ¬ ordTr (p.e, p.a, p.k, p.m, p.s) (f.e, f.a, f.k, f.m, f.s) < 0 := hle; omega)
            have HN := Lib.hid (mayFs_no (fs := fs) (i := k + 1) (fun h => hle ((h f HFG.out).2 p (by omega) (by rw [show k + 1 - 1 = k by omega]; exact HPG.out))))
            clear hle
            go_wp2
            refine wp_region_held_drew (S := FMS w wr.heap.size f (.slice As f.l.length cs) b (o + k * 6) p (.slice Ap p.l.length cp)) (by kernel_rfl) HMS.out (fun hHeld => ?_)
            refine takeV 0 (some 12) ((.agg #[.int .i64 f.e, .int .i64 f.a, .int .i64 f.k, .int .i64 f.m, .string f.s, .slice As f.l.length cs])) rfl rfl (by kernel_rfl) (by kernel_rfl) (by kernel_rfl) (fun _ _ _ h => h) (by rfl) (by (intro _w hSw; have q0 := hSw.1.k0; have q1 := hSw.1.k1; have q2 := hSw.1.k2; have q3 := hSw.1.k3; have q4 := hSw.1.k4; have q5 := hSw.1.k5; clear hSw; go_simp)) (by assumption) ?_
            simp only [Act.put, List.setIfInBounds_toArray, List.set_cons_zero, List.set_cons_succ]
            refine callV 1 rfl (by kernel_rfl) (by rfl) (fun K hK => ?_)
            go_simp
            go_at_call 54
            refine (HIF.out _ hHeld.2.1).mono ?_
            rintro e w3 ⟨rfl, hb3⟩
            have g3 := hHeld.next hb3
            rw [HMV.out]
            refine hK.out _ _ g3 (fun hHeld => ?_)
            clear hK g3 K hb3
            try simp only [Act.put, List.setIfInBounds_toArray, List.set_cons_zero, List.set_cons_succ]
            refine takeV 2 (some 14) ((.bool false)) rfl rfl (by kernel_rfl) (by kernel_rfl) (by kernel_rfl) (fun _ _ _ h => h) (by rfl) (by (intro _w _hSw; (try dsimp only at _hSw); go_simp)) (by assumption) ?_
            simp only [Act.put, List.setIfInBounds_toArray, List.set_cons_zero, List.set_cons_succ]
            refine takeV 3 (some 15) ((.bool false)) rfl rfl (by kernel_rfl) (by kernel_rfl) (by kernel_rfl) (fun _ _ _ h => h) (by rfl) (by (intro _w _hSw; (try dsimp only at _hSw); go_simp)) (by assumption) ?_
            simp only [Act.put, List.setIfInBounds_toArray, List.set_cons_zero, List.set_cons_succ]
            refine takeV 4 (some 16) ((.int .i64 ((k + 1 : Nat) : Int))) rfl rfl (by kernel_rfl) (by kernel_rfl) (by kernel_rfl) (fun _ _ _ h => h) (by rfl) (by (intro _w _hSw; (try dsimp only at _hSw); go_simp)) (by assumption) ?_
            simp only [Act.put, List.setIfInBounds_toArray, List.set_cons_zero, List.set_cons_succ]
            refine takeV 5 (some 17) ((.bool true)) rfl rfl (by kernel_rfl) (by kernel_rfl) (by kernel_rfl) (fun _ _ _ h => h) (by rfl) (by (intro _w _hSw; (try dsimp only at _hSw); go_simp)) (by assumption) ?_
            simp only [Act.put, List.setIfInBounds_toArray, List.set_cons_zero, List.set_cons_succ]
            refine takeV 6 (some 18) ((.bool true)) rfl rfl (by kernel_rfl) (by kernel_rfl) (by kernel_rfl) (fun _ _ _ h => h) (by rfl) (by (intro _w _hSw; (try dsimp only at _hSw); go_simp)) (by assumption) ?_
            simp only [Act.put, List.setIfInBounds_toArray, List.set_cons_zero, List.set_cons_succ]
            refine takeV 7 (some 19) ((.slice (some ⟨b, o, none⟩) fs.length c)) rfl rfl (by kernel_rfl) (by kernel_rfl) (by kernel_rfl) (fun _ _ _ h => h) (by rfl) (by (intro _w _hSw; (try dsimp only at _hSw); go_simp)) (by assumption) ?_
            simp only [Act.put, List.setIfInBounds_toArray, List.set_cons_zero, List.set_cons_succ]
            refine takeV 8 (some 20) ((.int .i64 ((k + 1 : Nat) : Int))) rfl rfl (by kernel_rfl) (by kernel_rfl) (by kernel_rfl) (fun _ _ _ h => h) (by rfl) (by (intro _w _hSw; (try dsimp only at _hSw); go_simp)) (by assumption) ?_
            simp only [Act.put, List.setIfInBounds_toArray, List.set_cons_zero, List.set_cons_succ]
            refine takeV 9 (some 21) ((.int .i64 (k : Int))) rfl rfl (by kernel_rfl) (by kernel_rfl) (by kernel_rfl) (fun _ _ _ h => h) (by rfl) (by (intro _w _hSw; (try dsimp only at _hSw); go_simp)) (by assumption) ?_
            simp only [Act.put, List.setIfInBounds_toArray, List.set_cons_zero, List.set_cons_succ]
            refine takeV 10 (some 22) ((.pointer (some ⟨b, o + k * 6, none⟩))) rfl rfl (by kernel_rfl) (by kernel_rfl) (by kernel_rfl) (fun _ _ _ h => h) (by rfl) (by (intro _w _hSw; (try dsimp only at _hSw); go_simp)) (by assumption) ?_
            simp only [Act.put, List.setIfInBounds_toArray, List.set_cons_zero, List.set_cons_succ]
            refine takeV 11 (some 23) ((.agg #[.int .i64 p.e, .int .i64 p.a, .int .i64 p.k, .int .i64 p.m, .string p.s, .slice Ap p.l.length cp])) rfl rfl (by kernel_rfl) (by kernel_rfl) (by kernel_rfl) (fun _ _ _ h => h) (by rfl) (by (intro _w hSw; have q0 := hSw.2.2.1.1; have q1 := hSw.2.2.1.2.1; have q2 := hSw.2.2.1.2.2.1; have q3 := hSw.2.2.1.2.2.2.1; have q4 := hSw.2.2.1.2.2.2.2.1; have q5 := hSw.2.2.1.2.2.2.2.2; clear hSw; go_simp)) (by assumption) ?_
            simp only [Act.put, List.setIfInBounds_toArray, List.set_cons_zero, List.set_cons_succ]
            refine takeV 13 (some 25) ((.agg #[.int .i64 f.e, .int .i64 f.a, .int .i64 f.k, .int .i64 f.m, .string f.s, .slice As f.l.length cs])) rfl rfl (by kernel_rfl) (by kernel_rfl) (by kernel_rfl) (fun _ _ _ h => h) (by rfl) (by (intro _w hSw; have q0 := hSw.1.k0; have q1 := hSw.1.k1; have q2 := hSw.1.k2; have q3 := hSw.1.k3; have q4 := hSw.1.k4; have q5 := hSw.1.k5; clear hSw; go_simp)) (by assumption) ?_
            simp only [Act.put, List.setIfInBounds_toArray, List.set_cons_zero, List.set_cons_succ]
            refine callV 12 rfl (by kernel_rfl) (by rfl) (fun K hK => ?_)
            go_simp
            go_at_call 55
            refine (HOP.out _).mono ?_
            rintro e w4 ⟨rfl, hb4⟩
            have g4 := hHeld.next hb4
            refine hK.out _ _ g4 (fun hHeld => ?_)
            clear hK g4 K hb4
            try simp only [Act.put, List.setIfInBounds_toArray, List.set_cons_zero, List.set_cons_succ]
            refine callV 14 rfl (by kernel_rfl) (by rfl) (fun K hK => ?_)
            go_simp
            go_at_call 55
            refine (HOF.out _).mono ?_
            rintro e w4 ⟨rfl, hb4⟩
            have g4 := hHeld.next hb4
            refine hK.out _ _ g4 (fun hHeld => ?_)
            clear hK g4 K hb4
            try simp only [Act.put, List.setIfInBounds_toArray, List.set_cons_zero, List.set_cons_succ]
            refine callV 15 rfl (by kernel_rfl) (by rfl) (fun K hK => ?_)
            go_simp
            go_at_call 56
            refine (trCmp_any _ _ _ _ _ _ _ _ _ _ _).mono ?_
            rintro e w5 ⟨rfl, hb5⟩
            have g5 := hHeld.next hb5
            refine hK.out _ _ g5 (fun hHeld => ?_)
            clear hK g5 K hb5
            try simp only [Act.put, List.setIfInBounds_toArray, List.set_cons_zero, List.set_cons_succ]
            refine takeV 16 (some 28) ((.bool true)) rfl rfl (by kernel_rfl) (by kernel_rfl) (by kernel_rfl) (fun _ _ _ h => h) (by rfl) (by (intro _w _hSw; (try dsimp only at _hSw); go_simp)) (by assumption) ?_
            simp only [Act.put, List.setIfInBounds_toArray, List.set_cons_zero, List.set_cons_succ]
            refine takeV 17 (some 29) ((.bool true)) rfl rfl (by kernel_rfl) (by kernel_rfl) (by kernel_rfl) (fun _ _ _ h => h) (by rfl) (by (intro _w _hSw; (try dsimp only at _hSw); go_simp)) (by assumption) ?_
            simp only [Act.put, List.setIfInBounds_toArray, List.set_cons_zero, List.set_cons_succ]
            refine takeV 18 (some 30) ((.bool true)) rfl rfl (by kernel_rfl) (by kernel_rfl) (by kernel_rfl) (fun _ _ _ h => h) (by rfl) (by (intro _w _hSw; (try dsimp only at _hSw); go_simp)) (by assumption) ?_
            simp only [Act.put, List.setIfInBounds_toArray, List.set_cons_zero, List.set_cons_succ]
            refine wpAnyH_done (by kernel_rfl) ?_ _
            have HBZ := Lib.hid hHeld.2.2.2.2
            clear hHeld
            go_wp2
            go_ret
            exact ⟨by rw [HN.out]; rfl, HBZ.out⟩

set_option maxRecDepth 100000 in
set_option maxHeartbeats 400000 in
theorem checkF_big (A : Option Addr) (c : Nat) (fs : List FactP) (w : World) (hs : FVa w (.slice A fs.length c) fs) (hl : fs.length ≤ 1954687338268) (hz : ∀ f ∈ fs, f.s.size ≤ maxLen ∧ f.l.length ≤ 9223372036854775807) :
    Calls Try.prog 14 #[.slice A fs.length c] w fun e w' => e = .returned (.int .i64 (if mayFs fs = true then 0 else 60)) ∧ Below w.heap.size w w' := by
  have HC := Lib.hid (mayFs_big A c fs w hs hl hz)
  obtain ⟨v, hv⟩ : ∃ v, mayFs fs = v := ⟨_, rfl⟩
  rw [hv] at HC ⊢
  clear hs hz hv
  go_enter Try.func14, Try.ntmps14
  go_wp2_with fail
  refine HC.out.mono ?_
  rintro e w1 ⟨rfl, hb⟩
  have HB := Lib.hid hb
  clear hb HC
  cases v
  · go_wp2
    go_ret
    exact ⟨rfl, HB.out⟩
  · go_wp2
    go_ret
    exact ⟨rfl, HB.out⟩
end Go.Proofs.Ytlmihlepaoifiaa
