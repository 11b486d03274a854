/-
  CONTRACT of the document's own answer: less.
-/
import Derived.Test.YtdhnajhfkmmjnaaJFFindR
import Derived.Test.YtdhnajhfkmmjnaaJSOfNot
import Derived.Test.YtdhnajhfkmmjnaaJFMayP
namespace Go.Proofs.Ytdhnajhfkmmjnaa
open Go.RowKit Go.Shelf

theorem ofL_minus (a b : List Sp) : ofL notF a b [] (endsL (a ++ b)) = minusL a b := by
  have h := of_set notF rfl a b
  refine (minusL_is h.1 fun t => ?_).symm
  have h2 := h.2 t
  unfold notF innB at h2
  have h3 := congrArg (· = true) h2
  simp only [Bool.and_eq_true, Bool.not_eq_true', decide_eq_true_eq, decide_eq_false_iff_not] at h3
  exact iff_of_eq h3
theorem spansOf_le {b : List FactP} {x : Tri} {S : Nat} (h : ∀ g ∈ b, g.l.length ≤ S) : (spansOf b x).length ≤ S := by
  unfold spansOf
  cases hq : b.find? (fun g => decide (triF g = x)) with
  | none => exact Nat.zero_le _
  | some g => exact h g (List.mem_of_find?_eq_some hq)
theorem minus_le (a b : List Sp) : (minusL a b).length ≤ a.length + b.length := by
  have h := minusL_spec a b
  have := minusL_few h.1 h.2
  omega
theorem less_take (b : List FactP) (t : Int) (add : Bool) {a : List FactP} {j : Nat} {f : FactP} (h : a.take (j + 1) = a.take j ++ [f]) : lessL (a.take (j + 1)) b t add = lessL (a.take j) b t add ++ (minusL f.l (spansOf b (triF f))).map (mkD (triF f) t add) := by
  unfold lessL
  rw [h, List.flatMap_append, List.flatMap_singleton]
  rfl
/-- what the region of a row's datom reads -/
def LSS (b off : Nat) (f : FactP) (sv : Value) (b2 o2 : Nat) (x y : Int) (W : World) : Prop := FcV W b off f sv ∧ W.cell? ⟨b2, o2, none⟩ = some (.int .i64 x) ∧ W.cell? ⟨b2, o2 + 1, none⟩ = some (.int .i64 y) ∧ b < W.heap.size ∧ b2 < W.heap.size
theorem LSS.next {b off : Nat} {f : FactP} {sv : Value} {b2 o2 : Nat} {x y : Int} {W W' : World} (h : LSS b off f sv b2 o2 x y W) (hb : Below W.heap.size W W') : LSS b off f sv b2 o2 x y W' :=
  ⟨h.1.next hb h.2.2.2.1, (hb.cell (p := ⟨b2, o2, none⟩) h.2.2.2.2).trans h.2.1, (hb.cell (p := ⟨b2, o2 + 1, none⟩) h.2.2.2.2).trans h.2.2.1, Nat.lt_of_lt_of_le h.2.2.2.1 hb.size, Nat.lt_of_lt_of_le h.2.2.2.2 hb.size⟩
theorem ownS_cells {W : World} {B n c : Nat} {A : Option Addr} {l : List Sp} (h : OwnS W B (.slice A n c) l) {k : Nat} (hk : k < l.length) : ∃ b2 o2, A = some ⟨b2, o2, none⟩ ∧ b2 < W.heap.size ∧ W.cell? ⟨b2, o2 + k * 2, none⟩ = some (.int .i64 l[k].1) ∧ W.cell? ⟨b2, o2 + k * 2 + 1, none⟩ = some (.int .i64 l[k].2) := by
  obtain ⟨A', c', e, hs, _⟩ := h.sls
  cases e
  obtain ⟨b2, o2, e, hlt, hc⟩ := hs (by intro e; rw [e] at hk; simp at hk)
  have := hc k l[k] (List.getElem?_eq_getElem hk)
  exact ⟨b2, o2, e, hlt, this.c0, this.c1⟩
/-- What less answers. -/
def LsEnd (w : World) (a b : List FactP) (t : Int) (add : Bool) (e : Ending) (w' : World) : Prop := (∃ v, e = .returned v ∧ OwnD w' w.heap.size v (lessL a b t add)) ∧ Below w.heap.size w w'
set_option maxRecDepth 100000 in
set_option maxHeartbeats 8000000 in
/-- CONTRACT of the document's own answer: less. -/
theorem less_any (t : Int) (add : Bool) (A B : Option Addr) (c d : Nat) (a b : List FactP) (w : World) (ha : FVa w (.slice A a.length c) a) (hb : FVa w (.slice B b.length d) b) (na : FNn w A a.length) (nb : FNn w B b.length) (hla : a.length ≤ 1000) (hlb : b.length ≤ 1000)
    (hza : ∀ f ∈ a, f.s.size ≤ maxLen ∧ f.l.length ≤ 1000) (hzb : ∀ f ∈ b, f.s.size ≤ maxLen ∧ f.l.length ≤ 1000) :
    Calls Try.prog 47 #[.slice A a.length c, .slice B b.length d, .int .i64 t, .bool add] w (LsEnd w a b t add) := by
  obtain ⟨i0, hi, hz0, hz1, hz2⟩ := info_parts infoD
  have hmx : 2000000000000 ≤ maxLen := by decide
  have HA := Lib.hid ha
  have HB0 := Lib.hid hb
  have NA := Lib.hid na
  have NB := Lib.hid nb
  have HZA := Lib.hid hza
  have HZB := Lib.hid hzb
  clear ha hb na nb hza hzb
  go_enter Try.func47, Try.ntmps47
  go_wp2
  go_loopg [9, 10] a.length (fun g x y wr => ∃ (j : Nat) (L : List Dat), y = .int .i64 j ∧ j + g = a.length ∧ Hid (OwnD wr w.heap.size x L) ∧ Hid (L = lessL (a.take j) b t add) ∧ Hid (L.length ≤ j * 2000) ∧ Hid (Below w.heap.size w wr))
  case atStart => exact ⟨0, [], rfl, by omega, World.ownsRow_nil _ _ _ _, rfl, Nat.zero_le _, Below.refl _ _⟩
  case round =>
    obtain ⟨j, L, rfl, hj, HO, HL, HLN, HB⟩ := hrel
    cases gk with
    | zero =>
      have hjz : ¬ ((j : Int) < (a.length : Int)) := by omega
      have HE : Hid (L = lessL a b t add) := by
        have := HL.out
        rwa [List.take_of_length_le (by omega)] at this
      go_wp2
      go_ret
      exact ⟨⟨_, rfl, by rw [← HE.out]; exact HO.out⟩, HB.out⟩
    | succ g =>
      have hjz : (j : Int) < (a.length : Int) := by omega
      have hjn : j < a.length := by omega
      obtain ⟨b1, o1, sv, rfl, hlt, hc, hsv⟩ := fva_at HA.out hjn
      obtain ⟨f, hf⟩ : ∃ f, a[j] = f := ⟨_, rfl⟩
      rw [hf] at hc hsv
      have HTK : Hid (a.take (j + 1) = a.take j ++ [f]) := by show _ = _; rw [List.take_succ_eq_append_getElem hjn, hf]
      have hzf := HZA.out f (by rw [← hf]; exact List.getElem_mem _)
      obtain ⟨As, cs, rfl, _⟩ := id hsv
      have HNN : Hid (∀ n' c', Value.slice As f.l.length cs = .slice none n' c' → n' = 0 ∧ c' = 0) := fun n' c' e => NA.out b1 o1 rfl j n' c' hjn (by rw [← e]; exact hc.2.2.2.2.2)
      have hltr : b1 < wr.heap.size := Nat.lt_of_lt_of_le hlt HB.out.size
      have HC0 := Lib.hid hc
      have HLT := Lib.hid hlt
      have hsr := hsv.next HB.out
      have hcr := hc.next HB.out hlt
      have HSV := Lib.hid hsr
      have HCV := Lib.hid hcr
      have HBL := Lib.hid hltr
      have HZF := Lib.hid hzf
      have HFD := Lib.hid (fun X (h : Below w.heap.size w X) => refFind_any B d b f (.slice As f.l.length cs) X (HB0.out.next h) (FNn.next NB.out HB0.out h) (by omega) (fun q hq => ⟨(HZB.out q hq).1, by have := (HZB.out q hq).2; omega⟩) ⟨_, _, _, rfl⟩ hzf.1)
      obtain ⟨G, hG⟩ : ∃ G, spansOf b (triF f) = G := ⟨_, rfl⟩
      have HGL : Hid (G.length ≤ 1000) := by rw [← hG]; exact spansOf_le fun q hq => (HZB.out q hq).2
      have HG := Lib.hid hG
      clear hf hc hsv hlt hsr hcr hltr hzf hG
      go_wp2
      obtain ⟨wd, hwd⟩ : ∃ wd, wr.drew = wd := ⟨_, rfl⟩
      refine wp_region_held_drew (S := Below wr.heap.size wr) (by kernel_rfl) (below_ind (Below.refl _ wr) 1) (fun hHeld => ?_)
      rw [hwd] at hHeld ⊢
      clear hwd
      refine takeV 0 (some 19) ((.slice (some ⟨b1, o1, none⟩) a.length c)) rfl rfl (by kernel_rfl) (by kernel_rfl) (by kernel_rfl) (fun _ _ _ h => h) (by rfl) (by (intro _w _hSw; (try dsimp only at _hSw); go_simp)) (by assumption) ?_
      simp only [Act.put, List.setIfInBounds_toArray, List.set_cons_zero, List.set_cons_succ]
      refine takeV 1 (some 20) ((.int .i64 (j : Int))) rfl rfl (by kernel_rfl) (by kernel_rfl) (by kernel_rfl) (fun _ _ _ h => h) (by rfl) (by (intro _w _hSw; (try dsimp only at _hSw); go_simp)) (by assumption) ?_
      simp only [Act.put, List.setIfInBounds_toArray, List.set_cons_zero, List.set_cons_succ]
      refine takeV 2 (some 21) ((.pointer (some ⟨b1, o1 + j * 6, none⟩))) rfl rfl (by kernel_rfl) (by kernel_rfl) (by kernel_rfl) (fun _ _ _ h => h) (by rfl) (by (intro _w _hSw; (try dsimp only at _hSw); go_simp)) (by assumption) ?_
      simp only [Act.put, List.setIfInBounds_toArray, List.set_cons_zero, List.set_cons_succ]
      refine takeV 3 (some 22) ((.pointer (some ⟨b1, o1 + j * 6 + 5, none⟩))) rfl rfl (by kernel_rfl) (by kernel_rfl) (by kernel_rfl) (fun _ _ _ h => h) (by rfl) (by (intro _w _hSw; (try dsimp only at _hSw); go_simp)) (by assumption) ?_
      simp only [Act.put, List.setIfInBounds_toArray, List.set_cons_zero, List.set_cons_succ]
      refine takeV 4 (some 23) ((.slice As f.l.length cs)) rfl rfl (by kernel_rfl) (by kernel_rfl) (by kernel_rfl) (fun _ _ _ h => h) (by rfl) (by (intro _w hSw; (have qh := HCV.out.next hSw HBL.out; have q0 := qh.1; have q1 := qh.2.1; have q2 := qh.2.2.1; have q3 := qh.2.2.2.1; have q4 := qh.2.2.2.2.1; have q5 := qh.2.2.2.2.2; clear qh); clear hSw; go_simp)) (by assumption) ?_
      simp only [Act.put, List.setIfInBounds_toArray, List.set_cons_zero, List.set_cons_succ]
      refine takeV 5 (some 24) ((.slice B b.length d)) rfl rfl (by kernel_rfl) (by kernel_rfl) (by kernel_rfl) (fun _ _ _ h => h) (by rfl) (by (intro _w _hSw; (try dsimp only at _hSw); go_simp)) (by assumption) ?_
      simp only [Act.put, List.setIfInBounds_toArray, List.set_cons_zero, List.set_cons_succ]
      refine takeV 6 (some 25) ((.slice (some ⟨b1, o1, none⟩) a.length c)) rfl rfl (by kernel_rfl) (by kernel_rfl) (by kernel_rfl) (fun _ _ _ h => h) (by rfl) (by (intro _w _hSw; (try dsimp only at _hSw); go_simp)) (by assumption) ?_
      simp only [Act.put, List.setIfInBounds_toArray, List.set_cons_zero, List.set_cons_succ]
      refine takeV 7 (some 26) ((.int .i64 (j : Int))) rfl rfl (by kernel_rfl) (by kernel_rfl) (by kernel_rfl) (fun _ _ _ h => h) (by rfl) (by (intro _w _hSw; (try dsimp only at _hSw); go_simp)) (by assumption) ?_
      simp only [Act.put, List.setIfInBounds_toArray, List.set_cons_zero, List.set_cons_succ]
      refine takeV 8 (some 27) ((.pointer (some ⟨b1, o1 + j * 6, none⟩))) rfl rfl (by kernel_rfl) (by kernel_rfl) (by kernel_rfl) (fun _ _ _ h => h) (by rfl) (by (intro _w _hSw; (try dsimp only at _hSw); go_simp)) (by assumption) ?_
      simp only [Act.put, List.setIfInBounds_toArray, List.set_cons_zero, List.set_cons_succ]
      refine takeV 9 (some 28) ((.agg #[.int .i64 f.e, .int .i64 f.a, .int .i64 f.k, .int .i64 f.m, .string f.s, .slice As f.l.length cs])) rfl rfl (by kernel_rfl) (by kernel_rfl) (by kernel_rfl) (fun _ _ _ h => h) (by rfl) (by (intro _w hSw; (have qh := HCV.out.next hSw HBL.out; have q0 := qh.1; have q1 := qh.2.1; have q2 := qh.2.2.1; have q3 := qh.2.2.2.1; have q4 := qh.2.2.2.2.1; have q5 := qh.2.2.2.2.2; clear qh); clear hSw; go_simp)) (by assumption) ?_
      simp only [Act.put, List.setIfInBounds_toArray, List.set_cons_zero, List.set_cons_succ]
      refine callV 10 rfl (by kernel_rfl) (by rfl) (fun K hK => ?_)
      go_simp
      refine (HFD.out _ (HB.out.trans (hHeld.mono HB.out.size))).mono ?_
      rintro e9 w3 ⟨⟨v3, rfl, hv3⟩, hb3⟩
      rw [HG.out] at hv3
      obtain ⟨A3, c3, rfl, hs3, _⟩ := id hv3.1
      have HS3 := Lib.hid hs3
      have HN3 := Lib.hid hv3.2
      have g3 := hHeld.trans (hb3.mono hHeld.size)
      clear hv3 hs3
      refine hK.out _ _ g3 (fun hHeld => ?_)
      clear hK g3 K hb3
      try simp only [Act.put, List.setIfInBounds_toArray, List.set_cons_zero, List.set_cons_succ]
      refine callV 11 rfl (by kernel_rfl) (by rfl) (fun K hK => ?_)
      go_simp
      have hsx : SlS w3 w3.heap.size As f.l := by
        obtain ⟨A8, c8, e8, h8, _⟩ := HSV.out.next hHeld
        cases e8
        exact h8
      refine (ofNot_any As A3 cs c3 f.l G w3 hsx HS3.out (fun e => HNN.out _ _ (by rw [e])) (fun e => HN3.out _ _ (by rw [e])) HZF.out.2 HGL.out).mono ?_
      rintro e9 w4 ⟨lv, rfl, ho4, hb4⟩
      rw [ofL_minus, ← HG.out] at ho4
      have g4 := hHeld.trans (hb4.mono hHeld.size)
      clear hsx
      refine hK.out _ _ g4 (fun hHeld => ?_)
      clear hK g4 K hb4
      try simp only [Act.put, List.setIfInBounds_toArray, List.set_cons_zero, List.set_cons_succ]
      refine takeV 12 (some 11) (lv) rfl rfl (by kernel_rfl) (by kernel_rfl) (by kernel_rfl) (fun _ _ _ h => h) (by rfl) (by (intro _w _hSw; (try dsimp only at _hSw); go_simp)) (by assumption) ?_
      simp only [Act.put, List.setIfInBounds_toArray, List.set_cons_zero, List.set_cons_succ]
      refine wpAnyH_done (by kernel_rfl) ?_ _
      obtain ⟨M, hM⟩ : ∃ M, minusL f.l (spansOf b (triF f)) = M := ⟨_, rfl⟩
      rw [hM] at ho4
      have HML : Hid (M.length ≤ 2000) := by
        have h1 := minus_le f.l (spansOf b (triF f))
        have h2 := HZF.out.2
        have h3 := HGL.out
        rw [hM, HG.out] at h1
        show _ ≤ _
        omega
      have HM := Lib.hid hM
      obtain ⟨Al, cl, rfl, _⟩ := ho4.sls
      have HB4 := Lib.hid (HB.out.trans (hHeld.mono HB.out.size))
      have HO4 := Lib.hid (HO.out.next hHeld)
      have HS4 := Lib.hid ho4
      obtain ⟨B4, hB4⟩ : ∃ B4, w3.heap.size = B4 := ⟨_, rfl⟩
      rw [hB4] at HS4
      clear hM ho4 hHeld hB4
      go_wp2
      go_loopg [9, 12] M.length (fun g x y w5 => ∃ (k : Nat) (R : List Dat), y = .int .i64 k ∧ k + g = M.length ∧ Hid (OwnD w5 w.heap.size x R) ∧ Hid (R = L ++ (M.take k).map (mkD (triF f) t add)) ∧ Hid (OwnS w5 B4 (.slice Al M.length cl) M) ∧ Hid (Below w.heap.size w w5))
      case atStart => exact ⟨0, L, rfl, by omega, HO4.out, by show _ = _; simp, HS4.out, HB4.out⟩
      case round =>
        obtain ⟨k, R, rfl, hk, HO5, HR, HS5, HB5⟩ := hrel
        have HRL : Hid (R.length ≤ j * 2000 + 2000) := by
          have h1 := HLN.out
          have h2 := HML.out
          show _ ≤ _
          rw [HR.out, List.length_append, List.length_map, List.length_take]
          omega
        cases gk with
        | zero =>
          have hkz : ¬ ((k : Int) < (M.length : Int)) := by omega
          have HE : Hid (R = lessL (a.take (j + 1)) b t add) := by
            have := HR.out
            rw [List.take_of_length_le (by omega), HL.out] at this
            show _ = _
            rw [less_take b t add HTK.out, HM.out]
            exact this
          go_wp2
          go_roundg g
          case measure => omega
          case rel => exact ⟨j + 1, R, by go_num, by omega, HO5.out, HE.out, by have := HRL.out; show _ ≤ _; omega, HB5.out⟩
        | succ g2 =>
          have hkz : (k : Int) < (M.length : Int) := by omega
          have hkn : k < M.length := by omega
          have hk2 : (k : Int) ≤ 2000 := by have := HML.out; omega
          obtain ⟨b2, o2, rfl, hlt2, hx, hy⟩ := ownS_cells HS5.out hkn
          obtain ⟨x, y, hxy⟩ : ∃ x y, M[k] = (x, y) := ⟨_, _, rfl⟩
          rw [hxy] at hx hy
          have HXY : Hid (M.take (k + 1) = M.take k ++ [(x, y)]) := by show _ = _; rw [List.take_succ_eq_append_getElem hkn, hxy]
          have hHS : LSS b1 (o1 + j * 6) f (.slice As f.l.length cs) b2 (o2 + k * 2) x y wr := ⟨HC0.out.next HB5.out HLT.out, hx, hy, Nat.lt_of_lt_of_le HLT.out HB5.out.size, hlt2⟩
          have HLS := Lib.hid hHS
          clear hlt2 hx hy hxy hHS
          go_wp2
          obtain ⟨we, hwe⟩ : ∃ we, wr.drew = we := ⟨_, rfl⟩
          have HO9 : Hid (OwnD we w.heap.size u9 R) := by rw [← hwe]; exact HO5.out
          have HS9 : Hid (OwnS we B4 (.slice (some ⟨b2, o2, none⟩) M.length cl) M) := by rw [← hwe]; exact HS5.out
          have HB9 : Hid (Below w.heap.size w we) := by rw [← hwe]; exact below_ind HB5.out 1
          refine wp_region_held_drew (S := LSS b1 (o1 + j * 6) f (.slice As f.l.length cs) b2 (o2 + k * 2) x y) (by kernel_rfl) HLS.out (fun hHeld => ?_)
          rw [hwe] at hHeld ⊢
          clear hwe
          refine takeV 0 (some 37) (u9) rfl rfl (by kernel_rfl) (by kernel_rfl) (by kernel_rfl) (fun _ _ _ h => h) (by rfl) (by (intro _w _hSw; (try dsimp only at _hSw); go_simp)) (by assumption) ?_
          simp only [Act.put, List.setIfInBounds_toArray, List.set_cons_zero, List.set_cons_succ]
          refine takeV 1 (some 38) ((.slice (some ⟨b1, o1, none⟩) a.length c)) rfl rfl (by kernel_rfl) (by kernel_rfl) (by kernel_rfl) (fun _ _ _ h => h) (by rfl) (by (intro _w _hSw; (try dsimp only at _hSw); go_simp)) (by assumption) ?_
          simp only [Act.put, List.setIfInBounds_toArray, List.set_cons_zero, List.set_cons_succ]
          refine takeV 2 (some 39) ((.int .i64 (j : Int))) rfl rfl (by kernel_rfl) (by kernel_rfl) (by kernel_rfl) (fun _ _ _ h => h) (by rfl) (by (intro _w _hSw; (try dsimp only at _hSw); go_simp)) (by assumption) ?_
          simp only [Act.put, List.setIfInBounds_toArray, List.set_cons_zero, List.set_cons_succ]
          refine takeV 3 (some 40) ((.pointer (some ⟨b1, o1 + j * 6, none⟩))) rfl rfl (by kernel_rfl) (by kernel_rfl) (by kernel_rfl) (fun _ _ _ h => h) (by rfl) (by (intro _w _hSw; (try dsimp only at _hSw); go_simp)) (by assumption) ?_
          simp only [Act.put, List.setIfInBounds_toArray, List.set_cons_zero, List.set_cons_succ]
          refine takeV 4 (some 41) ((.pointer (some ⟨b1, o1 + j * 6, none⟩))) rfl rfl (by kernel_rfl) (by kernel_rfl) (by kernel_rfl) (fun _ _ _ h => h) (by rfl) (by (intro _w _hSw; (try dsimp only at _hSw); go_simp)) (by assumption) ?_
          simp only [Act.put, List.setIfInBounds_toArray, List.set_cons_zero, List.set_cons_succ]
          refine takeV 5 (some 42) ((.int .i64 f.e)) rfl rfl (by kernel_rfl) (by kernel_rfl) (by kernel_rfl) (fun _ _ _ h => h) (by rfl) (by (intro _w hSw; (have q0 := hSw.1.1; have q1 := hSw.1.2.1; have q2 := hSw.1.2.2.1; have q3 := hSw.1.2.2.2.1; have q4 := hSw.1.2.2.2.2.1); clear hSw; go_simp)) (by assumption) ?_
          simp only [Act.put, List.setIfInBounds_toArray, List.set_cons_zero, List.set_cons_succ]
          refine takeV 6 (some 43) ((.slice (some ⟨b1, o1, none⟩) a.length c)) rfl rfl (by kernel_rfl) (by kernel_rfl) (by kernel_rfl) (fun _ _ _ h => h) (by rfl) (by (intro _w _hSw; (try dsimp only at _hSw); go_simp)) (by assumption) ?_
          simp only [Act.put, List.setIfInBounds_toArray, List.set_cons_zero, List.set_cons_succ]
          refine takeV 7 (some 44) ((.int .i64 (j : Int))) rfl rfl (by kernel_rfl) (by kernel_rfl) (by kernel_rfl) (fun _ _ _ h => h) (by rfl) (by (intro _w _hSw; (try dsimp only at _hSw); go_simp)) (by assumption) ?_
          simp only [Act.put, List.setIfInBounds_toArray, List.set_cons_zero, List.set_cons_succ]
          refine takeV 8 (some 45) ((.pointer (some ⟨b1, o1 + j * 6, none⟩))) rfl rfl (by kernel_rfl) (by kernel_rfl) (by kernel_rfl) (fun _ _ _ h => h) (by rfl) (by (intro _w _hSw; (try dsimp only at _hSw); go_simp)) (by assumption) ?_
          simp only [Act.put, List.setIfInBounds_toArray, List.set_cons_zero, List.set_cons_succ]
          refine takeV 9 (some 46) ((.pointer (some ⟨b1, o1 + j * 6 + 1, none⟩))) rfl rfl (by kernel_rfl) (by kernel_rfl) (by kernel_rfl) (fun _ _ _ h => h) (by rfl) (by (intro _w _hSw; (try dsimp only at _hSw); go_simp)) (by assumption) ?_
          simp only [Act.put, List.setIfInBounds_toArray, List.set_cons_zero, List.set_cons_succ]
          refine takeV 10 (some 47) ((.int .i64 f.a)) rfl rfl (by kernel_rfl) (by kernel_rfl) (by kernel_rfl) (fun _ _ _ h => h) (by rfl) (by (intro _w hSw; (have q0 := hSw.1.1; have q1 := hSw.1.2.1; have q2 := hSw.1.2.2.1; have q3 := hSw.1.2.2.2.1; have q4 := hSw.1.2.2.2.2.1); clear hSw; go_simp)) (by assumption) ?_
          simp only [Act.put, List.setIfInBounds_toArray, List.set_cons_zero, List.set_cons_succ]
          refine takeV 11 (some 48) ((.slice (some ⟨b1, o1, none⟩) a.length c)) rfl rfl (by kernel_rfl) (by kernel_rfl) (by kernel_rfl) (fun _ _ _ h => h) (by rfl) (by (intro _w _hSw; (try dsimp only at _hSw); go_simp)) (by assumption) ?_
          simp only [Act.put, List.setIfInBounds_toArray, List.set_cons_zero, List.set_cons_succ]
          refine takeV 12 (some 49) ((.int .i64 (j : Int))) rfl rfl (by kernel_rfl) (by kernel_rfl) (by kernel_rfl) (fun _ _ _ h => h) (by rfl) (by (intro _w _hSw; (try dsimp only at _hSw); go_simp)) (by assumption) ?_
          simp only [Act.put, List.setIfInBounds_toArray, List.set_cons_zero, List.set_cons_succ]
          refine takeV 13 (some 50) ((.pointer (some ⟨b1, o1 + j * 6, none⟩))) rfl rfl (by kernel_rfl) (by kernel_rfl) (by kernel_rfl) (fun _ _ _ h => h) (by rfl) (by (intro _w _hSw; (try dsimp only at _hSw); go_simp)) (by assumption) ?_
          simp only [Act.put, List.setIfInBounds_toArray, List.set_cons_zero, List.set_cons_succ]
          refine takeV 14 (some 51) ((.pointer (some ⟨b1, o1 + j * 6 + 2, none⟩))) rfl rfl (by kernel_rfl) (by kernel_rfl) (by kernel_rfl) (fun _ _ _ h => h) (by rfl) (by (intro _w _hSw; (try dsimp only at _hSw); go_simp)) (by assumption) ?_
          simp only [Act.put, List.setIfInBounds_toArray, List.set_cons_zero, List.set_cons_succ]
          refine takeV 15 (some 52) ((.agg #[.int .i64 f.k, .int .i64 f.m, .string f.s])) rfl rfl (by kernel_rfl) (by kernel_rfl) (by kernel_rfl) (fun _ _ _ h => h) (by rfl) (by (intro _w hSw; (have q0 := hSw.1.1; have q1 := hSw.1.2.1; have q2 := hSw.1.2.2.1; have q3 := hSw.1.2.2.2.1; have q4 := hSw.1.2.2.2.2.1); clear hSw; go_simp)) (by assumption) ?_
          simp only [Act.put, List.setIfInBounds_toArray, List.set_cons_zero, List.set_cons_succ]
          refine takeV 16 (some 53) ((.int .i64 t)) rfl rfl (by kernel_rfl) (by kernel_rfl) (by kernel_rfl) (fun _ _ _ h => h) (by rfl) (by (intro _w _hSw; (try dsimp only at _hSw); go_simp)) (by assumption) ?_
          simp only [Act.put, List.setIfInBounds_toArray, List.set_cons_zero, List.set_cons_succ]
          refine takeV 17 (some 54) ((.bool add)) rfl rfl (by kernel_rfl) (by kernel_rfl) (by kernel_rfl) (fun _ _ _ h => h) (by rfl) (by (intro _w _hSw; (try dsimp only at _hSw); go_simp)) (by assumption) ?_
          simp only [Act.put, List.setIfInBounds_toArray, List.set_cons_zero, List.set_cons_succ]
          refine takeV 18 (some 55) ((.slice (some ⟨b2, o2, none⟩) M.length cl)) rfl rfl (by kernel_rfl) (by kernel_rfl) (by kernel_rfl) (fun _ _ _ h => h) (by rfl) (by (intro _w _hSw; (try dsimp only at _hSw); go_simp)) (by assumption) ?_
          simp only [Act.put, List.setIfInBounds_toArray, List.set_cons_zero, List.set_cons_succ]
          refine takeV 19 (some 56) ((.int .i64 (k : Int))) rfl rfl (by kernel_rfl) (by kernel_rfl) (by kernel_rfl) (fun _ _ _ h => h) (by rfl) (by (intro _w _hSw; (try dsimp only at _hSw); go_simp)) (by assumption) ?_
          simp only [Act.put, List.setIfInBounds_toArray, List.set_cons_zero, List.set_cons_succ]
          refine takeV 20 (some 57) ((.pointer (some ⟨b2, o2 + k * 2, none⟩))) rfl rfl (by kernel_rfl) (by kernel_rfl) (by kernel_rfl) (fun _ _ _ h => h) (by rfl) (by (intro _w _hSw; (try dsimp only at _hSw); go_simp)) (by assumption) ?_
          simp only [Act.put, List.setIfInBounds_toArray, List.set_cons_zero, List.set_cons_succ]
          refine takeV 21 (some 58) ((.pointer (some ⟨b2, o2 + k * 2, none⟩))) rfl rfl (by kernel_rfl) (by kernel_rfl) (by kernel_rfl) (fun _ _ _ h => h) (by rfl) (by (intro _w _hSw; (try dsimp only at _hSw); go_simp)) (by assumption) ?_
          simp only [Act.put, List.setIfInBounds_toArray, List.set_cons_zero, List.set_cons_succ]
          refine takeV 22 (some 59) ((.int .i64 x)) rfl rfl (by kernel_rfl) (by kernel_rfl) (by kernel_rfl) (fun _ _ _ h => h) (by rfl) (by (intro _w hSw; (have q0 := hSw.2.1); clear hSw; go_simp)) (by assumption) ?_
          simp only [Act.put, List.setIfInBounds_toArray, List.set_cons_zero, List.set_cons_succ]
          refine takeV 23 (some 60) ((.slice (some ⟨b2, o2, none⟩) M.length cl)) rfl rfl (by kernel_rfl) (by kernel_rfl) (by kernel_rfl) (fun _ _ _ h => h) (by rfl) (by (intro _w _hSw; (try dsimp only at _hSw); go_simp)) (by assumption) ?_
          simp only [Act.put, List.setIfInBounds_toArray, List.set_cons_zero, List.set_cons_succ]
          refine takeV 24 (some 61) ((.int .i64 (k : Int))) rfl rfl (by kernel_rfl) (by kernel_rfl) (by kernel_rfl) (fun _ _ _ h => h) (by rfl) (by (intro _w _hSw; (try dsimp only at _hSw); go_simp)) (by assumption) ?_
          simp only [Act.put, List.setIfInBounds_toArray, List.set_cons_zero, List.set_cons_succ]
          refine takeV 25 (some 62) ((.pointer (some ⟨b2, o2 + k * 2, none⟩))) rfl rfl (by kernel_rfl) (by kernel_rfl) (by kernel_rfl) (fun _ _ _ h => h) (by rfl) (by (intro _w _hSw; (try dsimp only at _hSw); go_simp)) (by assumption) ?_
          simp only [Act.put, List.setIfInBounds_toArray, List.set_cons_zero, List.set_cons_succ]
          refine takeV 26 (some 63) ((.pointer (some ⟨b2, o2 + k * 2 + 1, none⟩))) rfl rfl (by kernel_rfl) (by kernel_rfl) (by kernel_rfl) (fun _ _ _ h => h) (by rfl) (by (intro _w _hSw; (try dsimp only at _hSw); go_simp)) (by assumption) ?_
          simp only [Act.put, List.setIfInBounds_toArray, List.set_cons_zero, List.set_cons_succ]
          refine takeV 27 (some 64) ((.int .i64 y)) rfl rfl (by kernel_rfl) (by kernel_rfl) (by kernel_rfl) (fun _ _ _ h => h) (by rfl) (by (intro _w hSw; (have q0 := hSw.2.2.1); clear hSw; go_simp)) (by assumption) ?_
          simp only [Act.put, List.setIfInBounds_toArray, List.set_cons_zero, List.set_cons_succ]
          refine takeV 28 (some 65) ((.agg #[.int .i64 f.e, .int .i64 f.a, .int .i64 f.k, .int .i64 f.m, .string f.s, .int .i64 t, .bool add, .int .i64 x, .int .i64 y])) rfl rfl (by kernel_rfl) (by kernel_rfl) (by kernel_rfl) (fun _ _ _ h => h) (by rfl) (by (intro _w _hSw; (try dsimp only at _hSw); go_simp)) (by assumption) ?_
          simp only [Act.put, List.setIfInBounds_toArray, List.set_cons_zero, List.set_cons_succ]
          refine callV 29 rfl (by kernel_rfl) (by rfl) (fun K hK => ?_)
          go_simp
          refine hK.out _ _ (hHeld.next ((Below.refl we.heap.size we).alloc (Nat.le_refl _) (.cells #[.int .i64 f.e, .int .i64 f.a, .int .i64 f.k, .int .i64 f.m, .string f.s, .int .i64 t, .bool add, .int .i64 x, .int .i64 y] 76))) (fun hHeld2 => ?_)
          clear hK K
          try simp only [Act.put, List.setIfInBounds_toArray, List.set_cons_zero, List.set_cons_succ]
          refine callV 30 rfl (by kernel_rfl) (by rfl) (fun K hK => ?_)
          refine wp_append_own _ _ _ 31 rfl w.heap.size 76 i0 (.agg #[.int .i64 0, .int .i64 0, .int .i64 0, .int .i64 0, .string ⟨#[]⟩, .int .i64 0, .bool false, .int .i64 0, .int .i64 0]) 9 80 Try.underlying31 hi hz0 hz1 hz2 rfl (by decide) u9 R.length _ rfl (World.ownsRow.alloc HO9.out (.cells #[.int .i64 f.e, .int .i64 f.a, .int .i64 f.k, .int .i64 f.m, .string f.s, .int .i64 t, .bool add, .int .i64 x, .int .i64 y] 76)) ⟨we.heap.size, 0, none⟩ 1 1 (cellsD (mkD (triF f) t add (x, y))) rfl rfl (fun j u h => cell_lit we #[.int .i64 f.e, .int .i64 f.a, .int .i64 f.k, .int .i64 f.m, .string f.s, .int .i64 t, .bool add, .int .i64 x, .int .i64 y] 76 j u h) (cellsD_one (mkD (triF f) t add (x, y))) (by have := HRL.out; omega) (by have := HRL.out; omega) (by have := HB9.out.size; simp; omega) ?_
          intro v1 w8 hown hgrow _
          have hra := World.ownsRow.alloc HO9.out (.cells #[.int .i64 f.e, .int .i64 f.a, .int .i64 f.k, .int .i64 f.m, .string f.s, .int .i64 t, .bool add, .int .i64 x, .int .i64 y] 76)
          have HV8 : Hid (OwnD w8 w.heap.size v1 (R ++ [mkD (triF f) t add (x, y)])) := ownD_of (b := [mkD (triF f) t add (x, y)]) (by rw [List.flatMap_singleton]; exact hown)
          have hbe := (Below.refl we.heap.size we).alloc (Nat.le_refl _) (.cells #[.int .i64 f.e, .int .i64 f.a, .int .i64 f.k, .int .i64 f.m, .string f.s, .int .i64 t, .bool add, .int .i64 x, .int .i64 y] 76)
          have HB8 : Hid (Below w.heap.size w w8) := HB9.out.trans ((hbe.mono HB9.out.size).trans (below_ownD (W := we.alloc (.cells #[.int .i64 f.e, .int .i64 f.a, .int .i64 f.k, .int .i64 f.m, .string f.s, .int .i64 t, .bool add, .int .i64 x, .int .i64 y] 76)) hra hgrow (by have := HB9.out.size; simp; omega)))
          have HS8 : Hid (OwnS w8 B4 (.slice (some ⟨b2, o2, none⟩) M.length cl) M) := row_other (OwnS.next HS9.out hbe) hra (by decide) hgrow
          have hl8 : LSS b1 (o1 + j * 6) f (.slice As f.l.length cs) b2 (o2 + k * 2) x y w8 := by
            obtain ⟨b2', o2', e, hl, h1, h2⟩ := ownS_cells HS8.out hkn
            cases e
            have hm : M[k] = (x, y) := by
              have h := HXY.out
              rw [List.take_succ_eq_append_getElem hkn] at h
              have h9 := List.append_cancel_left h
              simpa using h9
            rw [hm] at h1 h2
            exact ⟨HC0.out.next HB8.out HLT.out, h1, h2, Nat.lt_of_lt_of_le HLT.out HB8.out.size, hl⟩
          clear hown hgrow hra hbe
          refine hK.out _ _ hl8 (fun hHeld3 => ?_)
          clear hK K hHeld hHeld2 hl8
          simp only [Act.put, List.setIfInBounds_toArray]
          refine takeV 31 (some 9) (v1) rfl rfl (by kernel_rfl) (by kernel_rfl) (by kernel_rfl) (fun _ _ _ h => h) (by rfl) (by (intro _w _hSw; (try dsimp only at _hSw); go_simp)) (by assumption) ?_
          simp only [Act.put]
          refine wpAnyH_done (by kernel_rfl) ?_ _
          clear hHeld3
          go_wp2
          go_roundg g2
          case measure => omega
          case rel => exact ⟨k + 1, R ++ [mkD (triF f) t add (x, y)], by go_num, by omega, HV8.out, by show _ = _; rw [HR.out, HXY.out, List.map_append, List.append_assoc]; rfl, HS8.out, HB8.out⟩

end Go.Proofs.Ytdhnajhfkmmjnaa
