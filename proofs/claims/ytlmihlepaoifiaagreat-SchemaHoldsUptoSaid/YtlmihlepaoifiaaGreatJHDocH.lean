/-
  CONTRACT: the document's Holds (layer 7).
-/
import Derived.BigQuiet
import Derived.Test.YtlmihlepaoifiaaGreatJHDocV
namespace Go.Proofs.YtlmihlepaoifiaaGreat
open Go.RowKit

theorem rowsE_none {fs : List FactP} {T : List Att} (h : ∀ q, q < 6 → rowB fs T q = false) : rowsE fs T = 0 := by
  have h0 : fs.any (a1B T) = false := h 0 (by decide)
  have h1 : fs.any (a2B T) = false := h 1 (by decide)
  have h2 : metB kE kA (strF (a3B T) 0 fs) = false := h 2 (by decide)
  have h3 : metB kA kV (strF (a4B T) 0 fs) = false := h 3 (by decide)
  have h4 : fs.any a5B = false := h 4 (by decide)
  have h5 : T.any a6B = false := h 5 (by decide)
  unfold rowsE
  rw [h0, h1, h2, h3, h4, h5]
  rfl
theorem row_no {T : List Att} {fs : List FactP} (hm : mayFs fs = true) {k : Nat} (hk : k < 6) (h : ∀ i x, fs[i]? = some x → ¬ vioB T fs k i x) (h5 : k = 5 → T.any a6B = false) : rowB fs T k = false := by
  cases hb : rowB fs T k with
  | false => rfl
  | true =>
    rcases (rowB_iff hm hk).1 hb with ⟨i, x, hx, hv⟩ | ⟨rfl, ha⟩
    · exact absurd hv (h i x hx)
    · rw [h5 rfl] at ha; cases ha
/-- what Holds answers at a row that is broken -/
theorem row_yes {T : List Att} {fs : List FactP} (hm : mayFs fs = true) {k : Nat} (hk : k < 6) (hq : ∀ q, q < k → rowB fs T q = false) (h : (∃ i x, fs[i]? = some x ∧ vioB T fs k i x) ∨ (k = 5 ∧ T.any a6B = true)) : rowsE fs T = 71 + (k : Int) := rowsE_at hk hq ((rowB_iff hm hk).2 h)
/-- what holds while Holds goes on -/
structure HoR (w W : World) (A At : Option Addr) (c ct : Nat) (fs : List FactP) (T : List Att) : Prop where
  fv : FVa w (.slice A fs.length c) fs
  fl : fs.length ≤ 1000
  sz : ∀ f ∈ fs, f.s.size ≤ maxLen ∧ f.l.length ≤ 1000
  ne : ∀ f ∈ fs, f.l ≠ []
  sa : SlA W W.heap.size At T
  tl : T.length ≤ 2000000000000
  t0 : 0 < T.length
  lk : ∀ x, T.find? (idP x) = lookO T x
  may : mayFs fs = true
  bl : Below w.heap.size w W
  a2 : ∀ f ∈ fs, a1B T f = false → a2B T f = (w72 T f || (decide (f.a ≤ 2) && decide (10 ≤ f.e) && !(docL f.e fs).isSome))
  a5 : ∀ f ∈ fs, a5B f = (decide (f.a < 10) && !whD f.l)
theorem HoR.wr {w W X : World} {A At As : Option Addr} {c ct cs : Nat} {fs : List FactP} {T : List Att} (h : HoR w W A At c ct fs T) (hX : Below W.heap.size W X) {f : FactP} (hs : SlS X X.heap.size As f.l) : WrA X A At As c ct cs fs T f :=
  ⟨h.fv.next (h.bl.trans (hX.mono h.bl.size)), by have := h.fl; omega, (h.sa.next hX (Nat.le_refl _)).more hX.size, h.tl, h.lk, hs⟩
theorem sva_none {W : World} {A : Option Addr} {n c : Nat} {l : List Sp} (h : SVa W (.slice A n c) l) (hl : l ≠ []) : A ≠ none := by
  obtain ⟨A', c', e, hs, _⟩ := h
  injection e with e1 e2 e3
  subst e1
  intro e
  obtain ⟨_, _, e', _⟩ := hs hl
  rw [e] at e'
  cases e'
theorem sva_sl {W : World} {A : Option Addr} {n c : Nat} {l : List Sp} (h : SVa W (.slice A n c) l) : SlS W W.heap.size A l := by
  obtain ⟨A', c', e, hs, _⟩ := h
  injection e with e1 e2 e3
  subst e1
  exact hs
set_option maxRecDepth 100000 in
set_option maxHeartbeats 16000000 in
theorem refHolds_any (A : Option Addr) (c : Nat) (fs : List FactP) (w : World) (hs : FVa w (.slice A fs.length c) fs) (hl : fs.length ≤ 1000) (hz : ∀ f ∈ fs, f.s.size ≤ maxLen ∧ f.l.length ≤ 1000) (hk : ∀ f ∈ fs, ∀ s ∈ f.l, SpOk s) :
    Calls Tryz.prog 6 #[.slice A fs.length c] w fun e w' => e = .returned (.int .i64 (holdsE fs)) ∧ Below w.heap.size w w' := by
  have HOF := Lib.hid (refOf_if refMade_any A c fs w hs (by omega) (fun f hf => ⟨(hz f hf).1, by have := (hz f hf).2; omega⟩))
  have HS := Lib.hid hs
  have HZ := Lib.hid hz
  have HK := Lib.hid hk
  clear hs hz hk
  obtain ⟨R, hRN⟩ : ∃ R, holdsE fs = R := ⟨_, rfl⟩
  have HRN := Lib.hid hRN
  rw [hRN]
  clear hRN
  go_enter Tryz.func6, Tryz.ntmps6
  go_wp2_with fail
  refine HOF.out.mono ?_
  rintro e w2 ⟨⟨v2, ec, rfl, hec, hof⟩, hb2⟩
  have HB2 := Lib.hid hb2
  by_cases h0 : attsE fs = 0
  rotate_left
  · have HE : Hid (R = ec) := by show _ = _; rw [← HRN.out]; unfold holdsE; rw [if_neg h0, hec]
    have h0' : (ec != 0) = true := bne_iff_ne.2 (by rw [hec]; exact h0)
    clear h0 hec hof hb2 HOF
    go_wp2
    go_ret
    exact ⟨by rw [HE.out]; rfl, HB2.out⟩
  rw [if_pos h0] at hof
  obtain rfl : ec = 0 := by rw [hec, h0]
  have HE0 : Hid (R = rowsE fs (attsL fs)) := by show _ = _; rw [← HRN.out]; unfold holdsE; rw [if_pos h0]
  have hmay : mayFs fs = true := by
    unfold attsE at h0
    cases hm : mayFs fs with
    | true => rfl
    | false => rw [hm] at h0; simp at h0
  have hap := atts_apart hmay
  have ha2 : ∀ f ∈ fs, a1B (attsL fs) f = false → a2B (attsL fs) f = (w72 (attsL fs) f || (decide (f.a ≤ 2) && decide (10 ≤ f.e) && !(docL f.e fs).isSome)) := fun f hf ha => a2B_is hf (isB_pos (by unfold a1B at ha; simpa using ha))
  have ht0 : 0 < (attsL fs).length := by unfold attsL; rw [List.length_append]; have : builtL.length = 7 := rfl; omega
  have htl : (attsL fs).length ≤ 2000000000000 := by unfold attsL; rw [List.length_append]; have : builtL.length = 7 := rfl; have := docFrom_len fs fs none; omega
  have hlk : ∀ x, (attsL fs).find? (idP x) = lookO (attsL fs) x := fun x => look_find hap x
  obtain ⟨T, hT⟩ : ∃ T, attsL fs = T := ⟨_, rfl⟩
  rw [hT] at hof ha2 ht0 htl hlk HE0
  obtain ⟨At, ct, rfl, hsa, _⟩ := OwnA.form hof
  have HR : Hid (HoR w w2 A At c ct fs T) := ⟨HS.out, hl, HZ.out, fun f hf e => by
    have := (of_decide_eq_true hmay).1 f hf
    unfold mayF at this
    simp only [Bool.and_eq_true, decide_eq_true_eq] at this
    rw [e] at this
    simp at this, hsa, htl, ht0, hlk, hmay, hb2, ha2, fun f hf => by
    unfold a5B
    rw [covB_all (may_pos hmay hf) (HK.out f hf)]⟩
  have HTL : Hid (0 < T.length) := ht0
  have hT0 : (0 : Int) < (T.length : Int) := by omega
  have hT0' : decide ((0 : Int) < (T.length : Int)) = true := decide_eq_true hT0
  clear h0 hec hof hb2 HOF hmay hap ha2 ht0 htl hlk hT hsa HS HZ HK
  go_wp2_with fail
  go_loopg [5] 6 (fun g x wx => ∃ (k : Nat) (row : Int), x = .int .i64 row ∧ row = 71 + (k : Int) ∧ k + g = 6 ∧ Hid (∀ q, q < k → rowB fs T q = false) ∧ Hid (Below w2.heap.size w2 wx))
  case atStart => exact ⟨0, 71, rfl, rfl, rfl, (fun q hq => absurd hq (Nat.not_lt_zero q)), Below.refl _ _⟩
  case round =>
    obtain ⟨k, row, rfl, hrow, hk6, HQ, HB⟩ := hrel
    obtain ⟨go, hgo⟩ : ∃ X, X = gk := ⟨_, rfl⟩
    subst hgo
    obtain ⟨wo, hwo⟩ : ∃ X, X = wr := ⟨_, rfl⟩
    subst hwo
    cases go with
    | zero =>
      obtain rfl : k = 6 := by omega
      obtain rfl : row = 77 := by rw [hrow]; rfl
      have HN : Hid (R = 0) := HE0.out.trans (rowsE_none HQ.out)
      have HBF := Lib.hid (HR.out.bl.trans (HB.out.mono HR.out.bl.size))
      go_wp2
      go_ret
      exact ⟨by rw [HN.out]; rfl, HBF.out⟩
    | succ go =>
      have hk5 : k < 6 := by omega
      rcases (by omega : k = 0 ∨ k = 1 ∨ k = 2 ∨ k = 3 ∨ k = 4 ∨ k = 5) with rfl | rfl | rfl | rfl | rfl | rfl
      · as_aux_lemma =>
          obtain rfl : row = 71 := by rw [hrow]; rfl
          clear hrow
          go_wp2_with fail
          go_loopg [6] fs.length (fun g y wx => ∃ i : Nat, y = .int .i64 i ∧ i + g = fs.length ∧ Hid (∀ i' x, i' < i → fs[i']? = some x → ¬ vioB T fs 0 i' x) ∧ Hid (Below w2.heap.size w2 wx))
          case atStart => exact ⟨0, rfl, by omega, (fun i' _ hi => absurd hi (Nat.not_lt_zero i')), HB.out⟩
          case round =>
            obtain ⟨i, rfl, hi, HV, HBi⟩ := hrel
            obtain ⟨gi, hgi⟩ : ∃ X, X = gk := ⟨_, rfl⟩
            subst hgi
            obtain ⟨wi, hwi⟩ : ∃ X, X = wr := ⟨_, rfl⟩
            subst hwi
            cases gi with
            | zero =>
              have hiz : ¬ ((i : Int) < (fs.length : Int)) := by omega
              have hiz' : decide ((i : Int) < (fs.length : Int)) = false := decide_eq_false hiz
              have HNV : Hid (∀ i' x, fs[i']? = some x → ¬ vioB T fs 0 i' x) := fun i' x hx => HV.out i' x (by have := (List.getElem?_eq_some_iff.1 hx).1; omega) hx
              have HN : Hid (∀ q, q < 1 → rowB fs T q = false) := fun q hq => by
                rcases Nat.lt_or_ge q 0 with h | h
                · exact HQ.out q h
                · obtain rfl : q = 0 := by omega
                  exact row_no HR.out.may (by decide) HNV.out (fun e => by cases e)
              go_wp2_with fail
              go_loopg [13] 1 (fun g z wx => z = .int .i64 0 ∧ Hid (Below w2.heap.size w2 wx))
              case atStart => exact ⟨rfl, HBi.out⟩
              case round =>
                obtain ⟨rfl, HBz⟩ := hrel
                go_wp2
                go_roundg go
                case measure => omega
                case rel => exact ⟨1, 72, rfl, rfl, by omega, HN.out, HBz.out⟩
            | succ gi =>
              have hiz : ((i : Int) < (fs.length : Int)) := by omega
              have hiz' : decide ((i : Int) < (fs.length : Int)) = true := decide_eq_true hiz
              have hi0 : (0 : Int) ≤ (i : Int) := by omega
              have hin : i < fs.length := by omega
              have HBW := Lib.hid (HR.out.bl.trans (HBi.out.mono HR.out.bl.size))
              obtain ⟨b, o, sv, rfl, hlt, hcv, hsv⟩ := fva_at (HR.out.fv.next HBW.out) hin
              obtain ⟨f, hf⟩ : ∃ f, fs[i] = f := ⟨_, rfl⟩
              rw [hf] at hcv hsv
              have HPF : Hid (fs[i]? = some f) := by show _ = _; rw [List.getElem?_eq_getElem hin, hf]
              obtain ⟨As, cs, rfl, _⟩ := id hsv
              have HNN : Hid (As ≠ none) := sva_none hsv (HR.out.ne f (List.mem_of_getElem? HPF.out))
              have HCV : Hid (∀ X, Below wi.heap.size wi X → FcV X b (o + i * 6) f (.slice As f.l.length cs)) := fun X hX => hcv.next hX hlt
              have HSV : Hid (∀ X, Below wi.heap.size wi X → SVa X (.slice As f.l.length cs) f.l) := fun X hX => hsv.next hX
              have q1 := hcv.2.1
              have HNX : Hid (¬ vioB T fs 0 i f → ∀ i' x, i' < i + 1 → fs[i']? = some x → ¬ vioB T fs 0 i' x) := fun hn i' x hi' hx => by
                rcases Nat.lt_or_ge i' i with h | h
                · exact HV.out i' x h hx
                · obtain rfl : i' = i := by omega
                  rw [HPF.out] at hx
                  cases hx
                  exact hn
              have HBY := Lib.hid (refByID_any At ct T f.a wi ((HR.out.sa.next HBi.out (Nat.le_refl _)).more HBi.out.size) HR.out.tl)
              rw [HR.out.lk f.a] at HBY
              obtain ⟨a, ha⟩ : ∃ a, (lookO T f.a).getD zA = a := ⟨_, rfl⟩
              obtain ⟨is, his⟩ : ∃ q, (lookO T f.a).isSome = q := ⟨_, rfl⟩
              have HFN : Hid (fndV (lookO T f.a) = .tuple #[.agg #[.int .i64 a.id, .string a.nm, .int .i64 a.ty, .bool a.many, .int .i64 a.un, .bool a.part, .bool a.ix], .bool is]) := by show _ = _; unfold fndV attV; rw [ha, his]
              rw [HFN.out] at HBY
              have HLA : Hid (lookT T f.a = a) := ha
              clear hf hcv hsv hlt ha his
              go_wp2_with fail
              refine HBY.out.mono ?_
              rintro e w3 ⟨rfl, hb3⟩
              obtain ⟨w4, hw4⟩ : ∃ X, w3.alloc (.cells #[.int .i64 a.id, .string a.nm, .int .i64 a.ty, .bool a.many, .int .i64 a.un, .bool a.part, .bool a.ix] 43) = X := ⟨_, rfl⟩
              have hal : Below w3.heap.size w3 w4 := by rw [← hw4]; exact (Below.refl _ _).alloc (Nat.le_refl _) _
              have HY4 : Hid (AtBx w4 w3.heap.size a) := by rw [← hw4]; exact attBx_new w3 a
              have HBI4 := Lib.hid (hb3.trans (hal.mono hb3.size))
              have HB4 := Lib.hid (HBi.out.trans (HBI4.out.mono HBi.out.size))
              clear hb3 hal HBY q1
              have hcv4 := HCV.out w4 HBI4.out
              have q0 := hcv4.1
              have q1 := hcv4.2.1
              have q2 := hcv4.2.2.1
              have q3 := hcv4.2.2.2.1
              have q4 := hcv4.2.2.2.2.1
              have q5 := hcv4.2.2.2.2.2
              have HWR := Lib.hid (wrong0_any (some ⟨b, o, none⟩) At As c ct cs fs T f w4 (HR.out.wr HB4.out (sva_sl (HSV.out w4 HBI4.out))))
              obtain ⟨wb, hwb⟩ : ∃ q, (a1B T f) = q := ⟨_, rfl⟩
              have HBB : Hid (a1B T f = wb) := Eq.trans (rfl) hwb
              rw [hwb] at HWR
              clear hcv4 hwb
              go_wp2_with fail
              try rw [hw4]
              clear hw4
              try go_wp2_with fail
              refine HWR.out.mono ?_
              rintro e w5 ⟨rfl, hb5⟩
              have HB5 := Lib.hid (HB4.out.trans (hb5.mono HB4.out.size))
              clear hb5 HWR q0 q1 q2 q3 q4 q5
              cases wb with
              | true =>
                have HYES : Hid (R = 71) := HE0.out.trans <| row_yes HR.out.may (k := 0) (by decide) HQ.out (.inl ⟨i, f, HPF.out, .inl ⟨rfl, HBB.out⟩⟩)
                have HBF := Lib.hid (HR.out.bl.trans (HB5.out.mono HR.out.bl.size))
                go_wp2
                go_ret
                exact ⟨by rw [HYES.out]; rfl, HBF.out⟩
              | false =>
                have HNO := Lib.hid (HNX.out (fun h => by rcases h with ⟨_, h⟩ | ⟨h, _⟩ | ⟨h, _⟩ | ⟨h, _⟩ | ⟨h, _⟩ <;> first | (rw [HBB.out] at h; cases h) | cases h))
                go_wp2_with fail
                go_loopg [9] 1 (fun g z wx => z = .int .i64 0 ∧ Hid (Below w2.heap.size w2 wx))
                case atStart => exact ⟨rfl, HB5.out⟩
                case round =>
                  obtain ⟨rfl, HBz⟩ := hrel
                  by_cases hii : (0 : Int) < (i : Int)
                  · have hii' : decide ((0 : Int) < (i : Int)) = true := decide_eq_true hii
                    go_wp2
                    go_roundg gi
                    case measure => omega
                    case rel => exact ⟨i + 1, by go_num, by omega, HNO.out, HBz.out⟩
                  · have hii' : decide ((0 : Int) < (i : Int)) = false := decide_eq_false hii
                    go_wp2
                    go_roundg gi
                    case measure => omega
                    case rel => exact ⟨i + 1, by go_num, by omega, HNO.out, HBz.out⟩
      · as_aux_lemma =>
          obtain rfl : row = 72 := by rw [hrow]; rfl
          clear hrow
          go_wp2_with fail
          go_loopg [6] fs.length (fun g y wx => ∃ i : Nat, y = .int .i64 i ∧ i + g = fs.length ∧ Hid (∀ i' x, i' < i → fs[i']? = some x → ¬ vioB T fs 1 i' x) ∧ Hid (Below w2.heap.size w2 wx))
          case atStart => exact ⟨0, rfl, by omega, (fun i' _ hi => absurd hi (Nat.not_lt_zero i')), HB.out⟩
          case round =>
            obtain ⟨i, rfl, hi, HV, HBi⟩ := hrel
            obtain ⟨gi, hgi⟩ : ∃ X, X = gk := ⟨_, rfl⟩
            subst hgi
            obtain ⟨wi, hwi⟩ : ∃ X, X = wr := ⟨_, rfl⟩
            subst hwi
            cases gi with
            | zero =>
              have hiz : ¬ ((i : Int) < (fs.length : Int)) := by omega
              have hiz' : decide ((i : Int) < (fs.length : Int)) = false := decide_eq_false hiz
              have HNV : Hid (∀ i' x, fs[i']? = some x → ¬ vioB T fs 1 i' x) := fun i' x hx => HV.out i' x (by have := (List.getElem?_eq_some_iff.1 hx).1; omega) hx
              have HN : Hid (∀ q, q < 2 → rowB fs T q = false) := fun q hq => by
                rcases Nat.lt_or_ge q 1 with h | h
                · exact HQ.out q h
                · obtain rfl : q = 1 := by omega
                  exact row_no HR.out.may (by decide) HNV.out (fun e => by cases e)
              go_wp2_with fail
              go_loopg [13] 1 (fun g z wx => z = .int .i64 0 ∧ Hid (Below w2.heap.size w2 wx))
              case atStart => exact ⟨rfl, HBi.out⟩
              case round =>
                obtain ⟨rfl, HBz⟩ := hrel
                go_wp2
                go_roundg go
                case measure => omega
                case rel => exact ⟨2, 73, rfl, rfl, by omega, HN.out, HBz.out⟩
            | succ gi =>
              have hiz : ((i : Int) < (fs.length : Int)) := by omega
              have hiz' : decide ((i : Int) < (fs.length : Int)) = true := decide_eq_true hiz
              have hi0 : (0 : Int) ≤ (i : Int) := by omega
              have hin : i < fs.length := by omega
              have HBW := Lib.hid (HR.out.bl.trans (HBi.out.mono HR.out.bl.size))
              obtain ⟨b, o, sv, rfl, hlt, hcv, hsv⟩ := fva_at (HR.out.fv.next HBW.out) hin
              obtain ⟨f, hf⟩ : ∃ f, fs[i] = f := ⟨_, rfl⟩
              rw [hf] at hcv hsv
              have HPF : Hid (fs[i]? = some f) := by show _ = _; rw [List.getElem?_eq_getElem hin, hf]
              obtain ⟨As, cs, rfl, _⟩ := id hsv
              have HNN : Hid (As ≠ none) := sva_none hsv (HR.out.ne f (List.mem_of_getElem? HPF.out))
              have HCV : Hid (∀ X, Below wi.heap.size wi X → FcV X b (o + i * 6) f (.slice As f.l.length cs)) := fun X hX => hcv.next hX hlt
              have HSV : Hid (∀ X, Below wi.heap.size wi X → SVa X (.slice As f.l.length cs) f.l) := fun X hX => hsv.next hX
              have q1 := hcv.2.1
              have HNX : Hid (¬ vioB T fs 1 i f → ∀ i' x, i' < i + 1 → fs[i']? = some x → ¬ vioB T fs 1 i' x) := fun hn i' x hi' hx => by
                rcases Nat.lt_or_ge i' i with h | h
                · exact HV.out i' x h hx
                · obtain rfl : i' = i := by omega
                  rw [HPF.out] at hx
                  cases hx
                  exact hn
              have HBY := Lib.hid (refByID_any At ct T f.a wi ((HR.out.sa.next HBi.out (Nat.le_refl _)).more HBi.out.size) HR.out.tl)
              rw [HR.out.lk f.a] at HBY
              obtain ⟨a, ha⟩ : ∃ a, (lookO T f.a).getD zA = a := ⟨_, rfl⟩
              obtain ⟨is, his⟩ : ∃ q, (lookO T f.a).isSome = q := ⟨_, rfl⟩
              have HFN : Hid (fndV (lookO T f.a) = .tuple #[.agg #[.int .i64 a.id, .string a.nm, .int .i64 a.ty, .bool a.many, .int .i64 a.un, .bool a.part, .bool a.ix], .bool is]) := by show _ = _; unfold fndV attV; rw [ha, his]
              rw [HFN.out] at HBY
              have HLA : Hid (lookT T f.a = a) := ha
              clear hf hcv hsv hlt ha his
              go_wp2_with fail
              refine HBY.out.mono ?_
              rintro e w3 ⟨rfl, hb3⟩
              obtain ⟨w4, hw4⟩ : ∃ X, w3.alloc (.cells #[.int .i64 a.id, .string a.nm, .int .i64 a.ty, .bool a.many, .int .i64 a.un, .bool a.part, .bool a.ix] 43) = X := ⟨_, rfl⟩
              have hal : Below w3.heap.size w3 w4 := by rw [← hw4]; exact (Below.refl _ _).alloc (Nat.le_refl _) _
              have HY4 : Hid (AtBx w4 w3.heap.size a) := by rw [← hw4]; exact attBx_new w3 a
              have HBI4 := Lib.hid (hb3.trans (hal.mono hb3.size))
              have HB4 := Lib.hid (HBi.out.trans (HBI4.out.mono HBi.out.size))
              clear hb3 hal HBY q1
              have hcv4 := HCV.out w4 HBI4.out
              have q0 := hcv4.1
              have q1 := hcv4.2.1
              have q2 := hcv4.2.2.1
              have q3 := hcv4.2.2.2.1
              have q4 := hcv4.2.2.2.2.1
              have q5 := hcv4.2.2.2.2.2
              have HWR := Lib.hid (wrong1_any (some ⟨b, o, none⟩) At As c ct cs fs T f w4 (HR.out.wr HB4.out (sva_sl (HSV.out w4 HBI4.out))))
              obtain ⟨wb, hwb⟩ : ∃ q, (w72 T f || (decide (f.a ≤ 2) && decide (10 ≤ f.e) && !(docL f.e fs).isSome)) = q := ⟨_, rfl⟩
              have HBB : Hid (a2B T f = wb) := Eq.trans (HR.out.a2 f (List.mem_of_getElem? HPF.out) (by have h0 : fs.any (a1B T) = false := HQ.out 0 (by decide); rw [List.any_eq_false] at h0; simpa using h0 f (List.mem_of_getElem? HPF.out))) hwb
              rw [hwb] at HWR
              clear hcv4 hwb
              go_wp2_with fail
              try rw [hw4]
              clear hw4
              try go_wp2_with fail
              refine HWR.out.mono ?_
              rintro e w5 ⟨rfl, hb5⟩
              have HB5 := Lib.hid (HB4.out.trans (hb5.mono HB4.out.size))
              clear hb5 HWR q0 q1 q2 q3 q4 q5
              cases wb with
              | true =>
                have HYES : Hid (R = 72) := HE0.out.trans <| row_yes HR.out.may (k := 1) (by decide) HQ.out (.inl ⟨i, f, HPF.out, .inr (.inl ⟨rfl, HBB.out⟩)⟩)
                have HBF := Lib.hid (HR.out.bl.trans (HB5.out.mono HR.out.bl.size))
                go_wp2
                go_ret
                exact ⟨by rw [HYES.out]; rfl, HBF.out⟩
              | false =>
                have HNO := Lib.hid (HNX.out (fun h => by rcases h with ⟨h, _⟩ | ⟨_, h⟩ | ⟨h, _⟩ | ⟨h, _⟩ | ⟨h, _⟩ <;> first | (rw [HBB.out] at h; cases h) | cases h))
                go_wp2_with fail
                go_loopg [9] 1 (fun g z wx => z = .int .i64 0 ∧ Hid (Below w2.heap.size w2 wx))
                case atStart => exact ⟨rfl, HB5.out⟩
                case round =>
                  obtain ⟨rfl, HBz⟩ := hrel
                  by_cases hii : (0 : Int) < (i : Int)
                  · have hii' : decide ((0 : Int) < (i : Int)) = true := decide_eq_true hii
                    go_wp2
                    go_roundg gi
                    case measure => omega
                    case rel => exact ⟨i + 1, by go_num, by omega, HNO.out, HBz.out⟩
                  · have hii' : decide ((0 : Int) < (i : Int)) = false := decide_eq_false hii
                    go_wp2
                    go_roundg gi
                    case measure => omega
                    case rel => exact ⟨i + 1, by go_num, by omega, HNO.out, HBz.out⟩
      · as_aux_lemma =>
          obtain rfl : row = 73 := by rw [hrow]; rfl
          clear hrow
          go_wp2_with fail
          go_loopg [6] fs.length (fun g y wx => ∃ i : Nat, y = .int .i64 i ∧ i + g = fs.length ∧ Hid (∀ i' x, i' < i → fs[i']? = some x → ¬ vioB T fs 2 i' x) ∧ Hid (Below w2.heap.size w2 wx))
          case atStart => exact ⟨0, rfl, by omega, (fun i' _ hi => absurd hi (Nat.not_lt_zero i')), HB.out⟩
          case round =>
            obtain ⟨i, rfl, hi, HV, HBi⟩ := hrel
            obtain ⟨gi, hgi⟩ : ∃ X, X = gk := ⟨_, rfl⟩
            subst hgi
            obtain ⟨wi, hwi⟩ : ∃ X, X = wr := ⟨_, rfl⟩
            subst hwi
            cases gi with
            | zero =>
              have hiz : ¬ ((i : Int) < (fs.length : Int)) := by omega
              have hiz' : decide ((i : Int) < (fs.length : Int)) = false := decide_eq_false hiz
              have HNV : Hid (∀ i' x, fs[i']? = some x → ¬ vioB T fs 2 i' x) := fun i' x hx => HV.out i' x (by have := (List.getElem?_eq_some_iff.1 hx).1; omega) hx
              have HN : Hid (∀ q, q < 3 → rowB fs T q = false) := fun q hq => by
                rcases Nat.lt_or_ge q 2 with h | h
                · exact HQ.out q h
                · obtain rfl : q = 2 := by omega
                  exact row_no HR.out.may (by decide) HNV.out (fun e => by cases e)
              go_wp2_with fail
              go_loopg [13] 1 (fun g z wx => z = .int .i64 0 ∧ Hid (Below w2.heap.size w2 wx))
              case atStart => exact ⟨rfl, HBi.out⟩
              case round =>
                obtain ⟨rfl, HBz⟩ := hrel
                go_wp2
                go_roundg go
                case measure => omega
                case rel => exact ⟨3, 74, rfl, rfl, by omega, HN.out, HBz.out⟩
            | succ gi =>
              have hiz : ((i : Int) < (fs.length : Int)) := by omega
              have hiz' : decide ((i : Int) < (fs.length : Int)) = true := decide_eq_true hiz
              have hi0 : (0 : Int) ≤ (i : Int) := by omega
              have hin : i < fs.length := by omega
              have HBW := Lib.hid (HR.out.bl.trans (HBi.out.mono HR.out.bl.size))
              obtain ⟨b, o, sv, rfl, hlt, hcv, hsv⟩ := fva_at (HR.out.fv.next HBW.out) hin
              obtain ⟨f, hf⟩ : ∃ f, fs[i] = f := ⟨_, rfl⟩
              rw [hf] at hcv hsv
              have HPF : Hid (fs[i]? = some f) := by show _ = _; rw [List.getElem?_eq_getElem hin, hf]
              obtain ⟨As, cs, rfl, _⟩ := id hsv
              have HNN : Hid (As ≠ none) := sva_none hsv (HR.out.ne f (List.mem_of_getElem? HPF.out))
              have HCV : Hid (∀ X, Below wi.heap.size wi X → FcV X b (o + i * 6) f (.slice As f.l.length cs)) := fun X hX => hcv.next hX hlt
              have HSV : Hid (∀ X, Below wi.heap.size wi X → SVa X (.slice As f.l.length cs) f.l) := fun X hX => hsv.next hX
              have q1 := hcv.2.1
              have HNX : Hid (¬ vioB T fs 2 i f → ∀ i' x, i' < i + 1 → fs[i']? = some x → ¬ vioB T fs 2 i' x) := fun hn i' x hi' hx => by
                rcases Nat.lt_or_ge i' i with h | h
                · exact HV.out i' x h hx
                · obtain rfl : i' = i := by omega
                  rw [HPF.out] at hx
                  cases hx
                  exact hn
              have HBY := Lib.hid (refByID_any At ct T f.a wi ((HR.out.sa.next HBi.out (Nat.le_refl _)).more HBi.out.size) HR.out.tl)
              rw [HR.out.lk f.a] at HBY
              obtain ⟨a, ha⟩ : ∃ a, (lookO T f.a).getD zA = a := ⟨_, rfl⟩
              obtain ⟨is, his⟩ : ∃ q, (lookO T f.a).isSome = q := ⟨_, rfl⟩
              have HFN : Hid (fndV (lookO T f.a) = .tuple #[.agg #[.int .i64 a.id, .string a.nm, .int .i64 a.ty, .bool a.many, .int .i64 a.un, .bool a.part, .bool a.ix], .bool is]) := by show _ = _; unfold fndV attV; rw [ha, his]
              rw [HFN.out] at HBY
              have HLA : Hid (lookT T f.a = a) := ha
              clear hf hcv hsv hlt ha his
              go_wp2_with fail
              refine HBY.out.mono ?_
              rintro e w3 ⟨rfl, hb3⟩
              obtain ⟨w4, hw4⟩ : ∃ X, w3.alloc (.cells #[.int .i64 a.id, .string a.nm, .int .i64 a.ty, .bool a.many, .int .i64 a.un, .bool a.part, .bool a.ix] 43) = X := ⟨_, rfl⟩
              have hal : Below w3.heap.size w3 w4 := by rw [← hw4]; exact (Below.refl _ _).alloc (Nat.le_refl _) _
              have HY4 : Hid (AtBx w4 w3.heap.size a) := by rw [← hw4]; exact attBx_new w3 a
              have HBI4 := Lib.hid (hb3.trans (hal.mono hb3.size))
              have HB4 := Lib.hid (HBi.out.trans (HBI4.out.mono HBi.out.size))
              clear hb3 hal HBY q1
              obtain ⟨b7, hb7⟩ : ∃ b7, w3.heap.size = b7 := ⟨_, rfl⟩
              rw [hb7] at HY4
              go_wp2_with fail
              try rw [hw4]
              clear hw4
              try go_wp2_with fail
              try rw [hb7]
              clear hb7
              go_loopg [9] i (fun g z wx => ∃ j : Nat, z = .int .i64 j ∧ j + g = i ∧ Hid (∀ j' y, j' < j → fs[j']? = some y → two3 T y f = false) ∧ Hid (Below w4.heap.size w4 wx))
              case atStart => exact ⟨0, rfl, by omega, (fun j' _ hj => absurd hj (Nat.not_lt_zero j')), Below.refl _ _⟩
              case round =>
                obtain ⟨j, rfl, hj, HTW, HBj⟩ := hrel
                have HB5 := Lib.hid (HB4.out.trans (HBj.out.mono HB4.out.size))
                cases gk with
                | zero =>
                  have hjz : ¬ ((j : Int) < (i : Int)) := by omega
                  have hjz' : decide ((j : Int) < (i : Int)) = false := decide_eq_false hjz
                  have HNO := Lib.hid (HNX.out (fun h => by rcases h with ⟨h, _⟩ | ⟨h, _⟩ | ⟨_, j2, y2, h1, h2, h3⟩ | ⟨h, _⟩ | ⟨h, _⟩ <;> first | (have := HTW.out j2 y2 (by omega) h2; rw [h3] at this; cases this) | cases h))
                  go_wp2
                  go_roundg gi
                  case measure => omega
                  case rel => exact ⟨i + 1, by go_num, by omega, HNO.out, HB5.out⟩
                | succ gj =>
                  have hjz : ((j : Int) < (i : Int)) := by omega
                  have hjz' : decide ((j : Int) < (i : Int)) = true := decide_eq_true hjz
                  have hji : j < i := by omega
                  have hj0 : (0 : Int) ≤ (j : Int) := by omega
                  have hjn : j < fs.length := by omega
                  have hjl : (j : Int) < (fs.length : Int) := by omega
                  have HIR := Lib.hid (HBI4.out.trans (HBj.out.mono HBI4.out.size))
                  obtain ⟨b', o', sv', eb, hlt', hcy, hsy⟩ := fva_at (HR.out.fv.next (HR.out.bl.trans (HB5.out.mono HR.out.bl.size))) hjn
                  injection eb with eb
                  injection eb with eb1 eb2
                  subst eb1 eb2
                  obtain ⟨y, hy⟩ : ∃ y, fs[j] = y := ⟨_, rfl⟩
                  rw [hy] at hcy hsy
                  have HPY : Hid (fs[j]? = some y) := by show _ = _; rw [List.getElem?_eq_getElem hjn, hy]
                  obtain ⟨Ay, cy, rfl, _⟩ := id hsy
                  have HNY : Hid (Ay ≠ none) := sva_none hsy (HR.out.ne y (List.mem_of_getElem? HPY.out))
                  have HSY : Hid (∀ X, Below wr.heap.size wr X → SVa X (.slice Ay y.l.length cy) y.l) := fun X hX => hsy.next hX
                  have y0 := hcy.1
                  have y1 := hcy.2.1
                  have y2 := hcy.2.2.1
                  have y3 := hcy.2.2.2.1
                  have y4 := hcy.2.2.2.2.1
                  have y5 := hcy.2.2.2.2.2
                  have HNJ : Hid (two3 T y f = false → ∀ j' x, j' < j + 1 → fs[j']? = some x → two3 T x f = false) := fun hn j' x hj' hx => by
                    rcases Nat.lt_or_ge j' j with h | h
                    · exact HTW.out j' x h hx
                    · obtain rfl : j' = j := by omega
                      rw [HPY.out] at hx
                      cases hx
                      exact hn
                  obtain ⟨w6, hw6⟩ : ∃ X, wr.alloc (.cells #[.int .i64 y.e, .int .i64 y.a, .int .i64 y.k, .int .i64 y.m, .string y.s, .slice Ay y.l.length cy] 31) = X := ⟨_, rfl⟩
                  have hal : Below wr.heap.size wr w6 := by rw [← hw6]; exact (Below.refl _ _).alloc (Nat.le_refl _) _
                  have HX6 : Hid (FcBx w6 wr.heap.size y (.slice Ay y.l.length cy)) := by rw [← hw6]; exact fcBx_new wr y _
                  have HB6 := Lib.hid (HB5.out.trans (hal.mono HB5.out.size))
                  have HBR6 := Lib.hid hal
                  have HBI6 := Lib.hid (HIR.out.trans (hal.mono HIR.out.size))
                  have HY6 : Hid (AtBx w6 b7 a) := HY4.out.next (HBj.out.trans (hal.mono HBj.out.size))
                  go_wp2_with fail
                  try rw [hw6]
                  clear hw6 hal y0 y1 y2 y3 y4 y5 hcy hsy hlt' hy
                  obtain ⟨by_, hby⟩ : ∃ q, wr.heap.size = q := ⟨_, rfl⟩
                  rw [hby] at HX6
                  try rw [hby]
                  clear hby
                  have hcv6 := HCV.out w6 HBI6.out
                  have f0 := hcv6.1
                  have f1 := hcv6.2.1
                  have f2 := hcv6.2.2.1
                  have f3 := hcv6.2.2.2.1
                  have f4 := hcv6.2.2.2.2.1
                  have x0 := HX6.out.k0
                  have x1 := HX6.out.k1
                  have x2 := HX6.out.k2
                  have x3 := HX6.out.k3
                  have x4 := HX6.out.k4
                  have t3 : w6.cell? ⟨b7, 3, none⟩ = some (.bool a.many) := HY6.out.cell 3
                  have t4 : w6.cell? ⟨b7, 4, none⟩ = some (.int .i64 a.un) := HY6.out.cell 4
                  clear hcv6
                  by_cases c1 : y.e = f.e
                  rotate_left
                  · have c1' : (y.e == f.e) = false := beq_eq_false_iff_ne.2 c1
                    clear c1
                    have HNO : Hid (two3 T y f = false) := by show _ = _; unfold two3; rw [c1']; simp
                    go_wp2_with fail
                    go_quiet (fail)
                    have HQ1 := Lib.hid (below_ind (Below.refl w6.heap.size w6) nq)
                    have hcq := HCV.out (w6.drewN nq) (HBI6.out.trans (HQ1.out.mono HBI6.out.size))
                    have hxq := HX6.out.next HQ1.out
                    have hyq := HY6.out.next HQ1.out
                    have hsq := HSY.out (w6.drewN nq) (HBR6.out.trans (HQ1.out.mono HBR6.out.size))
                    obtain ⟨wq, hwq⟩ : ∃ X, w6.drewN nq = X := ⟨_, rfl⟩
                    rw [hwq] at HQ1 hcq hxq hyq hsq ⊢
                    clear hwq f0 f1 f2 f3 f4 x0 x1 x2 x3 x4 t3 t4
                    have f0 := hcq.1
                    have f1 := hcq.2.1
                    have f2 := hcq.2.2.1
                    have f3 := hcq.2.2.2.1
                    have f4 := hcq.2.2.2.2.1
                    have x0 := hxq.k0
                    have x1 := hxq.k1
                    have x2 := hxq.k2
                    have x3 := hxq.k3
                    have x4 := hxq.k4
                    have t3 : wq.cell? ⟨b7, 3, none⟩ = some (.bool a.many) := hyq.cell 3
                    have t4 : wq.cell? ⟨b7, 4, none⟩ = some (.int .i64 a.un) := hyq.cell 4
                    go_wp2_with fail
                    go_quiet (fail)
                    have HQ2 := Lib.hid (HQ1.out.trans ((below_ind (Below.refl wq.heap.size wq) nq).mono HQ1.out.size))
                    obtain ⟨wp, hwp⟩ : ∃ X, wq.drewN nq = X := ⟨_, rfl⟩
                    rw [hwp] at HQ2 ⊢
                    clear hwp f0 f1 f2 f3 f4 x0 x1 x2 x3 x4 t3 t4 hcq hxq hyq hsq
                    go_wp2_with fail
                    go_quiet (fail)
                    have HQ3 := Lib.hid (HBR6.out.trans ((HQ2.out.trans ((below_ind (Below.refl wp.heap.size wp) nq).mono HQ2.out.size)).mono HBR6.out.size))
                    have HQ4 := Lib.hid (HBj.out.trans (HQ3.out.mono HBj.out.size))
                    have HNN2 := Lib.hid (HNJ.out HNO.out)
                    go_wp2
                    go_roundg gj
                    case measure => omega
                    case rel => exact ⟨j + 1, by go_num, by omega, HNN2.out, HQ4.out⟩
                  have c1' : (y.e == f.e) = true := beq_iff_eq.2 c1
                  clear c1
                  by_cases c2 : y.a = f.a
                  rotate_left
                  · have c2' : (y.a == f.a) = false := beq_eq_false_iff_ne.2 c2
                    clear c2
                    have HNO : Hid (two3 T y f = false) := by show _ = _; unfold two3; rw [c1', c2']; simp
                    go_wp2_with fail
                    go_quiet (fail)
                    have HQ1 := Lib.hid (below_ind (Below.refl w6.heap.size w6) nq)
                    have hcq := HCV.out (w6.drewN nq) (HBI6.out.trans (HQ1.out.mono HBI6.out.size))
                    have hxq := HX6.out.next HQ1.out
                    have hyq := HY6.out.next HQ1.out
                    have hsq := HSY.out (w6.drewN nq) (HBR6.out.trans (HQ1.out.mono HBR6.out.size))
                    obtain ⟨wq, hwq⟩ : ∃ X, w6.drewN nq = X := ⟨_, rfl⟩
                    rw [hwq] at HQ1 hcq hxq hyq hsq ⊢
                    clear hwq f0 f1 f2 f3 f4 x0 x1 x2 x3 x4 t3 t4
                    have f0 := hcq.1
                    have f1 := hcq.2.1
                    have f2 := hcq.2.2.1
                    have f3 := hcq.2.2.2.1
                    have f4 := hcq.2.2.2.2.1
                    have x0 := hxq.k0
                    have x1 := hxq.k1
                    have x2 := hxq.k2
                    have x3 := hxq.k3
                    have x4 := hxq.k4
                    have t3 : wq.cell? ⟨b7, 3, none⟩ = some (.bool a.many) := hyq.cell 3
                    have t4 : wq.cell? ⟨b7, 4, none⟩ = some (.int .i64 a.un) := hyq.cell 4
                    go_wp2_with fail
                    go_quiet (fail)
                    have HQ2 := Lib.hid (HQ1.out.trans ((below_ind (Below.refl wq.heap.size wq) nq).mono HQ1.out.size))
                    obtain ⟨wp, hwp⟩ : ∃ X, wq.drewN nq = X := ⟨_, rfl⟩
                    rw [hwp] at HQ2 ⊢
                    clear hwp f0 f1 f2 f3 f4 x0 x1 x2 x3 x4 t3 t4 hcq hxq hyq hsq
                    go_wp2_with fail
                    go_quiet (fail)
                    have HQ3 := Lib.hid (HBR6.out.trans ((HQ2.out.trans ((below_ind (Below.refl wp.heap.size wp) nq).mono HQ2.out.size)).mono HBR6.out.size))
                    have HQ4 := Lib.hid (HBj.out.trans (HQ3.out.mono HBj.out.size))
                    have HNN2 := Lib.hid (HNJ.out HNO.out)
                    go_wp2
                    go_roundg gj
                    case measure => omega
                    case rel => exact ⟨j + 1, by go_num, by omega, HNN2.out, HQ4.out⟩
                  have c2' : (y.a == f.a) = true := beq_iff_eq.2 c2
                  clear c2
                  obtain ⟨mn, hmn⟩ : ∃ q, a.many = q := ⟨_, rfl⟩
                  have HMN := Lib.hid hmn
                  rw [hmn] at t3
                  cases mn with
                  | true =>
                    clear hmn
                    have HNO : Hid (two3 T y f = false) := by show _ = _; unfold two3; rw [c1', c2', HLA.out, HMN.out]; simp
                    go_wp2_with fail
                    go_quiet (fail)
                    have HQ1 := Lib.hid (below_ind (Below.refl w6.heap.size w6) nq)
                    have hcq := HCV.out (w6.drewN nq) (HBI6.out.trans (HQ1.out.mono HBI6.out.size))
                    have hxq := HX6.out.next HQ1.out
                    have hyq := HY6.out.next HQ1.out
                    have hsq := HSY.out (w6.drewN nq) (HBR6.out.trans (HQ1.out.mono HBR6.out.size))
                    obtain ⟨wq, hwq⟩ : ∃ X, w6.drewN nq = X := ⟨_, rfl⟩
                    rw [hwq] at HQ1 hcq hxq hyq hsq ⊢
                    clear hwq f0 f1 f2 f3 f4 x0 x1 x2 x3 x4 t3 t4
                    have f0 := hcq.1
                    have f1 := hcq.2.1
                    have f2 := hcq.2.2.1
                    have f3 := hcq.2.2.2.1
                    have f4 := hcq.2.2.2.2.1
                    have x0 := hxq.k0
                    have x1 := hxq.k1
                    have x2 := hxq.k2
                    have x3 := hxq.k3
                    have x4 := hxq.k4
                    have t3 : wq.cell? ⟨b7, 3, none⟩ = some (.bool a.many) := hyq.cell 3
                    have t4 : wq.cell? ⟨b7, 4, none⟩ = some (.int .i64 a.un) := hyq.cell 4
                    rw [HMN.out] at t3
                    go_wp2_with fail
                    go_quiet (fail)
                    have HQ2 := Lib.hid (HQ1.out.trans ((below_ind (Below.refl wq.heap.size wq) nq).mono HQ1.out.size))
                    obtain ⟨wp, hwp⟩ : ∃ X, wq.drewN nq = X := ⟨_, rfl⟩
                    rw [hwp] at HQ2 ⊢
                    clear hwp f0 f1 f2 f3 f4 x0 x1 x2 x3 x4 t3 t4 hcq hxq hyq hsq
                    go_wp2_with fail
                    go_quiet (fail)
                    have HQ3 := Lib.hid (HBR6.out.trans ((HQ2.out.trans ((below_ind (Below.refl wp.heap.size wp) nq).mono HQ2.out.size)).mono HBR6.out.size))
                    have HQ4 := Lib.hid (HBj.out.trans (HQ3.out.mono HBj.out.size))
                    have HNN2 := Lib.hid (HNJ.out HNO.out)
                    go_wp2
                    go_roundg gj
                    case measure => omega
                    case rel => exact ⟨j + 1, by go_num, by omega, HNN2.out, HQ4.out⟩
                  | false =>
                    have HYS : Hid (two3 T y f = bothB y.l f.l) := by show _ = _; unfold two3; rw [c1', c2', HLA.out, HMN.out]; simp
                    clear hmn
                    go_wp2_with fail
                    go_quiet (fail)
                    have HQ1 := Lib.hid (below_ind (Below.refl w6.heap.size w6) nq)
                    have hcq := HCV.out (w6.drewN nq) (HBI6.out.trans (HQ1.out.mono HBI6.out.size))
                    have hxq := HX6.out.next HQ1.out
                    have hyq := HY6.out.next HQ1.out
                    have hsq := HSY.out (w6.drewN nq) (HBR6.out.trans (HQ1.out.mono HBR6.out.size))
                    obtain ⟨wq, hwq⟩ : ∃ X, w6.drewN nq = X := ⟨_, rfl⟩
                    rw [hwq] at HQ1 hcq hxq hyq hsq ⊢
                    clear hwq f0 f1 f2 f3 f4 x0 x1 x2 x3 x4 t3 t4
                    have f0 := hcq.1
                    have f1 := hcq.2.1
                    have f2 := hcq.2.2.1
                    have f3 := hcq.2.2.2.1
                    have f4 := hcq.2.2.2.2.1
                    have x0 := hxq.k0
                    have x1 := hxq.k1
                    have x2 := hxq.k2
                    have x3 := hxq.k3
                    have x4 := hxq.k4
                    have t3 : wq.cell? ⟨b7, 3, none⟩ = some (.bool a.many) := hyq.cell 3
                    have t4 : wq.cell? ⟨b7, 4, none⟩ = some (.int .i64 a.un) := hyq.cell 4
                    rw [HMN.out] at t3
                    go_wp2_with fail
                    go_quiet (fail)
                    have HQ2 := Lib.hid (HQ1.out.trans ((below_ind (Below.refl wq.heap.size wq) nq).mono HQ1.out.size))
                    obtain ⟨wp, hwp⟩ : ∃ X, wq.drewN nq = X := ⟨_, rfl⟩
                    rw [hwp] at HQ2 ⊢
                    clear hwp f0 f1 f2 f3 f4 x0 x1 x2 x3 x4 t3 t4 hcq hxq hyq hsq
                    have HBIp := Lib.hid (HBI6.out.trans (HQ2.out.mono HBI6.out.size))
                    have HBRp := Lib.hid (HBR6.out.trans (HQ2.out.mono HBR6.out.size))
                    have HFT := Lib.hid (fun X (hX : Below wp.heap.size wp X) => HCV.out X (HBIp.out.trans (hX.mono HBIp.out.size)))
                    have HXT := Lib.hid (fun X (hX : Below wp.heap.size wp X) => HX6.out.next (HQ2.out.trans (hX.mono HQ2.out.size)))
                    go_wp2_with fail
                    have HS0 := Lib.hid (below_ind (Below.refl wp.heap.size wp) 1)
                    obtain ⟨wz, hwz⟩ : ∃ X, wp.drew = X := ⟨_, rfl⟩
                    refine wp_region_held_drew (S := fun X => Below wp.heap.size wp X) (by kernel_rfl) HS0.out (fun hHeld => ?_)
                    rw [hwz] at hHeld ⊢
                    clear hwz HS0
                    refine takeV 0 (some 144) ((.bool true)) rfl rfl (by kernel_rfl) (by kernel_rfl) (by kernel_rfl) (fun _ _ _ h => h) (by rfl) (by (intro _w _hSw; (try dsimp only at _hSw); go_simp)) (by assumption) ?_
                    simp only [Act.put, List.setIfInBounds_toArray, List.set_cons_zero, List.set_cons_succ]
                    refine takeV 1 (some 145) ((.bool true)) rfl rfl (by kernel_rfl) (by kernel_rfl) (by kernel_rfl) (fun _ _ _ h => h) (by rfl) (by (intro _w _hSw; (try dsimp only at _hSw); go_simp)) (by assumption) ?_
                    simp only [Act.put, List.setIfInBounds_toArray, List.set_cons_zero, List.set_cons_succ]
                    refine skipV 2 (some 146) rfl rfl (by kernel_rfl) (by kernel_rfl) (by kernel_rfl) (fun _ _ _ h => h) (by rfl) (by assumption) ?_
                    simp only [Act.put, List.setIfInBounds_toArray, List.set_cons_zero, List.set_cons_succ]
                    refine takeV 3 (some 147) ((.bool true)) rfl rfl (by kernel_rfl) (by kernel_rfl) (by kernel_rfl) (fun _ _ _ h => h) (by rfl) (by (intro _w _hSw; (try dsimp only at _hSw); go_simp)) (by assumption) ?_
                    simp only [Act.put, List.setIfInBounds_toArray, List.set_cons_zero, List.set_cons_succ]
                    refine takeV 4 (some 148) ((.bool true)) rfl rfl (by kernel_rfl) (by kernel_rfl) (by kernel_rfl) (fun _ _ _ h => h) (by rfl) (by (intro _w _hSw; (try dsimp only at _hSw); go_simp)) (by assumption) ?_
                    simp only [Act.put, List.setIfInBounds_toArray, List.set_cons_zero, List.set_cons_succ]
                    refine takeV 5 (some 149) ((.agg #[.int .i64 y.e, .int .i64 y.a, .int .i64 y.k, .int .i64 y.m, .string y.s, .slice Ay y.l.length cy])) rfl rfl (by kernel_rfl) (by kernel_rfl) (by kernel_rfl) (fun _ _ _ h => h) (by rfl) (by (intro _w hSw; have qx := HXT.out _ hSw; have q0 := qx.k0; have q1 := qx.k1; have q2 := qx.k2; have q3 := qx.k3; have q4 := qx.k4; have q5 := qx.k5; clear qx; clear hSw; go_simp)) (by assumption) ?_
                    simp only [Act.put, List.setIfInBounds_toArray, List.set_cons_zero, List.set_cons_succ]
                    refine takeV 6 (some 150) ((.slice (some ⟨b, o, none⟩) fs.length c)) rfl rfl (by kernel_rfl) (by kernel_rfl) (by kernel_rfl) (fun _ _ _ h => h) (by rfl) (by (intro _w _hSw; (try dsimp only at _hSw); go_simp)) (by assumption) ?_
                    simp only [Act.put, List.setIfInBounds_toArray, List.set_cons_zero, List.set_cons_succ]
                    refine takeV 7 (some 151) ((.int .i64 (i : Nat))) rfl rfl (by kernel_rfl) (by kernel_rfl) (by kernel_rfl) (fun _ _ _ h => h) (by rfl) (by (intro _w _hSw; (try dsimp only at _hSw); go_simp)) (by assumption) ?_
                    simp only [Act.put, List.setIfInBounds_toArray, List.set_cons_zero, List.set_cons_succ]
                    refine takeV 8 (some 152) ((.pointer (some ⟨b, o + i * 6, none⟩))) rfl rfl (by kernel_rfl) (by kernel_rfl) (by kernel_rfl) (fun _ _ _ h => h) (by rfl) (by (intro _w _hSw; (try dsimp only at _hSw); go_simp)) (by assumption) ?_
                    simp only [Act.put, List.setIfInBounds_toArray, List.set_cons_zero, List.set_cons_succ]
                    refine takeV 9 (some 153) ((.agg #[.int .i64 f.e, .int .i64 f.a, .int .i64 f.k, .int .i64 f.m, .string f.s, .slice As f.l.length cs])) rfl rfl (by kernel_rfl) (by kernel_rfl) (by kernel_rfl) (fun _ _ _ h => h) (by rfl) (by (intro _w hSw; have qh := HFT.out _ hSw; have q0 := qh.1; have q1 := qh.2.1; have q2 := qh.2.2.1; have q3 := qh.2.2.2.1; have q4 := qh.2.2.2.2.1; have q5 := qh.2.2.2.2.2; clear qh; clear hSw; go_simp)) (by assumption) ?_
                    simp only [Act.put, List.setIfInBounds_toArray, List.set_cons_zero, List.set_cons_succ]
                    refine callV 10 rfl (by kernel_rfl) (by rfl) (fun K hK => ?_)
                    go_simp
                    refine (both_any y f Ay As cy cs _ (sva_sl (HSY.out _ (HBRp.out.trans (hHeld.mono HBRp.out.size)))) (sva_sl (HSV.out _ (HBIp.out.trans (hHeld.mono HBIp.out.size)))) (fun e => absurd e HNY.out) (fun e => absurd e HNN.out) (HR.out.sz y (List.mem_of_getElem? HPY.out)).2 (HR.out.sz f (List.mem_of_getElem? HPF.out)).2).mono ?_
                    rintro e9 w8 ⟨rfl, hb8⟩
                    have g3 := hHeld.trans (hb8.mono hHeld.size)
                    obtain ⟨bb, hbb⟩ : ∃ q, bothB y.l f.l = q := ⟨_, rfl⟩
                    rw [hbb]
                    refine hK.out _ _ g3 (fun hHeld => ?_)
                    clear hK g3 K hb8
                    try simp only [Act.put, List.setIfInBounds_toArray, List.set_cons_zero, List.set_cons_succ]
                    refine takeV 11 (some 155) ((.bool bb)) rfl rfl (by kernel_rfl) (by kernel_rfl) (by kernel_rfl) (fun _ _ _ h => h) (by rfl) (by (intro _w _hSw; (try dsimp only at _hSw); go_simp)) (by assumption) ?_
                    simp only [Act.put, List.setIfInBounds_toArray, List.set_cons_zero, List.set_cons_succ]
                    refine wpAnyH_done (by kernel_rfl) ?_ _
                    have HQ4 := Lib.hid (HBj.out.trans ((HBRp.out.trans (hHeld.mono HBRp.out.size)).mono HBj.out.size))
                    clear hHeld
                    cases bb with
                    | true =>
                      have HTY : Hid (two3 T y f = true) := HYS.out.trans hbb
                      have HYES : Hid (R = 73) := HE0.out.trans <| row_yes HR.out.may (k := 2) (by decide) HQ.out (.inl ⟨i, f, HPF.out, .inr (.inr (.inl ⟨rfl, j, y, hji, HPY.out, HTY.out⟩))⟩)
                      have HBF := Lib.hid (HR.out.bl.trans ((HB4.out.trans (HQ4.out.mono HB4.out.size)).mono HR.out.bl.size))
                      clear hbb
                      go_wp2
                      go_ret
                      exact ⟨by rw [HYES.out]; rfl, HBF.out⟩
                    | false =>
                      have HNN2 := Lib.hid (HNJ.out (HYS.out.trans hbb))
                      clear hbb
                      go_wp2
                      go_roundg gj
                      case measure => omega
                      case rel => exact ⟨j + 1, by go_num, by omega, HNN2.out, HQ4.out⟩
      · as_aux_lemma =>
          obtain rfl : row = 74 := by rw [hrow]; rfl
          clear hrow
          go_wp2_with fail
          go_loopg [6] fs.length (fun g y wx => ∃ i : Nat, y = .int .i64 i ∧ i + g = fs.length ∧ Hid (∀ i' x, i' < i → fs[i']? = some x → ¬ vioB T fs 3 i' x) ∧ Hid (Below w2.heap.size w2 wx))
          case atStart => exact ⟨0, rfl, by omega, (fun i' _ hi => absurd hi (Nat.not_lt_zero i')), HB.out⟩
          case round =>
            obtain ⟨i, rfl, hi, HV, HBi⟩ := hrel
            obtain ⟨gi, hgi⟩ : ∃ X, X = gk := ⟨_, rfl⟩
            subst hgi
            obtain ⟨wi, hwi⟩ : ∃ X, X = wr := ⟨_, rfl⟩
            subst hwi
            cases gi with
            | zero =>
              have hiz : ¬ ((i : Int) < (fs.length : Int)) := by omega
              have hiz' : decide ((i : Int) < (fs.length : Int)) = false := decide_eq_false hiz
              have HNV : Hid (∀ i' x, fs[i']? = some x → ¬ vioB T fs 3 i' x) := fun i' x hx => HV.out i' x (by have := (List.getElem?_eq_some_iff.1 hx).1; omega) hx
              have HN : Hid (∀ q, q < 4 → rowB fs T q = false) := fun q hq => by
                rcases Nat.lt_or_ge q 3 with h | h
                · exact HQ.out q h
                · obtain rfl : q = 3 := by omega
                  exact row_no HR.out.may (by decide) HNV.out (fun e => by cases e)
              go_wp2_with fail
              go_loopg [13] 1 (fun g z wx => z = .int .i64 0 ∧ Hid (Below w2.heap.size w2 wx))
              case atStart => exact ⟨rfl, HBi.out⟩
              case round =>
                obtain ⟨rfl, HBz⟩ := hrel
                go_wp2
                go_roundg go
                case measure => omega
                case rel => exact ⟨4, 75, rfl, rfl, by omega, HN.out, HBz.out⟩
            | succ gi =>
              have hiz : ((i : Int) < (fs.length : Int)) := by omega
              have hiz' : decide ((i : Int) < (fs.length : Int)) = true := decide_eq_true hiz
              have hi0 : (0 : Int) ≤ (i : Int) := by omega
              have hin : i < fs.length := by omega
              have HBW := Lib.hid (HR.out.bl.trans (HBi.out.mono HR.out.bl.size))
              obtain ⟨b, o, sv, rfl, hlt, hcv, hsv⟩ := fva_at (HR.out.fv.next HBW.out) hin
              obtain ⟨f, hf⟩ : ∃ f, fs[i] = f := ⟨_, rfl⟩
              rw [hf] at hcv hsv
              have HPF : Hid (fs[i]? = some f) := by show _ = _; rw [List.getElem?_eq_getElem hin, hf]
              obtain ⟨As, cs, rfl, _⟩ := id hsv
              have HNN : Hid (As ≠ none) := sva_none hsv (HR.out.ne f (List.mem_of_getElem? HPF.out))
              have HCV : Hid (∀ X, Below wi.heap.size wi X → FcV X b (o + i * 6) f (.slice As f.l.length cs)) := fun X hX => hcv.next hX hlt
              have HSV : Hid (∀ X, Below wi.heap.size wi X → SVa X (.slice As f.l.length cs) f.l) := fun X hX => hsv.next hX
              have q1 := hcv.2.1
              have HNX : Hid (¬ vioB T fs 3 i f → ∀ i' x, i' < i + 1 → fs[i']? = some x → ¬ vioB T fs 3 i' x) := fun hn i' x hi' hx => by
                rcases Nat.lt_or_ge i' i with h | h
                · exact HV.out i' x h hx
                · obtain rfl : i' = i := by omega
                  rw [HPF.out] at hx
                  cases hx
                  exact hn
              have HBY := Lib.hid (refByID_any At ct T f.a wi ((HR.out.sa.next HBi.out (Nat.le_refl _)).more HBi.out.size) HR.out.tl)
              rw [HR.out.lk f.a] at HBY
              obtain ⟨a, ha⟩ : ∃ a, (lookO T f.a).getD zA = a := ⟨_, rfl⟩
              obtain ⟨is, his⟩ : ∃ q, (lookO T f.a).isSome = q := ⟨_, rfl⟩
              have HFN : Hid (fndV (lookO T f.a) = .tuple #[.agg #[.int .i64 a.id, .string a.nm, .int .i64 a.ty, .bool a.many, .int .i64 a.un, .bool a.part, .bool a.ix], .bool is]) := by show _ = _; unfold fndV attV; rw [ha, his]
              rw [HFN.out] at HBY
              have HLA : Hid (lookT T f.a = a) := ha
              clear hf hcv hsv hlt ha his
              go_wp2_with fail
              refine HBY.out.mono ?_
              rintro e w3 ⟨rfl, hb3⟩
              obtain ⟨w4, hw4⟩ : ∃ X, w3.alloc (.cells #[.int .i64 a.id, .string a.nm, .int .i64 a.ty, .bool a.many, .int .i64 a.un, .bool a.part, .bool a.ix] 43) = X := ⟨_, rfl⟩
              have hal : Below w3.heap.size w3 w4 := by rw [← hw4]; exact (Below.refl _ _).alloc (Nat.le_refl _) _
              have HY4 : Hid (AtBx w4 w3.heap.size a) := by rw [← hw4]; exact attBx_new w3 a
              have HBI4 := Lib.hid (hb3.trans (hal.mono hb3.size))
              have HB4 := Lib.hid (HBi.out.trans (HBI4.out.mono HBi.out.size))
              clear hb3 hal HBY q1
              obtain ⟨b7, hb7⟩ : ∃ b7, w3.heap.size = b7 := ⟨_, rfl⟩
              rw [hb7] at HY4
              go_wp2_with fail
              try rw [hw4]
              clear hw4
              try go_wp2_with fail
              try rw [hb7]
              clear hb7
              go_loopg [9] i (fun g z wx => ∃ j : Nat, z = .int .i64 j ∧ j + g = i ∧ Hid (∀ j' y, j' < j → fs[j']? = some y → two4 T y f = false) ∧ Hid (Below w4.heap.size w4 wx))
              case atStart => exact ⟨0, rfl, by omega, (fun j' _ hj => absurd hj (Nat.not_lt_zero j')), Below.refl _ _⟩
              case round =>
                obtain ⟨j, rfl, hj, HTW, HBj⟩ := hrel
                have HB5 := Lib.hid (HB4.out.trans (HBj.out.mono HB4.out.size))
                cases gk with
                | zero =>
                  have hjz : ¬ ((j : Int) < (i : Int)) := by omega
                  have hjz' : decide ((j : Int) < (i : Int)) = false := decide_eq_false hjz
                  have HNO := Lib.hid (HNX.out (fun h => by rcases h with ⟨h, _⟩ | ⟨h, _⟩ | ⟨h, _⟩ | ⟨_, j2, y2, h1, h2, h3⟩ | ⟨h, _⟩ <;> first | (have := HTW.out j2 y2 (by omega) h2; rw [h3] at this; cases this) | cases h))
                  go_wp2
                  go_roundg gi
                  case measure => omega
                  case rel => exact ⟨i + 1, by go_num, by omega, HNO.out, HB5.out⟩
                | succ gj =>
                  have hjz : ((j : Int) < (i : Int)) := by omega
                  have hjz' : decide ((j : Int) < (i : Int)) = true := decide_eq_true hjz
                  have hji : j < i := by omega
                  have hj0 : (0 : Int) ≤ (j : Int) := by omega
                  have hjn : j < fs.length := by omega
                  have hjl : (j : Int) < (fs.length : Int) := by omega
                  have HIR := Lib.hid (HBI4.out.trans (HBj.out.mono HBI4.out.size))
                  obtain ⟨b', o', sv', eb, hlt', hcy, hsy⟩ := fva_at (HR.out.fv.next (HR.out.bl.trans (HB5.out.mono HR.out.bl.size))) hjn
                  injection eb with eb
                  injection eb with eb1 eb2
                  subst eb1 eb2
                  obtain ⟨y, hy⟩ : ∃ y, fs[j] = y := ⟨_, rfl⟩
                  rw [hy] at hcy hsy
                  have HPY : Hid (fs[j]? = some y) := by show _ = _; rw [List.getElem?_eq_getElem hjn, hy]
                  obtain ⟨Ay, cy, rfl, _⟩ := id hsy
                  have HNY : Hid (Ay ≠ none) := sva_none hsy (HR.out.ne y (List.mem_of_getElem? HPY.out))
                  have HSY : Hid (∀ X, Below wr.heap.size wr X → SVa X (.slice Ay y.l.length cy) y.l) := fun X hX => hsy.next hX
                  have y0 := hcy.1
                  have y1 := hcy.2.1
                  have y2 := hcy.2.2.1
                  have y3 := hcy.2.2.2.1
                  have y4 := hcy.2.2.2.2.1
                  have y5 := hcy.2.2.2.2.2
                  have HNJ : Hid (two4 T y f = false → ∀ j' x, j' < j + 1 → fs[j']? = some x → two4 T x f = false) := fun hn j' x hj' hx => by
                    rcases Nat.lt_or_ge j' j with h | h
                    · exact HTW.out j' x h hx
                    · obtain rfl : j' = j := by omega
                      rw [HPY.out] at hx
                      cases hx
                      exact hn
                  obtain ⟨w6, hw6⟩ : ∃ X, wr.alloc (.cells #[.int .i64 y.e, .int .i64 y.a, .int .i64 y.k, .int .i64 y.m, .string y.s, .slice Ay y.l.length cy] 31) = X := ⟨_, rfl⟩
                  have hal : Below wr.heap.size wr w6 := by rw [← hw6]; exact (Below.refl _ _).alloc (Nat.le_refl _) _
                  have HX6 : Hid (FcBx w6 wr.heap.size y (.slice Ay y.l.length cy)) := by rw [← hw6]; exact fcBx_new wr y _
                  have HB6 := Lib.hid (HB5.out.trans (hal.mono HB5.out.size))
                  have HBR6 := Lib.hid hal
                  have HBI6 := Lib.hid (HIR.out.trans (hal.mono HIR.out.size))
                  have HY6 : Hid (AtBx w6 b7 a) := HY4.out.next (HBj.out.trans (hal.mono HBj.out.size))
                  go_wp2_with fail
                  try rw [hw6]
                  clear hw6 hal y0 y1 y2 y3 y4 y5 hcy hsy hlt' hy
                  obtain ⟨by_, hby⟩ : ∃ q, wr.heap.size = q := ⟨_, rfl⟩
                  rw [hby] at HX6
                  try rw [hby]
                  clear hby
                  have hcv6 := HCV.out w6 HBI6.out
                  have f0 := hcv6.1
                  have f1 := hcv6.2.1
                  have f2 := hcv6.2.2.1
                  have f3 := hcv6.2.2.2.1
                  have f4 := hcv6.2.2.2.2.1
                  have x0 := HX6.out.k0
                  have x1 := HX6.out.k1
                  have x2 := HX6.out.k2
                  have x3 := HX6.out.k3
                  have x4 := HX6.out.k4
                  have t3 : w6.cell? ⟨b7, 3, none⟩ = some (.bool a.many) := HY6.out.cell 3
                  have t4 : w6.cell? ⟨b7, 4, none⟩ = some (.int .i64 a.un) := HY6.out.cell 4
                  clear hcv6
                  by_cases c1 : y.e = f.e
                  · have c1' : (y.e != f.e) = false := by rw [c1]; simp
                    have c1q : (y.e == f.e) = true := beq_iff_eq.2 c1
                    clear c1
                    have HNO : Hid (two4 T y f = false) := by show _ = _; unfold two4; rw [c1q]; simp
                    go_wp2_with fail
                    go_quiet (fail)
                    have HQ1 := Lib.hid (below_ind (Below.refl w6.heap.size w6) nq)
                    have hcq := HCV.out (w6.drewN nq) (HBI6.out.trans (HQ1.out.mono HBI6.out.size))
                    have hxq := HX6.out.next HQ1.out
                    have hyq := HY6.out.next HQ1.out
                    have hsq := HSY.out (w6.drewN nq) (HBR6.out.trans (HQ1.out.mono HBR6.out.size))
                    obtain ⟨wq, hwq⟩ : ∃ X, w6.drewN nq = X := ⟨_, rfl⟩
                    rw [hwq] at HQ1 hcq hxq hyq hsq ⊢
                    clear hwq f0 f1 f2 f3 f4 x0 x1 x2 x3 x4 t3 t4
                    have f0 := hcq.1
                    have f1 := hcq.2.1
                    have f2 := hcq.2.2.1
                    have f3 := hcq.2.2.2.1
                    have f4 := hcq.2.2.2.2.1
                    have x0 := hxq.k0
                    have x1 := hxq.k1
                    have x2 := hxq.k2
                    have x3 := hxq.k3
                    have x4 := hxq.k4
                    have t3 : wq.cell? ⟨b7, 3, none⟩ = some (.bool a.many) := hyq.cell 3
                    have t4 : wq.cell? ⟨b7, 4, none⟩ = some (.int .i64 a.un) := hyq.cell 4
                    go_wp2_with fail
                    go_quiet (fail)
                    have HQ2 := Lib.hid (HQ1.out.trans ((below_ind (Below.refl wq.heap.size wq) nq).mono HQ1.out.size))
                    obtain ⟨wp, hwp⟩ : ∃ X, wq.drewN nq = X := ⟨_, rfl⟩
                    rw [hwp] at HQ2 ⊢
                    clear hwp f0 f1 f2 f3 f4 x0 x1 x2 x3 x4 t3 t4 hcq hxq hyq hsq
                    go_wp2_with fail
                    go_quiet (fail)
                    have HQ3 := Lib.hid (HBR6.out.trans ((HQ2.out.trans ((below_ind (Below.refl wp.heap.size wp) nq).mono HQ2.out.size)).mono HBR6.out.size))
                    have HQ4 := Lib.hid (HBj.out.trans (HQ3.out.mono HBj.out.size))
                    have HNN2 := Lib.hid (HNJ.out HNO.out)
                    go_wp2
                    go_roundg gj
                    case measure => omega
                    case rel => exact ⟨j + 1, by go_num, by omega, HNN2.out, HQ4.out⟩
                  have c1' : (y.e != f.e) = true := bne_iff_ne.2 c1
                  have c1q : (y.e == f.e) = false := beq_eq_false_iff_ne.2 c1
                  clear c1
                  by_cases c2 : y.a = f.a
                  rotate_left
                  · have c2' : (y.a == f.a) = false := beq_eq_false_iff_ne.2 c2
                    clear c2
                    have HNO : Hid (two4 T y f = false) := by show _ = _; unfold two4; rw [c1q, c2']; simp
                    go_wp2_with fail
                    go_quiet (fail)
                    have HQ1 := Lib.hid (below_ind (Below.refl w6.heap.size w6) nq)
                    have hcq := HCV.out (w6.drewN nq) (HBI6.out.trans (HQ1.out.mono HBI6.out.size))
                    have hxq := HX6.out.next HQ1.out
                    have hyq := HY6.out.next HQ1.out
                    have hsq := HSY.out (w6.drewN nq) (HBR6.out.trans (HQ1.out.mono HBR6.out.size))
                    obtain ⟨wq, hwq⟩ : ∃ X, w6.drewN nq = X := ⟨_, rfl⟩
                    rw [hwq] at HQ1 hcq hxq hyq hsq ⊢
                    clear hwq f0 f1 f2 f3 f4 x0 x1 x2 x3 x4 t3 t4
                    have f0 := hcq.1
                    have f1 := hcq.2.1
                    have f2 := hcq.2.2.1
                    have f3 := hcq.2.2.2.1
                    have f4 := hcq.2.2.2.2.1
                    have x0 := hxq.k0
                    have x1 := hxq.k1
                    have x2 := hxq.k2
                    have x3 := hxq.k3
                    have x4 := hxq.k4
                    have t3 : wq.cell? ⟨b7, 3, none⟩ = some (.bool a.many) := hyq.cell 3
                    have t4 : wq.cell? ⟨b7, 4, none⟩ = some (.int .i64 a.un) := hyq.cell 4
                    go_wp2_with fail
                    go_quiet (fail)
                    have HQ2 := Lib.hid (HQ1.out.trans ((below_ind (Below.refl wq.heap.size wq) nq).mono HQ1.out.size))
                    obtain ⟨wp, hwp⟩ : ∃ X, wq.drewN nq = X := ⟨_, rfl⟩
                    rw [hwp] at HQ2 ⊢
                    clear hwp f0 f1 f2 f3 f4 x0 x1 x2 x3 x4 t3 t4 hcq hxq hyq hsq
                    go_wp2_with fail
                    go_quiet (fail)
                    have HQ3 := Lib.hid (HBR6.out.trans ((HQ2.out.trans ((below_ind (Below.refl wp.heap.size wp) nq).mono HQ2.out.size)).mono HBR6.out.size))
                    have HQ4 := Lib.hid (HBj.out.trans (HQ3.out.mono HBj.out.size))
                    have HNN2 := Lib.hid (HNJ.out HNO.out)
                    go_wp2
                    go_roundg gj
                    case measure => omega
                    case rel => exact ⟨j + 1, by go_num, by omega, HNN2.out, HQ4.out⟩
                  have c2' : (y.a == f.a) = true := beq_iff_eq.2 c2
                  clear c2
                  have hv := eqV_run (y.k, y.m, y.s) (f.k, f.m, f.s)
                  obtain ⟨vb, hvb⟩ : ∃ r, decide (((y.k, y.m, y.s) : Vl) = (f.k, f.m, f.s)) = r := ⟨_, rfl⟩
                  rw [hvb] at hv
                  have HVB := Lib.hid hvb
                  clear hvb
                  cases vb with
                  | false =>
                    have HNO : Hid (two4 T y f = false) := by show _ = _; unfold two4; rw [c1q, c2', HVB.out]; simp
                    go_wp2_with fail
                    go_quiet (fail)
                    have HQ1 := Lib.hid (below_ind (Below.refl w6.heap.size w6) nq)
                    have hcq := HCV.out (w6.drewN nq) (HBI6.out.trans (HQ1.out.mono HBI6.out.size))
                    have hxq := HX6.out.next HQ1.out
                    have hyq := HY6.out.next HQ1.out
                    have hsq := HSY.out (w6.drewN nq) (HBR6.out.trans (HQ1.out.mono HBR6.out.size))
                    obtain ⟨wq, hwq⟩ : ∃ X, w6.drewN nq = X := ⟨_, rfl⟩
                    rw [hwq] at HQ1 hcq hxq hyq hsq ⊢
                    clear hwq f0 f1 f2 f3 f4 x0 x1 x2 x3 x4 t3 t4
                    have f0 := hcq.1
                    have f1 := hcq.2.1
                    have f2 := hcq.2.2.1
                    have f3 := hcq.2.2.2.1
                    have f4 := hcq.2.2.2.2.1
                    have x0 := hxq.k0
                    have x1 := hxq.k1
                    have x2 := hxq.k2
                    have x3 := hxq.k3
                    have x4 := hxq.k4
                    have t3 : wq.cell? ⟨b7, 3, none⟩ = some (.bool a.many) := hyq.cell 3
                    have t4 : wq.cell? ⟨b7, 4, none⟩ = some (.int .i64 a.un) := hyq.cell 4
                    go_wp2_with fail
                    go_quiet (fail)
                    have HQ2 := Lib.hid (HQ1.out.trans ((below_ind (Below.refl wq.heap.size wq) nq).mono HQ1.out.size))
                    obtain ⟨wp, hwp⟩ : ∃ X, wq.drewN nq = X := ⟨_, rfl⟩
                    rw [hwp] at HQ2 ⊢
                    clear hwp f0 f1 f2 f3 f4 x0 x1 x2 x3 x4 t3 t4 hcq hxq hyq hsq
                    go_wp2_with fail
                    go_quiet (fail)
                    have HQ3 := Lib.hid (HBR6.out.trans ((HQ2.out.trans ((below_ind (Below.refl wp.heap.size wp) nq).mono HQ2.out.size)).mono HBR6.out.size))
                    have HQ4 := Lib.hid (HBj.out.trans (HQ3.out.mono HBj.out.size))
                    have HNN2 := Lib.hid (HNJ.out HNO.out)
                    go_wp2
                    go_roundg gj
                    case measure => omega
                    case rel => exact ⟨j + 1, by go_num, by omega, HNN2.out, HQ4.out⟩
                  | true =>
                    by_cases c4 : 0 < a.un
                    rotate_left
                    · have c4' : decide (0 < a.un) = false := decide_eq_false c4
                      clear c4
                      have HNO : Hid (two4 T y f = false) := by show _ = _; unfold two4; rw [c1q, c2', HVB.out, HLA.out, c4']; simp
                      go_wp2_with fail
                      go_quiet (fail)
                      have HQ1 := Lib.hid (below_ind (Below.refl w6.heap.size w6) nq)
                      have hcq := HCV.out (w6.drewN nq) (HBI6.out.trans (HQ1.out.mono HBI6.out.size))
                      have hxq := HX6.out.next HQ1.out
                      have hyq := HY6.out.next HQ1.out
                      have hsq := HSY.out (w6.drewN nq) (HBR6.out.trans (HQ1.out.mono HBR6.out.size))
                      obtain ⟨wq, hwq⟩ : ∃ X, w6.drewN nq = X := ⟨_, rfl⟩
                      rw [hwq] at HQ1 hcq hxq hyq hsq ⊢
                      clear hwq f0 f1 f2 f3 f4 x0 x1 x2 x3 x4 t3 t4
                      have f0 := hcq.1
                      have f1 := hcq.2.1
                      have f2 := hcq.2.2.1
                      have f3 := hcq.2.2.2.1
                      have f4 := hcq.2.2.2.2.1
                      have x0 := hxq.k0
                      have x1 := hxq.k1
                      have x2 := hxq.k2
                      have x3 := hxq.k3
                      have x4 := hxq.k4
                      have t3 : wq.cell? ⟨b7, 3, none⟩ = some (.bool a.many) := hyq.cell 3
                      have t4 : wq.cell? ⟨b7, 4, none⟩ = some (.int .i64 a.un) := hyq.cell 4
                      go_wp2_with fail
                      go_quiet (fail)
                      have HQ2 := Lib.hid (HQ1.out.trans ((below_ind (Below.refl wq.heap.size wq) nq).mono HQ1.out.size))
                      obtain ⟨wp, hwp⟩ : ∃ X, wq.drewN nq = X := ⟨_, rfl⟩
                      rw [hwp] at HQ2 ⊢
                      clear hwp f0 f1 f2 f3 f4 x0 x1 x2 x3 x4 t3 t4 hcq hxq hyq hsq
                      go_wp2_with fail
                      go_quiet (fail)
                      have HQ3 := Lib.hid (HBR6.out.trans ((HQ2.out.trans ((below_ind (Below.refl wp.heap.size wp) nq).mono HQ2.out.size)).mono HBR6.out.size))
                      have HQ4 := Lib.hid (HBj.out.trans (HQ3.out.mono HBj.out.size))
                      have HNN2 := Lib.hid (HNJ.out HNO.out)
                      go_wp2
                      go_roundg gj
                      case measure => omega
                      case rel => exact ⟨j + 1, by go_num, by omega, HNN2.out, HQ4.out⟩
                    have c4' : decide (0 < a.un) = true := decide_eq_true c4
                    have HYS : Hid (two4 T y f = bothB y.l f.l) := by show _ = _; unfold two4; rw [c1q, c2', HVB.out, HLA.out, c4']; simp
                    clear c4
                    go_wp2_with fail
                    go_quiet (fail)
                    have HQ1 := Lib.hid (below_ind (Below.refl w6.heap.size w6) nq)
                    have hcq := HCV.out (w6.drewN nq) (HBI6.out.trans (HQ1.out.mono HBI6.out.size))
                    have hxq := HX6.out.next HQ1.out
                    have hyq := HY6.out.next HQ1.out
                    have hsq := HSY.out (w6.drewN nq) (HBR6.out.trans (HQ1.out.mono HBR6.out.size))
                    obtain ⟨wq, hwq⟩ : ∃ X, w6.drewN nq = X := ⟨_, rfl⟩
                    rw [hwq] at HQ1 hcq hxq hyq hsq ⊢
                    clear hwq f0 f1 f2 f3 f4 x0 x1 x2 x3 x4 t3 t4
                    have f0 := hcq.1
                    have f1 := hcq.2.1
                    have f2 := hcq.2.2.1
                    have f3 := hcq.2.2.2.1
                    have f4 := hcq.2.2.2.2.1
                    have x0 := hxq.k0
                    have x1 := hxq.k1
                    have x2 := hxq.k2
                    have x3 := hxq.k3
                    have x4 := hxq.k4
                    have t3 : wq.cell? ⟨b7, 3, none⟩ = some (.bool a.many) := hyq.cell 3
                    have t4 : wq.cell? ⟨b7, 4, none⟩ = some (.int .i64 a.un) := hyq.cell 4
                    go_wp2_with fail
                    go_quiet (fail)
                    have HQ2 := Lib.hid (HQ1.out.trans ((below_ind (Below.refl wq.heap.size wq) nq).mono HQ1.out.size))
                    obtain ⟨wp, hwp⟩ : ∃ X, wq.drewN nq = X := ⟨_, rfl⟩
                    rw [hwp] at HQ2 ⊢
                    clear hwp f0 f1 f2 f3 f4 x0 x1 x2 x3 x4 t3 t4 hcq hxq hyq hsq
                    have HBIp := Lib.hid (HBI6.out.trans (HQ2.out.mono HBI6.out.size))
                    have HBRp := Lib.hid (HBR6.out.trans (HQ2.out.mono HBR6.out.size))
                    have HFT := Lib.hid (fun X (hX : Below wp.heap.size wp X) => HCV.out X (HBIp.out.trans (hX.mono HBIp.out.size)))
                    have HXT := Lib.hid (fun X (hX : Below wp.heap.size wp X) => HX6.out.next (HQ2.out.trans (hX.mono HQ2.out.size)))
                    go_wp2_with fail
                    have HS0 := Lib.hid (below_ind (Below.refl wp.heap.size wp) 1)
                    obtain ⟨wz, hwz⟩ : ∃ X, wp.drew = X := ⟨_, rfl⟩
                    refine wp_region_held_drew (S := fun X => Below wp.heap.size wp X) (by kernel_rfl) HS0.out (fun hHeld => ?_)
                    rw [hwz] at hHeld ⊢
                    clear hwz HS0
                    refine takeV 0 (some 144) ((.bool false)) rfl rfl (by kernel_rfl) (by kernel_rfl) (by kernel_rfl) (fun _ _ _ h => h) (by rfl) (by (intro _w _hSw; (try dsimp only at _hSw); go_simp)) (by assumption) ?_
                    simp only [Act.put, List.setIfInBounds_toArray, List.set_cons_zero, List.set_cons_succ]
                    refine takeV 1 (some 145) ((.bool false)) rfl rfl (by kernel_rfl) (by kernel_rfl) (by kernel_rfl) (fun _ _ _ h => h) (by rfl) (by (intro _w _hSw; (try dsimp only at _hSw); go_simp)) (by assumption) ?_
                    simp only [Act.put, List.setIfInBounds_toArray, List.set_cons_zero, List.set_cons_succ]
                    refine takeV 2 (some 146) ((.bool true)) rfl rfl (by kernel_rfl) (by kernel_rfl) (by kernel_rfl) (fun _ _ _ h => h) (by rfl) (by (intro _w _hSw; (try dsimp only at _hSw); go_simp)) (by assumption) ?_
                    simp only [Act.put, List.setIfInBounds_toArray, List.set_cons_zero, List.set_cons_succ]
                    refine takeV 3 (some 147) ((.bool true)) rfl rfl (by kernel_rfl) (by kernel_rfl) (by kernel_rfl) (fun _ _ _ h => h) (by rfl) (by (intro _w _hSw; (try dsimp only at _hSw); go_simp)) (by assumption) ?_
                    simp only [Act.put, List.setIfInBounds_toArray, List.set_cons_zero, List.set_cons_succ]
                    refine takeV 4 (some 148) ((.bool true)) rfl rfl (by kernel_rfl) (by kernel_rfl) (by kernel_rfl) (fun _ _ _ h => h) (by rfl) (by (intro _w _hSw; (try dsimp only at _hSw); go_simp)) (by assumption) ?_
                    simp only [Act.put, List.setIfInBounds_toArray, List.set_cons_zero, List.set_cons_succ]
                    refine takeV 5 (some 149) ((.agg #[.int .i64 y.e, .int .i64 y.a, .int .i64 y.k, .int .i64 y.m, .string y.s, .slice Ay y.l.length cy])) rfl rfl (by kernel_rfl) (by kernel_rfl) (by kernel_rfl) (fun _ _ _ h => h) (by rfl) (by (intro _w hSw; have qx := HXT.out _ hSw; have q0 := qx.k0; have q1 := qx.k1; have q2 := qx.k2; have q3 := qx.k3; have q4 := qx.k4; have q5 := qx.k5; clear qx; clear hSw; go_simp)) (by assumption) ?_
                    simp only [Act.put, List.setIfInBounds_toArray, List.set_cons_zero, List.set_cons_succ]
                    refine takeV 6 (some 150) ((.slice (some ⟨b, o, none⟩) fs.length c)) rfl rfl (by kernel_rfl) (by kernel_rfl) (by kernel_rfl) (fun _ _ _ h => h) (by rfl) (by (intro _w _hSw; (try dsimp only at _hSw); go_simp)) (by assumption) ?_
                    simp only [Act.put, List.setIfInBounds_toArray, List.set_cons_zero, List.set_cons_succ]
                    refine takeV 7 (some 151) ((.int .i64 (i : Nat))) rfl rfl (by kernel_rfl) (by kernel_rfl) (by kernel_rfl) (fun _ _ _ h => h) (by rfl) (by (intro _w _hSw; (try dsimp only at _hSw); go_simp)) (by assumption) ?_
                    simp only [Act.put, List.setIfInBounds_toArray, List.set_cons_zero, List.set_cons_succ]
                    refine takeV 8 (some 152) ((.pointer (some ⟨b, o + i * 6, none⟩))) rfl rfl (by kernel_rfl) (by kernel_rfl) (by kernel_rfl) (fun _ _ _ h => h) (by rfl) (by (intro _w _hSw; (try dsimp only at _hSw); go_simp)) (by assumption) ?_
                    simp only [Act.put, List.setIfInBounds_toArray, List.set_cons_zero, List.set_cons_succ]
                    refine takeV 9 (some 153) ((.agg #[.int .i64 f.e, .int .i64 f.a, .int .i64 f.k, .int .i64 f.m, .string f.s, .slice As f.l.length cs])) rfl rfl (by kernel_rfl) (by kernel_rfl) (by kernel_rfl) (fun _ _ _ h => h) (by rfl) (by (intro _w hSw; have qh := HFT.out _ hSw; have q0 := qh.1; have q1 := qh.2.1; have q2 := qh.2.2.1; have q3 := qh.2.2.2.1; have q4 := qh.2.2.2.2.1; have q5 := qh.2.2.2.2.2; clear qh; clear hSw; go_simp)) (by assumption) ?_
                    simp only [Act.put, List.setIfInBounds_toArray, List.set_cons_zero, List.set_cons_succ]
                    refine callV 10 rfl (by kernel_rfl) (by rfl) (fun K hK => ?_)
                    go_simp
                    refine (both_any y f Ay As cy cs _ (sva_sl (HSY.out _ (HBRp.out.trans (hHeld.mono HBRp.out.size)))) (sva_sl (HSV.out _ (HBIp.out.trans (hHeld.mono HBIp.out.size)))) (fun e => absurd e HNY.out) (fun e => absurd e HNN.out) (HR.out.sz y (List.mem_of_getElem? HPY.out)).2 (HR.out.sz f (List.mem_of_getElem? HPF.out)).2).mono ?_
                    rintro e9 w8 ⟨rfl, hb8⟩
                    have g3 := hHeld.trans (hb8.mono hHeld.size)
                    obtain ⟨bb, hbb⟩ : ∃ q, bothB y.l f.l = q := ⟨_, rfl⟩
                    rw [hbb]
                    refine hK.out _ _ g3 (fun hHeld => ?_)
                    clear hK g3 K hb8
                    try simp only [Act.put, List.setIfInBounds_toArray, List.set_cons_zero, List.set_cons_succ]
                    refine takeV 11 (some 155) ((.bool bb)) rfl rfl (by kernel_rfl) (by kernel_rfl) (by kernel_rfl) (fun _ _ _ h => h) (by rfl) (by (intro _w _hSw; (try dsimp only at _hSw); go_simp)) (by assumption) ?_
                    simp only [Act.put, List.setIfInBounds_toArray, List.set_cons_zero, List.set_cons_succ]
                    refine wpAnyH_done (by kernel_rfl) ?_ _
                    have HQ4 := Lib.hid (HBj.out.trans ((HBRp.out.trans (hHeld.mono HBRp.out.size)).mono HBj.out.size))
                    clear hHeld
                    cases bb with
                    | true =>
                      have HTY : Hid (two4 T y f = true) := HYS.out.trans hbb
                      have HYES : Hid (R = 74) := HE0.out.trans <| row_yes HR.out.may (k := 3) (by decide) HQ.out (.inl ⟨i, f, HPF.out, .inr (.inr (.inr (.inl ⟨rfl, j, y, hji, HPY.out, HTY.out⟩)))⟩)
                      have HBF := Lib.hid (HR.out.bl.trans ((HB4.out.trans (HQ4.out.mono HB4.out.size)).mono HR.out.bl.size))
                      clear hbb
                      go_wp2
                      go_ret
                      exact ⟨by rw [HYES.out]; rfl, HBF.out⟩
                    | false =>
                      have HNN2 := Lib.hid (HNJ.out (HYS.out.trans hbb))
                      clear hbb
                      go_wp2
                      go_roundg gj
                      case measure => omega
                      case rel => exact ⟨j + 1, by go_num, by omega, HNN2.out, HQ4.out⟩
      · as_aux_lemma =>
          obtain rfl : row = 75 := by rw [hrow]; rfl
          clear hrow
          go_wp2_with fail
          go_loopg [6] fs.length (fun g y wx => ∃ i : Nat, y = .int .i64 i ∧ i + g = fs.length ∧ Hid (∀ i' x, i' < i → fs[i']? = some x → ¬ vioB T fs 4 i' x) ∧ Hid (Below w2.heap.size w2 wx))
          case atStart => exact ⟨0, rfl, by omega, (fun i' _ hi => absurd hi (Nat.not_lt_zero i')), HB.out⟩
          case round =>
            obtain ⟨i, rfl, hi, HV, HBi⟩ := hrel
            obtain ⟨gi, hgi⟩ : ∃ X, X = gk := ⟨_, rfl⟩
            subst hgi
            obtain ⟨wi, hwi⟩ : ∃ X, X = wr := ⟨_, rfl⟩
            subst hwi
            cases gi with
            | zero =>
              have hiz : ¬ ((i : Int) < (fs.length : Int)) := by omega
              have hiz' : decide ((i : Int) < (fs.length : Int)) = false := decide_eq_false hiz
              have HNV : Hid (∀ i' x, fs[i']? = some x → ¬ vioB T fs 4 i' x) := fun i' x hx => HV.out i' x (by have := (List.getElem?_eq_some_iff.1 hx).1; omega) hx
              have HN : Hid (∀ q, q < 5 → rowB fs T q = false) := fun q hq => by
                rcases Nat.lt_or_ge q 4 with h | h
                · exact HQ.out q h
                · obtain rfl : q = 4 := by omega
                  exact row_no HR.out.may (by decide) HNV.out (fun e => by cases e)
              go_wp2_with fail
              go_loopg [13] 1 (fun g z wx => z = .int .i64 0 ∧ Hid (Below w2.heap.size w2 wx))
              case atStart => exact ⟨rfl, HBi.out⟩
              case round =>
                obtain ⟨rfl, HBz⟩ := hrel
                go_wp2
                go_roundg go
                case measure => omega
                case rel => exact ⟨5, 76, rfl, rfl, by omega, HN.out, HBz.out⟩
            | succ gi =>
              have hiz : ((i : Int) < (fs.length : Int)) := by omega
              have hiz' : decide ((i : Int) < (fs.length : Int)) = true := decide_eq_true hiz
              have hi0 : (0 : Int) ≤ (i : Int) := by omega
              have hin : i < fs.length := by omega
              have HBW := Lib.hid (HR.out.bl.trans (HBi.out.mono HR.out.bl.size))
              obtain ⟨b, o, sv, rfl, hlt, hcv, hsv⟩ := fva_at (HR.out.fv.next HBW.out) hin
              obtain ⟨f, hf⟩ : ∃ f, fs[i] = f := ⟨_, rfl⟩
              rw [hf] at hcv hsv
              have HPF : Hid (fs[i]? = some f) := by show _ = _; rw [List.getElem?_eq_getElem hin, hf]
              obtain ⟨As, cs, rfl, _⟩ := id hsv
              have HNN : Hid (As ≠ none) := sva_none hsv (HR.out.ne f (List.mem_of_getElem? HPF.out))
              have HCV : Hid (∀ X, Below wi.heap.size wi X → FcV X b (o + i * 6) f (.slice As f.l.length cs)) := fun X hX => hcv.next hX hlt
              have HSV : Hid (∀ X, Below wi.heap.size wi X → SVa X (.slice As f.l.length cs) f.l) := fun X hX => hsv.next hX
              have q1 := hcv.2.1
              have HNX : Hid (¬ vioB T fs 4 i f → ∀ i' x, i' < i + 1 → fs[i']? = some x → ¬ vioB T fs 4 i' x) := fun hn i' x hi' hx => by
                rcases Nat.lt_or_ge i' i with h | h
                · exact HV.out i' x h hx
                · obtain rfl : i' = i := by omega
                  rw [HPF.out] at hx
                  cases hx
                  exact hn
              have HBY := Lib.hid (refByID_any At ct T f.a wi ((HR.out.sa.next HBi.out (Nat.le_refl _)).more HBi.out.size) HR.out.tl)
              rw [HR.out.lk f.a] at HBY
              obtain ⟨a, ha⟩ : ∃ a, (lookO T f.a).getD zA = a := ⟨_, rfl⟩
              obtain ⟨is, his⟩ : ∃ q, (lookO T f.a).isSome = q := ⟨_, rfl⟩
              have HFN : Hid (fndV (lookO T f.a) = .tuple #[.agg #[.int .i64 a.id, .string a.nm, .int .i64 a.ty, .bool a.many, .int .i64 a.un, .bool a.part, .bool a.ix], .bool is]) := by show _ = _; unfold fndV attV; rw [ha, his]
              rw [HFN.out] at HBY
              have HLA : Hid (lookT T f.a = a) := ha
              clear hf hcv hsv hlt ha his
              go_wp2_with fail
              refine HBY.out.mono ?_
              rintro e w3 ⟨rfl, hb3⟩
              obtain ⟨w4, hw4⟩ : ∃ X, w3.alloc (.cells #[.int .i64 a.id, .string a.nm, .int .i64 a.ty, .bool a.many, .int .i64 a.un, .bool a.part, .bool a.ix] 43) = X := ⟨_, rfl⟩
              have hal : Below w3.heap.size w3 w4 := by rw [← hw4]; exact (Below.refl _ _).alloc (Nat.le_refl _) _
              have HY4 : Hid (AtBx w4 w3.heap.size a) := by rw [← hw4]; exact attBx_new w3 a
              have HBI4 := Lib.hid (hb3.trans (hal.mono hb3.size))
              have HB4 := Lib.hid (HBi.out.trans (HBI4.out.mono HBi.out.size))
              clear hb3 hal HBY q1
              have hcv4 := HCV.out w4 HBI4.out
              have q0 := hcv4.1
              have q1 := hcv4.2.1
              have q2 := hcv4.2.2.1
              have q3 := hcv4.2.2.2.1
              have q4 := hcv4.2.2.2.2.1
              have q5 := hcv4.2.2.2.2.2
              have HWR := Lib.hid (wrong4_any (some ⟨b, o, none⟩) At As c ct cs fs T f w4 (HR.out.wr HB4.out (sva_sl (HSV.out w4 HBI4.out))))
              obtain ⟨wb, hwb⟩ : ∃ q, (decide (f.a < 10) && !whD f.l) = q := ⟨_, rfl⟩
              have HBB : Hid (a5B f = wb) := Eq.trans (HR.out.a5 f (List.mem_of_getElem? HPF.out)) hwb
              rw [hwb] at HWR
              clear hcv4 hwb
              go_wp2_with fail
              try rw [hw4]
              clear hw4
              try go_wp2_with fail
              refine HWR.out.mono ?_
              rintro e w5 ⟨rfl, hb5⟩
              have HB5 := Lib.hid (HB4.out.trans (hb5.mono HB4.out.size))
              clear hb5 HWR q0 q1 q2 q3 q4 q5
              cases wb with
              | true =>
                have HYES : Hid (R = 75) := HE0.out.trans <| row_yes HR.out.may (k := 4) (by decide) HQ.out (.inl ⟨i, f, HPF.out, .inr (.inr (.inr (.inr ⟨rfl, HBB.out⟩)))⟩)
                have HBF := Lib.hid (HR.out.bl.trans (HB5.out.mono HR.out.bl.size))
                go_wp2
                go_ret
                exact ⟨by rw [HYES.out]; rfl, HBF.out⟩
              | false =>
                have HNO := Lib.hid (HNX.out (fun h => by rcases h with ⟨h, _⟩ | ⟨h, _⟩ | ⟨h, _⟩ | ⟨h, _⟩ | ⟨_, h⟩ <;> first | (rw [HBB.out] at h; cases h) | cases h))
                go_wp2_with fail
                go_loopg [9] 1 (fun g z wx => z = .int .i64 0 ∧ Hid (Below w2.heap.size w2 wx))
                case atStart => exact ⟨rfl, HB5.out⟩
                case round =>
                  obtain ⟨rfl, HBz⟩ := hrel
                  by_cases hii : (0 : Int) < (i : Int)
                  · have hii' : decide ((0 : Int) < (i : Int)) = true := decide_eq_true hii
                    go_wp2
                    go_roundg gi
                    case measure => omega
                    case rel => exact ⟨i + 1, by go_num, by omega, HNO.out, HBz.out⟩
                  · have hii' : decide ((0 : Int) < (i : Int)) = false := decide_eq_false hii
                    go_wp2
                    go_roundg gi
                    case measure => omega
                    case rel => exact ⟨i + 1, by go_num, by omega, HNO.out, HBz.out⟩
      · as_aux_lemma =>
          obtain rfl : row = 76 := by rw [hrow]; rfl
          clear hrow
          go_wp2_with fail
          go_loopg [6] fs.length (fun g y wx => ∃ i : Nat, y = .int .i64 i ∧ i + g = fs.length ∧ Hid (∀ i' x, i' < i → fs[i']? = some x → ¬ vioB T fs 5 i' x) ∧ Hid (Below w2.heap.size w2 wx))
          case atStart => exact ⟨0, rfl, by omega, (fun i' _ hi => absurd hi (Nat.not_lt_zero i')), HB.out⟩
          case round =>
            obtain ⟨i, rfl, hi, HV, HBi⟩ := hrel
            obtain ⟨gi, hgi⟩ : ∃ X, X = gk := ⟨_, rfl⟩
            subst hgi
            obtain ⟨wi, hwi⟩ : ∃ X, X = wr := ⟨_, rfl⟩
            subst hwi
            cases gi with
            | zero =>
              have hiz : ¬ ((i : Int) < (fs.length : Int)) := by omega
              have hiz' : decide ((i : Int) < (fs.length : Int)) = false := decide_eq_false hiz
              have HNV : Hid (∀ i' x, fs[i']? = some x → ¬ vioB T fs 5 i' x) := fun i' x hx => HV.out i' x (by have := (List.getElem?_eq_some_iff.1 hx).1; omega) hx
              have htl := HR.out.tl
              go_wp2_with fail
              go_loopg [13] T.length (fun g z wx => ∃ j : Nat, z = .int .i64 j ∧ j + g = T.length ∧ Hid (∀ j' a, j' < j → T[j']? = some a → a6B a = false) ∧ Hid (Below w2.heap.size w2 wx))
              case atStart => exact ⟨0, rfl, by omega, (fun j' _ hj => absurd hj (Nat.not_lt_zero j')), HBi.out⟩
              case round =>
                obtain ⟨j, rfl, hj, HA, HBz⟩ := hrel
                cases gk with
                | zero =>
                  have hjz : ¬ ((j : Int) < (T.length : Int)) := by omega
                  have hjz' : decide ((j : Int) < (T.length : Int)) = false := decide_eq_false hjz
                  have HT6 : Hid (T.any a6B = false) := by
                    show _ = _
                    rw [List.any_eq_false]
                    intro a ha
                    obtain ⟨j', hj'⟩ := List.mem_iff_getElem?.1 ha
                    simp [HA.out j' a (by have := (List.getElem?_eq_some_iff.1 hj').1; omega) hj']
                  have HN : Hid (∀ q, q < 6 → rowB fs T q = false) := fun q hq => by
                    rcases Nat.lt_or_ge q 5 with h | h
                    · exact HQ.out q h
                    · obtain rfl : q = 5 := by omega
                      exact row_no HR.out.may (by decide) HNV.out (fun _ => HT6.out)
                  go_wp2
                  go_roundg go
                  case measure => omega
                  case rel => exact ⟨6, 77, rfl, rfl, by omega, HN.out, HBz.out⟩
                | succ gj =>
                  have hjz : ((j : Int) < (T.length : Int)) := by omega
                  have hjz' : decide ((j : Int) < (T.length : Int)) = true := decide_eq_true hjz
                  have hj0 : (0 : Int) ≤ (j : Int) := by omega
                  have hjn : j < T.length := by omega
                  obtain ⟨ab, ao, rfl, hab, hat⟩ := (HR.out.sa.next HBz.out (Nat.le_refl _)).at_ hjn
                  obtain ⟨a, ha⟩ : ∃ a, T[j] = a := ⟨_, rfl⟩
                  rw [ha] at hat
                  have HPA : Hid (T[j]? = some a) := by show _ = _; rw [List.getElem?_eq_getElem hjn, ha]
                  have p2 := hat.c2
                  have p5 := hat.c5
                  have HNEXT : Hid (a6B a = false → ∀ j' x, j' < j + 1 → T[j']? = some x → a6B x = false) := fun hf j' x hj' hx => by
                    rcases Nat.lt_or_ge j' j with h | h
                    · exact HA.out j' x h hx
                    · obtain rfl : j' = j := by omega
                      rw [HPA.out] at hx
                      cases hx
                      exact hf
                  obtain ⟨pt, hpt⟩ : ∃ b, a.part = b := ⟨_, rfl⟩
                  rw [hpt] at p5
                  clear ha hat hab
                  cases pt with
                  | false =>
                    have HX6 := Lib.hid (HNEXT.out (by unfold a6B; rw [hpt]; rfl))
                    clear hpt
                    go_wp2
                    go_roundg gj
                    case measure => omega
                    case rel => exact ⟨j + 1, by go_num, by omega, HX6.out, HBz.out⟩
                  | true =>
                    by_cases ht5 : a.ty = 5
                    · have ht5' : (a.ty != 5) = false := by rw [ht5]; rfl
                      have HX6 := Lib.hid (HNEXT.out (by unfold a6B; rw [hpt, ht5]; rfl))
                      clear hpt ht5
                      go_wp2
                      go_roundg gj
                      case measure => omega
                      case rel => exact ⟨j + 1, by go_num, by omega, HX6.out, HBz.out⟩
                    · have ht5' : (a.ty != 5) = true := bne_iff_ne.2 ht5
                      have HYES : Hid (R = 76) := HE0.out.trans <| row_yes HR.out.may (k := 5) (by decide) HQ.out (.inr ⟨rfl, List.any_eq_true.2 ⟨a, List.mem_of_getElem? HPA.out, by unfold a6B; rw [hpt, beq_eq_false_iff_ne.2 ht5]; rfl⟩⟩)
                      have HBF := Lib.hid (HR.out.bl.trans (HBz.out.mono HR.out.bl.size))
                      clear hpt ht5
                      go_wp2
                      go_ret
                      exact ⟨by rw [HYES.out]; rfl, HBF.out⟩
            | succ gi =>
              have hiz : ((i : Int) < (fs.length : Int)) := by omega
              have hiz' : decide ((i : Int) < (fs.length : Int)) = true := decide_eq_true hiz
              have hi0 : (0 : Int) ≤ (i : Int) := by omega
              have hin : i < fs.length := by omega
              have HBW := Lib.hid (HR.out.bl.trans (HBi.out.mono HR.out.bl.size))
              obtain ⟨b, o, sv, rfl, hlt, hcv, hsv⟩ := fva_at (HR.out.fv.next HBW.out) hin
              obtain ⟨f, hf⟩ : ∃ f, fs[i] = f := ⟨_, rfl⟩
              rw [hf] at hcv hsv
              have HPF : Hid (fs[i]? = some f) := by show _ = _; rw [List.getElem?_eq_getElem hin, hf]
              obtain ⟨As, cs, rfl, _⟩ := id hsv
              have HNN : Hid (As ≠ none) := sva_none hsv (HR.out.ne f (List.mem_of_getElem? HPF.out))
              have HCV : Hid (∀ X, Below wi.heap.size wi X → FcV X b (o + i * 6) f (.slice As f.l.length cs)) := fun X hX => hcv.next hX hlt
              have HSV : Hid (∀ X, Below wi.heap.size wi X → SVa X (.slice As f.l.length cs) f.l) := fun X hX => hsv.next hX
              have q1 := hcv.2.1
              have HNX : Hid (¬ vioB T fs 5 i f → ∀ i' x, i' < i + 1 → fs[i']? = some x → ¬ vioB T fs 5 i' x) := fun hn i' x hi' hx => by
                rcases Nat.lt_or_ge i' i with h | h
                · exact HV.out i' x h hx
                · obtain rfl : i' = i := by omega
                  rw [HPF.out] at hx
                  cases hx
                  exact hn
              have HBY := Lib.hid (refByID_any At ct T f.a wi ((HR.out.sa.next HBi.out (Nat.le_refl _)).more HBi.out.size) HR.out.tl)
              rw [HR.out.lk f.a] at HBY
              obtain ⟨a, ha⟩ : ∃ a, (lookO T f.a).getD zA = a := ⟨_, rfl⟩
              obtain ⟨is, his⟩ : ∃ q, (lookO T f.a).isSome = q := ⟨_, rfl⟩
              have HFN : Hid (fndV (lookO T f.a) = .tuple #[.agg #[.int .i64 a.id, .string a.nm, .int .i64 a.ty, .bool a.many, .int .i64 a.un, .bool a.part, .bool a.ix], .bool is]) := by show _ = _; unfold fndV attV; rw [ha, his]
              rw [HFN.out] at HBY
              have HLA : Hid (lookT T f.a = a) := ha
              clear hf hcv hsv hlt ha his
              go_wp2_with fail
              refine HBY.out.mono ?_
              rintro e w3 ⟨rfl, hb3⟩
              obtain ⟨w4, hw4⟩ : ∃ X, w3.alloc (.cells #[.int .i64 a.id, .string a.nm, .int .i64 a.ty, .bool a.many, .int .i64 a.un, .bool a.part, .bool a.ix] 43) = X := ⟨_, rfl⟩
              have hal : Below w3.heap.size w3 w4 := by rw [← hw4]; exact (Below.refl _ _).alloc (Nat.le_refl _) _
              have HY4 : Hid (AtBx w4 w3.heap.size a) := by rw [← hw4]; exact attBx_new w3 a
              have HBI4 := Lib.hid (hb3.trans (hal.mono hb3.size))
              have HB4 := Lib.hid (HBi.out.trans (HBI4.out.mono HBi.out.size))
              clear hb3 hal HBY q1
              have HNO := Lib.hid (HNX.out (fun h => by rcases h with ⟨h, _⟩ | ⟨h, _⟩ | ⟨h, _⟩ | ⟨h, _⟩ | ⟨h, _⟩ <;> cases h))
              have HB5 := HB4
              go_wp2_with fail
              try rw [hw4]
              clear hw4
              try go_wp2_with fail
              go_loopg [9] 1 (fun g z wx => z = .int .i64 0 ∧ Hid (Below w2.heap.size w2 wx))
              case atStart => exact ⟨rfl, HB5.out⟩
              case round =>
                obtain ⟨rfl, HBz⟩ := hrel
                by_cases hii : (0 : Int) < (i : Int)
                · have hii' : decide ((0 : Int) < (i : Int)) = true := decide_eq_true hii
                  go_wp2
                  go_roundg gi
                  case measure => omega
                  case rel => exact ⟨i + 1, by go_num, by omega, HNO.out, HBz.out⟩
                · have hii' : decide ((0 : Int) < (i : Int)) = false := decide_eq_false hii
                  go_wp2
                  go_roundg gi
                  case measure => omega
                  case rel => exact ⟨i + 1, by go_num, by omega, HNO.out, HBz.out⟩
end Go.Proofs.YtlmihlepaoifiaaGreat
