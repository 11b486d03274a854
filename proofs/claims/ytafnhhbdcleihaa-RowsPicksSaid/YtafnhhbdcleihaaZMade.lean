/-
  CONTRACTS: the document's made, Of.
-/
import Derived.Test.YtafnhhbdcleihaaZPut
import Derived.Test.YtafnhhbdcleihaaZOf
namespace Go.Proofs.Ytafnhhbdcleihaa
open Go.RowKit

/-- a relation that the document answers, with its error -/
def RefEnd (w : World) (A : Option Addr) (c : Nat) (cols : List ByteArray) (T : List (List Vl)) (code : Int) (e : Ending) (w' : World) : Prop :=
  Below w.heap.size w w' ∧ ∃ vc vr, e = .returned (.tuple #[.agg #[vc, vr], .int .i64 code]) ∧
    ((code = 0 ∧ vc = .slice A cols.length c ∧ ∃ R', RdR w' w.heap.size vr R' ∧ txR R' = T) ∨ (code ≠ 0 ∧ vc = .slice none 0 0 ∧ vr = .slice none 0 0))
theorem RefEnd.trans {w w1 : World} {A : Option Addr} {c : Nat} {cols : List ByteArray} {T : List (List Vl)} {code : Int} {e : Ending} {w' : World} (h : RefEnd w1 A c cols T code e w') (hb : Below w.heap.size w w1) : RefEnd w A c cols T code e w' :=
  ⟨hb.trans (h.1.mono hb.size), by
    obtain ⟨vc, vr, h1, h2⟩ := h.2
    refine ⟨vc, vr, h1, ?_⟩
    rcases h2 with ⟨a, b, R', d, f⟩ | h2
    · exact .inl ⟨a, b, R', d.low hb.size, f⟩
    · exact .inr h2⟩
/-- what made says of its error -/
def madeC (n : Nat) (T : List (List Vl)) : Int := if 32 < n then 140 else if 100000 < (putsG ordR T).length then 140 else 0
theorem txR_take (R : List Rw) (j : Nat) : txR (R.take j) = (txR R).take j := by unfold txR; rw [List.map_take]
theorem take_snoc {R : List Rw} {j : Nat} {r : Rw} (hr : R[j]? = some r) : (txR R).take (j + 1) = (txR R).take j ++ [r.l] := by
  have h := txR_at hr
  obtain ⟨hj, e⟩ := List.getElem?_eq_some_iff.1 h
  rw [List.take_succ_eq_append_getElem hj, e]
set_option maxRecDepth 100000 in
set_option maxHeartbeats 2000000 in
theorem made_any (A : Option Addr) (c : Nat) (cols : List ByteArray) (A' : Option Addr) (c' : Nat) (R : List Rw) (w : World) (hR : SlR w w.heap.size A' R) (hl' : R.length ≤ 100000000) (hll : ∀ r ∈ R, r.l.length ≤ 1000000000) :
    Calls Try.prog 51 #[.slice A cols.length c, .slice A' R.length c'] w (RefEnd w A c cols (putsG ordR (txR R)) (madeC cols.length (txR R))) := by
  have HR := Lib.hid hR
  have HLL := Lib.hid hll
  clear hR hll
  have HB0 : Hid (Below w.heap.size w (w.alloc (.cells #[.slice none 0 0, .slice none 0 0] 34))) := (Below.refl _ _).alloc (Nat.le_refl _) _
  obtain ⟨w0, hw0⟩ : ∃ w0, w.alloc (.cells #[.slice none 0 0, .slice none 0 0] 34) = w0 := ⟨_, rfl⟩
  have c0 : w0.cell? ⟨w.heap.size, 0, none⟩ = some (.slice none 0 0) := by rw [← hw0, World.cell?_alloc_new]; rfl
  have c1 : w0.cell? ⟨w.heap.size, 1, none⟩ = some (.slice none 0 0) := by rw [← hw0, World.cell?_alloc_new]; rfl
  have f0 : w0.frozen? ⟨w.heap.size, 0, none⟩ = false := by rw [← hw0]; simp
  have f1 : w0.frozen? ⟨w.heap.size, 1, none⟩ = false := by rw [← hw0]; simp
  have hz0 : w0.heap.size = w.heap.size + 1 := by rw [← hw0]; simp
  have HBK : Hid (w0.heap[w.heap.size]? = some (.cells #[.slice none 0 0, .slice none 0 0] 34 (0, 0))) := by show _ = _; rw [← hw0]; exact heap_alloc_new w _
  rw [hw0] at HB0
  have HZ0 : Hid (w.heap.size < w0.heap.size) := by show _ < _; omega
  clear hz0
  by_cases h32 : 32 < cols.length
  · have h32i : (32 : Int) < (cols.length : Int) := by omega
    have HE : Hid (madeC cols.length (txR R) = 140) := by show _ = _; unfold madeC; rw [if_pos h32]
    have HC2 := Lib.hid (cells_two (v0 := .slice none 0 0) (v1 := .slice none 0 0) c0 c1)
    go_enter Try.func51, Try.ntmps51
    go_wp2
    refine bodyPost_ret (v := .tuple #[.agg #[.slice none 0 0, .slice none 0 0], .int .i64 140]) (by rw [results_ct rfl]; obtain ⟨x0, x1⟩ := HC2.out; clear c0 c1; go_simp) rfl ?_
    refine ⟨(HB0.out.setCell (p := ⟨w.heap.size, 0, none⟩) (Nat.le_refl _) _).setCell (p := ⟨w.heap.size, 1, none⟩) (Nat.le_refl _) _, _, _, ?_, .inr ⟨?_, rfl, rfl⟩⟩
    · rw [HE.out]
    · rw [HE.out]; decide
  · have h32i : ¬ (32 : Int) < (cols.length : Int) := by omega
    have HCF := Lib.hid (show w0.cell? ⟨w.heap.size, 0, none⟩ = some (.slice none 0 0) ∧ w0.cell? ⟨w.heap.size, 1, none⟩ = some (.slice none 0 0) ∧ w0.frozen? ⟨w.heap.size, 0, none⟩ = false ∧ w0.frozen? ⟨w.heap.size, 1, none⟩ = false from ⟨c0, c1, f0, f1⟩)
    clear c0 c1 f0 f1
    go_enter Try.func51, Try.ntmps51
    go_wp2
    go_loopg [6, 7] R.length (fun g x6 x7 wr => ∃ (j : Nat) (acc : List Rw), RdR wr w0.heap.size x6 acc ∧ x7 = .int .i64 j ∧ j + g = R.length ∧ acc.length ≤ j ∧ Hid (txR acc = putsG ordR ((txR R).take j)) ∧ Hid (Below w0.heap.size w0 wr))
    case atStart => exact ⟨0, [], ⟨none, 0, rfl, ⟨sl1_nil, fun r hr => by cases hr⟩, Nat.le_refl _, Nat.zero_le _, (fun _ => ⟨rfl, rfl⟩), fun h => absurd rfl h⟩, rfl, by omega, Nat.le_refl _, by show _ = _; simp [txR, putsG], Below.refl _ _⟩
    case round =>
      obtain ⟨j, acc, hrd, rfl, hj, hal, HT, HB⟩ := hrel
      obtain ⟨A1, c1, rfl, hsA, hl1, hc1, hn1, hfl1⟩ := hrd
      have HFL := Lib.hid hfl1
      have HSA := Lib.hid hsA
      have HN1 := Lib.hid hn1
      have HBW : Hid (Below w.heap.size w wr) := HB0.out.trans (HB.out.mono HB0.out.size)
      clear hsA hn1 hfl1
      cases gk with
      | zero =>
        have hji : ¬ (j : Int) < (R.length : Int) := by omega
        have HTT : Hid (txR acc = putsG ordR (txR R)) := by
          have := HT.out
          rw [List.take_of_length_le (by rw [txR_len]; omega)] at this
          exact this
        have hln : (putsG ordR (txR R)).length = acc.length := by rw [← HTT.out, txR_len]
        have c0 := (HB.out.cell (p := ⟨w.heap.size, 0, none⟩) HZ0.out).trans HCF.out.1
        have c1' := (HB.out.cell (p := ⟨w.heap.size, 1, none⟩) HZ0.out).trans HCF.out.2.1
        have f0 := (HB.out.frozen (p := ⟨w.heap.size, 0, none⟩) HZ0.out).trans HCF.out.2.2.1
        have f1 := (HB.out.frozen (p := ⟨w.heap.size, 1, none⟩) HZ0.out).trans HCF.out.2.2.2
        by_cases hq : 100000 < acc.length
        · have hqi : (100000 : Int) < (acc.length : Int) := by omega
          have HE : Hid (madeC cols.length (txR R) = 140) := by show _ = _; unfold madeC; rw [if_neg h32, if_pos (by omega)]
          have HC2 := Lib.hid (cells_two (v0 := .slice none 0 0) (v1 := .slice none 0 0) c0 c1')
          clear hln
          go_wp2
          refine bodyPost_ret (v := .tuple #[.agg #[.slice none 0 0, .slice none 0 0], .int .i64 140]) (by rw [results_ct rfl]; obtain ⟨x0, x1⟩ := HC2.out; clear c0 c1'; go_simp) rfl ?_
          refine ⟨(HBW.out.setCell (p := ⟨w.heap.size, 0, none⟩) (Nat.le_refl _) _).setCell (p := ⟨w.heap.size, 1, none⟩) (Nat.le_refl _) _, _, _, ?_, .inr ⟨?_, rfl, rfl⟩⟩
          · rw [HE.out]
          · rw [HE.out]; decide
        · have hqi : ¬ (100000 : Int) < (acc.length : Int) := by omega
          have HE : Hid (madeC cols.length (txR R) = 0) := by show _ = _; unfold madeC; rw [if_neg h32, if_neg (by omega)]
          have HC2 := Lib.hid (cells_two (v0 := .slice A cols.length c) (v1 := .slice A1 acc.length c1) c0 c1')
          clear hln
          go_wp2
          refine bodyPost_ret (v := .tuple #[.agg #[.slice A cols.length c, .slice A1 acc.length c1], .int .i64 0]) (by rw [results_ct rfl]; obtain ⟨x0, x1⟩ := HC2.out; clear c0 c1'; go_simp) rfl ?_
          refine ⟨(HBW.out.setCell (p := ⟨w.heap.size, 0, none⟩) (Nat.le_refl _) _).setCell (p := ⟨w.heap.size, 1, none⟩) (Nat.le_refl _) _, _, _, by rw [HE.out], .inl ⟨HE.out, rfl, acc, ?_, HTT.out⟩⟩
          have hrd : RdR wr w0.heap.size (.slice A1 acc.length c1) acc := ⟨A1, c1, rfl, HSA.out, hl1, hc1, HN1.out, HFL.out⟩
          refine (hrd.keep HZ0.out (fun r hr => rwN_rel (HSA.out.r r hr) ((HB.out.block _ HZ0.out).trans HBK.out)) ((kp_set _ _ _).trans (kp_set _ _ _))).low (Nat.le_of_lt HZ0.out)
      | succ g =>
        have hji : (j : Int) < (R.length : Int) := by omega
        have hjn : j < R.length := by omega
        obtain ⟨b, o, r, rfl, hb, hr, hp, hok⟩ := (HR.out.next HBW.out (Nat.le_refl _)).at_ hjn
        have HTK := Lib.hid (take_snoc hr)
        have HC := Lib.hid (refPut_any w0.heap.size A1 c1 acc r wr HSA.out (hok.more HBW.out.size) (by rw [HT.out]; exact putsG_ups ordR_is _) hl1 hc1 HN1.out (by omega) (HLL.out r (List.mem_of_getElem? hr)) HB.out.size HFL.out)
        clear hr hok
        go_wp2_with fail
        refine HC.out.mono ?_
        rintro e w2 ⟨v2, R2, rfl, hrd2, htx2, hb2⟩
        have HRD := Lib.hid hrd2
        have HB2 := Lib.hid (HB.out.trans (hb2.mono HB.out.size))
        have HTX : Hid (txR R2 = putsG ordR ((txR R).take (j + 1))) := by
          show _ = _
          rw [HTK.out, putsG_snoc, ← HT.out]; exact htx2
        have HLN : Hid (R2.length ≤ j + 1) := by
          have h := putG_len (o := ordR) (txR acc) r.l
          rw [← htx2, txR_len, txR_len] at h
          show _ ≤ _
          omega
        clear hrd2 htx2 hb2
        go_wp2
        go_roundg g
        case measure => omega
        case rel => exact ⟨j + 1, R2, HRD.out, by go_num, by omega, HLN.out, HTX.out, HB2.out⟩
end Go.Proofs.Ytafnhhbdcleihaa
