import Derived.Test.YtofmfainhflmmaaJZTold
import Derived.Test.YtofmfainhflmmaaJZTold2
import Derived.Test.YtofmfainhflmmaaJZOwn
import Derived.RangeFuncBox
import Derived.Test.YtofmfainhflmmaaJZPick
/-
  CONTRACTS: the document's made, Of.
-/
namespace Go.Proofs.Ytofmfainhflmmaa
open Go.RowKit

/-- a relation that the document answers, with its error -/
def RefEnd (w : World) (A : Option Addr) (c : Nat) (cols : List ByteArray) (T : List (List Vl)) (code : Int) (e : Ending) (w' : World) : Prop :=
  Below w.heap.size w w' ∧ ∃ vc vr, e = .returned (.tuple #[.agg #[vc, vr], .int .i64 code]) ∧
    ((code = 0 ∧ vc = .slice A cols.length c ∧ ∃ R', RdR w' w.heap.size vr R' ∧ txR R' = T) ∨ (code ≠ 0 ∧ vc = .slice none 0 0 ∧ vr = .slice none 0 0))
theorem RefEnd.trans {w w1 : World} {A : Option Addr} {c : Nat} {cols : List ByteArray} {T : List (List Vl)} {code : Int} {e : Ending} {w' : World} (h : RefEnd w1 A c cols T code e w') (hb : Below w.heap.size w w1) : RefEnd w A c cols T code e w' :=
  ⟨hb.trans (h.1.mono hb.size), by
    obtain ⟨vc, vr, h1, h2⟩ := h.2
    refine ⟨vc, vr, h1, ?_⟩
    rcases h2 with ⟨a, b, R', d, f⟩ | h2
    · exact .inl ⟨a, b, R', d.low hb.size, f⟩
    · exact .inr h2⟩
/-- what made says of its error -/
def madeC (n : Nat) (T : List (List Vl)) : Int := if 32 < n then 140 else if 100000 < (putsG ordR T).length then 140 else 0
theorem txR_take (R : List Rw) (j : Nat) : txR (R.take j) = (txR R).take j := by unfold txR; rw [List.map_take]
theorem take_snoc {R : List Rw} {j : Nat} {r : Rw} (hr : R[j]? = some r) : (txR R).take (j + 1) = (txR R).take j ++ [r.l] := by
  have h := txR_at hr
  obtain ⟨hj, e⟩ := List.getElem?_eq_some_iff.1 h
  rw [List.take_succ_eq_append_getElem hj, e]
set_option maxRecDepth 100000 in
set_option maxHeartbeats 2000000 in
theorem made_any (A : Option Addr) (c : Nat) (cols : List ByteArray) (A' : Option Addr) (c' : Nat) (R : List Rw) (w : World) (hR : SlR w w.heap.size A' R) (hl' : R.length ≤ 100000000) (hll : ∀ r ∈ R, r.l.length ≤ 1000000000) :
    Calls Try.prog 62 #[.slice A cols.length c, .slice A' R.length c'] w (RefEnd w A c cols (putsG ordR (txR R)) (madeC cols.length (txR R))) := by
  have HR := Lib.hid hR
  have HLL := Lib.hid hll
  clear hR hll
  have HB0 : Hid (Below w.heap.size w (w.alloc (.cells #[.slice none 0 0, .slice none 0 0] 43))) := (Below.refl _ _).alloc (Nat.le_refl _) _
  obtain ⟨w0, hw0⟩ : ∃ w0, w.alloc (.cells #[.slice none 0 0, .slice none 0 0] 43) = w0 := ⟨_, rfl⟩
  have c0 : w0.cell? ⟨w.heap.size, 0, none⟩ = some (.slice none 0 0) := by rw [← hw0, World.cell?_alloc_new]; rfl
  have c1 : w0.cell? ⟨w.heap.size, 1, none⟩ = some (.slice none 0 0) := by rw [← hw0, World.cell?_alloc_new]; rfl
  have f0 : w0.frozen? ⟨w.heap.size, 0, none⟩ = false := by rw [← hw0]; simp
  have f1 : w0.frozen? ⟨w.heap.size, 1, none⟩ = false := by rw [← hw0]; simp
  have hz0 : w0.heap.size = w.heap.size + 1 := by rw [← hw0]; simp
  have HBK : Hid (w0.heap[w.heap.size]? = some (.cells #[.slice none 0 0, .slice none 0 0] 43 (0, 0))) := by show _ = _; rw [← hw0]; exact heap_alloc_new w _
  rw [hw0] at HB0
  have HZ0 : Hid (w.heap.size < w0.heap.size) := by show _ < _; omega
  clear hz0
  by_cases h32 : 32 < cols.length
  · have h32i : (32 : Int) < (cols.length : Int) := by omega
    have HE : Hid (madeC cols.length (txR R) = 140) := by show _ = _; unfold madeC; rw [if_pos h32]
    have HC2 := Lib.hid (cells_two (v0 := .slice none 0 0) (v1 := .slice none 0 0) c0 c1)
    go_enter Try.func62, Try.ntmps62
    go_wp2
    refine bodyPost_ret (v := .tuple #[.agg #[.slice none 0 0, .slice none 0 0], .int .i64 140]) (by rw [results_ct rfl]; obtain ⟨x0, x1⟩ := HC2.out; clear c0 c1; go_simp) rfl ?_
    refine ⟨(HB0.out.setCell (p := ⟨w.heap.size, 0, none⟩) (Nat.le_refl _) _).setCell (p := ⟨w.heap.size, 1, none⟩) (Nat.le_refl _) _, _, _, ?_, .inr ⟨?_, rfl, rfl⟩⟩
    · rw [HE.out]
    · rw [HE.out]; decide
  · have h32i : ¬ (32 : Int) < (cols.length : Int) := by omega
    have HCF := Lib.hid (show w0.cell? ⟨w.heap.size, 0, none⟩ = some (.slice none 0 0) ∧ w0.cell? ⟨w.heap.size, 1, none⟩ = some (.slice none 0 0) ∧ w0.frozen? ⟨w.heap.size, 0, none⟩ = false ∧ w0.frozen? ⟨w.heap.size, 1, none⟩ = false from ⟨c0, c1, f0, f1⟩)
    clear c0 c1 f0 f1
    go_enter Try.func62, Try.ntmps62
    go_wp2
    go_loopg [6, 7] R.length (fun g x6 x7 wr => ∃ (j : Nat) (acc : List Rw), RdR wr w0.heap.size x6 acc ∧ x7 = .int .i64 j ∧ j + g = R.length ∧ acc.length ≤ j ∧ Hid (txR acc = putsG ordR ((txR R).take j)) ∧ Hid (Below w0.heap.size w0 wr))
    case atStart => exact ⟨0, [], ⟨none, 0, rfl, ⟨sl1_nil, fun r hr => by cases hr⟩, Nat.le_refl _, Nat.zero_le _, (fun _ => ⟨rfl, rfl⟩), fun h => absurd rfl h⟩, rfl, by omega, Nat.le_refl _, by show _ = _; simp [txR, putsG], Below.refl _ _⟩
    case round =>
      obtain ⟨j, acc, hrd, rfl, hj, hal, HT, HB⟩ := hrel
      obtain ⟨A1, c1, rfl, hsA, hl1, hc1, hn1, hfl1⟩ := hrd
      have HFL := Lib.hid hfl1
      have HSA := Lib.hid hsA
      have HN1 := Lib.hid hn1
      have HBW : Hid (Below w.heap.size w wr) := HB0.out.trans (HB.out.mono HB0.out.size)
      clear hsA hn1 hfl1
      cases gk with
      | zero =>
        have hji : ¬ (j : Int) < (R.length : Int) := by omega
        have HTT : Hid (txR acc = putsG ordR (txR R)) := by
          have := HT.out
          rw [List.take_of_length_le (by rw [txR_len]; omega)] at this
          exact this
        have hln : (putsG ordR (txR R)).length = acc.length := by rw [← HTT.out, txR_len]
        have c0 := (HB.out.cell (p := ⟨w.heap.size, 0, none⟩) HZ0.out).trans HCF.out.1
        have c1' := (HB.out.cell (p := ⟨w.heap.size, 1, none⟩) HZ0.out).trans HCF.out.2.1
        have f0 := (HB.out.frozen (p := ⟨w.heap.size, 0, none⟩) HZ0.out).trans HCF.out.2.2.1
        have f1 := (HB.out.frozen (p := ⟨w.heap.size, 1, none⟩) HZ0.out).trans HCF.out.2.2.2
        by_cases hq : 100000 < acc.length
        · have hqi : (100000 : Int) < (acc.length : Int) := by omega
          have HE : Hid (madeC cols.length (txR R) = 140) := by show _ = _; unfold madeC; rw [if_neg h32, if_pos (by omega)]
          have HC2 := Lib.hid (cells_two (v0 := .slice none 0 0) (v1 := .slice none 0 0) c0 c1')
          clear hln
          go_wp2
          refine bodyPost_ret (v := .tuple #[.agg #[.slice none 0 0, .slice none 0 0], .int .i64 140]) (by rw [results_ct rfl]; obtain ⟨x0, x1⟩ := HC2.out; clear c0 c1'; go_simp) rfl ?_
          refine ⟨(HBW.out.setCell (p := ⟨w.heap.size, 0, none⟩) (Nat.le_refl _) _).setCell (p := ⟨w.heap.size, 1, none⟩) (Nat.le_refl _) _, _, _, ?_, .inr ⟨?_, rfl, rfl⟩⟩
          · rw [HE.out]
          · rw [HE.out]; decide
        · have hqi : ¬ (100000 : Int) < (acc.length : Int) := by omega
          have HE : Hid (madeC cols.length (txR R) = 0) := by show _ = _; unfold madeC; rw [if_neg h32, if_neg (by omega)]
          have HC2 := Lib.hid (cells_two (v0 := .slice A cols.length c) (v1 := .slice A1 acc.length c1) c0 c1')
          clear hln
          go_wp2
          refine bodyPost_ret (v := .tuple #[.agg #[.slice A cols.length c, .slice A1 acc.length c1], .int .i64 0]) (by rw [results_ct rfl]; obtain ⟨x0, x1⟩ := HC2.out; clear c0 c1'; go_simp) rfl ?_
          refine ⟨(HBW.out.setCell (p := ⟨w.heap.size, 0, none⟩) (Nat.le_refl _) _).setCell (p := ⟨w.heap.size, 1, none⟩) (Nat.le_refl _) _, _, _, by rw [HE.out], .inl ⟨HE.out, rfl, acc, ?_, HTT.out⟩⟩
          have hrd : RdR wr w0.heap.size (.slice A1 acc.length c1) acc := ⟨A1, c1, rfl, HSA.out, hl1, hc1, HN1.out, HFL.out⟩
          refine (hrd.keep HZ0.out (fun r hr => rwN_rel (HSA.out.r r hr) ((HB.out.block _ HZ0.out).trans HBK.out)) ((kp_set _ _ _).trans (kp_set _ _ _))).low (Nat.le_of_lt HZ0.out)
      | succ g =>
        have hji : (j : Int) < (R.length : Int) := by omega
        have hjn : j < R.length := by omega
        obtain ⟨b, o, r, rfl, hb, hr, hp, hok⟩ := (HR.out.next HBW.out (Nat.le_refl _)).at_ hjn
        have HTK := Lib.hid (take_snoc hr)
        have HC := Lib.hid (refPut_any w0.heap.size A1 c1 acc r wr HSA.out (hok.more HBW.out.size) (by rw [HT.out]; exact putsG_ups ordR_is _) hl1 hc1 HN1.out (by omega) (HLL.out r (List.mem_of_getElem? hr)) HB.out.size HFL.out)
        clear hr hok
        go_wp2_with fail
        refine HC.out.mono ?_
        rintro e w2 ⟨v2, R2, rfl, hrd2, htx2, hb2⟩
        have HRD := Lib.hid hrd2
        have HB2 := Lib.hid (HB.out.trans (hb2.mono HB.out.size))
        have HTX : Hid (txR R2 = putsG ordR ((txR R).take (j + 1))) := by
          show _ = _
          rw [HTK.out, putsG_snoc, ← HT.out]; exact htx2
        have HLN : Hid (R2.length ≤ j + 1) := by
          have h := putG_len (o := ordR) (txR acc) r.l
          rw [← htx2, txR_len, txR_len] at h
          show _ ≤ _
          omega
        clear hrd2 htx2 hb2
        go_wp2
        go_roundg g
        case measure => omega
        case rel => exact ⟨j + 1, R2, HRD.out, by go_num, by omega, HLN.out, HTX.out, HB2.out⟩
end Go.Proofs.Ytofmfainhflmmaa

/-
  CONTRACT: the document's Of.
-/
namespace Go.Proofs.Ytofmfainhflmmaa
open Go.RowKit

theorem madeC_of {cols : List ByteArray} {R : List Rw} (h1 : colsB cols = true) (h2 : longB cols.length R = true) : madeC cols.length (txR R) = ofC cols R := by
  have h3 : cols.length ≤ 32 := by
    unfold colsB at h1
    rw [Bool.and_eq_true, decide_eq_true_eq] at h1
    exact h1.1
  unfold madeC ofC
  rw [if_neg (by omega), if_pos (show colsB cols = true ∧ longB cols.length R = true from ⟨h1, h2⟩)]
  by_cases h : (putsG ordR (txR R)).length ≤ 100000
  · rw [if_neg (by omega), if_pos h]
  · rw [if_pos (by omega), if_neg h]
/-- a relation of the document's, stored behind a call in a block that was there -/
theorem RefEnd.store {w wr w1 : World} {A : Option Addr} {c : Nat} {cols : List ByteArray} {T : List (List Vl)} {code : Int} {vc vr : Value} {g : Nat} {a0 a1 : Option Addr} {n0 n1 k0 k1 : Nat} {t : TypeId} {fr : Nat × Nat}
    (hw : Below w.heap.size w wr) (hg : w.heap.size ≤ g) (hgl : g < wr.heap.size) (hb : Below wr.heap.size wr w1) (hblk : wr.heap[g]? = some (.cells #[.slice a0 n0 k0, .slice a1 n1 k1] t fr))
    (h : (code = 0 ∧ vc = .slice A cols.length c ∧ ∃ R', RdR w1 wr.heap.size vr R' ∧ txR R' = T) ∨ (code ≠ 0 ∧ vc = .slice none 0 0 ∧ vr = .slice none 0 0)) :
    RefEnd w A c cols T code (.returned (.tuple #[.agg #[vc, vr], .int .i64 code])) ((w1.setCell ⟨g, 0, none⟩ vc).setCell ⟨g, 1, none⟩ vr) := by
  refine ⟨((hw.trans (hb.mono hw.size)).setCell (p := ⟨g, 0, none⟩) hg _).setCell (p := ⟨g, 1, none⟩) hg _, vc, vr, rfl, ?_⟩
  rcases h with ⟨h1, h2, R', h3, h4⟩ | h
  · refine .inl ⟨h1, h2, R', ?_, h4⟩
    have hblk2 := (hb.block g hgl).trans hblk
    have hk : ∀ r ∈ R', RwN w1 g r := fun r hr => by
      obtain ⟨_, _, _, hs, _⟩ := h3
      exact rwN_rel (hs.r r hr) hblk2
    exact (h3.keep hgl hk ((kp_set _ _ _).trans (kp_set _ _ _))).low hw.size
  · exact .inr h
/-- what is answered is a pair of slices -/
theorem RefEnd.slices {w w' : World} {A : Option Addr} {c : Nat} {cols : List ByteArray} {T : List (List Vl)} {code : Int} {vc vr : Value}
    (h : (code = 0 ∧ vc = .slice A cols.length c ∧ ∃ R', RdR w' w.heap.size vr R' ∧ txR R' = T) ∨ (code ≠ 0 ∧ vc = .slice none 0 0 ∧ vr = .slice none 0 0)) : (∃ a n k, vc = .slice a n k) ∧ ∃ a n k, vr = .slice a n k := by
  rcases h with ⟨_, h2, R', h3, _⟩ | ⟨_, h2, h3⟩
  · obtain ⟨A1, c1, e, _⟩ := h3
    exact ⟨⟨_, _, _, h2⟩, _, _, _, e⟩
  · exact ⟨⟨_, _, _, h2⟩, _, _, _, h3⟩

end Go.Proofs.Ytofmfainhflmmaa

/-
  THE LAW RowsOf.
-/
namespace Go.Proofs.Ytofmfainhflmmaa
open Go.RowKit

theorem longB_tx {n : Nat} {R R' : List Rw} (h : txR R' = txR R) : longB n R' = longB n R := by
  have e : ∀ R : List Rw, longB n R = (txR R).all fun l => decide (l.length = n) := fun R => by
    unfold longB txR
    rw [List.all_map]; rfl
  rw [e, e, h]
theorem ofC_tx {cols : List ByteArray} {R R' : List Rw} (h : txR R' = txR R) : ofC cols R' = ofC cols R := by
  unfold ofC
  rw [longB_tx h, h]
theorem small_tx {n : Nat} {R R' : List Rw} (h : txR R' = txR R) (hs : Small n R) : Small n R' := by
  obtain ⟨h1, h2, h3⟩ := hs
  have hl : R'.length = R.length := by rw [← txR_len, h, txR_len]
  refine ⟨h1, by omega, fun r hr => ?_⟩
  have hm : r.l ∈ txR R := by rw [← h]; exact List.mem_map.2 ⟨r, hr, rfl⟩
  obtain ⟨q, hq, e⟩ := List.mem_map.1 hm
  rw [← e]; exact h3 q hq
theorem ansR_nil (W : World) (B : Nat) : AnsR W B (.slice none 0 0) [] := (ownR_nil W B).ans
/-- what Of answers, as told wants it -/
theorem ofEnd_ans {w w' : World} {cols : List ByteArray} {R : List Rw} {vc vr : Value}
    (h : (ofC cols R = 0 ∧ OwnC w' w.heap.size vc cols ∧ ∃ R', OwnR w' w.heap.size vr R' ∧ txR R' = putsG ordR (txR R)) ∨ (ofC cols R ≠ 0 ∧ vc = .slice none 0 0 ∧ vr = .slice none 0 0)) :
    ∃ c2 R2, OwnC w' w.heap.size vc c2 ∧ AnsR w' w.heap.size vr R2 ∧ (∀ b1 b2 n1 k1 n2 k2, vc = .slice (some b1) n1 k1 → vr = .slice (some b2) n2 k2 → b1.block ≠ b2.block) ∧ c2 = (if ofC cols R = 0 then cols else []) ∧ txR R2 = (if ofC cols R = 0 then putsG ordR (txR R) else []) := by
  rcases h with ⟨h0, hc, R', hr, ht⟩ | ⟨h0, rfl, rfl⟩
  · refine ⟨cols, R', hc, hr.ans, fun b1 b2 n1 k1 n2 k2 e1 e2 e3 => ?_, by rw [if_pos h0], by rw [if_pos h0]; exact ht⟩
    subst e1 e2
    rcases hc.2 with ⟨ea, _⟩ | ⟨g, cap, cur, ea, _, hga, _⟩
    · cases ea
    · rcases hr.o.2 with ⟨eb, _⟩ | ⟨g', cap', cur', eb, _, hgb, _⟩
      · cases eb
      · injection ea with ea
        injection ea with ea
        injection eb with eb
        injection eb with eb
        rw [ea, eb] at e3
        simp only at e3
        subst e3
        rw [hga] at hgb
        injection hgb with hgb
        injection hgb with _ hgb _
        exact absurd hgb (by decide)
  · exact ⟨[], [], own1_nil _ _ _ _, ansR_nil _ _, (fun b1 b2 n1 k1 n2 k2 e1 => by cases e1), by rw [if_neg h0], by rw [if_neg h0]; rfl⟩
/-- what the document answers, as told wants it -/
theorem refEnd_ans {w w' : World} {A : Option Addr} {c : Nat} {cols : List ByteArray} {T : List (List Vl)} {code : Int} {vc vr : Value} (hs : SlC w' w'.heap.size A cols)
    (h : (code = 0 ∧ vc = .slice A cols.length c ∧ ∃ R', RdR w' w.heap.size vr R' ∧ txR R' = T) ∨ (code ≠ 0 ∧ vc = .slice none 0 0 ∧ vr = .slice none 0 0)) :
    ∃ A3 A4 k3 k4 c2 R2, vc = .slice A3 c2.length k3 ∧ vr = .slice A4 R2.length k4 ∧ SlC w' w'.heap.size A3 c2 ∧ SlR w' w'.heap.size A4 R2 ∧ c2 = (if code = 0 then cols else []) ∧ txR R2 = (if code = 0 then T else []) := by
  rcases h with ⟨h0, rfl, R', ⟨A4, k4, e, hr, _⟩, ht⟩ | ⟨h0, rfl, rfl⟩
  · exact ⟨A, A4, c, k4, cols, R', rfl, e, hs, hr, by rw [if_pos h0], by rw [if_pos h0]; exact ht⟩
  · exact ⟨none, none, 0, 0, [], [], rfl, rfl, sl1_nil, ⟨sl1_nil, fun r hr => by cases hr⟩, by rw [if_neg h0], by rw [if_neg h0]; rfl⟩

theorem AnsR.next {W W' : World} {B : Nat} {v : Value} {R : List Rw} (h : AnsR W B v R) (hb : Below W.heap.size W W') : AnsR W' B v R := by
  obtain ⟨⟨A, c, e, hs, h1, h2, h3, h4⟩, hi, hz⟩ := h
  exact ⟨⟨A, c, e, Sl1.up hs hb (Nat.le_refl _), h1, h2, h3, h4⟩, fun x hx => (hi x hx).next hb, hz⟩
end Go.Proofs.Ytofmfainhflmmaa

/-
  CONTRACT: the law's row (numbers and texts as a row), rel.
-/
namespace Go.Proofs.Ytofmfainhflmmaa
open Go.RowKit

/-- a number, as a value: 100 and above are texts -/
def vOf (n : Int) : Vl := if n = 100 then (3, 0, ⟨#[112]⟩) else if n = 101 then (3, 0, ⟨#[113]⟩) else (1, n, ⟨#[]⟩)
def i64V (n : Int) : Value := .int .i64 n
def rowOk (l : List Int) : Prop := ∀ n ∈ l, n = 100 ∨ n = 101 ∨ (0 ≤ n ∧ n < 100)
theorem rowL_take {l : List Int} {j : Nat} {n : Int} (h : l[j]? = some n) : (l.map vOf).take (j + 1) = (l.map vOf).take j ++ [vOf n] := by
  obtain ⟨hj, e⟩ := List.getElem?_eq_some_iff.1 h
  rw [List.take_succ_eq_append_getElem (by rw [List.length_map]; exact hj), List.getElem_map, e]
theorem rowL_z {l : List Int} (h : rowOk l) : zOk (l.map vOf) := fun v hv => by
  obtain ⟨n, hn, rfl⟩ := List.mem_map.1 hv
  rcases h n hn with rfl | rfl | ⟨h1, h2⟩
  · exact ⟨by decide, by decide, by decide⟩
  · exact ⟨by decide, by decide, by decide⟩
  · unfold vOf
    rw [if_neg (by omega), if_neg (by omega)]
    exact ⟨by show (0 : Nat) ≤ _; omega, by show (-9223372036854775808 : Int) ≤ n; omega, by show n ≤ (9223372036854775807 : Int); omega⟩
theorem conv1 (W : World) (b : UInt8) (n : Nat) (hn : W.heap.size = n) : (convert 107 9 (.slice (some ⟨n, 0, none⟩) 1 1)).run Try.prog (W.alloc (.cells #[.int .u8 (b.toNat : Int)] 5)) = .ok (.string ⟨#[b]⟩) (W.alloc (.cells #[.int .u8 (b.toNat : Int)] 5)) := by
  subst hn
  refine run_convert_bytes_back _ _ _ _ ⟨W.heap.size, 0, none⟩ 1 [b] Try.underlying107 Try.underlying5 Try.underlying9 (fun j hj => ?_)
  have hj0 : j = 0 := by simp at hj; exact hj
  subst hj0
  rw [addI, World.cell?_alloc_new]
  rfl
set_option maxRecDepth 100000 in
set_option maxHeartbeats 2000000 in
theorem row_any (A : Option Addr) (c : Nat) (l : List Int) (w : World) (hs : Sl1 i64V w w.heap.size A l) (hl : l.length ≤ 1000) (hr : rowOk l) :
    Calls Try.prog 35 #[.slice A l.length c] w fun e w' => (∃ v, e = .returned v ∧ OwnV w' w.heap.size v (l.map vOf)) ∧ Below w.heap.size w w' := by
  obtain ⟨i0, hi, hz0, hz1, hz2⟩ := info_parts infoV
  have hmx : 2000000000000 ≤ maxLen := by decide
  have HS := Lib.hid hs
  have HR := Lib.hid hr
  clear hs hr
  go_enter Try.func35, Try.ntmps35
  go_wp2
  go_loopg [3, 9] l.length (fun g x3 x9 wr => ∃ j : Nat, OwnV wr w.heap.size x3 ((l.map vOf).take j) ∧ x9 = .int .i64 j ∧ j + g = l.length ∧ Hid (Below w.heap.size w wr))
  case atStart => exact ⟨0, World.ownsRow_nil _ _ _ _, rfl, by omega, Below.refl _ _⟩
  case round =>
    obtain ⟨j, ho, rfl, hj, HB⟩ := hrel
    cases gk with
    | zero =>
      have hji : ¬ (j : Int) < (l.length : Int) := by omega
      have HE : Hid (OwnV wr w.heap.size u3 (l.map vOf)) := by
        have h := ho
        rw [List.take_of_length_le (by rw [List.length_map]; omega)] at h
        exact h
      clear ho
      go_wp2
      go_ret
      exact ⟨⟨_, rfl, HE.out⟩, HB.out⟩
    | succ g =>
      have hji : (j : Int) < (l.length : Int) := by omega
      have hjn : j < l.length := by omega
      obtain ⟨b1, o1, rfl, hb1, p1⟩ := (HS.out.up HB.out (Nat.le_refl _)).at_ hjn
      have he1 : l[j]? = some l[j] := List.getElem?_eq_getElem hjn
      have hm1 := HR.out _ (List.getElem_mem hjn)
      obtain ⟨n, hn⟩ : ∃ n, l[j] = n := ⟨_, rfl⟩
      rw [hn] at p1 he1 hm1
      have HTK := Lib.hid (rowL_take he1)
      have HTL : Hid (((l.map vOf).take j).length = j) := List.length_take_of_le (by rw [List.length_map]; omega)
      have HO := Lib.hid ho
      unfold i64V at p1
      clear ho he1 hn
      rcases hm1 with rfl | rfl | ⟨h1, h2⟩
      · have HV : Hid (vOf 100 = (3, 0, ⟨#[112]⟩)) := rfl
        have hk := conv1 (wr.alloc (.cells #[.int .i64 1, .int .i64 100, .string ⟨#[]⟩] 24)) 112 (wr.heap.size + 1) (by simp)
        rw [show (((112 : UInt8).toNat : Nat) : Int) = 112 from rfl] at hk
        have HB2 := Lib.hid ((HB.out.alloc HB.out.size (.cells #[.int .i64 3, .int .i64 0, .string ⟨#[112]⟩] 24)).alloc (by rw [World.size_alloc]; exact Nat.le_succ_of_le HB.out.size) (.cells #[.int .u8 112] 5))
        have HOA : Hid (OwnV (((wr.alloc (.cells #[.int .i64 3, .int .i64 0, .string ⟨#[112]⟩] 24)).alloc (.cells #[.int .u8 112] 5)).alloc (.cells #[.int .i64 3, .int .i64 0, .string ⟨#[112]⟩] 24)) w.heap.size u3 ((l.map vOf).take j)) := owns_next (owns_next (owns_next HO.out ((Below.refl _ _).alloc (Nat.le_refl _) _)) ((Below.refl _ _).alloc (Nat.le_refl _) _)) ((Below.refl _ _).alloc (Nat.le_refl _) _)
        have HBA := Lib.hid (HB2.out.alloc HB2.out.size (.cells #[.int .i64 3, .int .i64 0, .string ⟨#[112]⟩] 24))
        have HLC := Lib.hid (litV ((wr.alloc (.cells #[.int .i64 3, .int .i64 0, .string ⟨#[112]⟩] 24)).alloc (.cells #[.int .u8 112] 5)) (vOf 100))
        rw [HV.out, World.size_alloc, World.size_alloc] at HLC
        rw [← HV.out] at HLC
        go_wp2_with (at_builtin; refine wpList_append_any rfl _ _ 46 rfl w.heap.size 24 i0 (.agg #[.int .i64 0, .int .i64 0, .string ⟨#[]⟩]) 3 32 Try.underlying46 hi hz0 hz1 hz2 rfl (by decide) _ _ _ rfl HOA.out (some ⟨wr.heap.size + 1 + 1, 0, none⟩) 1 1 ([vOf 100].flatMap cellsV) rfl rfl (fun h => by cases h) HLC.out (cellsV_all _) (by rw [HTL.out]; omega) (by rw [HTL.out]; omega) HBA.out.size ?_; intro v1 w3 hown hgrow; have HV1 : Hid (OwnV w3 w.heap.size v1 ((l.map vOf).take j ++ [vOf 100])) := ownV_of hown; have HB3 := Lib.hid (HBA.out.trans (below_owns HOA.out hgrow HBA.out.size)); clear hown hgrow)
        go_roundg g
        case measure => omega
        case rel => exact ⟨j + 1, by rw [HTK.out]; exact HV1.out, by go_num, by omega, HB3.out⟩
      · have HV : Hid (vOf 101 = (3, 0, ⟨#[113]⟩)) := rfl
        have hk := conv1 (wr.alloc (.cells #[.int .i64 1, .int .i64 101, .string ⟨#[]⟩] 24)) 113 (wr.heap.size + 1) (by simp)
        rw [show (((113 : UInt8).toNat : Nat) : Int) = 113 from rfl] at hk
        have HB2 := Lib.hid ((HB.out.alloc HB.out.size (.cells #[.int .i64 3, .int .i64 0, .string ⟨#[113]⟩] 24)).alloc (by rw [World.size_alloc]; exact Nat.le_succ_of_le HB.out.size) (.cells #[.int .u8 113] 5))
        have HOA : Hid (OwnV (((wr.alloc (.cells #[.int .i64 3, .int .i64 0, .string ⟨#[113]⟩] 24)).alloc (.cells #[.int .u8 113] 5)).alloc (.cells #[.int .i64 3, .int .i64 0, .string ⟨#[113]⟩] 24)) w.heap.size u3 ((l.map vOf).take j)) := owns_next (owns_next (owns_next HO.out ((Below.refl _ _).alloc (Nat.le_refl _) _)) ((Below.refl _ _).alloc (Nat.le_refl _) _)) ((Below.refl _ _).alloc (Nat.le_refl _) _)
        have HBA := Lib.hid (HB2.out.alloc HB2.out.size (.cells #[.int .i64 3, .int .i64 0, .string ⟨#[113]⟩] 24))
        have HLC := Lib.hid (litV ((wr.alloc (.cells #[.int .i64 3, .int .i64 0, .string ⟨#[113]⟩] 24)).alloc (.cells #[.int .u8 113] 5)) (vOf 101))
        rw [HV.out, World.size_alloc, World.size_alloc] at HLC
        rw [← HV.out] at HLC
        go_wp2_with (at_builtin; refine wpList_append_any rfl _ _ 46 rfl w.heap.size 24 i0 (.agg #[.int .i64 0, .int .i64 0, .string ⟨#[]⟩]) 3 32 Try.underlying46 hi hz0 hz1 hz2 rfl (by decide) _ _ _ rfl HOA.out (some ⟨wr.heap.size + 1 + 1, 0, none⟩) 1 1 ([vOf 101].flatMap cellsV) rfl rfl (fun h => by cases h) HLC.out (cellsV_all _) (by rw [HTL.out]; omega) (by rw [HTL.out]; omega) HBA.out.size ?_; intro v1 w3 hown hgrow; have HV1 : Hid (OwnV w3 w.heap.size v1 ((l.map vOf).take j ++ [vOf 101])) := ownV_of hown; have HB3 := Lib.hid (HBA.out.trans (below_owns HOA.out hgrow HBA.out.size)); clear hown hgrow)
        go_roundg g
        case measure => omega
        case rel => exact ⟨j + 1, by rw [HTK.out]; exact HV1.out, by go_num, by omega, HB3.out⟩
      · have hn1 : ¬ (100 : Int) ≤ n := by omega
        have HV : Hid (vOf n = (1, n, ⟨#[]⟩)) := by show _ = _; unfold vOf; rw [if_neg (by omega), if_neg (by omega)]
        have HOA : Hid (OwnV ((wr.alloc (.cells #[.int .i64 1, .int .i64 n, .string ⟨#[]⟩] 24)).alloc (.cells #[.int .i64 1, .int .i64 n, .string ⟨#[]⟩] 24)) w.heap.size u3 ((l.map vOf).take j)) := owns_next (owns_next HO.out ((Below.refl _ _).alloc (Nat.le_refl _) _)) ((Below.refl _ _).alloc (Nat.le_refl _) _)
        have HBA := Lib.hid ((HB.out.alloc HB.out.size (.cells #[.int .i64 1, .int .i64 n, .string ⟨#[]⟩] 24)).alloc (by rw [World.size_alloc]; exact Nat.le_succ_of_le HB.out.size) (.cells #[.int .i64 1, .int .i64 n, .string ⟨#[]⟩] 24))
        have HLC := Lib.hid (show ∀ (ad : Addr), some (⟨wr.heap.size + 1, 0, none⟩ : Addr) = some ad → ∀ (j : Nat) (u : Value), ([vOf n].flatMap cellsV)[j]? = some u → ((wr.alloc (.cells #[.int .i64 1, .int .i64 n, .string ⟨#[]⟩] 24)).alloc (.cells #[.int .i64 1, .int .i64 n, .string ⟨#[]⟩] 24)).cell? (ad.add j) = some u by
          rw [HV.out]
          have h := litV (wr.alloc (.cells #[.int .i64 1, .int .i64 n, .string ⟨#[]⟩] 24)) (1, n, ⟨#[]⟩)
          rw [World.size_alloc] at h
          exact h)
        go_wp2_with (at_builtin; refine wpList_append_any rfl _ _ 46 rfl w.heap.size 24 i0 (.agg #[.int .i64 0, .int .i64 0, .string ⟨#[]⟩]) 3 32 Try.underlying46 hi hz0 hz1 hz2 rfl (by decide) _ _ _ rfl HOA.out (some ⟨wr.heap.size + 1, 0, none⟩) 1 1 ([vOf n].flatMap cellsV) rfl rfl (fun h => by cases h) HLC.out (cellsV_all _) (by rw [HTL.out]; omega) (by rw [HTL.out]; omega) HBA.out.size ?_; intro v1 w3 hown hgrow; have HV1 : Hid (OwnV w3 w.heap.size v1 ((l.map vOf).take j ++ [vOf n])) := ownV_of hown; have HB3 := Lib.hid (HBA.out.trans (below_owns HOA.out hgrow HBA.out.size)); clear hown hgrow)
        go_roundg g
        case measure => omega
        case rel => exact ⟨j + 1, by rw [HTK.out]; exact HV1.out, by go_num, by omega, HB3.out⟩
theorem results_c4 {fn : Func} {p : Tmp} {ty : TypeId} (h : fn.results = #[.cell p ty]) (tmps : Array Value) (P : Program) (w : World) :
    (results fn tmps).run P w = ((asAddr (tmps.getD p undef)).run P w).andThen fun a w₁ => (loadVar ty a).run P w₁ := by
  simp only [results, h]
  simp [Sem.run_bind]
/-- a relation of the call's own -/
def RelN (w : World) (cols : List ByteArray) (T : List (List Vl)) (e : Ending) (w' : World) : Prop :=
  Below w.heap.size w w' ∧ ∃ A5 c5 A6 c6 R', e = .returned (.agg #[.slice A5 cols.length c5, .slice A6 (List.length R') c6]) ∧ OwnC w' w.heap.size (.slice A5 cols.length c5) cols ∧ OwnR w' w.heap.size (.slice A6 R'.length c6) R' ∧ txR R' = T
set_option maxRecDepth 100000 in
set_option maxHeartbeats 2000000 in
theorem rel_any (A : Option Addr) (c : Nat) (cols : List ByteArray) (A' : Option Addr) (c' : Nat) (R : List Rw) (w : World) (hc : SlC w w.heap.size A cols) (hR : SlR w w.heap.size A' R) (hn : A = none → cols.length = 0 ∧ c = 0) (hn' : A' = none → R.length = 0 ∧ c' = 0) (hcc : cols.length ≤ c)
    (hl : cols.length ≤ 1000000000000) (hl' : R.length ≤ 1000000000000) (hll : ∀ r ∈ R, r.l.length ≤ 1000000000000) (h0 : ofC cols R = 0) :
    Calls Try.prog 33 #[.slice A cols.length c, .slice A' R.length c'] w (RelN w cols (putsG ordR (txR R))) := by
  obtain ⟨w0, hw0⟩ : ∃ w0, w.alloc (.cells #[.slice none 0 0, .slice none 0 0] 34) = w0 := ⟨_, rfl⟩
  have hb0 : Below w.heap.size w w0 := by rw [← hw0]; exact (Below.refl _ _).alloc (Nat.le_refl _) _
  have hz0 : w0.heap.size = w.heap.size + 1 := by rw [← hw0]; simp
  have hk0 : w0.heap[w.heap.size]? = some (.cells #[.slice none 0 0, .slice none 0 0] 34 (0, 0)) := by rw [← hw0]; exact World.alloc_heap_new _ _
  have HOF := Lib.hid (of_any A c cols A' c' R w0 (Sl1.up hc hb0 (Nat.le_refl _)) (hR.up hb0 (Nat.le_refl _)) hn hn' hcc hl hl' hll)
  have HB0 := Lib.hid (And.intro hb0 (And.intro hz0 hk0))
  clear hc hR hn hn' hb0 hz0 hk0 hll
  go_enter Try.func33, Try.ntmps33
  go_wp2_with fail
  refine HOF.out.mono ?_
  rintro e w1 ⟨hb1, vc, vr, rfl, hq⟩
  obtain ⟨_, hoc, R', hor, htx⟩ : ofC cols R = 0 ∧ OwnC w1 w0.heap.size vc cols ∧ ∃ R', OwnR w1 w0.heap.size vr R' ∧ txR R' = putsG ordR (txR R) := by
    rcases hq with h | h
    · exact h
    · exact absurd h0 h.1
  obtain ⟨A5, c5, rfl, _⟩ := Own1.form hoc
  obtain ⟨A6, c6, rfl, _⟩ := hor.form
  have hk1 := (hb1.block w.heap.size (by rw [HB0.out.2.1]; omega)).trans HB0.out.2.2
  have hz1 : w.heap.size + 1 ≤ w1.heap.size := by rw [← HB0.out.2.1]; exact hb1.size
  obtain ⟨x0, x1, f0, f1⟩ : w1.cell? ⟨w.heap.size, 0, none⟩ = some (.slice none 0 0) ∧ w1.cell? ⟨w.heap.size, 1, none⟩ = some (.slice none 0 0) ∧ w1.frozen? ⟨w.heap.size, 0, none⟩ = false ∧ w1.frozen? ⟨w.heap.size, 1, none⟩ = false := by
    refine ⟨?_, ?_, ?_, ?_⟩
    · simp [World.cell?, hk1]
    · simp [World.cell?, hk1]
    · simp [World.frozen?, hk1]
    · simp [World.frozen?, hk1]
  have HO := Lib.hid (And.intro hoc (And.intro hor (And.intro htx (HB0.out.1.trans (hb1.mono HB0.out.1.size)))))
  have HZ := Lib.hid (And.intro HB0.out.2.1 hz1)
  clear hoc hor htx hq hk1 hb1 HOF hw0
  obtain ⟨w2, hw2⟩ : ∃ w2, w1.alloc (.cells #[.slice A5 cols.length c5, .slice A6 R'.length c6] 34) = w2 := ⟨_, rfl⟩
  have hb2 : Below w1.heap.size w1 w2 := by rw [← hw2]; exact (Below.refl _ _).alloc (Nat.le_refl _) _
  have y0 := (hb2.cell (p := ⟨w.heap.size, 0, none⟩) (by show w.heap.size < _; omega)).trans x0
  have y1 := (hb2.cell (p := ⟨w.heap.size, 1, none⟩) (by show w.heap.size < _; omega)).trans x1
  have g0 := (hb2.frozen (p := ⟨w.heap.size, 0, none⟩) (by show w.heap.size < _; omega)).trans f0
  have g1 := (hb2.frozen (p := ⟨w.heap.size, 1, none⟩) (by show w.heap.size < _; omega)).trans f1
  have z0 : w2.cell? ⟨w1.heap.size, 0, none⟩ = some (.slice A5 cols.length c5) := by rw [← hw2, World.cell?_alloc_new]; rfl
  have z1 : w2.cell? ⟨w1.heap.size, 1, none⟩ = some (.slice A6 R'.length c6) := by rw [← hw2, World.cell?_alloc_new]; rfl
  have HC2 := Lib.hid (cells_two (v0 := .slice A5 cols.length c5) (v1 := .slice A6 R'.length c6) y0 y1)
  have HB2 := Lib.hid hb2
  clear x0 x1 f0 f1 hz1 hb2
  go_wp2_with fail
  try rw [hw2]
  go_wp2
  refine bodyPost_ret (v := .agg #[.slice A5 cols.length c5, .slice A6 R'.length c6]) (by rw [results_c4 rfl]; obtain ⟨q0, q1⟩ := HC2.out; clear y0 y1 z0 z1 hw2; go_simp) rfl ?_
  have hbw := ((HO.out.2.2.2.trans (HB2.out.mono HO.out.2.2.2.size)).setCell (p := ⟨w.heap.size, 0, none⟩) (Nat.le_refl _) (.slice A5 cols.length c5)).setCell (p := ⟨w.heap.size, 1, none⟩) (Nat.le_refl _) (.slice A6 R'.length c6)
  have h9 := HZ.out.1
  exact ⟨hbw, A5, c5, A6, c6, R', rfl, Own1.low (owns_set (owns_set (owns_next HO.out.1 HB2.out) (by omega) 0 _) (by omega) 1 _) (by omega), (((HO.out.2.1.next HB2.out).set (by omega) 0 _).set (by omega) 1 _).low (by omega), HO.out.2.2.1⟩
end Go.Proofs.Ytofmfainhflmmaa

/-
  CONTRACTS: the chapter's relations, as the law makes them.
-/
namespace Go.Proofs.Ytofmfainhflmmaa
open Go.RowKit

theorem sl1_lit {α : Type} (e : α → Value) (t : TypeId) (W : World) (l : List α) : Sl1 e (W.alloc (.cells (l.map e).toArray t)) (W.alloc (.cells (l.map e).toArray t)).heap.size (some ⟨W.heap.size, 0, none⟩) l := fun _ => by
  refine ⟨W.heap.size, 0, rfl, by simp, fun j z hz => ?_⟩
  rw [World.cell?_alloc_new, Nat.zero_add]
  simp [hz]
theorem ofC_few {cols : List ByteArray} {R : List Rw} (h1 : cols.Nodup) (h2 : cols.length ≤ 32) (h3 : ∀ r ∈ R, r.l.length = cols.length) (h4 : R.length ≤ 100000) : ofC cols R = 0 := by
  have a : colsB cols = true := by unfold colsB onceB; simp [h1, h2]
  have b : longB cols.length R = true := by
    unfold longB
    simp only [List.all_eq_true, decide_eq_true_eq]
    exact h3
  have hl := putsG_len (o := ordR) (txR R)
  rw [txR_len] at hl
  unfold ofC
  rw [if_pos ⟨a, b⟩, if_pos (by omega)]
set_option maxRecDepth 100000 in
set_option maxHeartbeats 400000 in
theorem one_any (T : List (List Vl)) (hT : Hid (putsG ordR [[vOf 1, vOf 3], [vOf 2, vOf 2], [vOf 1, vOf 2]] = T)) (w : World) : Calls Try.prog 30 #[] w (RelN w ([⟨#[120]⟩, ⟨#[121]⟩] : List ByteArray) T) := by
  obtain ⟨w0, hw0⟩ : ∃ w0, w.alloc (.cells #[.slice none 0 0, .slice none 0 0] 34) = w0 := ⟨_, rfl⟩
  have hb0 : Below w.heap.size w w0 := by rw [← hw0]; exact (Below.refl _ _).alloc (Nat.le_refl _) _
  have hz0 : w0.heap.size = w.heap.size + 1 := by rw [← hw0]; simp
  have hk0 : w0.heap[w.heap.size]? = some (.cells #[.slice none 0 0, .slice none 0 0] 34 (0, 0)) := by rw [← hw0]; exact World.alloc_heap_new _ _
  obtain ⟨wc, hwc⟩ : ∃ wc, w0.alloc (.cells #[.string ⟨#[120]⟩, .string ⟨#[121]⟩] 9) = wc := ⟨_, rfl⟩
  have hbc : Below w0.heap.size w0 wc := by rw [← hwc]; exact (Below.refl _ _).alloc (Nat.le_refl _) _
  have hsc : SlC wc wc.heap.size (some ⟨w0.heap.size, 0, none⟩) ([⟨#[120]⟩, ⟨#[121]⟩] : List ByteArray) := by rw [← hwc]; exact sl1_lit strV 9 w0 _
  obtain ⟨wi0, hwi0⟩ : ∃ X, wc.alloc (.cells #[.int .i64 1, .int .i64 3] 2) = X := ⟨_, rfl⟩
  have hbi0 : Below wc.heap.size wc wi0 := by rw [← hwi0]; exact (Below.refl _ _).alloc (Nat.le_refl _) _
  have HR0 := Lib.hid (row_any (some ⟨wc.heap.size, 0, none⟩) 2 ([1, 3] : List Int) wi0 (by rw [← hwi0]; exact sl1_lit i64V 2 wc _) (by simp) (by unfold rowOk; decide))
  have HX := Lib.hid (And.intro hb0 (And.intro hz0 (And.intro hk0 (And.intro hbc hsc))))
  clear hb0 hz0 hk0 hbc hsc
  go_enter Try.func30, Try.ntmps30
  go_wp2_with fail
  try rw [hwi0]
  refine HR0.out.mono ?_
  rintro e w1 ⟨⟨v0, rfl, ho0⟩, hb1⟩
  obtain ⟨A0, c0, rfl, _⟩ := ho0.form
  have HO0 := Lib.hid (And.intro ho0 (And.intro hbi0 hb1))
  clear ho0 hbi0 hb1 hwi0 HR0
  obtain ⟨wi1, hwi1⟩ : ∃ X, w1.alloc (.cells #[.int .i64 2, .int .i64 2] 2) = X := ⟨_, rfl⟩
  have hbi1 : Below w1.heap.size w1 wi1 := by rw [← hwi1]; exact (Below.refl _ _).alloc (Nat.le_refl _) _
  have HR1 := Lib.hid (row_any (some ⟨w1.heap.size, 0, none⟩) 2 ([2, 2] : List Int) wi1 (by rw [← hwi1]; exact sl1_lit i64V 2 w1 _) (by simp) (by unfold rowOk; decide))
  go_wp2_with fail
  try rw [hwi1]
  refine HR1.out.mono ?_
  rintro e w2 ⟨⟨v1, rfl, ho1⟩, hb2⟩
  obtain ⟨A1, c1, rfl, _⟩ := ho1.form
  have HO1 := Lib.hid (And.intro ho1 (And.intro hbi1 hb2))
  clear ho1 hbi1 hb2 hwi1 HR1
  obtain ⟨wi2, hwi2⟩ : ∃ X, w2.alloc (.cells #[.int .i64 1, .int .i64 2] 2) = X := ⟨_, rfl⟩
  have hbi2 : Below w2.heap.size w2 wi2 := by rw [← hwi2]; exact (Below.refl _ _).alloc (Nat.le_refl _) _
  have HR2 := Lib.hid (row_any (some ⟨w2.heap.size, 0, none⟩) 2 ([1, 2] : List Int) wi2 (by rw [← hwi2]; exact sl1_lit i64V 2 w2 _) (by simp) (by unfold rowOk; decide))
  go_wp2_with fail
  try rw [hwi2]
  refine HR2.out.mono ?_
  rintro e w3 ⟨⟨v2, rfl, ho2⟩, hb3⟩
  obtain ⟨A2, c2, rfl, _⟩ := ho2.form
  have HO2 := Lib.hid (And.intro ho2 (And.intro hbi2 hb3))
  clear ho2 hbi2 hb3 hwi2 HR2
  obtain ⟨R, hRdef⟩ : ∃ R : List Rw, R = [⟨A0, c0, [vOf 1, vOf 3]⟩, ⟨A1, c1, [vOf 2, vOf 2]⟩, ⟨A2, c2, [vOf 1, vOf 2]⟩] := ⟨_, rfl⟩
  obtain ⟨wl, hwl⟩ : ∃ X, w3.alloc (.cells #[.slice A0 2 c0, .slice A1 2 c1, .slice A2 2 c2] 46) = X := ⟨_, rfl⟩
  have hbl : Below w3.heap.size w3 wl := by rw [← hwl]; exact (Below.refl _ _).alloc (Nat.le_refl _) _
  have hch0 : Below wc.heap.size wc wl := HO0.out.2.1.trans ((HO0.out.2.2.trans ((HO1.out.2.1.trans ((HO1.out.2.2.trans ((HO2.out.2.1.trans ((HO2.out.2.2.trans ((hbl).mono HO2.out.2.2.size)).mono HO2.out.2.1.size)).mono HO1.out.2.2.size)).mono HO1.out.2.1.size)).mono HO0.out.2.2.size)).mono HO0.out.2.1.size)
  have hr0 : RwOk wl wl.heap.size ⟨A0, c0, [vOf 1, vOf 3]⟩ := (OwnV.rwOk (r := ⟨A0, c0, [vOf 1, vOf 3]⟩) HO0.out.1 (rowL_z (l := [1, 3]) (by unfold rowOk; decide))).up (HO1.out.2.1.trans ((HO1.out.2.2.trans ((HO2.out.2.1.trans ((HO2.out.2.2.trans ((hbl).mono HO2.out.2.2.size)).mono HO2.out.2.1.size)).mono HO1.out.2.2.size)).mono HO1.out.2.1.size)) (Nat.le_refl _)
  have hr1 : RwOk wl wl.heap.size ⟨A1, c1, [vOf 2, vOf 2]⟩ := (OwnV.rwOk (r := ⟨A1, c1, [vOf 2, vOf 2]⟩) HO1.out.1 (rowL_z (l := [2, 2]) (by unfold rowOk; decide))).up (HO2.out.2.1.trans ((HO2.out.2.2.trans ((hbl).mono HO2.out.2.2.size)).mono HO2.out.2.1.size)) (Nat.le_refl _)
  have hr2 : RwOk wl wl.heap.size ⟨A2, c2, [vOf 1, vOf 2]⟩ := (OwnV.rwOk (r := ⟨A2, c2, [vOf 1, vOf 2]⟩) HO2.out.1 (rowL_z (l := [1, 2]) (by unfold rowOk; decide))).up (hbl) (Nat.le_refl _)
  have hsr : SlR wl wl.heap.size (some ⟨w3.heap.size, 0, none⟩) R := ⟨by rw [hRdef, ← hwl]; exact sl1_lit cellR 46 w3 [⟨A0, c0, [vOf 1, vOf 3]⟩, ⟨A1, c1, [vOf 2, vOf 2]⟩, ⟨A2, c2, [vOf 1, vOf 2]⟩], fun r hr => by
    rw [hRdef] at hr
    simp only [List.mem_cons, List.not_mem_nil, or_false] at hr
    rcases hr with rfl | rfl | rfl
    all_goals assumption⟩
  have hlen : R.length = 3 := by rw [hRdef]; rfl
  have hrl : ∀ r ∈ R, r.l.length = 2 := fun r hr => by
    rw [hRdef] at hr
    simp only [List.mem_cons, List.not_mem_nil, or_false] at hr
    rcases hr with rfl | rfl | rfl <;> rfl
  have htx : txR R = [[vOf 1, vOf 3], [vOf 2, vOf 2], [vOf 1, vOf 2]] := by rw [hRdef]; rfl
  have HRL := Lib.hid (rel_any (some ⟨w0.heap.size, 0, none⟩) 2 [⟨#[120]⟩, ⟨#[121]⟩] (some ⟨w3.heap.size, 0, none⟩) 3 R wl (Sl1.up HX.out.2.2.2.2 hch0 (Nat.le_refl _)) hsr (fun h => by cases h) (fun h => by cases h) (by decide) (by decide) (by omega) (fun r hr => by rw [hrl r hr]; omega) (ofC_few (by decide) (by decide) (fun r hr => hrl r hr) (by omega)))
  rw [htx, hlen, hT.out] at HRL
  have HCH := Lib.hid (And.intro hch0 (HX.out.2.2.2.1))
  clear hsr hrl htx hlen hch0 hbl hr0 hr1 hr2 hRdef
  go_wp2_with fail
  try rw [hwl]
  refine HRL.out.mono ?_
  rintro e w9 ⟨hb9, A5, c5, A6, c6, R9, rfl, hoc, hor, ht9⟩
  have hbz : Below w0.heap.size w0 w9 := HCH.out.2.trans ((HCH.out.1.trans (hb9.mono HCH.out.1.size)).mono HCH.out.2.size)
  have hk9 := (hbz.block w.heap.size (by rw [HX.out.2.1]; omega)).trans HX.out.2.2.1
  have hzl : w.heap.size + 1 ≤ wl.heap.size := by rw [← HX.out.2.1]; exact Nat.le_trans HCH.out.2.size HCH.out.1.size
  obtain ⟨x0, x1, f0, f1⟩ : w9.cell? ⟨w.heap.size, 0, none⟩ = some (.slice none 0 0) ∧ w9.cell? ⟨w.heap.size, 1, none⟩ = some (.slice none 0 0) ∧ w9.frozen? ⟨w.heap.size, 0, none⟩ = false ∧ w9.frozen? ⟨w.heap.size, 1, none⟩ = false := by
    refine ⟨?_, ?_, ?_, ?_⟩
    · simp [World.cell?, hk9]
    · simp [World.cell?, hk9]
    · simp [World.frozen?, hk9]
    · simp [World.frozen?, hk9]
  have HF := Lib.hid (And.intro hoc (And.intro hor (And.intro ht9 (And.intro (HX.out.1.trans (hbz.mono HX.out.1.size)) hzl))))
  have HC2 := Lib.hid (cells_two (v0 := .slice A5 2 c5) (v1 := .slice A6 R9.length c6) x0 x1)
  clear hoc hor ht9 hbz hk9 hzl hb9 HRL hw0 hwc hwl
  go_wp2
  refine bodyPost_ret (v := .agg #[.slice A5 2 c5, .slice A6 R9.length c6]) (by rw [results_c4 rfl]; obtain ⟨q0, q1⟩ := HC2.out; clear x0 x1 f0 f1; go_simp) rfl ?_
  have h9 := HF.out.2.2.2.2
  exact ⟨(HF.out.2.2.2.1.setCell (p := ⟨w.heap.size, 0, none⟩) (Nat.le_refl _) _).setCell (p := ⟨w.heap.size, 1, none⟩) (Nat.le_refl _) _, A5, c5, A6, c6, R9, rfl, Own1.low (owns_set (owns_set HF.out.1 (by omega) 0 _) (by omega) 1 _) (by omega), ((HF.out.2.1.set (by omega) 0 _).set (by omega) 1 _).low (by omega), HF.out.2.2.1⟩
set_option maxRecDepth 100000 in
set_option maxHeartbeats 400000 in
theorem two_any (T : List (List Vl)) (hT : Hid (putsG ordR [[vOf 4, vOf 101], [vOf 2, vOf 100]] = T)) (w : World) : Calls Try.prog 31 #[] w (RelN w ([⟨#[121]⟩, ⟨#[122]⟩] : List ByteArray) T) := by
  obtain ⟨w0, hw0⟩ : ∃ w0, w.alloc (.cells #[.slice none 0 0, .slice none 0 0] 34) = w0 := ⟨_, rfl⟩
  have hb0 : Below w.heap.size w w0 := by rw [← hw0]; exact (Below.refl _ _).alloc (Nat.le_refl _) _
  have hz0 : w0.heap.size = w.heap.size + 1 := by rw [← hw0]; simp
  have hk0 : w0.heap[w.heap.size]? = some (.cells #[.slice none 0 0, .slice none 0 0] 34 (0, 0)) := by rw [← hw0]; exact World.alloc_heap_new _ _
  obtain ⟨wc, hwc⟩ : ∃ wc, w0.alloc (.cells #[.string ⟨#[121]⟩, .string ⟨#[122]⟩] 9) = wc := ⟨_, rfl⟩
  have hbc : Below w0.heap.size w0 wc := by rw [← hwc]; exact (Below.refl _ _).alloc (Nat.le_refl _) _
  have hsc : SlC wc wc.heap.size (some ⟨w0.heap.size, 0, none⟩) ([⟨#[121]⟩, ⟨#[122]⟩] : List ByteArray) := by rw [← hwc]; exact sl1_lit strV 9 w0 _
  obtain ⟨wi0, hwi0⟩ : ∃ X, wc.alloc (.cells #[.int .i64 4, .int .i64 101] 2) = X := ⟨_, rfl⟩
  have hbi0 : Below wc.heap.size wc wi0 := by rw [← hwi0]; exact (Below.refl _ _).alloc (Nat.le_refl _) _
  have HR0 := Lib.hid (row_any (some ⟨wc.heap.size, 0, none⟩) 2 ([4, 101] : List Int) wi0 (by rw [← hwi0]; exact sl1_lit i64V 2 wc _) (by simp) (by unfold rowOk; decide))
  have HX := Lib.hid (And.intro hb0 (And.intro hz0 (And.intro hk0 (And.intro hbc hsc))))
  clear hb0 hz0 hk0 hbc hsc
  go_enter Try.func31, Try.ntmps31
  go_wp2_with fail
  try rw [hwi0]
  refine HR0.out.mono ?_
  rintro e w1 ⟨⟨v0, rfl, ho0⟩, hb1⟩
  obtain ⟨A0, c0, rfl, _⟩ := ho0.form
  have HO0 := Lib.hid (And.intro ho0 (And.intro hbi0 hb1))
  clear ho0 hbi0 hb1 hwi0 HR0
  obtain ⟨wi1, hwi1⟩ : ∃ X, w1.alloc (.cells #[.int .i64 2, .int .i64 100] 2) = X := ⟨_, rfl⟩
  have hbi1 : Below w1.heap.size w1 wi1 := by rw [← hwi1]; exact (Below.refl _ _).alloc (Nat.le_refl _) _
  have HR1 := Lib.hid (row_any (some ⟨w1.heap.size, 0, none⟩) 2 ([2, 100] : List Int) wi1 (by rw [← hwi1]; exact sl1_lit i64V 2 w1 _) (by simp) (by unfold rowOk; decide))
  go_wp2_with fail
  try rw [hwi1]
  refine HR1.out.mono ?_
  rintro e w2 ⟨⟨v1, rfl, ho1⟩, hb2⟩
  obtain ⟨A1, c1, rfl, _⟩ := ho1.form
  have HO1 := Lib.hid (And.intro ho1 (And.intro hbi1 hb2))
  clear ho1 hbi1 hb2 hwi1 HR1
  obtain ⟨R, hRdef⟩ : ∃ R : List Rw, R = [⟨A0, c0, [vOf 4, vOf 101]⟩, ⟨A1, c1, [vOf 2, vOf 100]⟩] := ⟨_, rfl⟩
  obtain ⟨wl, hwl⟩ : ∃ X, w2.alloc (.cells #[.slice A0 2 c0, .slice A1 2 c1] 46) = X := ⟨_, rfl⟩
  have hbl : Below w2.heap.size w2 wl := by rw [← hwl]; exact (Below.refl _ _).alloc (Nat.le_refl _) _
  have hch0 : Below wc.heap.size wc wl := HO0.out.2.1.trans ((HO0.out.2.2.trans ((HO1.out.2.1.trans ((HO1.out.2.2.trans ((hbl).mono HO1.out.2.2.size)).mono HO1.out.2.1.size)).mono HO0.out.2.2.size)).mono HO0.out.2.1.size)
  have hr0 : RwOk wl wl.heap.size ⟨A0, c0, [vOf 4, vOf 101]⟩ := (OwnV.rwOk (r := ⟨A0, c0, [vOf 4, vOf 101]⟩) HO0.out.1 (rowL_z (l := [4, 101]) (by unfold rowOk; decide))).up (HO1.out.2.1.trans ((HO1.out.2.2.trans ((hbl).mono HO1.out.2.2.size)).mono HO1.out.2.1.size)) (Nat.le_refl _)
  have hr1 : RwOk wl wl.heap.size ⟨A1, c1, [vOf 2, vOf 100]⟩ := (OwnV.rwOk (r := ⟨A1, c1, [vOf 2, vOf 100]⟩) HO1.out.1 (rowL_z (l := [2, 100]) (by unfold rowOk; decide))).up (hbl) (Nat.le_refl _)
  have hsr : SlR wl wl.heap.size (some ⟨w2.heap.size, 0, none⟩) R := ⟨by rw [hRdef, ← hwl]; exact sl1_lit cellR 46 w2 [⟨A0, c0, [vOf 4, vOf 101]⟩, ⟨A1, c1, [vOf 2, vOf 100]⟩], fun r hr => by
    rw [hRdef] at hr
    simp only [List.mem_cons, List.not_mem_nil, or_false] at hr
    rcases hr with rfl | rfl
    all_goals assumption⟩
  have hlen : R.length = 2 := by rw [hRdef]; rfl
  have hrl : ∀ r ∈ R, r.l.length = 2 := fun r hr => by
    rw [hRdef] at hr
    simp only [List.mem_cons, List.not_mem_nil, or_false] at hr
    rcases hr with rfl | rfl <;> rfl
  have htx : txR R = [[vOf 4, vOf 101], [vOf 2, vOf 100]] := by rw [hRdef]; rfl
  have HRL := Lib.hid (rel_any (some ⟨w0.heap.size, 0, none⟩) 2 [⟨#[121]⟩, ⟨#[122]⟩] (some ⟨w2.heap.size, 0, none⟩) 2 R wl (Sl1.up HX.out.2.2.2.2 hch0 (Nat.le_refl _)) hsr (fun h => by cases h) (fun h => by cases h) (by decide) (by decide) (by omega) (fun r hr => by rw [hrl r hr]; omega) (ofC_few (by decide) (by decide) (fun r hr => hrl r hr) (by omega)))
  rw [htx, hlen, hT.out] at HRL
  have HCH := Lib.hid (And.intro hch0 (HX.out.2.2.2.1))
  clear hsr hrl htx hlen hch0 hbl hr0 hr1 hRdef
  go_wp2_with fail
  try rw [hwl]
  refine HRL.out.mono ?_
  rintro e w9 ⟨hb9, A5, c5, A6, c6, R9, rfl, hoc, hor, ht9⟩
  have hbz : Below w0.heap.size w0 w9 := HCH.out.2.trans ((HCH.out.1.trans (hb9.mono HCH.out.1.size)).mono HCH.out.2.size)
  have hk9 := (hbz.block w.heap.size (by rw [HX.out.2.1]; omega)).trans HX.out.2.2.1
  have hzl : w.heap.size + 1 ≤ wl.heap.size := by rw [← HX.out.2.1]; exact Nat.le_trans HCH.out.2.size HCH.out.1.size
  obtain ⟨x0, x1, f0, f1⟩ : w9.cell? ⟨w.heap.size, 0, none⟩ = some (.slice none 0 0) ∧ w9.cell? ⟨w.heap.size, 1, none⟩ = some (.slice none 0 0) ∧ w9.frozen? ⟨w.heap.size, 0, none⟩ = false ∧ w9.frozen? ⟨w.heap.size, 1, none⟩ = false := by
    refine ⟨?_, ?_, ?_, ?_⟩
    · simp [World.cell?, hk9]
    · simp [World.cell?, hk9]
    · simp [World.frozen?, hk9]
    · simp [World.frozen?, hk9]
  have HF := Lib.hid (And.intro hoc (And.intro hor (And.intro ht9 (And.intro (HX.out.1.trans (hbz.mono HX.out.1.size)) hzl))))
  have HC2 := Lib.hid (cells_two (v0 := .slice A5 2 c5) (v1 := .slice A6 R9.length c6) x0 x1)
  clear hoc hor ht9 hbz hk9 hzl hb9 HRL hw0 hwc hwl
  go_wp2
  refine bodyPost_ret (v := .agg #[.slice A5 2 c5, .slice A6 R9.length c6]) (by rw [results_c4 rfl]; obtain ⟨q0, q1⟩ := HC2.out; clear x0 x1 f0 f1; go_simp) rfl ?_
  have h9 := HF.out.2.2.2.2
  exact ⟨(HF.out.2.2.2.1.setCell (p := ⟨w.heap.size, 0, none⟩) (Nat.le_refl _) _).setCell (p := ⟨w.heap.size, 1, none⟩) (Nat.le_refl _) _, A5, c5, A6, c6, R9, rfl, Own1.low (owns_set (owns_set HF.out.1 (by omega) 0 _) (by omega) 1 _) (by omega), ((HF.out.2.1.set (by omega) 0 _).set (by omega) 1 _).low (by omega), HF.out.2.2.1⟩
end Go.Proofs.Ytofmfainhflmmaa
