/-
  CONTRACT of the document's own answer: ends (the instants at which something may turn).
-/
import Derived.Test.YtefekkcmoambhaaSAdd
import Derived.Test.YtefekkcmoambhaaSEndP
import Derived.Laws.AppendOwnNone
namespace Go.Proofs.Ytefekkcmoambhaa
open Go.RowKit

theorem info2 : (Try.prog.info? 2).map (fun i => (i.zero, i.size, i.bytes)) = some (some (.int .i64 0), 1, 8) := by kernel_rfl
def valI (n : Int) : Value := .int .i64 n
theorem valI_one (l : List Int) : ∀ u ∈ l.map valI, u.oneCell' = true := by
  intro u hu
  obtain ⟨x, _, rfl⟩ := List.mem_map.1 hu
  rfl
/-- a slice of numbers in blocks from B on, which the call has to itself -/
def OwnI (W : World) (B : Nat) (v : Value) (l : List Int) : Prop := W.ownsRow B 2 1 v l.length (l.map valI)
theorem ownI_nil (W : World) (B : Nat) : OwnI W B (.slice none 0 0) [] := World.ownsRow_nil _ _ _ _
theorem OwnI.low {W : World} {B B' : Nat} {v : Value} {l : List Int} (h : OwnI W B v l) (hB : B' ≤ B) : OwnI W B' v l := by
  refine ⟨h.1, ?_⟩
  rcases h.2 with h | ⟨g, cap, cur, h1, h2, h3⟩
  · exact .inl h
  · exact .inr ⟨g, cap, cur, h1, by omega, h3⟩
theorem OwnI.form {W : World} {B : Nat} {v : Value} {l : List Int} (h : OwnI W B v l) : (v = .slice none 0 0 ∧ l = []) ∨ ∃ g cap, v = .slice (some ⟨g, 0, none⟩) l.length cap ∧ l.length ≤ cap ∧ cap ≤ maxLen ∧ B ≤ g ∧ g < W.heap.size ∧ ∀ (j : Nat) (x : Int), l[j]? = some x → W.cell? ⟨g, j, none⟩ = some (valI x) := by
  have hr := h
  rcases h.2 with ⟨rfl, h0⟩ | ⟨g, cap, cur, rfl, hB, hg, h1, h2, _⟩
  · exact .inl ⟨rfl, List.length_eq_zero_iff.1 h0⟩
  · refine .inr ⟨g, cap, rfl, h1, h2, hB, (Array.getElem?_eq_some_iff.1 hg).1, fun j x hx => ?_⟩
    have hj : j < l.length := (List.getElem?_eq_some_iff.1 hx).1
    have hr' : W.ownsRow B 2 1 (.slice (some ⟨g, 0, none⟩) l.length cap) l.length (l.map valI) := hr
    rw [hr'.cellAt j (by omega), List.getElem?_map, hx]
    rfl
theorem OwnI.drewN {W : World} {B : Nat} {v : Value} {l : List Int} (h : OwnI W B v l) (n : Nat) : OwnI (W.drewN n) B v l := h
theorem below_ownI {W w1 : World} {B : Nat} {v : Value} {l : List Int} (h : OwnI W B v l) (hg : W.grownBy w1 v.ownBlock) (hB : B ≤ W.heap.size) : Below B W w1 :=
  (Below.refl B W).grown hg hB (fun k hk => (World.ownsRow.lt h k hk).1)
theorem OwnI.next {W W' : World} {B : Nat} {v : Value} {l : List Int} (h : OwnI W B v l) (hb : Below W.heap.size W W') : OwnI W' B v l := by
  refine World.ownsRow.kept (row := none) h ⟨hb.os, hb.tape, hb.output, hb.size, fun k hk _ => hb.block k hk⟩ ?_
  cases hv : v.ownBlock with
  | none => exact .inl rfl
  | some g => exact .inr (fun e => by cases e)
def cutI (A : Option Addr) (c k : Nat) : Option Addr := if c = k then A else A.map (·.add k)
theorem sliceI_from (A : Option Addr) (n c k : Nat) (hk : k ≤ n) (w : World) : (Instr.slice 130 (.slice A n c) (some (.int .i64 (k : Int))) none none).run Try.prog w = .ok (.slice (cutI A c k) (n - k) (c - k)) w := by
  have hT : Try.prog.underlying 130 = some (.slice (Try.prog.elem 130)) := by kernel_rfl
  have hS : (Go.sizeOf (Try.prog.elem 130)).run Try.prog w = .ok 1 w := by kernel_rfl
  rw [run_slice_l (w := w) 130 A n c hT .i64 (k : Int) (by omega) (by omega), hS]
  simp [Result.andThen, sliced, cutI]
theorem sliceI_to (A : Option Addr) (n c k : Nat) (hk : k ≤ c) (w : World) : (Instr.slice 130 (.slice A n c) none (some (.int .i64 (k : Int))) none).run Try.prog w = .ok (.slice (cutI A c 0) k c) w := by
  have hT : Try.prog.underlying 130 = some (.slice (Try.prog.elem 130)) := by kernel_rfl
  have hS : (Go.sizeOf (Try.prog.elem 130)).run Try.prog w = .ok 1 w := by kernel_rfl
  rw [run_slice_h (w := w) 130 A n c hT .i64 (k : Int) (by omega) (by omega), hS]
  simp [Result.andThen, sliced, cutI]
theorem cutI_zero (A : Option Addr) (c : Nat) : cutI A c 0 = A := by
  unfold cutI
  split
  · rfl
  · cases A <;> simp [Addr.add]
theorem quoTwo (j k : Nat) (h : j / 2 = k) (hj : j ≤ 100000) (w : World) : (binOp .quo 3 (.int .i64 (j : Int)) (.int .i64 2)).run Try.prog w = .ok (.int .i64 (k : Int)) w := by
  have u3 := Try.underlying3
  have e : (j : Int) / 2 = (k : Int) := by omega
  have f : IntKind.i64.wrap (k : Int) = (k : Int) := IntWalk.i64_in _ (by omega)
  go_simp
theorem remTwo (j k : Nat) (h : j % 2 = k) (hj : j ≤ 100000) (w : World) : (binOp .rem 3 (.int .i64 (j : Int)) (.int .i64 2)).run Try.prog w = .ok (.int .i64 (k : Int)) w := by
  have u3 := Try.underlying3
  have e : (j : Int).tmod 2 = (k : Int) := by rw [Int.tmod_eq_emod_of_nonneg (by omega)]; omega
  go_simp

theorem ownI_some {W : World} {B : Nat} {v : Value} {l : List Int} (h : OwnI W B v l) (hl : l ≠ []) : ∃ g cap, v = .slice (some ⟨g, 0, none⟩) l.length cap := by
  rcases h.form with ⟨_, h⟩ | ⟨g, cap, h, _⟩
  · exact absurd h hl
  · exact ⟨g, cap, h⟩
theorem ownI_of {W : World} {B m : Nat} {v : Value} {l : List Int} (h : W.ownsRow B 2 1 v m (l.map valI)) : OwnI W B v l := by
  have h1 := h.1
  rw [List.length_map] at h1
  obtain rfl : m = l.length := by omega
  exact h
theorem ownI_app {W : World} {B m : Nat} {v : Value} {a b : List Int} (h : W.ownsRow B 2 1 v m (a.map valI ++ b.map valI)) : OwnI W B v (a ++ b) :=
  ownI_of (m := m) (by rw [List.map_append]; exact h)
theorem addI (g o j : Nat) : Addr.add ⟨g, o, none⟩ j = ⟨g, o + j, none⟩ := by
  unfold Addr.add
  split
  · subst_vars; rfl
  · rfl
theorem cutI_at {g cap k : Nat} {E : List Int} (hle : E.length ≤ cap) : ∃ o, cutI (some ⟨g, 0, none⟩) cap k = some ⟨g, o, none⟩ ∧ ∀ (j : Nat) (x : Int), (E.drop k)[j]? = some x → o + j = k + j := by
  unfold cutI
  split
  · rename_i h
    refine ⟨0, rfl, fun j x hx => ?_⟩
    rw [List.drop_eq_nil_of_le (by omega)] at hx
    simp at hx
  · refine ⟨k, ?_, fun _ _ _ => rfl⟩
    show some (Addr.add _ _) = _
    rw [addI, Nat.zero_add]
theorem newsI {W W' : World} {g B : Nat} {l : List Int} {o : Nat} (h : ∀ (j : Nat) (x : Int), l[j]? = some x → W.cell? ⟨g, o + j, none⟩ = some (valI x)) (hb : Below B W W') (hg : g < B) (j : Nat) (u : Value) (hu : (l.map valI)[j]? = some u) : W'.cell? (Addr.add ⟨g, o, none⟩ j) = some u := by
  rw [List.getElem?_map] at hu
  obtain ⟨x, hx, rfl⟩ := Option.map_eq_some_iff.1 hu
  rw [addI]
  exact (hb.cell (p := ⟨g, o + j, none⟩) hg).trans (h j x hx)
theorem lit_I (W : World) (n : Int) (j : Nat) (u : Value) (h : (List.map valI [n])[j]? = some u) : (W.alloc (.cells #[.int .i64 n] 2)).cell? (Addr.add ⟨W.heap.size, 0, none⟩ j) = some u := by
  cases j with
  | zero =>
    have : u = valI n := by simpa using h.symm
    subst this
    show World.cell? _ ⟨_, 0, none⟩ = _
    go_simp
    rfl
  | succ j => simp at h
set_option maxRecDepth 100000 in
set_option maxHeartbeats 1000000 in
theorem ends_any (A : Option Addr) (c : Nat) (l : List Sp) (w : World) (hs : SlS w w.heap.size A l) (hl : l.length ≤ 1000) :
    Calls Try.prog 97 #[.slice A l.length c] w fun e w' => ∃ v, e = .returned v ∧ OwnI w' w.heap.size v (endsL l) ∧ Below w.heap.size w w' := by
  have HS := Lib.hid hs
  have HFL := Lib.hid (flatE_len l)
  obtain ⟨i0, hi, hz0, hz1, hz2⟩ := info_parts info2
  clear hs
  go_enter Try.func97, Try.ntmps97
  go_wp2
  go_loopg [3, 4] (2 * l.length) (fun g v x wr => ∃ j : Nat, x = .int .i64 j ∧ j + g = 2 * l.length ∧ Hid (OwnI wr w.heap.size v (endsF ((flatE l).take j))) ∧ Hid (Below w.heap.size w wr) ∧ w.heap.size ≤ wr.heap.size)
  case atStart => exact ⟨0, rfl, by omega, ownI_nil _ _, Below.refl _ _, Nat.le_refl _⟩
  case round =>
    obtain ⟨j, rfl, hj, HO, HB, hsz⟩ := hrel
    cases gk with
    | zero =>
      have hjz : ¬ ((j : Int) < 2 * (l.length : Int)) := by omega
      have HF : Hid (endsF ((flatE l).take j) = endsL l) := by
        show _ = _
        rw [List.take_of_length_le (by rw [HFL.out]; omega)]
        rfl
      go_wp2
      go_ret
      exact ⟨_, rfl, by rw [← HF.out]; exact HO.out, HB.out⟩
    | succ g =>
      have hjz : (j : Int) < 2 * (l.length : Int) := by omega
      have hkl : j / 2 < l.length := by omega
      have hki : (j : Int) / 2 < (l.length : Int) := by omega
      obtain ⟨b, o, rfl, _, hp⟩ := (HS.out.next HB.out (Nat.le_refl _)).at_ hkl
      obtain ⟨⟨x, y⟩, hpe⟩ : ∃ p, l[j / 2] = p := ⟨_, rfl⟩
      have hfr := flatE_from l (j / 2) (x, y) (by rw [List.getElem?_eq_getElem hkl, hpe])
      rw [hpe] at hp
      have c0 := hp.c0
      have c1 := hp.c1
      clear hp hpe
      have hpar : j % 2 = 0 ∨ j % 2 = 1 := by omega
      obtain ⟨E, hE⟩ : ∃ E, endsF ((flatE l).take j) = E := ⟨_, rfl⟩
      have HNX : Hid (∀ n, (flatE l)[j]? = some n → endsF ((flatE l).take (j + 1)) = insR E n) := fun n hn => by
        rw [List.take_add_one, hn, ← hE]
        exact endsF_snoc _ _
      have hEl : E.length ≤ 2000 := by
        have := fold_len ((flatE l).take j) []
        rw [List.length_take, HFL.out] at this
        rw [← hE]
        unfold endsF
        simp only [List.length_nil] at this
        omega
      have hform := (hE ▸ HO.out).form
      rcases hpar with hpar | hpar
      · have hR := remTwo j 0 hpar (by omega)
        have hpi : (j : Int) % 2 = 0 := by omega
        have hpt : (j : Int).tmod 2 = 0 := by rw [Int.tmod_eq_emod_of_nonneg (by omega)]; omega
        have HN : Hid ((flatE l)[j]? = some x) := by show _ = _; rw [← hfr.1]; congr 1; omega
        clear hfr hpar
        go_wp2
        rcases hform with ⟨rfl, rfl⟩ | ⟨gb, cap, rfl, hle, hcm, hgb, hgs, hcell⟩
        · go_loopw [6] (fun z wq => ∃ m : Nat, z = .int .i64 0 ∧ wq = wr.drewN m) (fun _ _ => 0)
          case atStart => exact ⟨0, rfl, rfl⟩
          case round =>
            obtain ⟨m, rfl, rfl⟩ := hrel
            have HL1 := Lib.hid (ownI_nil ((wr.drewN m).alloc (.cells #[.int .i64 x] 2)) wr.heap.size)
            have tok : True := trivial
            go_wp2_with (first | (at_builtin; have _t := tok; refine wpList_append_own _ rfl _ _ 130 rfl wr.heap.size 2 i0 (.int .i64 0) 1 8 Try.underlying130 hi hz0 hz1 hz2 rfl (by decide) _ _ _ rfl HL1.out ⟨wr.heap.size, 0, none⟩ 1 1 (List.map valI [x]) rfl rfl (fun j u h => lit_I _ _ j u h) (valI_one _) (by decide) (by decide) (by simp) ?_; intro v' w3 hown' hgrow _; have HV2 : Hid (OwnI w3 wr.heap.size v' [x]) := hown'; obtain ⟨gv, cv, rfl⟩ := ownI_some HV2.out (by simp); have HB3 := Lib.hid ((below_ind (Below.refl wr.heap.size wr) m).trans (((Below.refl wr.heap.size (wr.drewN m)).alloc (Nat.le_refl _) _).trans (below_ownI HL1.out hgrow (by simp)))); clear tok hown' hgrow) | (at_builtin; refine wpList_append_own_none rfl _ _ 130 rfl wr.heap.size 2 i0 1 Try.underlying130 hi _ _ _ rfl HV2.out rfl ?_))
            go_roundg g
            case measure => omega
            case rel => exact ⟨j + 1, by go_num, by omega, by (show OwnI _ _ _ _; rw [HNX.out _ HN.out]; exact HV2.out.low hsz), HB.out.trans (HB3.out.mono hsz), by have := HB3.out.size; omega⟩
        · have HC := Lib.hid hcell
          clear hcell
          go_loopw [6] (fun z wq => ∃ k m : Nat, z = .int .i64 k ∧ k ≤ E.length ∧ wq = wr.drewN m ∧ Hid (∀ i q, i < k → E[i]? = some q → q < x)) (fun z _ => E.length - (intOf z).toNat)
          case atStart => exact ⟨0, 0, rfl, by omega, rfl, fun i q hi => by omega⟩
          case round =>
            obtain ⟨k, m, rfl, hk, rfl, HK⟩ := hrel
            by_cases h1 : k < E.length
            · have h1i : (k : Int) < (E.length : Int) := by omega
              obtain ⟨q, hq⟩ : ∃ q, E[k]? = some q := ⟨_, List.getElem?_eq_getElem h1⟩
              have d0 : wr.cell? ⟨gb, k, none⟩ = some (.int .i64 q) := HC.out k q hq
              have HQ := Lib.hid hq
              clear hq
              by_cases hlt : q < x
              · have HKN : Hid (∀ i z, i < k + 1 → E[i]? = some z → z < x) := fun i z hi2 hz => by
                  rcases Nat.lt_succ_iff_lt_or_eq.1 hi2 with h | rfl
                  · exact HK.out i z h hz
                  · rw [HQ.out] at hz
                    cases hz
                    exact hlt
                go_wp2
                go_roundw
                case rel => exact ⟨k + 1, _, by go_num, by omega, rfl, HKN⟩
                case measure => simp [intOf]; omega
              · have HCN : Hid (cntR E x = k) := cntR_of E x k hk HK.out (fun z hz => by rw [HQ.out] at hz; cases hz; exact hlt)
                by_cases heq : q = x
                · have HR : Hid (insR E x = E) := by
                    show _ = _
                    rw [insR_cut, HCN.out, HQ.out, heq, if_pos rfl]
                  have HOE : Hid (OwnI wr w.heap.size (.slice (some ⟨gb, 0, none⟩) E.length cap) E) := hE ▸ HO.out
                  go_wp2
                  go_roundg g
                  case measure => omega
                  case rel => exact ⟨j + 1, by go_num, by omega, by (show OwnI _ _ _ _; rw [HNX.out _ HN.out, HR.out]; exact HOE.out.drewN _), below_ind HB.out _, hsz⟩
                · have hne : ¬ E[k]? = some x := fun h => heq (by rw [HQ.out] at h; exact Option.some.inj h)
                  have HR : Hid (insR E x = (E.take k ++ [x]) ++ E.drop k) := by
                    show _ = _
                    rw [insR_cut, HCN.out, if_neg hne]
                    simp
                  have hT := sliceI_to (some ⟨gb, 0, none⟩) E.length cap k (by omega)
                  rw [cutI_zero] at hT
                  obtain ⟨o2, ho2, hat⟩ := cutI_at (g := gb) (k := k) hle
                  have hF := sliceI_from (some ⟨gb, 0, none⟩) E.length cap k hk
                  rw [ho2] at hF
                  have HLT : Hid ((E.take k).length = k) := List.length_take_of_le hk
                  have HLT2 : Hid ((E.take k ++ [x]).length = k + 1) := by show _ = _; rw [List.length_append, HLT.out]; rfl
                  have HT1 : Hid (∀ (i : Nat) (q : Int), (E.take k)[i]? = some q → wr.cell? ⟨gb, 0 + i, none⟩ = some (valI q)) := fun i q hq => by
                    rw [Nat.zero_add]
                    have h0 : i < k := by
                      have := (List.getElem?_eq_some_iff.1 hq).1
                      rw [HLT.out] at this
                      exact this
                    rw [List.getElem?_take_of_lt h0] at hq
                    exact HC.out i q hq
                  have HT2 : Hid (∀ (i : Nat) (q : Int), (E.drop k)[i]? = some q → wr.cell? ⟨gb, o2 + i, none⟩ = some (valI q)) := fun i q hq => by
                    rw [hat i q hq]
                    rw [List.getElem?_drop] at hq
                    exact HC.out _ q hq
                  have HBm := Lib.hid (below_ind (Below.refl wr.heap.size wr) m)
                  have HL0 := Lib.hid (ownI_nil (wr.drewN m) wr.heap.size)
                  have hmx : 50000 ≤ maxLen := by decide
                  have tok1 : True := trivial
                  have tok2 : True := trivial
                  clear hat ho2 HK hne
                  go_wp2_with (first | (at_builtin; have _t := tok1; refine wpList_append_own _ rfl _ _ 130 rfl wr.heap.size 2 i0 (.int .i64 0) 1 8 Try.underlying130 hi hz0 hz1 hz2 rfl (by decide) _ _ _ rfl HL0.out ⟨gb, 0, none⟩ k cap ((E.take k).map valI) rfl (by rw [List.length_map, HLT.out, Nat.mul_one]) (newsI HT1.out HBm.out hgs) (valI_one _) (by simp; omega) (by simp; omega) (by simp) ?_; intro v1 w3 hown' hgrow _; have HV1 : Hid (OwnI w3 wr.heap.size v1 (E.take k)) := ownI_app (a := []) hown'; have HB3 := Lib.hid (HBm.out.trans (below_ownI HL0.out hgrow (by simp))); clear tok1 hown' hgrow) | (at_builtin; have _t := tok2; refine wpList_append_own _ rfl _ _ 130 rfl wr.heap.size 2 i0 (.int .i64 0) 1 8 Try.underlying130 hi hz0 hz1 hz2 rfl (by decide) _ _ _ rfl (World.ownsRow.alloc HV1.out _) ⟨w3.heap.size, 0, none⟩ 1 1 (List.map valI [x]) rfl rfl (fun j u h => lit_I _ _ j u h) (valI_one _) (by have := HLT.out; omega) (by have := HLT.out; omega) (by have := HB3.out.size; simp; omega) ?_; intro v2 w4 hown' hgrow _; have HV2 : Hid (OwnI w4 wr.heap.size v2 (E.take k ++ [x])) := ownI_app hown'; have HB4 := Lib.hid ((HB3.out.alloc HB3.out.size _).trans (below_ownI (l := E.take k) (World.ownsRow.alloc HV1.out _) hgrow (by have := HB3.out.size; simp; omega))); clear tok2 hown' hgrow) | (at_builtin; refine wpList_append_own _ rfl _ _ 130 rfl wr.heap.size 2 i0 (.int .i64 0) 1 8 Try.underlying130 hi hz0 hz1 hz2 rfl (by decide) _ _ _ rfl HV2.out ⟨gb, o2, none⟩ (E.length - k) (cap - k) ((E.drop k).map valI) rfl (by rw [List.length_map, List.length_drop, Nat.mul_one]) (newsI HT2.out HB4.out hgs) (valI_one _) (by have := HLT2.out; omega) (by have := HLT2.out; omega) HB4.out.size ?_; intro v3 w5 hown' hgrow _; have HV3 : Hid (OwnI w5 wr.heap.size v3 ((E.take k ++ [x]) ++ E.drop k)) := ownI_app hown'; have HB5 := Lib.hid (HB4.out.trans (below_ownI HV2.out hgrow HB4.out.size)); clear hown' hgrow))
                  go_roundg g
                  case measure => omega
                  case rel => exact ⟨j + 1, by go_num, by omega, by (show OwnI _ _ _ _; rw [HNX.out _ HN.out, HR.out]; exact HV3.out.low hsz), HB.out.trans (HB5.out.mono hsz), by have := HB5.out.size; omega⟩
            · have h1i : ¬ (k : Int) < (E.length : Int) := by omega
              have HCN : Hid (cntR E x = k) := cntR_of E x k hk HK.out (fun z hz => absurd (List.getElem?_eq_some_iff.1 hz).1 h1)
              have hne : ¬ E[k]? = some x := fun h => h1 (List.getElem?_eq_some_iff.1 h).1
              have HR : Hid (insR E x = (E.take k ++ [x]) ++ E.drop k) := by
                show _ = _
                rw [insR_cut, HCN.out, if_neg hne]
                simp
              have hT := sliceI_to (some ⟨gb, 0, none⟩) E.length cap k (by omega)
              rw [cutI_zero] at hT
              obtain ⟨o2, ho2, hat⟩ := cutI_at (g := gb) (k := k) hle
              have hF := sliceI_from (some ⟨gb, 0, none⟩) E.length cap k hk
              rw [ho2] at hF
              have HLT : Hid ((E.take k).length = k) := List.length_take_of_le hk
              have HLT2 : Hid ((E.take k ++ [x]).length = k + 1) := by show _ = _; rw [List.length_append, HLT.out]; rfl
              have HT1 : Hid (∀ (i : Nat) (q : Int), (E.take k)[i]? = some q → wr.cell? ⟨gb, 0 + i, none⟩ = some (valI q)) := fun i q hq => by
                rw [Nat.zero_add]
                have h0 : i < k := by
                  have := (List.getElem?_eq_some_iff.1 hq).1
                  rw [HLT.out] at this
                  exact this
                rw [List.getElem?_take_of_lt h0] at hq
                exact HC.out i q hq
              have HT2 : Hid (∀ (i : Nat) (q : Int), (E.drop k)[i]? = some q → wr.cell? ⟨gb, o2 + i, none⟩ = some (valI q)) := fun i q hq => by
                rw [hat i q hq]
                rw [List.getElem?_drop] at hq
                exact HC.out _ q hq
              have HBm := Lib.hid (below_ind (Below.refl wr.heap.size wr) m)
              have HL0 := Lib.hid (ownI_nil (wr.drewN m) wr.heap.size)
              have hmx : 50000 ≤ maxLen := by decide
              have tok1 : True := trivial
              have tok2 : True := trivial
              clear hat ho2 HK hne
              go_wp2_with (first | (at_builtin; have _t := tok1; refine wpList_append_own _ rfl _ _ 130 rfl wr.heap.size 2 i0 (.int .i64 0) 1 8 Try.underlying130 hi hz0 hz1 hz2 rfl (by decide) _ _ _ rfl HL0.out ⟨gb, 0, none⟩ k cap ((E.take k).map valI) rfl (by rw [List.length_map, HLT.out, Nat.mul_one]) (newsI HT1.out HBm.out hgs) (valI_one _) (by simp; omega) (by simp; omega) (by simp) ?_; intro v1 w3 hown' hgrow _; have HV1 : Hid (OwnI w3 wr.heap.size v1 (E.take k)) := ownI_app (a := []) hown'; have HB3 := Lib.hid (HBm.out.trans (below_ownI HL0.out hgrow (by simp))); clear tok1 hown' hgrow) | (at_builtin; have _t := tok2; refine wpList_append_own _ rfl _ _ 130 rfl wr.heap.size 2 i0 (.int .i64 0) 1 8 Try.underlying130 hi hz0 hz1 hz2 rfl (by decide) _ _ _ rfl (World.ownsRow.alloc HV1.out _) ⟨w3.heap.size, 0, none⟩ 1 1 (List.map valI [x]) rfl rfl (fun j u h => lit_I _ _ j u h) (valI_one _) (by have := HLT.out; omega) (by have := HLT.out; omega) (by have := HB3.out.size; simp; omega) ?_; intro v2 w4 hown' hgrow _; have HV2 : Hid (OwnI w4 wr.heap.size v2 (E.take k ++ [x])) := ownI_app hown'; have HB4 := Lib.hid ((HB3.out.alloc HB3.out.size _).trans (below_ownI (l := E.take k) (World.ownsRow.alloc HV1.out _) hgrow (by have := HB3.out.size; simp; omega))); clear tok2 hown' hgrow) | (at_builtin; refine wpList_append_own _ rfl _ _ 130 rfl wr.heap.size 2 i0 (.int .i64 0) 1 8 Try.underlying130 hi hz0 hz1 hz2 rfl (by decide) _ _ _ rfl HV2.out ⟨gb, o2, none⟩ (E.length - k) (cap - k) ((E.drop k).map valI) rfl (by rw [List.length_map, List.length_drop, Nat.mul_one]) (newsI HT2.out HB4.out hgs) (valI_one _) (by have := HLT2.out; omega) (by have := HLT2.out; omega) HB4.out.size ?_; intro v3 w5 hown' hgrow _; have HV3 : Hid (OwnI w5 wr.heap.size v3 ((E.take k ++ [x]) ++ E.drop k)) := ownI_app hown'; have HB5 := Lib.hid (HB4.out.trans (below_ownI HV2.out hgrow HB4.out.size)); clear hown' hgrow))
              go_roundg g
              case measure => omega
              case rel => exact ⟨j + 1, by go_num, by omega, by (show OwnI _ _ _ _; rw [HNX.out _ HN.out, HR.out]; exact HV3.out.low hsz), HB.out.trans (HB5.out.mono hsz), by have := HB5.out.size; omega⟩
      · have hR := remTwo j 1 hpar (by omega)
        have hpi : (j : Int) % 2 = 1 := by omega
        have hpt : (j : Int).tmod 2 = 1 := by rw [Int.tmod_eq_emod_of_nonneg (by omega)]; omega
        have HN : Hid ((flatE l)[j]? = some y) := by show _ = _; rw [← hfr.2]; congr 1; omega
        clear hfr hpar
        go_wp2
        rcases hform with ⟨rfl, rfl⟩ | ⟨gb, cap, rfl, hle, hcm, hgb, hgs, hcell⟩
        · go_loopw [6] (fun z wq => ∃ m : Nat, z = .int .i64 0 ∧ wq = wr.drewN m) (fun _ _ => 0)
          case atStart => exact ⟨0, rfl, rfl⟩
          case round =>
            obtain ⟨m, rfl, rfl⟩ := hrel
            have HL1 := Lib.hid (ownI_nil ((wr.drewN m).alloc (.cells #[.int .i64 y] 2)) wr.heap.size)
            have tok : True := trivial
            go_wp2_with (first | (at_builtin; have _t := tok; refine wpList_append_own _ rfl _ _ 130 rfl wr.heap.size 2 i0 (.int .i64 0) 1 8 Try.underlying130 hi hz0 hz1 hz2 rfl (by decide) _ _ _ rfl HL1.out ⟨wr.heap.size, 0, none⟩ 1 1 (List.map valI [y]) rfl rfl (fun j u h => lit_I _ _ j u h) (valI_one _) (by decide) (by decide) (by simp) ?_; intro v' w3 hown' hgrow _; have HV2 : Hid (OwnI w3 wr.heap.size v' [y]) := hown'; obtain ⟨gv, cv, rfl⟩ := ownI_some HV2.out (by simp); have HB3 := Lib.hid ((below_ind (Below.refl wr.heap.size wr) m).trans (((Below.refl wr.heap.size (wr.drewN m)).alloc (Nat.le_refl _) _).trans (below_ownI HL1.out hgrow (by simp)))); clear tok hown' hgrow) | (at_builtin; refine wpList_append_own_none rfl _ _ 130 rfl wr.heap.size 2 i0 1 Try.underlying130 hi _ _ _ rfl HV2.out rfl ?_))
            go_roundg g
            case measure => omega
            case rel => exact ⟨j + 1, by go_num, by omega, by (show OwnI _ _ _ _; rw [HNX.out _ HN.out]; exact HV2.out.low hsz), HB.out.trans (HB3.out.mono hsz), by have := HB3.out.size; omega⟩
        · have HC := Lib.hid hcell
          clear hcell
          go_loopw [6] (fun z wq => ∃ k m : Nat, z = .int .i64 k ∧ k ≤ E.length ∧ wq = wr.drewN m ∧ Hid (∀ i q, i < k → E[i]? = some q → q < y)) (fun z _ => E.length - (intOf z).toNat)
          case atStart => exact ⟨0, 0, rfl, by omega, rfl, fun i q hi => by omega⟩
          case round =>
            obtain ⟨k, m, rfl, hk, rfl, HK⟩ := hrel
            by_cases h1 : k < E.length
            · have h1i : (k : Int) < (E.length : Int) := by omega
              obtain ⟨q, hq⟩ : ∃ q, E[k]? = some q := ⟨_, List.getElem?_eq_getElem h1⟩
              have d0 : wr.cell? ⟨gb, k, none⟩ = some (.int .i64 q) := HC.out k q hq
              have HQ := Lib.hid hq
              clear hq
              by_cases hlt : q < y
              · have HKN : Hid (∀ i z, i < k + 1 → E[i]? = some z → z < y) := fun i z hi2 hz => by
                  rcases Nat.lt_succ_iff_lt_or_eq.1 hi2 with h | rfl
                  · exact HK.out i z h hz
                  · rw [HQ.out] at hz
                    cases hz
                    exact hlt
                go_wp2
                go_roundw
                case rel => exact ⟨k + 1, _, by go_num, by omega, rfl, HKN⟩
                case measure => simp [intOf]; omega
              · have HCN : Hid (cntR E y = k) := cntR_of E y k hk HK.out (fun z hz => by rw [HQ.out] at hz; cases hz; exact hlt)
                by_cases heq : q = y
                · have HR : Hid (insR E y = E) := by
                    show _ = _
                    rw [insR_cut, HCN.out, HQ.out, heq, if_pos rfl]
                  have HOE : Hid (OwnI wr w.heap.size (.slice (some ⟨gb, 0, none⟩) E.length cap) E) := hE ▸ HO.out
                  go_wp2
                  go_roundg g
                  case measure => omega
                  case rel => exact ⟨j + 1, by go_num, by omega, by (show OwnI _ _ _ _; rw [HNX.out _ HN.out, HR.out]; exact HOE.out.drewN _), below_ind HB.out _, hsz⟩
                · have hne : ¬ E[k]? = some y := fun h => heq (by rw [HQ.out] at h; exact Option.some.inj h)
                  have HR : Hid (insR E y = (E.take k ++ [y]) ++ E.drop k) := by
                    show _ = _
                    rw [insR_cut, HCN.out, if_neg hne]
                    simp
                  have hT := sliceI_to (some ⟨gb, 0, none⟩) E.length cap k (by omega)
                  rw [cutI_zero] at hT
                  obtain ⟨o2, ho2, hat⟩ := cutI_at (g := gb) (k := k) hle
                  have hF := sliceI_from (some ⟨gb, 0, none⟩) E.length cap k hk
                  rw [ho2] at hF
                  have HLT : Hid ((E.take k).length = k) := List.length_take_of_le hk
                  have HLT2 : Hid ((E.take k ++ [y]).length = k + 1) := by show _ = _; rw [List.length_append, HLT.out]; rfl
                  have HT1 : Hid (∀ (i : Nat) (q : Int), (E.take k)[i]? = some q → wr.cell? ⟨gb, 0 + i, none⟩ = some (valI q)) := fun i q hq => by
                    rw [Nat.zero_add]
                    have h0 : i < k := by
                      have := (List.getElem?_eq_some_iff.1 hq).1
                      rw [HLT.out] at this
                      exact this
                    rw [List.getElem?_take_of_lt h0] at hq
                    exact HC.out i q hq
                  have HT2 : Hid (∀ (i : Nat) (q : Int), (E.drop k)[i]? = some q → wr.cell? ⟨gb, o2 + i, none⟩ = some (valI q)) := fun i q hq => by
                    rw [hat i q hq]
                    rw [List.getElem?_drop] at hq
                    exact HC.out _ q hq
                  have HBm := Lib.hid (below_ind (Below.refl wr.heap.size wr) m)
                  have HL0 := Lib.hid (ownI_nil (wr.drewN m) wr.heap.size)
                  have hmx : 50000 ≤ maxLen := by decide
                  have tok1 : True := trivial
                  have tok2 : True := trivial
                  clear hat ho2 HK hne
                  go_wp2_with (first | (at_builtin; have _t := tok1; refine wpList_append_own _ rfl _ _ 130 rfl wr.heap.size 2 i0 (.int .i64 0) 1 8 Try.underlying130 hi hz0 hz1 hz2 rfl (by decide) _ _ _ rfl HL0.out ⟨gb, 0, none⟩ k cap ((E.take k).map valI) rfl (by rw [List.length_map, HLT.out, Nat.mul_one]) (newsI HT1.out HBm.out hgs) (valI_one _) (by simp; omega) (by simp; omega) (by simp) ?_; intro v1 w3 hown' hgrow _; have HV1 : Hid (OwnI w3 wr.heap.size v1 (E.take k)) := ownI_app (a := []) hown'; have HB3 := Lib.hid (HBm.out.trans (below_ownI HL0.out hgrow (by simp))); clear tok1 hown' hgrow) | (at_builtin; have _t := tok2; refine wpList_append_own _ rfl _ _ 130 rfl wr.heap.size 2 i0 (.int .i64 0) 1 8 Try.underlying130 hi hz0 hz1 hz2 rfl (by decide) _ _ _ rfl (World.ownsRow.alloc HV1.out _) ⟨w3.heap.size, 0, none⟩ 1 1 (List.map valI [y]) rfl rfl (fun j u h => lit_I _ _ j u h) (valI_one _) (by have := HLT.out; omega) (by have := HLT.out; omega) (by have := HB3.out.size; simp; omega) ?_; intro v2 w4 hown' hgrow _; have HV2 : Hid (OwnI w4 wr.heap.size v2 (E.take k ++ [y])) := ownI_app hown'; have HB4 := Lib.hid ((HB3.out.alloc HB3.out.size _).trans (below_ownI (l := E.take k) (World.ownsRow.alloc HV1.out _) hgrow (by have := HB3.out.size; simp; omega))); clear tok2 hown' hgrow) | (at_builtin; refine wpList_append_own _ rfl _ _ 130 rfl wr.heap.size 2 i0 (.int .i64 0) 1 8 Try.underlying130 hi hz0 hz1 hz2 rfl (by decide) _ _ _ rfl HV2.out ⟨gb, o2, none⟩ (E.length - k) (cap - k) ((E.drop k).map valI) rfl (by rw [List.length_map, List.length_drop, Nat.mul_one]) (newsI HT2.out HB4.out hgs) (valI_one _) (by have := HLT2.out; omega) (by have := HLT2.out; omega) HB4.out.size ?_; intro v3 w5 hown' hgrow _; have HV3 : Hid (OwnI w5 wr.heap.size v3 ((E.take k ++ [y]) ++ E.drop k)) := ownI_app hown'; have HB5 := Lib.hid (HB4.out.trans (below_ownI HV2.out hgrow HB4.out.size)); clear hown' hgrow))
                  go_roundg g
                  case measure => omega
                  case rel => exact ⟨j + 1, by go_num, by omega, by (show OwnI _ _ _ _; rw [HNX.out _ HN.out, HR.out]; exact HV3.out.low hsz), HB.out.trans (HB5.out.mono hsz), by have := HB5.out.size; omega⟩
            · have h1i : ¬ (k : Int) < (E.length : Int) := by omega
              have HCN : Hid (cntR E y = k) := cntR_of E y k hk HK.out (fun z hz => absurd (List.getElem?_eq_some_iff.1 hz).1 h1)
              have hne : ¬ E[k]? = some y := fun h => h1 (List.getElem?_eq_some_iff.1 h).1
              have HR : Hid (insR E y = (E.take k ++ [y]) ++ E.drop k) := by
                show _ = _
                rw [insR_cut, HCN.out, if_neg hne]
                simp
              have hT := sliceI_to (some ⟨gb, 0, none⟩) E.length cap k (by omega)
              rw [cutI_zero] at hT
              obtain ⟨o2, ho2, hat⟩ := cutI_at (g := gb) (k := k) hle
              have hF := sliceI_from (some ⟨gb, 0, none⟩) E.length cap k hk
              rw [ho2] at hF
              have HLT : Hid ((E.take k).length = k) := List.length_take_of_le hk
              have HLT2 : Hid ((E.take k ++ [y]).length = k + 1) := by show _ = _; rw [List.length_append, HLT.out]; rfl
              have HT1 : Hid (∀ (i : Nat) (q : Int), (E.take k)[i]? = some q → wr.cell? ⟨gb, 0 + i, none⟩ = some (valI q)) := fun i q hq => by
                rw [Nat.zero_add]
                have h0 : i < k := by
                  have := (List.getElem?_eq_some_iff.1 hq).1
                  rw [HLT.out] at this
                  exact this
                rw [List.getElem?_take_of_lt h0] at hq
                exact HC.out i q hq
              have HT2 : Hid (∀ (i : Nat) (q : Int), (E.drop k)[i]? = some q → wr.cell? ⟨gb, o2 + i, none⟩ = some (valI q)) := fun i q hq => by
                rw [hat i q hq]
                rw [List.getElem?_drop] at hq
                exact HC.out _ q hq
              have HBm := Lib.hid (below_ind (Below.refl wr.heap.size wr) m)
              have HL0 := Lib.hid (ownI_nil (wr.drewN m) wr.heap.size)
              have hmx : 50000 ≤ maxLen := by decide
              have tok1 : True := trivial
              have tok2 : True := trivial
              clear hat ho2 HK hne
              go_wp2_with (first | (at_builtin; have _t := tok1; refine wpList_append_own _ rfl _ _ 130 rfl wr.heap.size 2 i0 (.int .i64 0) 1 8 Try.underlying130 hi hz0 hz1 hz2 rfl (by decide) _ _ _ rfl HL0.out ⟨gb, 0, none⟩ k cap ((E.take k).map valI) rfl (by rw [List.length_map, HLT.out, Nat.mul_one]) (newsI HT1.out HBm.out hgs) (valI_one _) (by simp; omega) (by simp; omega) (by simp) ?_; intro v1 w3 hown' hgrow _; have HV1 : Hid (OwnI w3 wr.heap.size v1 (E.take k)) := ownI_app (a := []) hown'; have HB3 := Lib.hid (HBm.out.trans (below_ownI HL0.out hgrow (by simp))); clear tok1 hown' hgrow) | (at_builtin; have _t := tok2; refine wpList_append_own _ rfl _ _ 130 rfl wr.heap.size 2 i0 (.int .i64 0) 1 8 Try.underlying130 hi hz0 hz1 hz2 rfl (by decide) _ _ _ rfl (World.ownsRow.alloc HV1.out _) ⟨w3.heap.size, 0, none⟩ 1 1 (List.map valI [y]) rfl rfl (fun j u h => lit_I _ _ j u h) (valI_one _) (by have := HLT.out; omega) (by have := HLT.out; omega) (by have := HB3.out.size; simp; omega) ?_; intro v2 w4 hown' hgrow _; have HV2 : Hid (OwnI w4 wr.heap.size v2 (E.take k ++ [y])) := ownI_app hown'; have HB4 := Lib.hid ((HB3.out.alloc HB3.out.size _).trans (below_ownI (l := E.take k) (World.ownsRow.alloc HV1.out _) hgrow (by have := HB3.out.size; simp; omega))); clear tok2 hown' hgrow) | (at_builtin; refine wpList_append_own _ rfl _ _ 130 rfl wr.heap.size 2 i0 (.int .i64 0) 1 8 Try.underlying130 hi hz0 hz1 hz2 rfl (by decide) _ _ _ rfl HV2.out ⟨gb, o2, none⟩ (E.length - k) (cap - k) ((E.drop k).map valI) rfl (by rw [List.length_map, List.length_drop, Nat.mul_one]) (newsI HT2.out HB4.out hgs) (valI_one _) (by have := HLT2.out; omega) (by have := HLT2.out; omega) HB4.out.size ?_; intro v3 w5 hown' hgrow _; have HV3 : Hid (OwnI w5 wr.heap.size v3 ((E.take k ++ [y]) ++ E.drop k)) := ownI_app hown'; have HB5 := Lib.hid (HB4.out.trans (below_ownI HV2.out hgrow HB4.out.size)); clear hown' hgrow))
              go_roundg g
              case measure => omega
              case rel => exact ⟨j + 1, by go_num, by omega, by (show OwnI _ _ _ _; rw [HNX.out _ HN.out, HR.out]; exact HV3.out.low hsz), HB.out.trans (HB5.out.mono hsz), by have := HB5.out.size; omega⟩
end Go.Proofs.Ytefekkcmoambhaa
