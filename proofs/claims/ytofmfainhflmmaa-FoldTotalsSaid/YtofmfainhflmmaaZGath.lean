/-
  CONTRACT: rows.gathered, from rows to rows.
-/
import Derived.Test.YtofmfainhflmmaaZClone
import Derived.Test.YtofmfainhflmmaaZRows
import Derived.Shelf.Abstract
import Derived.Deep.LoopGhost
namespace Go.Proofs.Ytofmfainhflmmaa
open Go.RowKit

theorem OwnR.alloc {W : World} {B : Nat} {v : Value} {R : List Rw} (h : OwnR W B v R) (o : Obj) : OwnR (W.alloc o) B v R := h.next ((Below.refl _ _).alloc (Nat.le_refl _) _)
/-- one row more -/
theorem OwnR.snoc {W W3 : World} {B m : Nat} {v v' : Value} {R : List Rw} {r : Rw} (h : OwnR W B v R) (hr : OwnV W B (cellR r) r.l) (hz : zOk r.l) (hown : W3.ownsRow B 46 1 v' m (R.map cellR ++ [r].map cellR)) (hg : W.grownBy W3 v.ownBlock) : OwnR W3 B v' (R ++ [r]) := by
  have ho := h.o
  refine ⟨own1_of hown, fun x hx => ?_, fun x hx => ?_⟩
  · rcases List.mem_append.1 hx with e | e
    · exact owns_other (h.i x e) ho (by decide) hg
    · rw [List.mem_singleton] at e
      subst e
      exact owns_other hr ho (by decide) hg
  · rcases List.mem_append.1 hx with e | e
    · exact h.z x e
    · rw [List.mem_singleton] at e
      subst e; exact hz
/-- what a function that is handed to gathered does -/
def Becomes (fn : Nat) (caps : Array Value) (F : List Vl → List Vl) (R : List Rw) (w : World) : Prop :=
  ∀ r ∈ R, ∀ W, Below w.heap.size w W → Calls Try.prog fn (#[.slice r.A r.l.length r.c] ++ caps) W fun e w' => ∃ v, e = .returned v ∧ OwnV w' W.heap.size v (F r.l) ∧ Below W.heap.size W w'

set_option maxRecDepth 100000 in
set_option maxHeartbeats 2000000 in
theorem gathR_any (fn : Nat) (caps : Array Value) (F : List Vl → List Vl) (A : Option Addr) (c : Nat) (R : List Rw) (w : World) (hs : SlR w w.heap.size A R) (hl : R.length ≤ 1000000000000) (eg : ∀ args w, (callFunc fn args).run Try.prog w = .ok (.enter fn args) w) (hF : Becomes fn caps F R w) (hz : ∀ r ∈ R, zOk (F r.l)) :
    Calls Try.prog 66 #[.slice A R.length c, .func (.func fn) #[] caps] w fun e w' => ∃ v R', e = .returned v ∧ OwnR w' w.heap.size v R' ∧ txR R' = R.map (fun r => F r.l) ∧ Below w.heap.size w w' := by
  obtain ⟨i0, hi, hz0, hz1, hz2⟩ := info_parts infoR
  have hmx : 2000000000000 ≤ maxLen := by decide
  have HS := Lib.hid hs
  have HF := Lib.hid hF
  have HZ := Lib.hid hz
  clear hs hF hz
  go_enter Try.func66, Try.ntmps66
  go_wp2_with (at_make; refine wpList_make_own _ rfl _ _ 32 rfl w.heap.size 46 i0 (.slice none 0 0) 1 Try.underlying32 hi hz0 hz1 .i64 .i64 _ R.length rfl rfl rfl (by rw [hz2]; omega) (by omega) (Nat.le_refl _) ?_; intro w0 hown0 hgrow0)
  have HO0 : Hid (OwnR w0 w.heap.size (.slice (some ⟨w.heap.size, 0, none⟩) 0 R.length) []) := ⟨hown0, (fun x hx => by cases hx), (fun x hx => by cases hx)⟩
  have HB0 : Hid (Below w.heap.size w w0) := (Below.refl _ _).grown hgrow0 (Nat.le_refl _) (fun k hk => by cases hk)
  clear hown0 hgrow0
  go_loopg [5, 13] R.length (fun g x5 x13 wr => ∃ (j : Nat) (acc : List Rw), OwnR wr w.heap.size x5 acc ∧ x13 = .int .i64 j ∧ j + g = R.length ∧ acc.length = j ∧ Hid (txR acc = (R.take j).map (fun r => F r.l)) ∧ Hid (Below w.heap.size w wr))
  case atStart => exact ⟨0, [], HO0.out, rfl, by omega, rfl, by show _ = _; simp [txR], HB0.out⟩
  case round =>
    obtain ⟨j, acc, ho, rfl, hj, hal, HT, HB⟩ := hrel
    obtain ⟨A1, c1, rfl, hsA, hl1, hc1, hn1, _⟩ := ho.form
    have HO := Lib.hid ho
    have HAL := Lib.hid hal
    rw [hal] at HO hl1 ⊢
    clear ho hsA hal hn1
    cases gk with
    | zero =>
      have hji : ¬ (j : Int) < (R.length : Int) := by omega
      have HE : Hid (txR acc = R.map (fun r => F r.l)) := by
        have := HT.out
        rw [List.take_of_length_le (by omega)] at this
        exact this
      go_wp2
      go_ret
      exact ⟨_, rfl, acc, HO.out, HE.out, HB.out⟩
    | succ g =>
      have hji : (j : Int) < (R.length : Int) := by omega
      have hjn : j < R.length := by omega
      obtain ⟨b, o, r, rfl, hb, hr, hp, hok⟩ := (HS.out.next HB.out (Nat.le_refl _)).at_ hjn
      have HC := Lib.hid (HF.out r (List.mem_of_getElem? hr) wr HB.out)
      have HTK : Hid (R.take (j + 1) = R.take j ++ [r]) := by
        show _ = _
        rw [List.take_succ_eq_append_getElem hjn]
        rw [List.getElem?_eq_getElem hjn] at hr
        rw [Option.some.inj hr]
      have HZR := Lib.hid (HZ.out r (List.mem_of_getElem? hr))
      clear hr hok
      go_wp2_with fail
      refine HC.out.mono ?_
      rintro e w2 ⟨v2, rfl, hv2, hb2⟩
      obtain ⟨A2, c2, rfl, hs2, hl2, hc2, hn2⟩ := hv2.form
      have HB2 : Hid (Below w.heap.size w w2) := HB.out.trans (hb2.mono HB.out.size)
      obtain ⟨q, hq⟩ : ∃ q : Rw, q = ⟨A2, c2, F r.l⟩ := ⟨_, rfl⟩
      have hq1 : Value.slice A2 (F r.l).length c2 = cellR q := by rw [hq]; rfl
      have HQL : Hid (q.l = F r.l) := by rw [hq]; rfl
      rw [hq1] at hv2 ⊢
      have HV2 : Hid (OwnV w2 w.heap.size (cellR q) q.l) := by
        show OwnV _ _ _ _
        rw [HQL.out]; exact hv2.low HB.out.size
      have HZQ : Hid (zOk q.l) := by show zOk _; rw [HQL.out]; exact HZR.out
      have HO2 := Lib.hid (HO.out.next (hb2.mono (Nat.le_refl _)))
      have HOA := Lib.hid (HO2.out.alloc (.cells #[cellR q] 46))
      have HVA := Lib.hid (HV2.out.next ((Below.refl _ _).alloc (Nat.le_refl _) (.cells #[cellR q] 46)))
      have HLC := Lib.hid (lit1 cellR 46 w2 q)
      have HBA := Lib.hid (HB2.out.alloc HB2.out.size (.cells #[cellR q] 46))
      obtain ⟨n2, hn2x⟩ : ∃ n2, (F r.l).length = n2 := ⟨_, rfl⟩
      have hcv : cellR q = .slice A2 n2 c2 := by rw [hq, ← hn2x]; rfl
      have HCV := Lib.hid hcv
      rw [hcv] at HVA HLC HBA HOA ⊢
      clear hq hq1 hv2 hb2 hs2 hl2 hc2 hn2 hcv HO2 HV2 hn2x
      have HOX := Lib.hid HOA.out.o
      unfold Own1 at HOX
      rw [HAL.out] at HOX
      have HONE : Hid (∀ u ∈ [q].map cellR, u.oneCell' = true) := fun u hu => by obtain ⟨x, _, rfl⟩ := List.mem_map.1 hu; rfl
      go_wp2_with (at_builtin; refine wpList_append_any rfl _ _ 32 rfl w.heap.size 46 i0 (.slice none 0 0) 1 24 Try.underlying32 hi hz0 hz1 hz2 rfl (by decide) _ _ _ rfl HOX.out (some ⟨w2.heap.size, 0, none⟩) 1 1 ([q].map cellR) rfl rfl (fun h => by cases h) HLC.out HONE.out (by omega) (by omega) HBA.out.size ?_; intro v1 w3 hown hgrow; have HV1 : Hid (OwnR w3 w.heap.size v1 (acc ++ [q])) := HOA.out.snoc (by rw [HCV.out]; exact HVA.out) HZQ.out hown hgrow; have HB3 := Lib.hid (HBA.out.trans (below_owns HOX.out hgrow HBA.out.size)); clear hown hgrow)
      go_roundg g
      case measure => omega
      case rel =>
        refine ⟨j + 1, acc ++ [q], HV1.out, by go_num, by omega, by rw [List.length_append, HAL.out]; rfl, ?_, HB3.out⟩
        show _ = _
        unfold txR at HT ⊢
        rw [HTK.out, List.map_append, List.map_append, HT.out, List.map_cons, List.map_cons, HQL.out]
        rfl
end Go.Proofs.Ytofmfainhflmmaa
