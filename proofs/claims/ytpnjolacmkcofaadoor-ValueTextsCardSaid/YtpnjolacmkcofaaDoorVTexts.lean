/-
  THE LAW ValueTexts: its walk.
-/
import Derived.Test.YtpnjolacmkcofaaDoorRefParse
namespace Go.Proofs.YtpnjolacmkcofaaDoor
open Go.RowKit Go.Shelf

theorem neV (k n : Int) (s : ByteArray) (w : World) : (Op.equalIn 10000 23 (.agg #[.int .i64 k, .int .i64 n, .string s]) (.agg #[.int .i64 k, .int .i64 n, .string s])).run Tryd.prog w = .ok true w := by
  have u3 := Tryd.underlying3
  have u2 := Tryd.underlying2
  have u9 := Tryd.underlying9
  have a3 := Tryd.isAgg3
  have a2 := Tryd.isAgg2
  have a9 := Tryd.isAgg9
  have hS : Tryd.prog.underlying 23 = some (.struct (Tryd.prog.fieldsOf 23)) := by kernel_rfl
  have hp : Tryd.prog.stoodInHeld 23 = false := by kernel_rfl
  rw [show (10000 : Nat) = 9999 + 1 from rfl, run_equalIn_agg w 9999 23 _ _ hS hp]
  simp only [Program.fieldsOf, Tryd.underlying23]
  go_simp

/-- the text that is answered, and the error's number -/
def ansT (k n : Int) (s : ByteArray) : ByteArray := if mayB k n s = true then ⟨(txtL k n s).toArray⟩ else ⟨#[]⟩
def ansC (k n : Int) (s : ByteArray) : Int := if mayB k n s = true then 0 else 10
theorem text_ans {k n : Int} {s : ByteArray} {e : Ending} (h : TextEnd k n s e) : e = .returned (.tuple #[.string (ansT k n s), .int .i64 (ansC k n s)]) := by
  unfold ansT ansC
  rcases h with ⟨hm, rfl⟩ | ⟨hm, rfl⟩
  · rw [if_pos hm, if_pos hm]
  · rw [hm]; rfl
theorem parse_same {l : List UInt8} {e1 e2 : Ending} (h1 : ParseEnds l e1) (h2 : ParseEnds l e2) : e1 = e2 := by
  rcases h1 with ⟨k, n, t, rfl, hm, hn, _, hl, _⟩ | ⟨rfl, hno⟩
  · rcases h2 with ⟨k', n', t', rfl, _, _, _, _, hu⟩ | ⟨rfl, hno'⟩
    · obtain ⟨rfl, rfl, rfl⟩ := hu k n t hm hn hl
      rfl
    · exact absurd hl (hno' k n t hm hn)
  · rcases h2 with ⟨k', n', t', rfl, hm, hn, _, hl, _⟩ | ⟨rfl, _⟩
    · exact absurd hl (hno k' n' t' hm hn)
    · rfl
theorem parse_form {l : List UInt8} {e : Ending} (h : ParseEnds l e) : ∃ (k n : Int) (t : ByteArray) (f : Int), e = .returned (.tuple #[.agg #[.int .i64 k, .int .i64 n, .string t], .int .i64 f]) := by
  rcases h with ⟨k, n, t, rfl, _⟩ | ⟨rfl, _⟩
  · exact ⟨k, n, t, 0, rfl⟩
  · exact ⟨0, 0, ⟨#[]⟩, 11, rfl⟩
theorem vBlk_new (W : World) (x y z : Value) : VBlk (W.alloc (.cells #[x, y, z] 23)) W.heap.size x y z := heap_alloc_new W _
theorem VBlk.alloc {W : World} {b : Nat} {x y z : Value} (h : VBlk W b x y z) (o : Obj) : VBlk (W.alloc o) b x y z := (Below.heap_alloc W o b h.lt).trans h

set_option maxRecDepth 100000 in
set_option maxHeartbeats 4000000 in
theorem texts_any (k n : Int) (t s : ByteArray) (w : World) (hn : inI64 n) (herr : Errs w) (htab : Tab w) :
    Calls Tryd.prog 3 #[.agg #[.int .i64 k, .int .i64 n, .string t], .string s] w fun e w' => e = .returned (.bool true) ∧ Below w.heap.size w w' := by
  have HE := Lib.hid herr
  have HT := Lib.hid htab
  have HN := Lib.hid hn
  have hB0 : Below w.heap.size w (w.alloc (.cells #[.int .i64 k, .int .i64 n, .string t] 23)) := (Below.refl _ _).alloc (Nat.le_refl _) _
  have HB0 := Lib.hid hB0
  have HV0 := Lib.hid (vBlk_new w (.int .i64 k) (.int .i64 n) (.string t))
  clear herr htab hn hB0
  by_cases h1 : 5000 < (t.size : Int)
  · go_enter Tryd.func3, Tryd.ntmps3
    go_wp2
    go_ret
    exact ⟨rfl, HB0.out⟩
  by_cases h2 : 5000 < (s.size : Int)
  · go_enter Tryd.func3, Tryd.ntmps3
    go_wp2
    go_ret
    exact ⟨rfl, HB0.out⟩
  have h1' : (t.size : Int) ≤ 5000 := by omega
  have h2' : (s.size : Int) ≤ 5000 := by omega
  have hmx : 5000 ≤ maxLen := by decide
  have ht : t.size ≤ maxLen := by omega
  have hs : s.size ≤ maxLen := by omega
  have HTS := Lib.hid ht
  have HSS := Lib.hid hs
  clear h1 h2 hmx ht hs
  go_enter Tryd.func3, Tryd.ntmps3
  go_wp2_with fail
  refine (text_any k n t _ HTS.out HN.out.1 HN.out.2 (tab_below HT.out HB0.out)).mono ?_
  rintro e w2 ⟨he, hb2⟩
  obtain rfl := text_ans he
  have HV2 := Lib.hid (HV0.out.next hb2 (by simp))
  have HB2 := Lib.hid (HB0.out.trans (hb2.mono (by simp)))
  clear he hb2 HV0 HB0
  have v0 := HV2.out.c0
  have v1 := HV2.out.c1
  have v2 := HV2.out.c2
  go_wp2_with fail
  refine (refText_any k n t _ HTS.out HN.out.1 HN.out.2).mono ?_
  rintro e w3 ⟨he, hb3⟩
  obtain rfl := text_ans he
  obtain ⟨a, ha⟩ : ∃ a, ansT k n t = a := ⟨_, rfl⟩
  obtain ⟨c, hc⟩ : ∃ c, ansC k n t = c := ⟨_, rfl⟩
  rw [ha, hc]
  have HB3 := Lib.hid (HB2.out.trans (hb3.mono HB2.out.size))
  clear he hb3 HV2 HB2 v0 v1 v2 ha hc
  go_wp2_with fail
  refine (parse_any s _ HSS.out (errs_below HE.out HB3.out) (tab_below HT.out HB3.out)).mono ?_
  rintro e w4 ⟨he, hb4⟩
  have HP := Lib.hid he
  obtain ⟨k1, n1, t1, f1, rfl⟩ := parse_form he
  have HB4 := Lib.hid (HB3.out.trans (hb4.mono HB3.out.size))
  have HX := Lib.hid (vBlk_new w4 (.int .i64 k1) (.int .i64 n1) (.string t1))
  clear he hb4 HB3
  go_wp2_with fail
  refine (refParse_any s _ (by omega)).mono ?_
  rintro e w5 ⟨he, hb5⟩
  obtain rfl := parse_same HP.out he
  have HX5 := Lib.hid (HX.out.next hb5 (by simp))
  have HB5 := Lib.hid ((HB4.out.alloc HB4.out.size _).trans (hb5.mono (by have := HB4.out.size; simp; omega)))
  clear he hb5 HX HB4
  have hx := HX5.out.alloc (.cells #[.int .i64 k1, .int .i64 n1, .string t1] 23)
  have x0 := hx.c0
  have x1 := hx.c1
  have x2 := hx.c2
  have hne := neV k1 n1 t1
  clear hx
  go_wp2
  go_ret
  exact ⟨rfl, HB5.out.alloc HB5.out.size _⟩

end Go.Proofs.YtpnjolacmkcofaaDoor
