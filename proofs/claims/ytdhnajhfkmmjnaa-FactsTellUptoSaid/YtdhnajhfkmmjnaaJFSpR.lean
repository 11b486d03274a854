/-
  CONTRACT of the document's own answer: Spans.
-/
import Derived.Test.YtdhnajhfkmmjnaaJFFindR
import Derived.Test.YtdhnajhfkmmjnaaJFMayR
import Derived.Test.YtdhnajhfkmmjnaaJFLeast
namespace Go.Proofs.Ytdhnajhfkmmjnaa
open Go.RowKit Go.Shelf

set_option maxRecDepth 100000 in
set_option maxHeartbeats 2000000 in
/-- CONTRACT of the document's own answer: Spans. -/
theorem refSpansF_any (A : Option Addr) (c : Nat) (fs : List FactP) (e a k m : Int) (s : ByteArray) (w : World) (hs : FVa w (.slice A fs.length c) fs) (hn : FNn w A fs.length) (hl : fs.length ≤ 100000) (hz : ∀ f ∈ fs, f.s.size ≤ maxLen ∧ f.l.length ≤ 100000) (hss : s.size ≤ maxLen) :
    Calls Try.prog 18 #[.slice A fs.length c, .int .i64 e, .int .i64 a, .agg #[.int .i64 k, .int .i64 m, .string s]] w (fun en w' => (∃ v ec, en = .returned (.tuple #[v, .int .i64 ec]) ∧ ((mayFs fs = true ∧ ec = 0 ∧ SVa w' v (spansOf fs (e, a, k, m, s))) ∨ (mayFs fs = false ∧ ec = 60 ∧ v = .slice none 0 0))) ∧ Below w.heap.size w w') := by
  obtain ⟨w0, hw0⟩ : ∃ w0, w.alloc (.cells #[.int .i64 k, .int .i64 m, .string s] 39) = w0 := ⟨_, rfl⟩
  have HX0 : Hid (VBx w0 w.heap.size k m s) := by rw [← hw0]; exact heap_alloc_new w _
  have HB0 : Hid (Below w.heap.size w w0) := by rw [← hw0]; exact (Below.refl _ _).alloc (Nat.le_refl _) _
  have HM := Lib.hid (refMayF_any A c fs w0 (hs.next HB0.out) hl hz)
  have HF := Lib.hid (fun X (hb : Below w.heap.size w X) => refFind_any A c fs ⟨e, a, k, m, s, []⟩ (.slice none 0 0) X (hs.next hb) (FNn.next hn hs hb) hl hz ⟨_, _, _, rfl⟩ hss)
  obtain ⟨v, hv⟩ : ∃ v, mayFs fs = v := ⟨_, rfl⟩
  rw [hv] at HM
  have HV := Lib.hid hv
  clear hs hn hl hz hss hv
  go_enter Try.func18, Try.ntmps18
  go_upto_region 1 with (fail)
  try rw [hw0]
  clear hw0
  go_wp2_with fail
  refine HM.out.mono ?_
  rintro e9 w1 ⟨rfl, hb1⟩
  have HB1 := Lib.hid (HB0.out.trans (hb1.mono HB0.out.size))
  have HX1 := Lib.hid (HX0.out.next hb1)
  clear hb1
  have x0 := HX1.out.k0
  have x1 := HX1.out.k1
  have x2 := HX1.out.k2
  cases v
  · go_wp2
    go_ret2
    exact ⟨⟨_, _, rfl, .inr ⟨HV.out, rfl, rfl⟩⟩, HB1.out⟩
  · go_wp2_with fail
    refine (HF.out _ HB1.out).mono ?_
    rintro e9 w2 ⟨⟨v, rfl, hsv⟩, hb2⟩
    have HSV := Lib.hid hsv
    have HB2 := Lib.hid (HB1.out.trans (hb2.mono HB1.out.size))
    clear hsv hb2
    go_wp2
    go_ret2
    exact ⟨⟨_, _, rfl, .inl ⟨HV.out, rfl, HSV.out.1⟩⟩, HB2.out⟩

end Go.Proofs.Ytdhnajhfkmmjnaa
