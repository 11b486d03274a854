/-
  THE CONTRACT of alive: the chapter's first examples hold.
-/
import Derived.Test.YtjmcopbnkaapdaaDoorText
namespace Go.Proofs.YtjmcopbnkaapdaaDoor
open Go.RowKit Go.Shelf

theorem decDigits_5 : Lib.decDigits 5 = [53] := by rw [Lib.decDigits, dif_pos (by decide)]; rfl
theorem itoa_m5 : Lib.itoa (-5) = [45, 53] := by
  have h : ((-5 : Int)).natAbs = 5 := by decide
  unfold Lib.itoa; rw [if_pos (by decide), h, decDigits_5]

theorem text_a (w : World) (htab : Tab w) :
    Calls Tryd.prog 7 #[.agg #[.int .i64 1, .int .i64 (-5), .string ⟨#[]⟩]] w fun e w' => e = .returned (.tuple #[.string ⟨#[45, 53]⟩, .int .i64 0]) ∧ Below w.heap.size w w' := by
  refine (text_any 1 (-5) ⟨#[]⟩ w (by decide) (by decide) (by decide) htab).mono fun e w' ⟨h, hb⟩ => ⟨?_, hb⟩
  rcases h with ⟨_, rfl⟩ | ⟨hm, _⟩
  · rw [show txtL 1 (-5) ⟨#[]⟩ = [45, 53] from itoa_m5]
  · exact absurd hm (by decide)
theorem text_b (w : World) (htab : Tab w) :
    Calls Tryd.prog 7 #[.agg #[.int .i64 3, .int .i64 0, .string ⟨#[97, 34, 98, 10]⟩]] w fun e w' => e = .returned (.tuple #[.string ⟨#[34, 97, 92, 50, 50, 98, 92, 48, 97, 34]⟩, .int .i64 0]) ∧ Below w.heap.size w w' := by
  refine (text_any 3 0 ⟨#[97, 34, 98, 10]⟩ w (by decide) (by decide) (by decide) htab).mono fun e w' ⟨h, hb⟩ => ⟨?_, hb⟩
  rcases h with ⟨_, rfl⟩ | ⟨hm, _⟩
  · rw [show txtL 3 0 ⟨#[97, 34, 98, 10]⟩ = [34, 97, 92, 50, 50, 98, 92, 48, 97, 34] from by decide +kernel]
  · exact absurd hm (by decide)

set_option maxRecDepth 100000 in
set_option maxHeartbeats 1000000 in
theorem alive_any (w : World) (htab : Tab w) : Calls Tryd.prog 12 #[] w fun e w' => e = .returned (.bool true) ∧ Below w.heap.size w w' := by
  have HT := Lib.hid htab
  clear htab
  go_enter Tryd.func12, Tryd.ntmps12
  go_wp2_with fail
  refine (text_a _ HT.out).mono ?_
  rintro e w1 ⟨rfl, hb1⟩
  go_wp2_with fail
  refine (text_b _ (tab_below HT.out hb1)).mono ?_
  rintro e w2 ⟨rfl, hb2⟩
  go_wp2
  go_ret
  exact ⟨rfl, hb1.trans (hb2.mono hb1.size)⟩

end Go.Proofs.YtjmcopbnkaapdaaDoor
