/-
  CONTRACT: Print.
-/
import Derived.Test.YthbighnkohjfnaaGreatDoorWTPrntL
namespace Go.Proofs.YthbighnkohjfnaaGreatDoor
open Go.RowKit

/-- what Print answers -/
def PrintE (w : World) (l : List Nd) (e : Ending) (w' : World) : Prop :=
  (e = .returned (if mayL l then .tuple #[.string ⟨(prL l).toArray⟩, .int .i64 0] else .tuple #[.string ⟨#[]⟩, .int .i64 2])) ∧ Below w.heap.size w w'
theorem ownsB_nil (w : World) (lo : Nat) (h : lo ≤ w.heap.size) : OwB lo (.slice none 0 0) [] w w := ⟨World.ownsRow_nil _ _ _ _, Below.refl _ _, Lib.OthersKept.refl _ _ _, h⟩
theorem conv_own {lo : Nat} {v : Value} {l : List UInt8} {W0 W : World} (h : OwB lo v l W0 W) : (convert 61 9 v).run Tryz.prog W = .ok (.string ⟨l.toArray⟩) W := by
  exact own_string W v lo l h.row
set_option maxRecDepth 100000 in
set_option maxHeartbeats 1000000 in
theorem print_any (d : Nat) (A : Option Addr) (c : Nat) (l : List Nd) (w : World) (B : Nat → Prop) (hs : SlN d w B A l) (hB : ∀ g, B g → g < w.heap.size) (ht : txL l) (hp : mayL l = true → pvNs l ∧ (prL l).length ≤ 1000000000) (htab : Tab w) :
    Calls Tryz.prog 12 #[.slice A l.length c] w (PrintE w l) := by
  have HM := Lib.hid (mayL_any d A c l w B hs hB ht)
  have HS := Lib.hid hs
  have HBB := Lib.hid hB
  have HP := Lib.hid hp
  have HT := Lib.hid htab
  clear hs hB ht hp htab
  go_enter Tryz.func12, Tryz.ntmps12
  go_wp2_with fail
  refine HM.out.mono ?_
  rintro e w1 ⟨rfl, hb1⟩
  have HB1 := Lib.hid hb1
  clear hb1
  cases h1 : mayL l with
  | false =>
    have H1 := Lib.hid h1
    clear h1
    go_wp2_with fail
    go_ret2
    refine ⟨?_, HB1.out⟩
    rw [H1.out]
    rfl
  | true =>
    have H1 := Lib.hid h1
    clear h1
    obtain ⟨p1, p2⟩ := HP.out H1.out
    have HC := Lib.hid (pr_any w HT.out d A c l (.slice none 0 0) [] w1 B (HS.out.keep fun g hg => HB1.out.block g (HBB.out g hg)) HBB.out p1 HB1.out (ownsB_nil w1 _ HB1.out.size) (by rw [List.length_nil, Nat.zero_add]; exact p2))
    clear p1 p2
    go_wp2_with fail
    refine HC.out.mono ?_
    rintro e w2 ⟨v2, rfl, ho2⟩
    rw [List.nil_append] at ho2
    have hcv := conv_own ho2
    have HO2 := Lib.hid ho2
    clear ho2
    go_wp2_with fail
    go_ret2
    refine ⟨?_, HB1.out.trans HO2.out.bel⟩
    rw [H1.out]
    rfl
end Go.Proofs.YthbighnkohjfnaaGreatDoor
