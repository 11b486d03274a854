/-
  THE LAW TextNamed.
-/
import Derived.Test.YtkoknogefmfmnaaTNNam
namespace Go.Proofs.Ytkoknogefmfmnaa
open Go.RowKit

set_option maxRecDepth 100000 in
set_option maxHeartbeats 1000000 in
theorem namedL_any (s : ByteArray) (w : World) :
    Calls Try.prog 7 #[.string s] w fun e w' => e = .returned (.bool true) ∧ Below w.heap.size w w' := by
  by_cases h : 1000 < s.size
  · have hi : (1000 : Int) < (s.size : Int) := by omega
    go_enter Try.func7, Try.ntmps7
    go_wp2
    go_ret
    exact ⟨rfl, Below.refl _ _⟩
  · have hi : ¬ (1000 : Int) < (s.size : Int) := by omega
    have h1 := named_any s w (by omega)
    have h2 := fun W => refNamed_any s W (by omega)
    rw [nam_one] at h1
    obtain ⟨R, hR⟩ : ∃ R, namR s.data.toList = R := ⟨_, rfl⟩
    rw [hR] at h1
    simp only [hR] at h2
    have H1 := Lib.hid h1
    have H2 := Lib.hid h2
    have hRR : (R == R) = true := by simp
    clear h1 h2 hR
    go_enter Try.func7, Try.ntmps7
    go_wp2_with fail
    refine H1.out.mono ?_
    rintro e w1 ⟨rfl, hb1⟩
    have HB1 := Lib.hid hb1
    clear hb1
    go_wp2_with fail
    refine (H2.out _).mono ?_
    rintro e w2 ⟨rfl, rfl⟩
    go_wp2
    go_ret
    exact ⟨rfl, HB1.out⟩
end Go.Proofs.Ytkoknogefmfmnaa
