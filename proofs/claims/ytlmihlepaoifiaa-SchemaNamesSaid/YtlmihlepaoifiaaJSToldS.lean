/-
  CONTRACTS: told's value hands on what two sets have; told.
-/
import Derived.Test.YtlmihlepaoifiaaJSTold
namespace Go.Proofs.Ytlmihlepaoifiaa
open Go.RowKit Go.Shelf

theorem stold_stops (n : Nat) (B Ba Bb N : Nat) (A A' : Option Addr) (c c' : Nat) (a b : List Sp) (w : World) (hB : B ≤ w.heap.size) (hBa : Ba < w.heap.size) (hBb : Bb < w.heap.size) (hs : SlS w B A a) (hs' : SlS w B A' b) (hlc : a.length ≤ c) (hc : c ≤ maxLen) (hlc' : b.length ≤ c') (hc' : c' ≤ maxLen)
    (hla : Live a minT) (hlb : Live b minT) (hN : 2 * a.length + 2 * b.length ≤ N)
    (hb : w.cell? ⟨Ba, 0, none⟩ = some (.slice A a.length c)) (hkb : w.cell? ⟨Bb, 0, none⟩ = some (.slice A' b.length c')) :
    SeqStopsK Fence.wide n Try.prog 82 #[.pointer (some ⟨Ba, 0, none⟩), .pointer (some ⟨Bb, 0, none⟩)] (fun x : Sp × Nat => #[.agg #[.int .i64 x.1.1, .int .i64 x.1.2], .int .i64 (x.2 : Int)]) (Below B) (fun ys => Told a b minT ys) (fun q => ∃ r, Told a b minT (q ++ r)) N w := fun lp J Jx W hW hA _ hY h0' => by
  have hH : HandsS B lp N J Jx := fun m pre x W1 hj hl => YieldAt.anyDepth m (hY pre x W1 hj hl)
  have g0 := (hW.cell (p := ⟨Ba, 0, none⟩) hBa).trans hb
  have g1 := (hW.cell (p := ⟨Bb, 0, none⟩) hBb).trans hkb
  refine (stold_in w B lp W.heap.size Ba Bb N A A' c c' a b J Jx hA hH n W (Nat.le_trans hB hW.size) (hW.mono hB) hs hs' hlc hc hlc' hc' hla hlb hN g0 g1 h0').mono ?_
  rintro e W' ⟨hv, ⟨ys, hys, hj⟩ | ⟨q, hq, hx⟩⟩
  · exact ⟨hv, .inl ⟨ys, hys, hj⟩⟩
  · exact ⟨hv, .inr ⟨q, hq, hx⟩⟩

set_option maxHeartbeats 400000 in
theorem stoldOf_any (A A' : Option Addr) (n c n' c' : Nat) (w : World) :
    Calls Try.prog 65 #[.slice A n c, .slice A' n' c'] w fun e w' => e = .returned (.func (.func 82) #[] #[.pointer (some ⟨w.heap.size, 0, none⟩), .pointer (some ⟨w.heap.size + 1, 0, none⟩)]) ∧ w' = (w.alloc (.cells #[.slice A n c] 28)).alloc (.cells #[.slice A' n' c'] 28) := by
  go_enter Try.func65, Try.ntmps65
  go_wp2
  go_ret
  exact ⟨rfl, rfl⟩
end Go.Proofs.Ytlmihlepaoifiaa
