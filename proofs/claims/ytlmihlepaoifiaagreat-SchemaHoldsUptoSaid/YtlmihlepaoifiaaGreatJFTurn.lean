import Derived.Test.YtlmihlepaoifiaaGreatJSSet
import Derived.Test.YtlmihlepaoifiaaGreatJVSl
import Derived.Maps.AppendAt
import Derived.Test.YtlmihlepaoifiaaGreatJFThen
import Derived.Test.YtlmihlepaoifiaaGreatJFLastP
import Derived.Test.YtlmihlepaoifiaaGreatJOArgs
import Derived.Test.YtlmihlepaoifiaaGreatJORdRead
import Derived.Test.YtlmihlepaoifiaaGreatJDMeth
/-
  CONTRACTS of the document's own answer: In.
-/
namespace Go.Proofs.YtlmihlepaoifiaaGreat
open Go.RowKit

set_option maxRecDepth 100000 in
set_option maxHeartbeats 4000000 in
theorem refIn_any (A : Option Addr) (c : Nat) (l : List Sp) (t : Int) (w : World) (B : Nat) (hs : SlS w B A l) (hl : l.length ≤ 1048576) :
    Calls Tryz.prog 61 #[.slice A l.length c, .int .i64 t] w fun e w' => e = .returned (.bool (innB l t)) ∧ ∃ n, w' = w.drewN n := by
  go_enter Tryz.func61, Tryz.ntmps61
  go_wp2
  go_loopw [5] (fun i wr => ∃ j n : Nat, j ≤ l.length ∧ i = .int .i64 j ∧ wr = w.drewN n ∧ Hid (∀ k s, k < j → l[k]? = some s → ¬ (s.1 ≤ t ∧ t < s.2))) (fun i _ => l.length - (intOf i).toNat)
  case atStart => exact ⟨0, 0, by omega, rfl, rfl, fun k s hk => by omega⟩
  case round =>
    obtain ⟨j, n, hj, rfl, rfl, HO⟩ := hrel
    by_cases h1 : j < l.length
    · have hji : (j : Int) < (l.length : Int) := by omega
      obtain ⟨b, o, rfl, _, hp⟩ := hs.at_ h1
      obtain ⟨⟨x, y⟩, hpe⟩ : ∃ p, l[j] = p := ⟨_, rfl⟩
      have HG : Hid (l[j]? = some (x, y)) := by show _ = _; rw [List.getElem?_eq_getElem h1, hpe]
      rw [hpe] at hp
      have c0 := hp.c0
      have c1 := hp.c1
      have HS := Lib.hid hs
      clear hp hpe hs
      by_cases hx : x ≤ t
      · by_cases hy : t < y
        · have HV : Hid (innB l t = true) := decide_eq_true ⟨(x, y), List.mem_of_getElem? HG.out, hx, hy⟩
          go_wp2
          go_ret
          exact ⟨by rw [HV.out]; rfl, _, rfl⟩
        · have HV : Hid (∀ k s, k < j + 1 → l[k]? = some s → ¬ (s.1 ≤ t ∧ t < s.2)) := fun k s hk hg => by
            rcases Nat.lt_succ_iff_lt_or_eq.1 hk with h | rfl
            · exact HO.out k s h hg
            · rw [HG.out] at hg
              cases hg
              exact fun h => hy h.2
          go_wp2
          go_roundw
          case rel => exact ⟨j + 1, _, by omega, by go_num, rfl, HV⟩
          case measure => simp [intOf]; omega
      · have HV : Hid (∀ k s, k < j + 1 → l[k]? = some s → ¬ (s.1 ≤ t ∧ t < s.2)) := fun k s hk hg => by
          rcases Nat.lt_succ_iff_lt_or_eq.1 hk with h | rfl
          · exact HO.out k s h hg
          · rw [HG.out] at hg
            cases hg
            exact fun h => hx h.1
        go_wp2
        go_roundw
        case rel => exact ⟨j + 1, _, by omega, by go_num, rfl, HV⟩
        case measure => simp [intOf]; omega
    · have hji : ¬ (j : Int) < (l.length : Int) := by omega
      have HV : Hid (innB l t = false) := innB_no fun s hs9 => by
        obtain ⟨k, hk, rfl⟩ := List.getElem_of_mem hs9
        exact HO.out k _ (by omega) (List.getElem?_eq_getElem hk)
      go_wp2
      go_ret
      exact ⟨by rw [HV.out]; rfl, n, rfl⟩

end Go.Proofs.YtlmihlepaoifiaaGreat

/-
  FACTS for Of's contracts.
-/
namespace Go.Proofs.YtlmihlepaoifiaaGreat
open Go.RowKit

def andF (x y : Bool) : Bool := x && y
def notF (x y : Bool) : Bool := x && !y

/-- what the region that appends reads -/
def SEnd (ge j : Nat) (t u : Int) (W : World) : Prop := W.cell? ⟨ge, j, none⟩ = some (.int .i64 t) ∧ W.cell? ⟨ge, j + 1, none⟩ = some (.int .i64 u)
theorem SEnd.next {ge j B : Nat} {t u : Int} {W W' : World} (h : SEnd ge j t u W) (hb : Below B W W') (hg : ge < B) : SEnd ge j t u W' :=
  ⟨(hb.cell (p := ⟨ge, j, none⟩) hg).trans h.1, (hb.cell (p := ⟨ge, j + 1, none⟩) hg).trans h.2⟩
theorem OwnS.low {W : World} {B B' : Nat} {v : Value} {l : List Sp} (h : OwnS W B v l) (hB : B' ≤ B) : OwnS W B' v l := by
  refine ⟨h.1, ?_⟩
  rcases h.2 with h | ⟨g, cap, cur, h1, h2, h3⟩
  · exact .inl h
  · exact .inr ⟨g, cap, cur, h1, by omega, h3⟩
theorem OwnS.drewN {W : World} {B : Nat} {v : Value} {l : List Sp} (h : OwnS W B v l) (n : Nat) : OwnS (W.drewN n) B v l := h
end Go.Proofs.YtlmihlepaoifiaaGreat

/-
  CONTRACT: turnOf (one transaction's datoms of one triple).
-/
namespace Go.Proofs.YtlmihlepaoifiaaGreat
open Go.RowKit Go.Shelf

/-- two rows are none the same -/
def Ap (u v : Value) : Prop := ∀ g, u.ownBlock = some g → v.ownBlock = some g → False
theorem Ap.symm {u v : Value} (h : Ap u v) : Ap v u := fun g h1 h2 => h g h2 h1
end Go.Proofs.YtlmihlepaoifiaaGreat
