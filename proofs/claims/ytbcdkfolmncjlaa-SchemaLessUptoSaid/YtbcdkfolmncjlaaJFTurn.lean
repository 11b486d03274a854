import Derived.Test.YtbcdkfolmncjlaaJSSet
import Derived.Test.YtbcdkfolmncjlaaJVSl
import Derived.Maps.AppendAt
import Derived.Laws.AppendOwnNone
import Derived.Test.YtbcdkfolmncjlaaJFThen
import Derived.Test.YtbcdkfolmncjlaaJFLastP
import Derived.Test.YtbcdkfolmncjlaaJOArgs
import Derived.Test.YtbcdkfolmncjlaaJORdRead
import Derived.Test.YtbcdkfolmncjlaaJORdNum
/-
  CONTRACTS of the document's own answer: In.
-/
namespace Go.Proofs.Ytbcdkfolmncjlaa
open Go.RowKit

set_option maxRecDepth 100000 in
set_option maxHeartbeats 4000000 in
theorem refIn_any (A : Option Addr) (c : Nat) (l : List Sp) (t : Int) (w : World) (B : Nat) (hs : SlS w B A l) (hl : l.length ≤ 1048576) :
    Calls Try.prog 24 #[.slice A l.length c, .int .i64 t] w fun e w' => e = .returned (.bool (innB l t)) ∧ ∃ n, w' = w.drewN n := by
  go_enter Try.func24, Try.ntmps24
  go_wp2
  go_loopw [5] (fun i wr => ∃ j n : Nat, j ≤ l.length ∧ i = .int .i64 j ∧ wr = w.drewN n ∧ Hid (∀ k s, k < j → l[k]? = some s → ¬ (s.1 ≤ t ∧ t < s.2))) (fun i _ => l.length - (intOf i).toNat)
  case atStart => exact ⟨0, 0, by omega, rfl, rfl, fun k s hk => by omega⟩
  case round =>
    obtain ⟨j, n, hj, rfl, rfl, HO⟩ := hrel
    by_cases h1 : j < l.length
    · have hji : (j : Int) < (l.length : Int) := by omega
      obtain ⟨b, o, rfl, _, hp⟩ := hs.at_ h1
      obtain ⟨⟨x, y⟩, hpe⟩ : ∃ p, l[j] = p := ⟨_, rfl⟩
      have HG : Hid (l[j]? = some (x, y)) := by show _ = _; rw [List.getElem?_eq_getElem h1, hpe]
      rw [hpe] at hp
      have c0 := hp.c0
      have c1 := hp.c1
      have HS := Lib.hid hs
      clear hp hpe hs
      by_cases hx : x ≤ t
      · by_cases hy : t < y
        · have HV : Hid (innB l t = true) := decide_eq_true ⟨(x, y), List.mem_of_getElem? HG.out, hx, hy⟩
          go_wp2
          go_ret
          exact ⟨by rw [HV.out]; rfl, _, rfl⟩
        · have HV : Hid (∀ k s, k < j + 1 → l[k]? = some s → ¬ (s.1 ≤ t ∧ t < s.2)) := fun k s hk hg => by
            rcases Nat.lt_succ_iff_lt_or_eq.1 hk with h | rfl
            · exact HO.out k s h hg
            · rw [HG.out] at hg
              cases hg
              exact fun h => hy h.2
          go_wp2
          go_roundw
          case rel => exact ⟨j + 1, _, by omega, by go_num, rfl, HV⟩
          case measure => simp [intOf]; omega
      · have HV : Hid (∀ k s, k < j + 1 → l[k]? = some s → ¬ (s.1 ≤ t ∧ t < s.2)) := fun k s hk hg => by
          rcases Nat.lt_succ_iff_lt_or_eq.1 hk with h | rfl
          · exact HO.out k s h hg
          · rw [HG.out] at hg
            cases hg
            exact fun h => hx h.1
        go_wp2
        go_roundw
        case rel => exact ⟨j + 1, _, by omega, by go_num, rfl, HV⟩
        case measure => simp [intOf]; omega
    · have hji : ¬ (j : Int) < (l.length : Int) := by omega
      have HV : Hid (innB l t = false) := innB_no fun s hs9 => by
        obtain ⟨k, hk, rfl⟩ := List.getElem_of_mem hs9
        exact HO.out k _ (by omega) (List.getElem?_eq_getElem hk)
      go_wp2
      go_ret
      exact ⟨by rw [HV.out]; rfl, n, rfl⟩

end Go.Proofs.Ytbcdkfolmncjlaa

/-
  FACTS for Of's contracts.
-/
namespace Go.Proofs.Ytbcdkfolmncjlaa
open Go.RowKit

def orF (x y : Bool) : Bool := x || y
def andF (x y : Bool) : Bool := x && y
def notF (x y : Bool) : Bool := x && !y

/-- what the region that appends reads -/
def SEnd (ge j : Nat) (t u : Int) (W : World) : Prop := W.cell? ⟨ge, j, none⟩ = some (.int .i64 t) ∧ W.cell? ⟨ge, j + 1, none⟩ = some (.int .i64 u)
theorem SEnd.next {ge j B : Nat} {t u : Int} {W W' : World} (h : SEnd ge j t u W) (hb : Below B W W') (hg : ge < B) : SEnd ge j t u W' :=
  ⟨(hb.cell (p := ⟨ge, j, none⟩) hg).trans h.1, (hb.cell (p := ⟨ge, j + 1, none⟩) hg).trans h.2⟩
theorem OwnS.low {W : World} {B B' : Nat} {v : Value} {l : List Sp} (h : OwnS W B v l) (hB : B' ≤ B) : OwnS W B' v l := by
  refine ⟨h.1, ?_⟩
  rcases h.2 with h | ⟨g, cap, cur, h1, h2, h3⟩
  · exact .inl h
  · exact .inr ⟨g, cap, cur, h1, by omega, h3⟩
theorem OwnS.drewN {W : World} {B : Nat} {v : Value} {l : List Sp} (h : OwnS W B v l) (n : Nat) : OwnS (W.drewN n) B v l := h
end Go.Proofs.Ytbcdkfolmncjlaa

/-
  CONTRACT: turnOf (one transaction's datoms of one triple).
-/
namespace Go.Proofs.Ytbcdkfolmncjlaa
open Go.RowKit Go.Shelf

/-- two rows are none the same -/
def Ap (u v : Value) : Prop := ∀ g, u.ownBlock = some g → v.ownBlock = some g → False
theorem Ap.symm {u v : Value} (h : Ap u v) : Ap v u := fun g h1 h2 => h g h2 h1
theorem ap_kept {u v : Value} (h : Ap u v) : v.ownBlock = none ∨ v.ownBlock ≠ u.ownBlock := by
  cases hv : v.ownBlock with
  | none => exact .inl rfl
  | some k => exact .inr fun e => h k e.symm hv
theorem ap_next {W : World} {B size n : Nat} {t : TypeId} {u u' v : Value} {xs : List Value} (h : Ap u v) (hv : W.ownsRow B t size v n xs) (hat : u'.ownBlock = u.ownBlock ∨ u'.ownBlock = some W.heap.size) : Ap u' v := fun g h1 h2 => by
  rcases hat with e | e
  · exact h g (e ▸ h1) h2
  · have h3 := (World.ownsRow.lt hv g h2).2
    rw [e] at h1
    injection h1 with h1
    omega
theorem spOk_of {r l : List Sp} (hr : SetL r) (h : ∀ t, Inn r t ↔ Inn l t) (hl : ∀ q ∈ l, SpOk q) : ∀ q ∈ r, SpOk q := fun q hq => by
  obtain ⟨a, ha, h1, h2⟩ := (h _).1 (set_start hr hq).1
  obtain ⟨b, hb, h3, h4⟩ := (h _).1 (set_end hr hq).1
  have k1 := hl a ha
  have k2 := hl b hb
  have k3 := hr.2 q hq
  unfold SpOk at *
  exact ⟨⟨by omega, by omega⟩, by omega, by omega⟩
/-- What turnOf answers. -/
def TurnEnd (w : World) (r : List Dat) (e : Ending) (w' : World) : Prop := (∃ x vi vo ok, e = .returned (.tuple #[.agg #[vi, vo], .bool ok]) ∧ IsTurn r x ∧ (∀ q ∈ x.i, SpOk q) ∧ (∀ q ∈ x.o, SpOk q) ∧ (ok = true ↔ ¬ Clash r) ∧ OwnS w' w.heap.size vi x.i ∧ OwnS w' w.heap.size vo x.o) ∧ Below w.heap.size w w'
theorem adds_take {r : List Dat} {j : Nat} {d : Dat} (h : r[j]? = some d) : addsL (r.take (j + 1)) = addsL (r.take j) ++ (if d.add = true then [spD d] else []) ∧ cutsL (r.take (j + 1)) = cutsL (r.take j) ++ (if d.add = true then [] else [spD d]) := by
  have ht : r.take (j + 1) = r.take j ++ [d] := by rw [List.take_add_one, h]; rfl
  rw [ht]
  unfold addsL cutsL
  rw [List.filter_append, List.map_append, List.filter_append, List.map_append]
  cases hd : d.add <;> simp [hd]
theorem adds_len (r : List Dat) : (addsL r).length ≤ r.length ∧ (cutsL r).length ≤ r.length := by
  unfold addsL cutsL
  rw [List.length_map, List.length_map]
  exact ⟨List.length_filter_le _ _, List.length_filter_le _ _⟩
theorem adds_mem {r : List Dat} {q : Sp} (h : q ∈ addsL r ∨ q ∈ cutsL r) : ∃ d ∈ r, q = spD d := by
  rcases h with h | h
  · obtain ⟨d, hd, rfl⟩ := List.mem_map.1 h
    exact ⟨d, (List.mem_filter.1 hd).1, rfl⟩
  · obtain ⟨d, hd, rfl⟩ := List.mem_map.1 h
    exact ⟨d, (List.mem_filter.1 hd).1, rfl⟩

end Go.Proofs.Ytbcdkfolmncjlaa
