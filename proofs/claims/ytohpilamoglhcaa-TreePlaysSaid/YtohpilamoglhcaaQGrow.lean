/-
  CONTRACTS: great, grown (the statements' own).
-/
import Derived.Test.YtohpilamoglhcaaQMet2
import Derived.Test.YtohpilamoglhcaaQArgs
namespace Go.Proofs.Ytohpilamoglhcaa
open Go.RowKit

def GrEnd (w : World) (l : List OpP) (e : Ending) (w' : World) : Prop := ∃ b, e = .returned (.bool b) ∧ w = w' ∧ (b = false → l.length ≤ 100 ∧ ∀ x ∈ l, x.k.length ≤ 5000 ∧ x.v.length ≤ 70000 ∧ x.t.length ≤ 5000)
set_option maxRecDepth 100000 in
set_option maxHeartbeats 2000000 in
theorem great_any (A : Option Addr) (c : Nat) (l : List OpP) (w : World) (hs : SlO w A l) (hl : l.length ≤ 9223372036854775807) :
    Calls Try.prog 14 #[.slice A l.length c] w (GrEnd w l) := by
  have HS := Lib.hid hs
  clear hs
  by_cases g : (100 : Int) < (l.length : Int)
  · have g' : decide ((100 : Int) < (l.length : Int)) = true := decide_eq_true g
    go_enter Try.func14, Try.ntmps14
    go_wp2
    go_ret
    exact ⟨true, rfl, rfl, fun h => by cases h⟩
  have g' : decide ((100 : Int) < (l.length : Int)) = false := decide_eq_false g
  go_enter Try.func14, Try.ntmps14
  go_wp2
  go_loopg [9] l.length (fun gk i wr => ∃ j : Nat, i = .int .i64 j ∧ j + gk = l.length ∧ wr = w ∧ Hid (∀ (k : Nat) x, k < j → l[k]? = some x → x.k.length ≤ 5000 ∧ x.v.length ≤ 70000 ∧ x.t.length ≤ 5000))
  case atStart => exact ⟨0, rfl, by omega, rfl, fun k x hk _ => by omega⟩
  case round =>
    obtain ⟨j, rfl, hj, rfl, HP⟩ := hrel
    cases gk with
    | zero =>
      have hjz : ¬ ((j : Int) < (l.length : Int)) := by omega
      have hjz' : decide ((j : Int) < (l.length : Int)) = false := decide_eq_false hjz
      have HF : Hid (l.length ≤ 100 ∧ ∀ x ∈ l, x.k.length ≤ 5000 ∧ x.v.length ≤ 70000 ∧ x.t.length ≤ 5000) := ⟨by omega, fun x hx => by
        obtain ⟨k, hk, rfl⟩ := List.mem_iff_getElem.1 hx
        exact HP.out k _ (by omega) (List.getElem?_eq_getElem hk)⟩
      go_wp2
      go_ret
      exact ⟨false, rfl, rfl, fun _ => HF.out⟩
    | succ gk =>
      have hjz : ((j : Int) < (l.length : Int)) := by omega
      have hjz' : decide ((j : Int) < (l.length : Int)) = true := decide_eq_true hjz
      have hjn : j < l.length := by omega
      obtain ⟨b, o, rfl, hat⟩ := HS.out (fun e => by rw [e] at hjn; simp at hjn)
      have hop := hat j _ (List.getElem?_eq_getElem hjn)
      obtain ⟨x, hx⟩ : ∃ x, l[j] = x := ⟨_, rfl⟩
      rw [hx] at hop
      have HX : Hid (∀ y, l[j]? = some y → y = x) := fun y hy => by rw [List.getElem?_eq_getElem hjn, hx] at hy; exact (Option.some.inj hy).symm
      obtain ⟨A1, c1, hk, _⟩ := hop.c2
      obtain ⟨A2, c2, hv, _⟩ := hop.c3
      obtain ⟨A3, c3, ht, _⟩ := hop.c4
      clear hop hat hx
      by_cases g1 : (5000 : Int) < (x.k.length : Int)
      · have g1' : decide ((5000 : Int) < (x.k.length : Int)) = true := decide_eq_true g1
        go_wp2
        go_ret
        exact ⟨true, rfl, rfl, fun h => by cases h⟩
      · have g1' : decide ((5000 : Int) < (x.k.length : Int)) = false := decide_eq_false g1
        by_cases g2 : (70000 : Int) < (x.v.length : Int)
        · have g2' : decide ((70000 : Int) < (x.v.length : Int)) = true := decide_eq_true g2
          go_wp2
          go_ret
          exact ⟨true, rfl, rfl, fun h => by cases h⟩
        · have g2' : decide ((70000 : Int) < (x.v.length : Int)) = false := decide_eq_false g2
          by_cases g3 : (5000 : Int) < (x.t.length : Int)
          · have g3' : decide ((5000 : Int) < (x.t.length : Int)) = true := decide_eq_true g3
            go_wp2
            go_ret
            exact ⟨true, rfl, rfl, fun h => by cases h⟩
          · have g3' : decide ((5000 : Int) < (x.t.length : Int)) = false := decide_eq_false g3
            have HQ : Hid (∀ (k : Nat) y, k < j + 1 → l[k]? = some y → y.k.length ≤ 5000 ∧ y.v.length ≤ 70000 ∧ y.t.length ≤ 5000) := fun k y hk hy => by
              by_cases e : k = j
              · subst e
                obtain rfl := HX.out y hy
                omega
              · exact HP.out k y (by omega) hy
            go_wp2
            go_roundg gk
            case measure => omega
            case rel => exact ⟨j + 1, by go_num, by omega, rfl, HQ.out⟩
/-- keys and values that Put takes -/
def KV (L : List Pr) : Prop := ∀ q ∈ L, q.1.length ≤ 4096 ∧ q.2.length ≤ 65536
theorem KV.put {L : List Pr} (h : KV L) {k x : By} (h1 : k.length ≤ 4096) (h2 : x.length ≤ 65536) : KV (putL L (k, x)) := fun q hq => by
  rcases mem_put.1 hq with rfl | ⟨hq, _⟩
  · exact ⟨h1, h2⟩
  · exact h q hq
def GwEnd [LT Gb] (w : World) (n : Nat) (e : Ending) (w' : World) : Prop := ∃ u L, e = .returned (.pointer u) ∧ TreeV w' (.pointer u) L ∧ L.length ≤ n ∧ KV L ∧ Below w.heap.size w w'
theorem KV.cut {L : List Pr} (h : KV L) (k : By) : KV (cutL L k) := fun q hq => h q (mem_cut.1 hq).1
end Go.Proofs.Ytohpilamoglhcaa
