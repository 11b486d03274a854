import Derived.Test.YthdjlaombbeagaaGreatJSSet
import Derived.Test.YthdjlaombbeagaaGreatJVSl
import Derived.Test.YthdjlaombbeagaaGreatJFAlike
import Derived.Test.YthdjlaombbeagaaGreatJFLastP
/-
  CONTRACTS of the document's own answer: In.
-/
namespace Go.Proofs.YthdjlaombbeagaaGreat
open Go.RowKit

set_option maxRecDepth 100000 in
set_option maxHeartbeats 4000000 in
theorem refIn_any (A : Option Addr) (c : Nat) (l : List Sp) (t : Int) (w : World) (B : Nat) (hs : SlS w B A l) (hl : l.length ≤ 1048576) :
    Calls Tryz.prog 49 #[.slice A l.length c, .int .i64 t] w fun e w' => e = .returned (.bool (innB l t)) ∧ ∃ n, w' = w.drewN n := by
  go_enter Tryz.func49, Tryz.ntmps49
  go_wp2
  go_loopw [5] (fun i wr => ∃ j n : Nat, j ≤ l.length ∧ i = .int .i64 j ∧ wr = w.drewN n ∧ Hid (∀ k s, k < j → l[k]? = some s → ¬ (s.1 ≤ t ∧ t < s.2))) (fun i _ => l.length - (intOf i).toNat)
  case atStart => exact ⟨0, 0, by omega, rfl, rfl, fun k s hk => by omega⟩
  case round =>
    obtain ⟨j, n, hj, rfl, rfl, HO⟩ := hrel
    by_cases h1 : j < l.length
    · have hji : (j : Int) < (l.length : Int) := by omega
      obtain ⟨b, o, rfl, _, hp⟩ := hs.at_ h1
      obtain ⟨⟨x, y⟩, hpe⟩ : ∃ p, l[j] = p := ⟨_, rfl⟩
      have HG : Hid (l[j]? = some (x, y)) := by show _ = _; rw [List.getElem?_eq_getElem h1, hpe]
      rw [hpe] at hp
      have c0 := hp.c0
      have c1 := hp.c1
      have HS := Lib.hid hs
      clear hp hpe hs
      by_cases hx : x ≤ t
      · by_cases hy : t < y
        · have HV : Hid (innB l t = true) := decide_eq_true ⟨(x, y), List.mem_of_getElem? HG.out, hx, hy⟩
          go_wp2
          go_ret
          exact ⟨by rw [HV.out]; rfl, _, rfl⟩
        · have HV : Hid (∀ k s, k < j + 1 → l[k]? = some s → ¬ (s.1 ≤ t ∧ t < s.2)) := fun k s hk hg => by
            rcases Nat.lt_succ_iff_lt_or_eq.1 hk with h | rfl
            · exact HO.out k s h hg
            · rw [HG.out] at hg
              cases hg
              exact fun h => hy h.2
          go_wp2
          go_roundw
          case rel => exact ⟨j + 1, _, by omega, by go_num, rfl, HV⟩
          case measure => simp [intOf]; omega
      · have HV : Hid (∀ k s, k < j + 1 → l[k]? = some s → ¬ (s.1 ≤ t ∧ t < s.2)) := fun k s hk hg => by
          rcases Nat.lt_succ_iff_lt_or_eq.1 hk with h | rfl
          · exact HO.out k s h hg
          · rw [HG.out] at hg
            cases hg
            exact fun h => hx h.1
        go_wp2
        go_roundw
        case rel => exact ⟨j + 1, _, by omega, by go_num, rfl, HV⟩
        case measure => simp [intOf]; omega
    · have hji : ¬ (j : Int) < (l.length : Int) := by omega
      have HV : Hid (innB l t = false) := innB_no fun s hs9 => by
        obtain ⟨k, hk, rfl⟩ := List.getElem_of_mem hs9
        exact HO.out k _ (by omega) (List.getElem?_eq_getElem hk)
      go_wp2
      go_ret
      exact ⟨by rw [HV.out]; rfl, n, rfl⟩

end Go.Proofs.YthdjlaombbeagaaGreat

/-
  FACTS for Of's contracts.
-/
namespace Go.Proofs.YthdjlaombbeagaaGreat
open Go.RowKit

def orF (x y : Bool) : Bool := x || y
def notF (x y : Bool) : Bool := x && !y

/-- what the region that appends reads -/
def SEnd (ge j : Nat) (t u : Int) (W : World) : Prop := W.cell? ⟨ge, j, none⟩ = some (.int .i64 t) ∧ W.cell? ⟨ge, j + 1, none⟩ = some (.int .i64 u)
theorem SEnd.next {ge j B : Nat} {t u : Int} {W W' : World} (h : SEnd ge j t u W) (hb : Below B W W') (hg : ge < B) : SEnd ge j t u W' :=
  ⟨(hb.cell (p := ⟨ge, j, none⟩) hg).trans h.1, (hb.cell (p := ⟨ge, j + 1, none⟩) hg).trans h.2⟩
theorem OwnS.low {W : World} {B B' : Nat} {v : Value} {l : List Sp} (h : OwnS W B v l) (hB : B' ≤ B) : OwnS W B' v l := by
  refine ⟨h.1, ?_⟩
  rcases h.2 with h | ⟨g, cap, cur, h1, h2, h3⟩
  · exact .inl h
  · exact .inr ⟨g, cap, cur, h1, by omega, h3⟩
theorem OwnS.drewN {W : World} {B : Nat} {v : Value} {l : List Sp} (h : OwnS W B v l) (n : Nat) : OwnS (W.drewN n) B v l := h
end Go.Proofs.YthdjlaombbeagaaGreat

/-
  PLAIN: what the document's fold (layer 6) gives one entity, attribute and value, transaction by transaction.
-/
namespace Go.Proofs.YthdjlaombbeagaaGreat

def orSp (a b : List Sp) : List Sp := ofL orF a b [] (endsL (a ++ b))
def notSp (a b : List Sp) : List Sp := ofL notF a b [] (endsL (a ++ b))
theorem orSp_spec (a b : List Sp) : SetL (orSp a b) ∧ ∀ t, Inn (orSp a b) t ↔ Inn a t ∨ Inn b t := by
  obtain ⟨h1, h2⟩ := of_set orF rfl a b
  refine ⟨h1, fun t => ?_⟩
  have h := h2 t
  unfold innB orF at h
  by_cases ga : Inn a t <;> by_cases gb : Inn b t <;> simp [ga, gb] at h ⊢ <;> exact h
theorem notSp_spec (a b : List Sp) : SetL (notSp a b) ∧ ∀ t, Inn (notSp a b) t ↔ Inn a t ∧ ¬ Inn b t := by
  obtain ⟨h1, h2⟩ := of_set notF rfl a b
  refine ⟨h1, fun t => ?_⟩
  have h := h2 t
  unfold innB notF at h
  by_cases ga : Inn a t <;> by_cases gb : Inn b t <;> simp [ga, gb] at h ⊢ <;> exact h
theorem inn_said (d : Dat) (t : Int) (add : Bool) (l : List Dat) (x : Int) : Inn (saidL d t add l) x ↔ ∃ y ∈ l, alikeB y d = true ∧ y.t = t ∧ y.add = add ∧ Names y x := by
  unfold Inn saidL Names
  constructor
  · rintro ⟨s, hs, h1, h2⟩
    obtain ⟨y, hy, rfl⟩ := List.mem_map.1 hs
    obtain ⟨hy1, hy2⟩ := List.mem_filter.1 hy
    simp only [Bool.and_eq_true, beq_iff_eq] at hy2
    exact ⟨y, hy1, hy2.1.1, hy2.1.2, hy2.2, h1, h2⟩
  · rintro ⟨y, hy, h1, h2, h3, h4, h5⟩
    exact ⟨(y.fr, y.til), List.mem_map.2 ⟨y, List.mem_filter.2 ⟨hy, by simp [h1, h2, h3]⟩, rfl⟩, h4, h5⟩

/-- the next transaction is the least above one -/
theorem next_spec (d : Dat) (t : Int) : ∀ (l : List Dat) (o : Int), (∀ y ∈ l, 1 ≤ y.t) → (o = 0 ∨ t < o ∧ 1 ≤ o) →
    ∀ r, l.foldl (fun o x => if alikeB x d = true ∧ t < x.t ∧ (o = 0 ∨ x.t < o) then x.t else o) o = r →
      (r = 0 ∧ o = 0 ∧ ∀ y ∈ l, alikeB y d = true → y.t ≤ t) ∨ (t < r ∧ 1 ≤ r ∧ (r = o ∨ ∃ y ∈ l, alikeB y d = true ∧ y.t = r) ∧ (o = 0 ∨ r ≤ o) ∧ ∀ y ∈ l, alikeB y d = true → t < y.t → r ≤ y.t)
  | [], o, _, ho, r, hr => by
    have e : o = r := hr
    subst e
    rcases ho with rfl | ho
    · exact .inl ⟨rfl, rfl, fun _ h => by cases h⟩
    · exact .inr ⟨ho.1, ho.2, .inl rfl, .inr (Int.le_refl _), fun _ h => by cases h⟩
  | x :: l, o, h1, ho, r, hr => by
    have hx : 1 ≤ x.t := h1 x (by simp)
    rw [List.foldl_cons] at hr
    by_cases g : alikeB x d = true ∧ t < x.t ∧ (o = 0 ∨ x.t < o)
    · rw [if_pos g] at hr
      rcases next_spec d t l x.t (fun y hy => h1 y (by simp [hy])) (.inr ⟨g.2.1, hx⟩) r hr with ⟨_, h, _⟩ | ⟨k1, k2, k3, k4, k5⟩
      · omega
      · refine .inr ⟨k1, k2, ?_, ?_, fun y hy ha hy2 => ?_⟩
        · rcases k3 with rfl | ⟨y, hy, ha, e⟩
          · exact .inr ⟨x, by simp, g.1, rfl⟩
          · exact .inr ⟨y, by simp [hy], ha, e⟩
        · rcases g.2.2 with h | h
          · exact .inl h
          · exact .inr (by omega)
        · rcases List.mem_cons.1 hy with rfl | hy
          · omega
          · exact k5 y hy ha hy2
    · rw [if_neg g] at hr
      rcases next_spec d t l o (fun y hy => h1 y (by simp [hy])) ho r hr with ⟨k1, k2, k3⟩ | ⟨k1, k2, k3, k4, k5⟩
      · refine .inl ⟨k1, k2, fun y hy ha => ?_⟩
        rcases List.mem_cons.1 hy with rfl | hy
        · have : ¬ t < y.t := fun h => g ⟨ha, h, .inl k2⟩
          omega
        · exact k3 y hy ha
      · refine .inr ⟨k1, k2, ?_, k4, fun y hy ha hy2 => ?_⟩
        · rcases k3 with h | ⟨y, hy, ha, e⟩
          · exact .inl h
          · exact .inr ⟨y, by simp [hy], ha, e⟩
        · rcases List.mem_cons.1 hy with rfl | hy
          · have h2 : ¬ (o = 0 ∨ y.t < o) := fun h => g ⟨ha, hy2, h⟩
            have h3 : o ≠ 0 := fun h => h2 (.inl h)
            have h4 : ¬ y.t < o := fun h => h2 (.inr h)
            rcases k4 with k4 | k4 <;> omega
          · exact k5 y hy ha hy2
theorem nextL_spec (d : Dat) (t : Int) (l : List Dat) (h1 : ∀ y ∈ l, 1 ≤ y.t) : (nextL d t l = 0 ∧ ∀ y ∈ l, alikeB y d = true → y.t ≤ t) ∨ (t < nextL d t l ∧ 1 ≤ nextL d t l ∧ (∃ y ∈ l, alikeB y d = true ∧ y.t = nextL d t l) ∧ ∀ y ∈ l, alikeB y d = true → t < y.t → nextL d t l ≤ y.t) := by
  rcases next_spec d t l 0 h1 (.inl rfl) (nextL d t l) rfl with ⟨k1, _, k3⟩ | ⟨k1, k2, k3, _, k5⟩
  · exact .inl ⟨k1, k3⟩
  · refine .inr ⟨k1, k2, ?_, k5⟩
    rcases k3 with h | h
    · omega
    · exact h

/-- one transaction more -/
def stepR (l : List Dat) (d : Dat) (t : Int) (s : List Sp) : List Sp := notSp (orSp s (saidL d t true l)) (saidL d t false l)
def loopR (l : List Dat) (d : Dat) : Nat → Int → List Sp → List Sp
  | 0, _, s => s
  | n + 1, t, s => if 0 < t then loopR l d n (nextL d t l) (stepR l d t s) else s
/-- the spans that the document's fold gives a datom's entity, attribute and value -/
def spR (l : List Dat) (d : Dat) : List Sp := loopR l d l.length (nextL d 0 l) []
/-- what holds behind the transactions up to one -/
def UpToR (l : List Dat) (d : Dat) (T : Int) (s : List Sp) : Prop := SetL s ∧ ∀ x, Inn s x ↔ ∃ z ∈ l, alikeB z d = true ∧ z.t ≤ T ∧ z.add = true ∧ Names z x ∧ ∀ y ∈ l, alikeB y d = true → y.t ≤ T → Names y x → y.add = false → y.t < z.t
/-- what holds behind all -/
def LastR (l : List Dat) (d : Dat) (s : List Sp) : Prop := SetL s ∧ ∀ x, Inn s x ↔ ∃ z ∈ l, alikeB z d = true ∧ z.add = true ∧ Names z x ∧ ∀ y ∈ l, alikeB y d = true → Names y x → y.add = false → y.t < z.t
theorem upTo_last {l : List Dat} {d : Dat} {T : Int} {s : List Sp} (h : UpToR l d T s) (ha : ∀ y ∈ l, alikeB y d = true → y.t ≤ T) : LastR l d s := by
  refine ⟨h.1, fun x => (h.2 x).trans ⟨?_, ?_⟩⟩
  · rintro ⟨z, hz, k1, _, k3, k4, k5⟩
    exact ⟨z, hz, k1, k3, k4, fun y hy g1 g2 g3 => k5 y hy g1 (ha y hy g1) g2 g3⟩
  · rintro ⟨z, hz, k1, k3, k4, k5⟩
    exact ⟨z, hz, k1, ha z hz k1, k3, k4, fun y hy g1 _ g2 g3 => k5 y hy g1 g2 g3⟩
theorem upTo_step {l : List Dat} {d : Dat} {T t : Int} {s : List Sp} (h : UpToR l d T s) (ht : T < t) (hn : ∀ y ∈ l, alikeB y d = true → T < y.t → t ≤ y.t) : UpToR l d t (stepR l d t s) := by
  have h1 := orSp_spec s (saidL d t true l)
  have h2 := notSp_spec (orSp s (saidL d t true l)) (saidL d t false l)
  refine ⟨h2.1, fun x => ?_⟩
  show Inn (notSp _ _) x ↔ _
  rw [h2.2 x, h1.2 x, inn_said, inn_said, h.2 x]
  have two : ∀ y ∈ l, alikeB y d = true → y.t ≤ t → y.t ≤ T ∨ y.t = t := fun y hy ha hyt => by
    by_cases g : y.t ≤ T
    · exact .inl g
    · have := hn y hy ha (by omega)
      exact .inr (by omega)
  constructor
  · rintro ⟨hadd, hcut⟩
    rcases hadd with ⟨z, hz, k1, k2, k3, k4, k5⟩ | ⟨z, hz, k1, k2, k3, k4⟩
    · refine ⟨z, hz, k1, by omega, k3, k4, fun y hy g1 g2 g3 g4 => ?_⟩
      rcases two y hy g1 g2 with g | g
      · exact k5 y hy g1 g g3 g4
      · exact absurd ⟨y, hy, g1, g, g4, g3⟩ hcut
    · refine ⟨z, hz, k1, by omega, k3, k4, fun y hy g1 g2 g3 g4 => ?_⟩
      rcases two y hy g1 g2 with g | g
      · omega
      · exact absurd ⟨y, hy, g1, g, g4, g3⟩ hcut
  · rintro ⟨z, hz, k1, k2, k3, k4, k5⟩
    refine ⟨?_, ?_⟩
    · rcases two z hz k1 k2 with g | g
      · exact .inl ⟨z, hz, k1, g, k3, k4, fun y hy g1 g2 g3 g4 => k5 y hy g1 (by omega) g3 g4⟩
      · exact .inr ⟨z, hz, k1, g, k3, k4⟩
    · rintro ⟨y, hy, g1, g2, g3, g4⟩
      have h5 := k5 y hy g1 (by omega) g4 g3
      omega
theorem loop_last {l : List Dat} {d : Dat} (h1 : ∀ y ∈ l, 1 ≤ y.t) : ∀ (n : Nat) (T : Int) (s : List Sp), UpToR l d T s → (l.filter (fun y => alikeB y d && decide (T < y.t))).length ≤ n → LastR l d (loopR l d n (nextL d T l) s)
  | 0, T, s, h, hc => upTo_last h (fun y hy ha => by
    have h0 := List.length_eq_zero_iff.1 (Nat.le_zero.1 hc)
    have h2 := List.filter_eq_nil_iff.1 h0 y hy
    simp only [ha, Bool.true_and, decide_eq_true_eq] at h2
    omega)
  | n + 1, T, s, h, hc => by
    unfold loopR
    rcases nextL_spec d T l h1 with ⟨k1, k2⟩ | ⟨k1, k2, ⟨y, hy, ha, hyt⟩, k4⟩
    · rw [k1, if_neg (by decide)]
      exact upTo_last h k2
    · rw [if_pos (by omega)]
      refine loop_last h1 n _ _ (upTo_step h k1 k4) ?_
      have hlt : (l.filter (fun z => alikeB z d && decide (nextL d T l < z.t))).length < (l.filter (fun z => alikeB z d && decide (T < z.t))).length := by
        have e : l.filter (fun z => alikeB z d && decide (nextL d T l < z.t)) = (l.filter (fun z => alikeB z d && decide (T < z.t))).filter (fun z => decide (nextL d T l < z.t)) := by
          rw [List.filter_filter]
          refine List.filter_congr (fun z _ => ?_)
          by_cases g : nextL d T l < z.t
          · have : T < z.t := by omega
            simp [g, this]
          · simp [g]
        rw [e]
        refine Nat.lt_of_le_of_ne (List.length_filter_le _ _) (fun e2 => ?_)
        have h3 := List.length_filter_eq_length_iff.1 e2 y (List.mem_filter.2 ⟨hy, by simp [ha]; omega⟩)
        simp at h3
        omega
      omega
/-- the document's spans hold just where the last datom that names the instant is Add -/
theorem spR_last {l : List Dat} (d : Dat) (h1 : ∀ y ∈ l, 1 ≤ y.t) : LastR l d (spR l d) := by
  refine loop_last h1 l.length 0 [] ⟨⟨List.Pairwise.nil, (fun _ h => by cases h)⟩, fun x => ⟨(fun ⟨_, h, _⟩ => by cases h), (fun ⟨z, hz, _, h, _⟩ => by have := h1 z hz; omega)⟩⟩ (List.length_filter_le _ _)
end Go.Proofs.YthdjlaombbeagaaGreat
