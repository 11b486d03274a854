/-
  CONTRACT: the document's Great of facts; how many spans a fold has, and how many changes there are.
-/
import Derived.BigQuiet
import Derived.Test.YtdhnajhfkmmjnaaJFFindR
import Derived.Test.YtdhnajhfkmmjnaaJFMay
namespace Go.Proofs.Ytdhnajhfkmmjnaa
open Go.RowKit Go.Shelf

def costF (l : List FactP) : Int := (l.map fun f => (20 + (f.s.size : Int) + 4 * (f.l.length : Int))).sum
theorem costF_take {l : List FactP} {j : Nat} (h : j < l.length) : costF (l.take (j + 1)) = costF (l.take j) + 20 + (l[j].s.size : Int) + 4 * (l[j].l.length : Int) := by
  have ht : l.take (j + 1) = l.take j ++ [l[j]] := by rw [List.take_add_one, List.getElem?_eq_getElem h]; rfl
  unfold costF
  rw [ht, List.map_append, List.sum_append]
  simp
  omega
theorem costF_le (l : List FactP) (hs : ∀ p ∈ l, p.s.size + p.l.length ≤ 1048576) : costF l ≤ l.length * 4194324 ∧ (l.length : Int) * 20 + 4 * (sumS l : Int) ≤ costF l := by
  induction l with
  | nil => simp [costF, sumS]
  | cons p r ih =>
    have h1 := ih (fun q hq => hs q (by simp [hq]))
    have h2 := hs p (by simp)
    unfold costF sumS at h1 ⊢
    simp only [List.map_cons, List.sum_cons, List.length_cons]
    omega
set_option maxRecDepth 100000 in
set_option maxHeartbeats 2000000 in
theorem greatF_upto (A : Option Addr) (c : Nat) (l : List FactP) (w : World) (hs : FVa w (.slice A l.length c) l) (hl : l.length ≤ 1048576) (hz : ∀ f ∈ l, f.s.size + f.l.length ≤ 1048576) :
    Calls Try.prog 8 #[.slice A l.length c] w fun e w' => ((e = .returned (.int .i64 0) ∧ l.length ≤ 150 ∧ sumS l ≤ 750) ∨ e = .returned (.int .i64 1)) ∧ Below w.heap.size w w' := by
  have HS := Lib.hid hs
  have HZ := Lib.hid hz
  clear hs hz
  go_enter Try.func8, Try.ntmps8
  go_wp2
  go_loopg [3, 4] l.length (fun g x y wr => ∃ j q : Nat, x = .int .i64 (costF (l.take j)) ∧ y = .int .i64 j ∧ j + g = l.length ∧ wr = w.drewN q)
  case atStart => exact ⟨0, 0, rfl, rfl, by omega, rfl⟩
  case round =>
    obtain ⟨j, q, rfl, rfl, hj, rfl⟩ := hrel
    cases gk with
    | succ g =>
      have hji : (j : Int) < (l.length : Int) := by omega
      have hjn : j < l.length := by omega
      obtain ⟨b, o, sv, rfl, _, hc, hsv⟩ := fva_at HS.out hjn
      obtain ⟨As, cs, rfl, _⟩ := hsv
      have hcs := Lib.hid (costF_take hjn)
      have hcl := costF_le (l.take j) (fun p hp => HZ.out p (List.mem_of_mem_take hp))
      have htl : (l.take j).length ≤ 1048576 := by rw [List.length_take]; omega
      obtain ⟨T, hT⟩ : ∃ T, costF (l.take j) = T := ⟨_, rfl⟩
      rw [hT] at hcl
      rw [hT]
      have hsz := HZ.out _ (List.getElem_mem hjn)
      obtain ⟨f, hf⟩ : ∃ f, l[j] = f := ⟨_, rfl⟩
      rw [hf] at hc hcs hsz
      have hTT : T ≤ 5000000000000 := by omega
      have hT0 : 0 ≤ T := by omega
      have hs1 : f.s.size ≤ 1048576 := by omega
      have hs2 : f.l.length ≤ 1048576 := by omega
      have HT := Lib.hid hT
      have c4 := hc.2.2.2.2.1
      have c5 := hc.2.2.2.2.2
      clear hc hT hcl htl hf hsz
      go_wp2
      go_big_quiet (fail)
      go_wp2
      go_roundg g
      case measure => omega
      case rel => exact ⟨j + 1, _, by rw [hcs.out, HT.out], by go_num, by omega, rfl⟩
    | zero =>
      have hji : ¬ (j : Int) < (l.length : Int) := by omega
      have ht : l.take j = l := List.take_of_length_le (by omega)
      have hcl := costF_le l HZ.out
      rw [ht]
      obtain ⟨T, hT⟩ : ∃ T, costF l = T := ⟨_, rfl⟩
      rw [hT] at hcl ⊢
      have HB : Hid (Below w.heap.size w (w.drewN q)) := below_ind (Below.refl _ w) q
      clear ht hT
      by_cases hn : 3000 < T
      · go_wp2
        go_ret
        exact ⟨.inr rfl, HB.out⟩
      · have hl2 : l.length ≤ 150 := by omega
        have hl3 : sumS l ≤ 750 := by omega
        clear hcl
        go_wp2
        go_ret
        first | exact ⟨.inl ⟨rfl, hl2, hl3⟩, HB.out⟩ | exact ⟨.inl rfl, HB.out⟩

theorem turnsAt_inT {E : List Int} : ∀ (rs : List (List Dat)), (∀ r ∈ rs, TurnsAt E (Inn (addsL r)) ∧ TurnsAt E (Inn (cutsL r))) → TurnsAt E (inT (rs.map turnR))
  | [], _ => turnsAt_no E
  | r :: rs, h => by
    have ih := turnsAt_inT rs (fun q hq => h q (List.mem_cons_of_mem _ hq))
    have hn : TurnsAt E (fun t => ∀ y ∈ rs.map turnR, ¬ Inn y.o t) := fun t ht => by
      refine forall_congr' fun y => forall_congr' fun hy => ?_
      obtain ⟨q, hq, rfl⟩ := List.mem_map.1 hy
      exact not_congr ((h q (List.mem_cons_of_mem _ hq)).2 t ht)
    exact (((h r List.mem_cons_self).1.and hn).or ih).iff fun t => Iff.rfl
theorem held_few {run : List Dat} {l : List Sp} (h : HeldL run l) : l.length ≤ run.length := by
  have hsub : ∀ r ∈ timesL run, ∀ d ∈ r, d ∈ run := fun r hr d hd => run_in_mem (fun d : Dat => d.t) hr hd
  have h1 : TurnsAt (endsD run) (Inn l) := (turnsAt_inT (timesL run) fun r hr => ⟨turnsAt_adds (hsub r hr), turnsAt_cuts (hsub r hr)⟩).iff h.2
  have h2 := set_few2 h.1 h1
  rw [endsD_len] at h2
  omega
theorem factsOf_sum : ∀ (rs : List (List Dat)) (ls : List (List Sp)), (∀ (i : Nat) (r : List Dat) (l : List Sp), rs[i]? = some r → ls[i]? = some l → HeldL r l) → sumS (factsOf rs ls) ≤ rs.flatten.length
  | [], _, _ => Nat.zero_le _
  | _ :: _, [], _ => Nat.zero_le _
  | r :: rs, l :: ls, h => by
    have ih := factsOf_sum rs ls (fun i a b ha hb => h (i + 1) a b (by simpa using ha) (by simpa using hb))
    have h0 := held_few (h 0 r l rfl rfl)
    rw [factsOf_cons, List.flatten_cons, List.length_append]
    have h3 : sumS (factOf r l ++ factsOf rs ls) = sumS (factOf r l) + sumS (factsOf rs ls) := by unfold sumS; simp
    have h4 : sumS (factOf r l) ≤ l.length := by
      unfold factOf
      cases r with
      | nil => exact Nat.zero_le _
      | cons d r =>
        simp only
        split
        · exact Nat.zero_le _
        · unfold sumS factD; simp
    omega
theorem foldsTo_sum {s : List Dat} {fs : List FactP} (h : FoldsTo (runsL triD s) fs) : sumS fs ≤ s.length := by
  obtain ⟨ls, h1, h2, rfl⟩ := h
  have := factsOf_sum _ _ h2
  rwa [runsL_join triD _ s (Nat.le_refl _)] at this
theorem chgL_len : ∀ (n : Nat) (a b : List FactP) (t : Int), a.length + b.length ≤ n → (chgL a b t).length ≤ 2 * (sumS a + sumS b)
  | 0, a, b, t, h => by
    have h1 : a = [] := List.length_eq_zero_iff.1 (by omega)
    have h2 : b = [] := List.length_eq_zero_iff.1 (by omega)
    subst h1 h2
    rw [chgL_nil]; exact Nat.zero_le _
  | n + 1, a, b, t, h => by
    by_cases he : a = [] ∧ b = []
    · obtain ⟨rfl, rfl⟩ := he
      rw [chgL_nil]; exact Nat.zero_le _
    · have hl := tog_less he
      rw [chgL_step he, List.length_append]
      have h1 := chgT_len t (leastT a b, takeS a (leastT a b), takeS b (leastT a b))
      have h2 := chgL_len n (takeR a (leastT a b)) (takeR b (leastT a b)) t (by omega)
      have h3 := sumS_take a (leastT a b)
      have h4 := sumS_take b (leastT a b)
      simp only at h1
      omega
theorem minus_ok {a b : List Sp} (ha : ∀ q ∈ a, SpOk q) : ∀ q ∈ minusL a b, SpOk q := fun q hq => by
  obtain ⟨h1, h2⟩ := minusL_spec a b
  obtain ⟨x, hx, x1, x2⟩ := ((h2 _).1 (set_start h1 hq).1).1
  obtain ⟨y, hy, y1, y2⟩ := ((h2 _).1 (set_end h1 hq).1).1
  have k1 := ha x hx
  have k2 := ha y hy
  have k3 := h1.2 q hq
  unfold SpOk at *
  exact ⟨⟨by omega, by omega⟩, by omega, by omega⟩
theorem spansOf_ok {a : List FactP} (h : ∀ f ∈ a, ∀ q ∈ f.l, SpOk q) (x : Tri) : ∀ q ∈ spansOf a x, SpOk q := by
  unfold spansOf
  cases hq : a.find? (fun g => decide (triF g = x)) with
  | none => exact fun q h => by cases h
  | some g => exact h g (List.mem_of_find?_eq_some hq)
theorem chg_ok {a b : List FactP} {t : Int} (ra : RiseF a) (rb : RiseF b) (ha : ∀ f ∈ a, ∀ q ∈ f.l, SpOk q) (hb : ∀ f ∈ b, ∀ q ∈ f.l, SpOk q) {d : Dat} (h : d ∈ chgL a b t) : SpOk (spD d) := by
  obtain ⟨_, _, ⟨_, h⟩ | ⟨_, h⟩⟩ := chg_mem ra rb h
  · exact minus_ok (spansOf_ok hb _) _ h
  · exact minus_ok (spansOf_ok ha _) _ h
/-- the spans of a fold are of instants -/
theorem fold_ok {l : List Dat} {fs : List FactP} (hk : ∀ d ∈ l, SpOk (spD d)) (h : FoldsTo (runsL triD (sortsD 1 l)) fs) : ∀ f ∈ fs, ∀ q ∈ f.l, SpOk q := fun f hf q hq => by
  obtain ⟨ls, h1, h2, rfl⟩ := h
  obtain ⟨i, d, r, m, g1, g2, _, rfl⟩ := mem_factsOf _ _ f hf
  have hh := h2 i _ _ g1 g2
  have hrm : ∀ x ∈ d :: r, x ∈ l := fun x hx => ((sorts_ups l).2 x).1 (run_in_mem triD (List.mem_of_getElem? g1) hx)
  have key : ∀ τ, Inn m τ → ∃ x ∈ d :: r, Names x τ := fun τ hi => by
    have h3 := (hh.2 τ).1 hi
    have gen : ∀ (rs : List (List Dat)), inT (rs.map turnR) τ → ∃ r ∈ rs, Inn (addsL r) τ := fun rs => by
      induction rs with
      | nil => intro h; cases h
      | cons r rs ih =>
        rintro (⟨h, _⟩ | h)
        · exact ⟨r, List.mem_cons_self, h⟩
        · obtain ⟨q, hq, h⟩ := ih h
          exact ⟨q, List.mem_cons_of_mem _ hq, h⟩
    obtain ⟨o, ho, h4⟩ := gen _ h3
    obtain ⟨x, hx, _, hn⟩ := inn_adds.1 h4
    exact ⟨x, run_in_mem (fun d : Dat => d.t) ho hx, hn⟩
  obtain ⟨x, hx, x1, x2⟩ := key _ (set_start hh.1 hq).1
  obtain ⟨y, hy, y1, y2⟩ := key _ (set_end hh.1 hq).1
  have k1 := hk x (hrm x hx)
  have k2 := hk y (hrm y hy)
  have k3 := hh.1.2 q hq
  unfold SpOk spD at *
  simp only at k1 k2
  exact ⟨⟨by omega, by omega⟩, by omega, by omega⟩
end Go.Proofs.Ytdhnajhfkmmjnaa
