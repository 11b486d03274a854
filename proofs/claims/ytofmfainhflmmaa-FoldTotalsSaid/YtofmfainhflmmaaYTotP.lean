/-
  PLAIN FUNCTIONS: the sum of values; a sum in two words; a sum in two halves.
-/
import Derived.Test.YtofmfainhflmmaaZB
namespace Go.Proofs.Ytofmfainhflmmaa

def sumV (l : List Vl) : Int := (l.map fun v => v.2.1).sum
def intsV (l : List Vl) : Bool := l.all fun v => v.1 == 1
def fitB (s : Int) : Bool := decide (-9223372036854775808 ≤ s ∧ s ≤ 9223372036854775807)
def totB (l : List Vl) : Bool := intsV l && fitB (sumV l)
def totV (l : List Vl) : Vl := if totB l = true then (1, sumV l, ⟨#[]⟩) else (0, 0, ⟨#[]⟩)
def totE (l : List Vl) : Int := if totB l = true then 0 else 160
/-- are the numbers such as a word has? -/
def nOk (l : List Vl) : Prop := ∀ v ∈ l, -9223372036854775808 ≤ v.2.1 ∧ v.2.1 ≤ 9223372036854775807

theorem sumV_nil : sumV [] = 0 := rfl
theorem sumV_snoc (p : List Vl) (v : Vl) : sumV (p ++ [v]) = sumV p + v.2.1 := by
  unfold sumV; rw [List.map_append, List.sum_append]; simp
theorem sumV_app (p q : List Vl) : sumV (p ++ q) = sumV p + sumV q := by
  unfold sumV; rw [List.map_append, List.sum_append]
theorem sumV_cons (v : Vl) (p : List Vl) : sumV (v :: p) = v.2.1 + sumV p := by
  unfold sumV; rw [List.map_cons, List.sum_cons]
theorem sumV_bd : ∀ {l : List Vl}, nOk l → -9223372036854775808 * (l.length : Int) ≤ sumV l ∧ sumV l ≤ 9223372036854775807 * (l.length : Int)
  | [], _ => by rw [sumV_nil]; simp
  | v :: r, h => by
    have h1 := h v (List.mem_cons_self ..)
    have ih := sumV_bd (l := r) fun x hx => h x (List.mem_cons_of_mem _ hx)
    rw [sumV_cons, List.length_cons]
    push_cast
    omega
/-- how often a sum goes over the lower word -/
def hiN (s : Int) : Int := s / 18446744073709551616
/-- the lower word of it -/
def loN (s : Int) : Int := s % 18446744073709551616
/-- a sum in two words: the lower one, and the upper one -/
def loW (s : Int) : Int := s % 18446744073709551616
def hiW (s : Int) : Int := (s / 18446744073709551616) % 18446744073709551616
theorem lo_plus (s n : Int) : (loW s + n % 18446744073709551616) % 18446744073709551616 = loW (s + n) := by
  unfold loW; omega
theorem hi_plus {s n : Int} (h1 : -9223372036854775808 ≤ n) (h2 : n ≤ 9223372036854775807) :
    (hiW s + (if n < 0 then 18446744073709551615 else 0) + (loW s + n % 18446744073709551616) / 18446744073709551616) % 18446744073709551616 = hiW (s + n) := by
  unfold hiW loW
  obtain ⟨q, hq⟩ : ∃ q, s / 18446744073709551616 = q := ⟨_, rfl⟩
  obtain ⟨q2, hq2⟩ : ∃ q2, (s + n) / 18446744073709551616 = q2 := ⟨_, rfl⟩
  rw [hq, hq2]
  split <;> omega
theorem fit_narrow {s : Int} (h1 : -9223372036854775808 * 1000000000000 ≤ s) (h2 : s ≤ 9223372036854775807 * 1000000000000) :
    (hiW s = (if (if loW s < 9223372036854775808 then loW s else loW s - 18446744073709551616) < 0 then 18446744073709551615 else 0)) ↔ fitB s = true := by
  unfold hiW loW fitB
  rw [decide_eq_true_eq]
  obtain ⟨q, hq⟩ : ∃ q, s / 18446744073709551616 = q := ⟨_, rfl⟩
  rw [hq]
  split <;> split <;> omega
theorem narrow_is {s : Int} (h : fitB s = true) : (if loW s < 9223372036854775808 then loW s else loW s - 18446744073709551616) = s := by
  unfold loW
  unfold fitB at h
  rw [decide_eq_true_eq] at h
  split <;> omega
/-! the document's halves -/
def upV (l : List Vl) : Int := (l.map fun v => v.2.1 / 4294967296).sum
def dnV (l : List Vl) : Int := (l.map fun v => v.2.1 % 4294967296).sum
theorem upV_snoc (p : List Vl) (v : Vl) : upV (p ++ [v]) = upV p + v.2.1 / 4294967296 := by
  unfold upV; rw [List.map_append, List.sum_append]; simp
theorem dnV_snoc (p : List Vl) (v : Vl) : dnV (p ++ [v]) = dnV p + v.2.1 % 4294967296 := by
  unfold dnV; rw [List.map_append, List.sum_append]; simp
theorem halves : ∀ l : List Vl, upV l * 4294967296 + dnV l = sumV l
  | [] => rfl
  | v :: r => by
    have ih := halves r
    unfold upV dnV sumV at ih ⊢
    simp only [List.map_cons, List.sum_cons]
    omega
theorem upV_bd : ∀ {l : List Vl}, nOk l → -2147483648 * (l.length : Int) ≤ upV l ∧ upV l ≤ 2147483647 * (l.length : Int)
  | [], _ => by unfold upV; simp
  | v :: r, h => by
    have h1 := h v (List.mem_cons_self ..)
    have ih := upV_bd (l := r) fun x hx => h x (List.mem_cons_of_mem _ hx)
    have e : upV (v :: r) = v.2.1 / 4294967296 + upV r := by unfold upV; rw [List.map_cons, List.sum_cons]
    rw [e, List.length_cons]
    push_cast
    omega
theorem dnV_bd : ∀ (l : List Vl), 0 ≤ dnV l ∧ dnV l ≤ 4294967295 * (l.length : Int)
  | [] => by unfold dnV; simp
  | v :: r => by
    have ih := dnV_bd r
    have e : dnV (v :: r) = v.2.1 % 4294967296 + dnV r := by unfold dnV; rw [List.map_cons, List.sum_cons]
    rw [e, List.length_cons]
    push_cast
    omega
theorem up_fit {s u d : Int} (h : u * 4294967296 + d = s) : (-2147483648 ≤ u + d / 4294967296 ∧ u + d / 4294967296 < 2147483648) ↔ fitB s = true := by
  unfold fitB
  rw [decide_eq_true_eq]
  omega
theorem up_is {s u d : Int} (h : u * 4294967296 + d = s) : (u + d / 4294967296) * 4294967296 + d % 4294967296 = s := by omega
theorem nOk_take {l : List Vl} (h : nOk l) (k : Nat) : nOk (l.take k) := fun v hv => h v (List.mem_of_mem_take hv)
theorem intsV_take {l : List Vl} {j : Nat} (hj : j < l.length) (h : intsV (l.take j) = true) (h1 : l[j].1 = 1) : intsV (l.take (j + 1)) = true := by
  unfold intsV at h ⊢
  rw [List.take_succ_eq_append_getElem hj, List.all_append, h]
  simp [h1]
theorem intsV_no {l : List Vl} {j : Nat} (hj : j < l.length) (h1 : ¬ l[j].1 = 1) : intsV l = false := by
  unfold intsV
  rw [List.all_eq_false]
  exact ⟨l[j], List.getElem_mem hj, by simpa using h1⟩
theorem totE_no {l : List Vl} (h : totB l = false) : totE l = 160 ∧ totV l = (0, 0, ⟨#[]⟩) := by
  unfold totE totV; rw [h]; exact ⟨rfl, rfl⟩
theorem totE_yes {l : List Vl} (h : totB l = true) : totE l = 0 ∧ totV l = (1, sumV l, ⟨#[]⟩) := by
  unfold totE totV; rw [h]; exact ⟨rfl, rfl⟩
end Go.Proofs.Ytofmfainhflmmaa
