/-
  CONTRACT: rows.sorted.
-/
import Derived.Test.YtofmfainhflmmaaZComp
namespace Go.Proofs.Ytofmfainhflmmaa
open Go.RowKit Go.Shelf

/-- what sorted leaves, of these -/
def SortEnd (R : List Rw) (w : World) (A : Option Addr) (e : Ending) (w' : World) : Prop :=
  ∃ (R' : List Rw) (c : Nat), txR R' = putsG ordR (txR R) ∧ (∀ r ∈ R', r ∈ R) ∧ e = .returned (.slice A R'.length c) ∧ R'.length ≤ c ∧ c ≤ maxLen ∧ Sl1 cellR w' w'.heap.size A R' ∧ (∀ g, A = some ⟨g, 0, none⟩ → RowC w' g R' ∧ Kp g w w') ∧ (A = none → w = w' ∧ R'.length = 0 ∧ c = 0)
theorem txR_len (R : List Rw) : (txR R).length = R.length := List.length_map ..
theorem putG_len {α : Type} {o : α → α → Int} (l : List α) (x : α) : (putG o l x).length ≤ l.length + 1 := by
  unfold putG
  split
  · omega
  · rw [List.length_append, List.length_cons, List.length_take, List.length_drop]; omega
theorem putsF_len {α : Type} {o : α → α → Int} : ∀ (l a : List α), (l.foldl (putG o) a).length ≤ a.length + l.length
  | [], a => by simp
  | x :: l, a => by
    have h1 := putsF_len (o := o) l (putG o a x)
    have h2 := putG_len (o := o) a x
    rw [List.foldl_cons, List.length_cons]; omega
theorem putsG_len {α : Type} {o : α → α → Int} (l : List α) : (putsG o l).length ≤ l.length := by
  have := putsF_len (o := o) l []
  unfold putsG; simpa using this
theorem RowC.sl {W : World} {g : Nat} {R : List Rw} (h : RowC W g R) (hg : g < W.heap.size) : Sl1 cellR W W.heap.size (some ⟨g, 0, none⟩) R := fun _ => ⟨g, 0, rfl, hg, fun j r hr => by rw [Nat.zero_add]; exact (h j r hr).1⟩
theorem putsG_nil {α : Type} {o : α → α → Int} : putsG o ([] : List α) = [] := rfl

set_option maxHeartbeats 400000 in
theorem compR_nil (A : Option Addr) (c : Nat) (w : World) :
    Calls Try.prog 104 #[.slice A 0 c, .func (.func 105) #[] #[]] w fun e w' => e = .returned (.slice A 0 c) ∧ w = w' := by
  go_enter Try.func104, Try.ntmps104
  go_wp2
  go_ret
  exact ⟨rfl, rfl⟩
set_option maxRecDepth 100000 in
set_option maxHeartbeats 1000000 in
theorem sorted_nil (A : Option Addr) (c : Nat) (w : World) :
    Calls Try.prog 64 #[.slice A 0 c] w fun e w' => e = .returned (.slice A 0 c) ∧ w = w' := by
  have hcon := AnyF.slices_SortFunc_none { Try.sortRow with } A c (.func (.func 40) #[] #[]) w
  change Calls Try.prog 90 #[.slice A 0 c, _] _ _ at hcon
  have HCON := Lib.hid hcon
  clear hcon
  go_enter Try.func64, Try.ntmps64
  go_wp2_with fail
  refine HCON.out.mono ?_
  rintro e w2 ⟨rfl, rfl⟩
  go_wp2_with fail
  refine (compR_nil A c _).mono ?_
  rintro e w3 ⟨rfl, rfl⟩
  go_wp2
  go_ret
  exact ⟨rfl, rfl⟩
set_option maxRecDepth 100000 in
set_option maxHeartbeats 1000000 in
theorem sorted_any (B : Nat) (v : Value) (R : List Rw) (w : World) (hr : Own1 46 cellR w B v R) (hok : ∀ (g : Nat), (∃ n c, v = .slice (some ⟨g, 0, none⟩) n c) → ∀ r ∈ R, RwN w g r) (hl : R.length ≤ 1000000000000) :
    Calls Try.prog 64 #[v] w fun e w' => ∃ A n c, v = .slice A n c ∧ (∀ a, A = some a → ∃ g, a = ⟨g, 0, none⟩ ∧ B ≤ g ∧ g < w.heap.size) ∧ SortEnd R w A e w' := by
  obtain ⟨A, c, rfl, hs, hlc, hcm, hn, hg⟩ := hr.form
  by_cases h0 : R.length = 0
  · obtain rfl : R = [] := List.length_eq_zero_iff.1 h0
    refine (sorted_nil A c w).mono ?_
    rintro e w' ⟨rfl, rfl⟩
    refine ⟨A, 0, c, rfl, hg, [], c, rfl, (fun r hr => by cases hr), rfl, Nat.zero_le _, hcm, sl1_nil, fun g _ => ⟨fun j r hr => by simp at hr, Kp.refl _ _⟩, fun e => ⟨rfl, rfl, (hn e).2⟩⟩
  · have hne : R ≠ [] := fun e => h0 (by rw [e]; rfl)
    obtain ⟨g, o, rfl, _⟩ := hs hne
    obtain ⟨g1, e1, hBg, hgw⟩ := hg _ rfl
    obtain ⟨rfl, rfl⟩ : g1 = g ∧ o = 0 := by injection e1 with a b; exact ⟨a.symm, b⟩
    have HR := Lib.hid hr
    have HOK := Lib.hid (hok g1 ⟨_, _, rfl⟩)
    have HG := Lib.hid hg
    have hcap : R.length ≤ c := hlc
    clear hr hok hs hg hn hne
    go_enter Try.func64, Try.ntmps64
    go_wp2_with fail
    refine (sortR_any B g1 c R w HR.out hgw HOK.out (by omega) hl).mono ?_
    rintro e w2 ⟨rfl, ⟨⟨R2, hperm, hsort, hrow⟩, hkp⟩⟩
    have hlen : R2.length = R.length := hperm.length_eq
    have hD : RowD R w2 g1 (txR R2).toArray := fun j hj => by
      have hj2 : j < R2.length := by simpa [txR] using hj
      obtain ⟨h1, h2⟩ := hrow j R2[j] (List.getElem?_eq_getElem hj2)
      refine ⟨⟨R2[j], hperm.mem_iff.1 (List.getElem_mem hj2), h1, ?_⟩, h2⟩
      rw [getElem!_pos _ j hj]
      simp [txR]
    have hsz2 : (txR R2).toArray.size = R.length := by simp [txR, hlen]
    have hcon := compR_any g1 c R (txR R2).toArray w2 (Nat.lt_of_lt_of_le hgw hkp.size) hD (fun r hr => (HOK.out r hr).keep hkp) (by omega) (by omega)
    rw [hsz2] at hcon
    have HCON := Lib.hid hcon
    have HP : Hid (compG ordR (txR R2) = putsG ordR (txR R)) := comp_puts ordR_is (by unfold txR; rw [List.pairwise_map]; exact hsort) fun z => by
      unfold txR
      exact (hperm.map _).mem_iff
    have HKP := Lib.hid hkp
    clear hcon hD hrow hsort hperm hkp hsz2 hlen
    go_wp2_with fail
    refine HCON.out.mono ?_
    rintro e w3 ⟨R3, htx, hin, rfl, hsl, hkp3, hsz⟩
    have HE : Hid (SortEnd R w (some ⟨g1, 0, none⟩) (.returned (.slice (some ⟨g1, 0, none⟩) R3.length c)) w3) := by
      have hll : R3.length ≤ R.length := by
        have := putsG_len (o := ordR) (txR R)
        rw [← HP.out, ← htx, txR_len, txR_len] at this
        exact this
      refine ⟨R3, c, htx.trans HP.out, hin, rfl, by omega, hcm, hsl.sl (by omega), fun g e => ?_, fun e => by cases e⟩
      obtain rfl : g1 = g := by injection e with e; injection e
      exact ⟨hsl, HKP.out.trans hkp3⟩
    clear htx hin hsl hkp3 hsz
    go_wp2
    go_ret
    exact ⟨_, _, _, rfl, HG.out, HE.out⟩
end Go.Proofs.Ytofmfainhflmmaa
