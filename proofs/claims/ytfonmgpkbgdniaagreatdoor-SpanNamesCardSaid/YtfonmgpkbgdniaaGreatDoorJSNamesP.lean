/-
  PLAIN FACTS: seven texts that no set has; what the chapter's examples make.
-/
import Derived.Test.YtfonmgpkbgdniaaGreatDoorJSTextP
namespace Go.Proofs.YtfonmgpkbgdniaaGreatDoor
open Go.RowKit Lib

theorem no_of' {s : List UInt8} (h0 : s ≠ [110, 111, 110, 101]) (h : ∀ m, m ≠ [] → AllOk m → SetL m → bodyT m ≠ s) : ∀ l, AllOk l → SetL l → textT l ≠ s := (says_none h0 h).2 rfl
theorem itoa_min : itoa minT = [45, 57, 50, 50, 51, 51, 55, 50, 48, 51, 54, 56, 53, 52, 55, 55, 53, 56, 48, 56] := by decide +kernel
theorem one_51 : oneT (5, 1) = [91, 53, 44, 49, 41] := by decide +kernel
theorem one_15 : oneT (1, 5) = [91, 49, 44, 53, 41] := by decide +kernel
theorem ok_nums {a b : Int} (ha : 0 ≤ a ∧ a ≤ 100) (hb : 0 ≤ b ∧ b ≤ 100) : SpOk (a, b) := by
  unfold SpOk minT maxT
  simp only
  omega
theorem no_1 : ∀ l, AllOk l → SetL l → textT l ≠ [91, 53, 44, 49, 41] := no_of' (by decide) fun m hm ok hs e => by
  have hk : AllOk [(5, 1)] := fun s h => by rw [List.mem_singleton.1 h]; exact ok_nums (by decide) (by decide)
  have := bodyT_inj hm (by simp) ok hk (e.trans one_51.symm)
  subst this
  exact absurd (hs.2 _ List.mem_cons_self) (by decide)
theorem no_2 : ∀ l, AllOk l → SetL l → textT l ≠ [91, 49, 44, 53, 41, 91, 55, 44, 57, 41] := no_of' (by decide) fun m hm ok _ e => by
  obtain ⟨x, rfl, h⟩ := body_end hm (by decide) e
  have h1 : oneT (1, 5) ++ [91, 55, 44, 57, 41] = oneT x ++ [] := by rw [one_15, List.append_nil, ← h]; rfl
  exact absurd (oneT_inj (ok_nums (by decide) (by decide)) (ok x List.mem_cons_self) h1).2 (by decide)
theorem body_1559 : bodyT [(1, 5), (5, 9)] = [91, 49, 44, 53, 41, 32, 91, 53, 44, 57, 41] := by decide +kernel
theorem no_3 : ∀ l, AllOk l → SetL l → textT l ≠ [91, 49, 44, 53, 41, 32, 91, 53, 44, 57, 41] := no_of' (by decide) fun m hm ok hs e => by
  have hk : AllOk [(1, 5), (5, 9)] := fun s h => by
    rcases List.mem_cons.1 h with rfl | h
    · exact ok_nums (by decide) (by decide)
    · rw [List.mem_singleton.1 h]; exact ok_nums (by decide) (by decide)
  have := bodyT_inj hm (by simp) ok hk (e.trans body_1559.symm)
  subst this
  exact absurd hs (by decide)
theorem no_4 : ∀ l, AllOk l → SetL l → textT l ≠ [] := no_of' (by decide) fun m hm _ _ e => by
  obtain ⟨r, h⟩ := bodyT_head hm
  rw [h] at e
  cases e
theorem no_5 : ∀ l, AllOk l → SetL l → textT l ≠ [91, 49, 44, 53, 41, 32] := no_of' (by decide) fun m hm _ _ e => by
  obtain ⟨x, m', _, hm', _, h⟩ := body_mid (p := [91, 49, 44, 53, 41]) (r := []) hm (by decide) (e.trans rfl)
  obtain ⟨r, h2⟩ := bodyT_head hm'
  rw [h2] at h
  cases h
theorem no_end {d : List UInt8} {t : List UInt8} (hd : ∀ x ∈ d, x ≠ 44) (hn : ∀ x, minT ≤ x ∧ x ≤ maxT → endT x ≠ d) (h32 : ∀ c ∈ (91 :: (d ++ 44 :: t) : List UInt8), c ≠ 32) (h0 : (91 :: (d ++ 44 :: t) : List UInt8) ≠ [110, 111, 110, 101]) : ∀ l, AllOk l → SetL l → textT l ≠ 91 :: (d ++ 44 :: t) := no_of' h0 fun m hm ok _ e => by
  obtain ⟨x, rfl, h⟩ := body_end hm h32 e
  have hx := ok x List.mem_cons_self
  unfold oneT at h
  have h1 := (List.cons.inj h).2
  have h2 := (stop_inj hd (fun c hc => (numC_not (endT_mem x.1 c hc)).1) h1).1
  exact hn x.1 hx.1 h2.symm
theorem no_6 : ∀ l, AllOk l → SetL l → textT l ≠ [91, 45, 57, 50, 50, 51, 51, 55, 50, 48, 51, 54, 56, 53, 52, 55, 55, 53, 56, 48, 56, 44, 53, 41] :=
  no_end (d := [45, 57, 50, 50, 51, 51, 55, 50, 48, 51, 54, 56, 53, 52, 55, 55, 53, 56, 48, 56]) (t := [53, 41]) (by decide) (fun x hx e => by
    unfold endT at e
    split at e
    · cases e
    · rename_i h1
      split at e
      · cases e
      · exact h1 (itoa_inj hx (by unfold minT maxT; omega) (e.trans itoa_min.symm))) (by decide) (by decide)
theorem itoa_one : itoa 1 = [49] := by decide +kernel
theorem no_7 : ∀ l, AllOk l → SetL l → textT l ≠ [91, 48, 49, 44, 53, 41] :=
  no_end (d := [48, 49]) (t := [53, 41]) (by decide) (fun x hx e => by
    unfold endT at e
    split at e
    · cases e
    · split at e
      · cases e
      · have h2 := parse_itoa x hx.1 hx.2
        rw [e] at h2
        have h3 : parseIntB 64 [48, 49] = .ok 1 := by decide +kernel
        rw [h3] at h2
        have h4 : (1 : Int) = x := by cases h2; rfl
        subst h4
        rw [itoa_one] at e
        cases e) (by decide) (by decide)
theorem text_all : textT [(minT, maxT)] = [91, 45, 44, 43, 41] := by decide +kernel
theorem text_two : textT [(1, 5), (7, maxT)] = [91, 49, 44, 53, 41, 32, 91, 55, 44, 43, 41] := by decide +kernel
theorem text_nil : textT [] = [110, 111, 110, 101] := rfl
theorem set_one {a b : Int} (h : a < b) : SetL [(a, b)] := setL_cons.2 ⟨h, (fun q hq => by cases hq), setL_nil⟩
theorem innB_single {a b t : Int} : innB [(a, b)] t = decide (a ≤ t ∧ t < b) := by
  unfold innB Inn
  simp
end Go.Proofs.YtfonmgpkbgdniaaGreatDoor
