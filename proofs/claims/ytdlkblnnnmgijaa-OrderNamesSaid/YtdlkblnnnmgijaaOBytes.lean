/-
  CONTRACTS: Bytes (how bytes stand, the document's); alive (the chapter's first examples).
-/
import Derived.Test.YtdlkblnnnmgijaaOEnd
import Derived.Deep.QuietTactic
import Derived.BigQuiet
import Derived.Deep.Draws
namespace Go.Proofs.Ytdlkblnnnmgijaa
open Go.RowKit Go.Shelf

theorem below_dn {B : Nat} {a w : World} (h : Below B a w) (n : Nat) : Below B a (w.drewN n) := ⟨h.os, h.tape, h.output, h.size, h.block⟩
/-- how bytes stand from a place on -/
def ordFrom (a b : List UInt8) (k : Nat) : Int := ordL (a.drop k) (b.drop k)
theorem ordFrom_lt {a b : List UInt8} {k : Nat} (h : k < a.length) (h' : k < b.length) (hc : (a[k].toNat : Int) < b[k].toNat) : ordFrom a b k = -1 := by
  unfold ordFrom; rw [List.drop_eq_getElem_cons h, List.drop_eq_getElem_cons h', ordL_cons, if_pos (by omega)]
theorem ordFrom_gt {a b : List UInt8} {k : Nat} (h : k < a.length) (h' : k < b.length) (hc : (b[k].toNat : Int) < a[k].toNat) : ordFrom a b k = 1 := by
  unfold ordFrom; rw [List.drop_eq_getElem_cons h, List.drop_eq_getElem_cons h', ordL_cons, if_neg (by omega), if_pos (by omega)]
theorem ordFrom_eq {a b : List UInt8} {k : Nat} (h : k < a.length) (h' : k < b.length) (h1 : (a[k].toNat : Int) = b[k].toNat) : ordFrom a b k = ordFrom a b (k + 1) := by
  unfold ordFrom; rw [List.drop_eq_getElem_cons h, List.drop_eq_getElem_cons h', ordL_cons, if_neg (by omega), if_neg (by omega)]
theorem ordFrom_end {a b : List UInt8} {k : Nat} (h : k ≤ a.length) (h' : k ≤ b.length) (he : k = a.length ∨ k = b.length) :
    ordFrom a b k = if a.length < b.length then -1 else if b.length < a.length then 1 else 0 := by
  unfold ordFrom
  rcases he with rfl | rfl
  · rw [List.drop_length]
    by_cases h2 : a.length < b.length
    · rw [List.drop_eq_getElem_cons h2, if_pos h2]; rfl
    · rw [List.drop_of_length_le (by omega), if_neg h2, if_neg (by omega)]; rfl
  · rw [List.drop_length]
    by_cases h2 : b.length < a.length
    · rw [List.drop_eq_getElem_cons h2, if_neg (by omega), if_pos h2]; rfl
    · rw [List.drop_of_length_le (by omega), if_neg (by omega), if_neg h2]; rfl

theorem drew2 (w : World) (n k : Nat) : ∃ m, (w.drewN n).drewN k = w.drewN m := ⟨n + k, World.drewN_drewN w n k⟩
theorem drew3 (w : World) (n k i : Nat) : ∃ m, ((w.drewN n).drewN k).drewN i = w.drewN m := ⟨n + k + i, by rw [World.drewN_drewN, World.drewN_drewN, Nat.add_assoc]⟩

set_option maxRecDepth 100000 in
set_option maxHeartbeats 2000000 in
theorem bytes_any (A A' : Option Addr) (c c' : Nat) (a b : List UInt8) (w : World) (B : Nat) (hs : SlB w B A a) (hs' : SlB w B A' b) (hl : a.length ≤ 50000) (hl' : b.length ≤ 50000) :
    Calls Try.prog 31 #[.slice A a.length c, .slice A' b.length c'] w fun e w' => e = .returned (.int .i64 (ordL a b)) ∧ ∃ n, w' = w.drewN n := by
  go_enter Try.func31, Try.ntmps31
  go_wp2
  go_loopw [5] (fun i wr => ∃ j n : Nat, j ≤ a.length ∧ j ≤ b.length ∧ i = .int .i64 j ∧ Hid (ordFrom a b j = ordL a b) ∧ wr = w.drewN n) (fun i _ => a.length - (intOf i).toNat)
  case atStart => exact ⟨0, 0, by omega, by omega, rfl, rfl, rfl⟩
  case round =>
    obtain ⟨j, n, hj, hj', rfl, HJ, rfl⟩ := hrel
    by_cases h1 : j < a.length
    · by_cases h2 : j < b.length
      · have hne : a ≠ [] := by intro e; rw [e] at h1; simp at h1
        have hne' : b ≠ [] := by intro e; rw [e] at h2; simp at h2
        obtain ⟨p, ep, _, hc⟩ := hs hne
        obtain ⟨q, eq', _, hc'⟩ := hs' hne'
        subst ep eq'
        have hcj : w.cell? (p.add j) = some (.int .u8 a[j].toNat) := hc j _ (List.getElem?_eq_getElem h1)
        have hcj' : w.cell? (q.add j) = some (.int .u8 b[j].toNat) := hc' j _ (List.getElem?_eq_getElem h2)
        clear hc hc'
        by_cases h3 : (a[j].toNat : Int) < (b[j].toNat : Int)
        · have HF : Hid (ordFrom a b j = -1) := ordFrom_lt h1 h2 h3
          go_wp2
          go_quiet (fail)
          go_wp2
          go_ret
          exact ⟨ret_i64 (by rw [← HJ.out, HF.out]), by first | exact ⟨_, rfl⟩ | exact drew2 _ _ _ | exact drew3 _ _ _ _⟩
        · by_cases h4 : (b[j].toNat : Int) < (a[j].toNat : Int)
          · have HF : Hid (ordFrom a b j = 1) := ordFrom_gt h1 h2 h4
            go_wp2
            go_quiet (fail)
            go_wp2
            go_quiet (fail)
            go_wp2
            go_ret
            exact ⟨ret_i64 (by rw [← HJ.out, HF.out]), by first | exact ⟨_, rfl⟩ | exact drew2 _ _ _ | exact drew3 _ _ _ _⟩
          · have HF : Hid (ordFrom a b j = ordFrom a b (j + 1)) := ordFrom_eq h1 h2 (by omega)
            go_wp2
            go_quiet (fail)
            go_wp2
            go_quiet (fail)
            go_wp2
            go_roundw
            case rel => exact ⟨j + 1, _, by omega, by omega, by go_num, by rw [← HJ.out, HF.out]; rfl, (by first | rfl | exact World.drewN_drewN _ _ _ | exact (by rw [World.drewN_drewN, World.drewN_drewN]))⟩
            case measure => simp [intOf]; omega
      · have HF : Hid (ordFrom a b j = if a.length < b.length then -1 else if b.length < a.length then 1 else 0) := ordFrom_end hj hj' (.inr (by omega))
        have h5 : ¬ (a.length : Int) < (b.length : Int) := by omega
        have h6 : (b.length : Int) < (a.length : Int) := by omega
        go_wp2
        go_ret
        exact ⟨ret_i64 (by rw [← HJ.out, HF.out, if_neg (by omega), if_pos (by omega)]), ⟨_, rfl⟩⟩
    · have HF : Hid (ordFrom a b j = if a.length < b.length then -1 else if b.length < a.length then 1 else 0) := ordFrom_end hj hj' (.inl (by omega))
      by_cases h5 : (a.length : Int) < (b.length : Int)
      · go_wp2
        go_ret
        exact ⟨ret_i64 (by rw [← HJ.out, HF.out, if_pos (by omega)]), ⟨_, rfl⟩⟩
      · have h6 : ¬ (b.length : Int) < (a.length : Int) := by omega
        go_wp2
        go_ret
        exact ⟨ret_i64 (by rw [← HJ.out, HF.out, if_neg (by omega), if_neg (by omega)]), ⟨_, rfl⟩⟩

/-- eight cells of a new array, as a text -/
theorem num_string {W : World} {g : Nat} {l : List UInt8} (hl : l.length = 8) (h : W.heap[g]? = some (.cells (cellsL l).toArray 79 (0, 0))) : (convert 29 9 (.slice (some ⟨g, 0, none⟩) 8 8)).run Try.prog W = .ok (.string ⟨l.toArray⟩) W := by
  have h9 := run_convert_bytes_back (P := Try.prog) W 29 9 5 ⟨g, 0, none⟩ 8 l Try.underlying29 Try.underlying5 Try.underlying9 (fun j hj => by
    rw [add0]
    simp only [World.cell?, h]
    unfold cellsL
    simp [List.getElem?_eq_getElem hj])
  rwa [hl] at h9

set_option maxRecDepth 100000 in
set_option maxHeartbeats 2000000 in
theorem alive_any (w : World) : Calls Try.prog 27 #[] w fun e w' => e = .returned (.bool true) ∧ Below w.heap.size w w' := by
  go_enter Try.func27, Try.ntmps27
  go_wp2_with fail
  refine (value_any 3 0 ⟨#[97, 0]⟩ _ (by decide) (by decide) (by decide)).mono ?_
  rintro e w1 (⟨_, ⟨v1, rfl, ho⟩, hb⟩ | ⟨hm, _⟩)
  · have hv : valB 3 0 ⟨#[97, 0]⟩ = [3, 97, 0, 255, 0, 1] := by decide +kernel
    rw [hv] at ho
    have hcv := ownB_string w1 _ _ _ ho
    have HB := Lib.hid hb
    clear hb hv ho
    go_wp2_with fail
    refine (number_any 0 _ (by decide) (by decide)).mono ?_
    rintro e w2 ⟨g, rfl, hg, _, hb2⟩
    have hn := num_string (by rfl) hg
    have hnv : numB 0 = [128, 0, 0, 0, 0, 0, 0, 0] := by decide +kernel
    rw [hnv] at hn
    have HB2 := Lib.hid (HB.out.trans (hb2.mono HB.out.size))
    clear hb2 hg hnv
    go_wp2
    go_ret
    exact ⟨rfl, HB2.out⟩
  · exact absurd hm (by decide)

end Go.Proofs.Ytdlkblnnnmgijaa
