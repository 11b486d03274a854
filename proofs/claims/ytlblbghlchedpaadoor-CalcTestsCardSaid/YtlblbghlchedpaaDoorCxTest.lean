/-
  CONTRACT: calc.Test.
-/
import Derived.Test.YtlblbghlchedpaaDoorCxRight
import Derived.Test.YtlblbghlchedpaaDoorRegion
import Derived.BigQuiet
namespace Go.Proofs.YtlblbghlchedpaaDoor
open Go.RowKit Go.Shelf

theorem says_any (n : Bt) (hn : n ∈ fam0) (a b : Cv) (w : World) (hs : a.2.2.size ≤ 10000) (hmx : MaxAt w) :
    Calls Tryd.prog 16 #[.string (strB n), agV a, agV b] w fun e w' => e = .returned (.bool (sayC n a b)) ∧ Below w.heap.size w w' := by
  unfold fam0 at hn
  simp only [List.mem_cons, List.not_mem_nil, or_false] at hn
  rcases hn with rfl | rfl | rfl | rfl | rfl | rfl | rfl | rfl | rfl | rfl
  · exact says_eq a b w
  · exact says_ne a b w
  · exact says_lt a b w
  · exact says_le a b w
  · exact says_gt a b w
  · exact says_ge a b w
  · exact says_begins a b w hs hmx
  · exact says_ends a b w hs hmx
  · exact says_has a b w hs hmx
  · exact says_kind a b w
theorem known_pred {b : Bt} (h : (knownC b).2.2 = true) (h2 : (knownC b).2.1 = true) : b ∈ fam0 ∧ (knownC b).1 = 2 := by
  have hm : b ∈ namesC := by
    apply Classical.byContradiction
    intro hn
    rw [known_none hn] at h
    cases h
  have ha : ∀ b ∈ namesC, (knownC b).2.1 = true → b ∈ fam0 ∧ (knownC b).1 = 2 := by decide +kernel
  exact ha b hm h2
theorem right_zero {s : Bt} {l : List Cv} (h : rightC true s l = 0) : s ∈ fam0 ∧ ∃ a b, l = [a, b] ∧ mayC a = true ∧ mayC b = true := by
  unfold rightC at h
  split at h
  · rename_i hk
    split at h
    · rename_i hm
      obtain ⟨h1, h2⟩ := known_pred hk.1 hk.2.1
      have hl : l.length = 2 := by have := hk.2.2; rw [h2] at this; omega
      match l, hl with
      | [a, b], _ =>
        simp at hm
        exact ⟨h1, a, b, rfl, hm.1, hm.2⟩
    · cases h
  · cases h
theorem right_cases (t : Bool) (s : Bt) (l : List Cv) : rightC t s l = 0 ∨ rightC t s l = 10 ∨ rightC t s l = 150 := by
  unfold rightC
  split
  · split
    · exact .inl rfl
    · exact .inr (.inl rfl)
  · exact .inr (.inr rfl)
theorem may_size {a : Cv} (h : mayC a = true) : a.2.2.size ≤ 1000 := by
  obtain ⟨k, n, s⟩ := a
  unfold mayC mayB at h
  simp only at h ⊢
  split at h
  · have : s.size = 0 := by simpa using h
    omega
  · split at h
    · have : s.size = 0 ∧ (n = 0 ∨ n = 1) := by simpa using h
      omega
    · split at h
      · have : n = 0 ∧ s.size ≤ 1000 := by simpa using h
        exact this.2
      · split at h
        · simp only [Bool.and_eq_true, decide_eq_true_eq] at h
          omega
        · split at h
          · have h2 : n = 0 ∧ wordB s = true := by simpa using h
            have := word_size h2.2
            omega
          · cases h
theorem test_no {s : Bt} {l : List Cv} {e : Int} (h : rightC true s l = e) (h0 : e ≠ 0) : testV s l = (false, e) := by
  unfold testV
  rw [h]
  split
  · exact absurd rfl h0
  · rfl
theorem test_yes {s : Bt} {a b : Cv} (h : rightC true s [a, b] = 0) : testV s [a, b] = (sayC s a b, 0) := by
  unfold testV
  rw [h]
  rfl
theorem strB_of (s : ByteArray) : strB s.data.toList = s := by
  unfold strB
  apply ByteArray.ext
  simp

set_option maxRecDepth 100000 in
set_option maxHeartbeats 1000000 in
theorem test_any (s : ByteArray) (A : Option Addr) (c : Nat) (l : List Cv) (w : World) (hF : FamAt w w.heap.size) (hmx : MaxAt w) (hs : SlX w w.heap.size A l) (hl : l.length ≤ 1000) (hz : ∀ v ∈ l, v.2.2.size ≤ maxLen) :
    Calls Tryd.prog 10 #[.string s, .slice A l.length c] w fun e w' => e = .returned (.tuple #[.bool (testV s.data.toList l).1, .int .i64 (testV s.data.toList l).2]) ∧ Below w.heap.size w w' := by
  have HC := Lib.hid (callable_any s true A c l w hF hs hl hz)
  obtain ⟨q, hq⟩ : ∃ q, rightC true s.data.toList l = q := ⟨_, rfl⟩
  by_cases h0 : q = 0
  · subst h0
    obtain ⟨hn, a, b, rfl, ha, hb⟩ := right_zero hq
    have HT := Lib.hid (test_yes hq)
    rw [hq] at HC
    obtain ⟨blk, o, rfl, hlt, hcs⟩ := hs (by simp)
    have h0 := hcs 0 a rfl
    have h1 := hcs 1 b rfl
    rw [Nat.zero_mul, Nat.add_zero] at h0
    rw [Nat.one_mul] at h1
    have HSY := Lib.hid (fun X h => says_any s.data.toList hn a b X (by have := may_size ha; omega) h)
    rw [strB_of] at HSY
    have HA := Lib.hid (And.intro h0 h1)
    have HMX := Lib.hid hmx
    obtain ⟨y, hy⟩ : ∃ y, sayC s.data.toList a b = y := ⟨_, rfl⟩
    rw [hy] at HSY HT
    clear hF hmx hs hl hz h0 h1 hcs hq hn ha hb hy
    show Calls _ _ #[_, .slice (some ⟨blk, o, none⟩) (2 : Nat) c] _ _
    replace HC : Hid (Calls Tryd.prog 15 #[.string s, .bool true, .slice (some ⟨blk, o, none⟩) (2 : Nat) c] w fun e w' => e = .returned (.int .i64 0) ∧ Below w.heap.size w w') := HC
    go_enter Tryd.func10, Tryd.ntmps10
    go_wp2_with fail
    refine HC.out.mono ?_
    rintro e w1 ⟨rfl, hb1⟩
    have HB1 := Lib.hid hb1
    have HS1 : Hid (CvAt w1 blk o a ∧ CvAt w1 blk (o + 3) b) := ⟨HA.out.1.next hb1 hlt, HA.out.2.next hb1 hlt⟩
    clear hb1
    go_wp2_with fail
    obtain ⟨wd, hwd⟩ : ∃ wd, w1.drew = wd := ⟨_, rfl⟩
    have HSD : Hid (CvAt wd blk o a ∧ CvAt wd blk (o + 3) b) := by show _ ∧ _; rw [← hwd]; exact ⟨⟨HS1.out.1.c0, HS1.out.1.c1, HS1.out.1.c2⟩, ⟨HS1.out.2.c0, HS1.out.2.c1, HS1.out.2.c2⟩⟩
    have HBD : Hid (Below w.heap.size w wd) := by show Below _ _ _; rw [← hwd]; exact HB1.out.drew
    refine wp_region_held_drew (S := fun X => CvAt X blk o a ∧ CvAt X blk (o + 3) b) (by kernel_rfl) (by rw [hwd]; exact HSD.out) (fun hHeld => ?_)
    rw [hwd] at hHeld ⊢
    clear hwd
    obtain ⟨a1, a2, a3⟩ := a
    obtain ⟨b1, b2, b3⟩ := b
    refine takeV 0 (some 13) ((.string s)) rfl rfl (by kernel_rfl) (by kernel_rfl) (by kernel_rfl) (fun _ _ _ h => h) (by rfl) (by (intro _w _hSw; (try dsimp only at _hSw); go_simp)) (by assumption) ?_
    simp only [Act.put, List.setIfInBounds_toArray, List.set_cons_zero, List.set_cons_succ]
    refine takeV 1 (some 14) ((.slice (some ⟨blk, o, none⟩) (2 : Nat) c)) rfl rfl (by kernel_rfl) (by kernel_rfl) (by kernel_rfl) (fun _ _ _ h => h) (by rfl) (by (intro _w _hSw; (try dsimp only at _hSw); go_simp)) (by assumption) ?_
    simp only [Act.put, List.setIfInBounds_toArray, List.set_cons_zero, List.set_cons_succ]
    refine takeV 2 (some 15) ((.pointer (some ⟨blk, o, none⟩))) rfl rfl (by kernel_rfl) (by kernel_rfl) (by kernel_rfl) (fun _ _ _ h => h) (by rfl) (by (intro _w _hSw; (try dsimp only at _hSw); go_simp)) (by assumption) ?_
    simp only [Act.put, List.setIfInBounds_toArray, List.set_cons_zero, List.set_cons_succ]
    refine takeV 3 (some 16) ((.agg #[.int .i64 a1, .int .i64 a2, .string a3])) rfl rfl (by kernel_rfl) (by kernel_rfl) (by kernel_rfl) (fun _ _ _ h => h) (by rfl) (by (intro _w hSw; obtain ⟨⟨k0, k1, k2⟩, _⟩ := id hSw; simp only at k0 k1 k2; clear hSw; go_simp)) (by assumption) ?_
    simp only [Act.put, List.setIfInBounds_toArray, List.set_cons_zero, List.set_cons_succ]
    refine takeV 4 (some 17) ((.slice (some ⟨blk, o, none⟩) (2 : Nat) c)) rfl rfl (by kernel_rfl) (by kernel_rfl) (by kernel_rfl) (fun _ _ _ h => h) (by rfl) (by (intro _w _hSw; (try dsimp only at _hSw); go_simp)) (by assumption) ?_
    simp only [Act.put, List.setIfInBounds_toArray, List.set_cons_zero, List.set_cons_succ]
    refine takeV 5 (some 18) ((.pointer (some ⟨blk, o + 3, none⟩))) rfl rfl (by kernel_rfl) (by kernel_rfl) (by kernel_rfl) (fun _ _ _ h => h) (by rfl) (by (intro _w _hSw; (try dsimp only at _hSw); go_simp)) (by assumption) ?_
    simp only [Act.put, List.setIfInBounds_toArray, List.set_cons_zero, List.set_cons_succ]
    refine takeV 6 (some 19) ((.agg #[.int .i64 b1, .int .i64 b2, .string b3])) rfl rfl (by kernel_rfl) (by kernel_rfl) (by kernel_rfl) (fun _ _ _ h => h) (by rfl) (by (intro _w hSw; obtain ⟨_, ⟨k0, k1, k2⟩⟩ := id hSw; simp only at k0 k1 k2; clear hSw; go_simp)) (by assumption) ?_
    simp only [Act.put, List.setIfInBounds_toArray, List.set_cons_zero, List.set_cons_succ]
    have HSW := Lib.hid (HSY.out wd (HMX.out.next (HBD.out)))
    refine callV 7 rfl (by kernel_rfl) (by rfl) (fun K hK => ?_)
    go_simp
    refine HSW.out.mono ?_
    rintro e w3 ⟨rfl, hb3⟩
    have HB3 := Lib.hid (HBD.out.trans (hb3.mono HBD.out.size))
    refine hK.out _ _ ⟨hHeld.1.next hb3 (Nat.lt_of_lt_of_le hlt HBD.out.size), hHeld.2.next hb3 (Nat.lt_of_lt_of_le hlt HBD.out.size)⟩ (fun hHeld3 => ?_)
    clear hK K hHeld hb3
    try simp only [Act.put, List.setIfInBounds_toArray, List.set_cons_zero, List.set_cons_succ]
    refine takeV 8 (some 4) ((.bool y)) rfl rfl (by kernel_rfl) (by kernel_rfl) (by kernel_rfl) (fun _ _ _ h => h) (by rfl) (by (intro _w _hSw; (try dsimp only at _hSw); go_simp)) (by assumption) ?_
    simp only [Act.put, List.setIfInBounds_toArray, List.set_cons_zero, List.set_cons_succ]
    refine takeV 9 (some 5) ((.int .i64 0)) rfl rfl (by kernel_rfl) (by kernel_rfl) (by kernel_rfl) (fun _ _ _ h => h) (by rfl) (by (intro _w _hSw; (try dsimp only at _hSw); go_simp)) (by assumption) ?_
    simp only [Act.put, List.setIfInBounds_toArray, List.set_cons_zero, List.set_cons_succ]
    refine wpAnyH_done (by kernel_rfl) ?_ _
    go_wp2
    go_ret2
    exact ⟨by rw [HT.out]; rfl, HB3.out⟩
  · have hb : (q == 0) = false := beq_eq_false_iff_ne.2 h0
    have HT := Lib.hid (test_no hq h0)
    rw [hq] at HC
    clear hF hmx hs hq h0
    go_enter Tryd.func10, Tryd.ntmps10
    go_wp2_with fail
    refine HC.out.mono ?_
    rintro e w1 ⟨rfl, hb1⟩
    have HB1 := Lib.hid hb1
    clear hb1
    go_wp2
    go_ret2
    exact ⟨by rw [HT.out]; rfl, HB1.out⟩
end Go.Proofs.YtlblbghlchedpaaDoor
