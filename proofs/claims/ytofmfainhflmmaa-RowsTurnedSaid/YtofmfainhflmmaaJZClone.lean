/-
  CONTRACTS: slices.Clone at rows, at texts, at values.
-/
import Derived.Lib.SliceRun
import Derived.Test.YtofmfainhflmmaaJZIdx
namespace Go.Proofs.Ytofmfainhflmmaa
open Go.RowKit


set_option maxRecDepth 100000 in
set_option maxHeartbeats 1000000 in
theorem cloneR_some (ad : Addr) (c : Nat) (l : List Rw) (w : World) (B : Nat) (hs : Sl1 cellR w B (some ad) l) (hB : B ≤ w.heap.size) (hl : l.length ≤ 1000000000000) :
    Calls Try.prog 74 #[.slice (some ad) l.length c] w fun e w' => ∃ v, e = .returned v ∧ Own1 46 cellR w' w.heap.size v l ∧ Below w.heap.size w w' := by
  obtain ⟨i0, hi, hz0, hz1, hz2⟩ := info_parts infoR
  have hmx : 1000000000000 ≤ maxLen := by decide
  have HL0 := Lib.hid (own1_zero 46 cellR w w.heap.size (Nat.le_refl _))
  have HNW : Hid (∀ ad', some ad = some ad' → ∀ j u, (l.map cellR)[j]? = some u → (w.alloc (.cells #[] 46)).cell? (ad'.add j) = some u) := fun ad' h j u hu => (hs.next ((Below.refl _ _).alloc (Nat.le_refl _) _) hB).news ad' h j u hu
  have HLEN : Hid ((l.map cellR).length = l.length * 1) := by show _ = _; simp
  clear hs
  have he := fun w => Lib.run_eql_slice_nil (P := Try.prog) w 32 46 (some ad) l.length c 0 0 Try.underlying32
  simp only [Option.isNone_some] at he
  go_enter Try.func74, Try.ntmps74
  go_wp2_with (at_builtin; refine wpList_append_any rfl _ _ 32 rfl w.heap.size 46 i0 (.slice none 0 0) 1 24 Try.underlying32 hi hz0 hz1 hz2 rfl (by decide) _ _ _ rfl HL0.out (some ad) l.length c (l.map cellR) rfl HLEN.out (fun h => by cases h) HNW.out (fun u hu => by obtain ⟨x, _, rfl⟩ := List.mem_map.1 hu; rfl) (by simp; omega) (by simp; omega) (by simp) ?_; intro v1 w1 hown' hgrow; have HV1 : Hid (Own1 46 cellR w1 w.heap.size v1 l) := own1_of (a := []) hown'; have HB1 := Lib.hid (((Below.refl w.heap.size w).alloc (Nat.le_refl _) (.cells #[] 46)).trans (below_owns HL0.out hgrow (by simp))); clear hown' hgrow)
  go_ret
  exact ⟨_, rfl, HV1.out, HB1.out⟩
set_option maxRecDepth 100000 in
set_option maxHeartbeats 400000 in
theorem cloneR_none (w : World) :
    Calls Try.prog 74 #[.slice none 0 0] w fun e w' => e = .returned (.slice none 0 0) ∧ w = w' := by
  have he : (binOp .eql 32 (.slice none 0 0) (.slice none 0 0)).run Try.prog w = .ok (.bool true) w := by kernel_rfl
  go_enter Try.func74, Try.ntmps74
  go_wp2
  go_ret
  exact ⟨rfl, rfl⟩
theorem cloneR_any (A : Option Addr) (c : Nat) (l : List Rw) (w : World) (B : Nat) (hs : Sl1 cellR w B A l) (hn : A = none → l.length = 0 ∧ c = 0) (hB : B ≤ w.heap.size) (hl : l.length ≤ 1000000000000) :
    Calls Try.prog 74 #[.slice A l.length c] w fun e w' => ∃ v, e = .returned v ∧ Own1 46 cellR w' w.heap.size v l ∧ Below w.heap.size w w' := by
  cases A with
  | none =>
    obtain ⟨h1, rfl⟩ := hn rfl
    obtain rfl : l = [] := List.length_eq_zero_iff.1 h1
    exact (cloneR_none w).mono fun e w' ⟨h1, h2⟩ => ⟨_, h1, h2 ▸ World.ownsRow_nil _ _ _ _, h2 ▸ Below.refl _ _⟩
  | some ad => exact (cloneR_some ad c l w B hs hB hl).mono fun e w' ⟨v, h1, h2, h3⟩ => ⟨v, h1, h2, h3⟩

set_option maxRecDepth 100000 in
set_option maxHeartbeats 1000000 in
theorem cloneS_some (ad : Addr) (c : Nat) (l : List ByteArray) (w : World) (B : Nat) (hs : SlC w B (some ad) l) (hB : B ≤ w.heap.size) (hl : l.length ≤ 1000000000000) :
    Calls Try.prog 47 #[.slice (some ad) l.length c] w fun e w' => ∃ v, e = .returned v ∧ OwnC w' w.heap.size v l ∧ Below w.heap.size w w' := by
  obtain ⟨i0, hi, hz0, hz1, hz2⟩ := info_parts infoS
  have hmx : 1000000000000 ≤ maxLen := by decide
  have HL0 := Lib.hid (own1_zero 9 strV w w.heap.size (Nat.le_refl _))
  have HNW : Hid (∀ ad', some ad = some ad' → ∀ j u, (l.map strV)[j]? = some u → (w.alloc (.cells #[] 9)).cell? (ad'.add j) = some u) := fun ad' h j u hu => (hs.next ((Below.refl _ _).alloc (Nat.le_refl _) _) hB).news ad' h j u hu
  have HLEN : Hid ((l.map strV).length = l.length * 1) := by show _ = _; simp
  clear hs
  have he := fun w => Lib.run_eql_slice_nil (P := Try.prog) w 31 9 (some ad) l.length c 0 0 Try.underlying31
  simp only [Option.isNone_some] at he
  go_enter Try.func47, Try.ntmps47
  go_wp2_with (at_builtin; refine wpList_append_any rfl _ _ 31 rfl w.heap.size 9 i0 (.string ⟨#[]⟩) 1 16 Try.underlying31 hi hz0 hz1 hz2 rfl (by decide) _ _ _ rfl HL0.out (some ad) l.length c (l.map strV) rfl HLEN.out (fun h => by cases h) HNW.out (fun u hu => by obtain ⟨x, _, rfl⟩ := List.mem_map.1 hu; rfl) (by simp; omega) (by simp; omega) (by simp) ?_; intro v1 w1 hown' hgrow; have HV1 : Hid (OwnC w1 w.heap.size v1 l) := own1_of (a := []) hown'; have HB1 := Lib.hid (((Below.refl w.heap.size w).alloc (Nat.le_refl _) (.cells #[] 9)).trans (below_owns HL0.out hgrow (by simp))); clear hown' hgrow)
  go_ret
  exact ⟨_, rfl, HV1.out, HB1.out⟩
set_option maxRecDepth 100000 in
set_option maxHeartbeats 400000 in
theorem cloneS_none (w : World) :
    Calls Try.prog 47 #[.slice none 0 0] w fun e w' => e = .returned (.slice none 0 0) ∧ w = w' := by
  have he : (binOp .eql 31 (.slice none 0 0) (.slice none 0 0)).run Try.prog w = .ok (.bool true) w := by kernel_rfl
  go_enter Try.func47, Try.ntmps47
  go_wp2
  go_ret
  exact ⟨rfl, rfl⟩
theorem cloneS_any (A : Option Addr) (c : Nat) (l : List ByteArray) (w : World) (B : Nat) (hs : SlC w B A l) (hn : A = none → l.length = 0 ∧ c = 0) (hB : B ≤ w.heap.size) (hl : l.length ≤ 1000000000000) :
    Calls Try.prog 47 #[.slice A l.length c] w fun e w' => ∃ v, e = .returned v ∧ OwnC w' w.heap.size v l ∧ Below w.heap.size w w' := by
  cases A with
  | none =>
    obtain ⟨h1, rfl⟩ := hn rfl
    obtain rfl : l = [] := List.length_eq_zero_iff.1 h1
    exact (cloneS_none w).mono fun e w' ⟨h1, h2⟩ => ⟨_, h1, h2 ▸ World.ownsRow_nil _ _ _ _, h2 ▸ Below.refl _ _⟩
  | some ad => exact (cloneS_some ad c l w B hs hB hl).mono fun e w' ⟨v, h1, h2, h3⟩ => ⟨v, h1, h2, h3⟩

set_option maxRecDepth 100000 in
set_option maxHeartbeats 1000000 in
theorem cloneV_some (ad : Addr) (c : Nat) (l : List Vl) (w : World) (B : Nat) (hs : SlV w B (some ad) l) (hB : B ≤ w.heap.size) (hl : l.length ≤ 1000000000000) :
    Calls Try.prog 48 #[.slice (some ad) l.length c] w fun e w' => ∃ v, e = .returned v ∧ OwnV w' w.heap.size v l ∧ Below w.heap.size w w' := by
  obtain ⟨i0, hi, hz0, hz1, hz2⟩ := info_parts infoV
  have hmx : 1000000000000 ≤ maxLen := by decide
  have HL0 := Lib.hid (ownV_zero w w.heap.size (Nat.le_refl _))
  have HNW : Hid (∀ ad', some ad = some ad' → ∀ j u, (l.flatMap cellsV)[j]? = some u → (w.alloc (.cells #[] 24)).cell? (ad'.add j) = some u) := fun ad' h j u hu => (hs.next ((Below.refl _ _).alloc (Nat.le_refl _) _) hB).news ad' h j u hu
  have HLEN : Hid ((l.flatMap cellsV).length = l.length * 3) := flatV_len l
  clear hs
  have he := fun w => Lib.run_eql_slice_nil (P := Try.prog) w 46 24 (some ad) l.length c 0 0 Try.underlying46
  simp only [Option.isNone_some] at he
  go_enter Try.func48, Try.ntmps48
  go_wp2_with (at_builtin; refine wpList_append_any rfl _ _ 46 rfl w.heap.size 24 i0 (.agg #[.int .i64 0, .int .i64 0, .string ⟨#[]⟩]) 3 32 Try.underlying46 hi hz0 hz1 hz2 rfl (by decide) _ _ _ rfl HL0.out (some ad) l.length c (l.flatMap cellsV) rfl HLEN.out (fun h => by cases h) HNW.out (cellsV_all l) (by simp; omega) (by simp; omega) (by simp) ?_; intro v1 w1 hown' hgrow; have HV1 : Hid (OwnV w1 w.heap.size v1 l) := ownV_of (a := []) hown'; have HB1 := Lib.hid (((Below.refl w.heap.size w).alloc (Nat.le_refl _) (.cells #[] 24)).trans (below_owns HL0.out hgrow (by simp))); clear hown' hgrow)
  go_ret
  exact ⟨_, rfl, HV1.out, HB1.out⟩
set_option maxRecDepth 100000 in
set_option maxHeartbeats 400000 in
theorem cloneV_none (w : World) :
    Calls Try.prog 48 #[.slice none 0 0] w fun e w' => e = .returned (.slice none 0 0) ∧ w = w' := by
  have he : (binOp .eql 46 (.slice none 0 0) (.slice none 0 0)).run Try.prog w = .ok (.bool true) w := by kernel_rfl
  go_enter Try.func48, Try.ntmps48
  go_wp2
  go_ret
  exact ⟨rfl, rfl⟩
theorem cloneV_any (A : Option Addr) (c : Nat) (l : List Vl) (w : World) (B : Nat) (hs : SlV w B A l) (hn : A = none → l.length = 0 ∧ c = 0) (hB : B ≤ w.heap.size) (hl : l.length ≤ 1000000000000) :
    Calls Try.prog 48 #[.slice A l.length c] w fun e w' => ∃ v, e = .returned v ∧ OwnV w' w.heap.size v l ∧ Below w.heap.size w w' := by
  cases A with
  | none =>
    obtain ⟨h1, rfl⟩ := hn rfl
    obtain rfl : l = [] := List.length_eq_zero_iff.1 h1
    exact (cloneV_none w).mono fun e w' ⟨h1, h2⟩ => ⟨_, h1, h2 ▸ World.ownsRow_nil _ _ _ _, h2 ▸ Below.refl _ _⟩
  | some ad => exact (cloneV_some ad c l w B hs hB hl).mono fun e w' ⟨v, h1, h2, h3⟩ => ⟨v, h1, h2, h3⟩
end Go.Proofs.Ytofmfainhflmmaa
