/-
  CONTRACTS: where a text stands among others; whether they are there once each (the program's, the document's).
-/
import Derived.BigQuiet
import Derived.Deep.QuietTactic
import Derived.Test.YtofmfainhflmmaaJZArgs
namespace Go.Proofs.Ytofmfainhflmmaa
open Go.RowKit

def eqS (a b : ByteArray) : Bool := a.toList == b.toList
theorem eqS_iff {a b : ByteArray} : eqS a b = true ↔ a = b := by
  unfold eqS
  rw [beq_iff_eq]
  constructor
  · intro h
    rw [ByteArray.toList_eq, ByteArray.toList_eq] at h
    exact ByteArray.ext (Array.toList_inj.1 h)
  · intro h; rw [h]
theorem eqS_no {a b : ByteArray} : eqS a b = false ↔ a ≠ b := by
  rw [← Bool.not_eq_true, eqS_iff]
theorem eqS_comm (a b : ByteArray) : eqS a b = eqS b a := by
  rw [Bool.eq_iff_iff, eqS_iff, eqS_iff]
  exact eq_comm
/-- where it stands first; behind all, if nowhere -/
def plS (x : ByteArray) (l : List ByteArray) : Nat := l.findIdx (fun y => eqS x y)
def plI (x : ByteArray) (l : List ByteArray) : Int := if plS x l < l.length then (plS x l : Int) else -1
theorem plS_le (x : ByteArray) (l : List ByteArray) : plS x l ≤ l.length := List.findIdx_le_length
theorem plS_at {x : ByteArray} {l : List ByteArray} {j : Nat} (hj : j < l.length) (h : ∀ i (hi : i < j), eqS x (l[i]'(by omega)) = false) (he : eqS x l[j] = true) : plS x l = j := by
  unfold plS
  rw [List.findIdx_eq hj]
  exact ⟨he, fun i hi => by simpa using h i hi⟩
theorem plS_none {x : ByteArray} {l : List ByteArray} (h : ∀ i (hi : i < l.length), eqS x l[i] = false) : plS x l = l.length := by
  unfold plS
  rw [List.findIdx_eq_length]
  intro y hy
  obtain ⟨i, hi, rfl⟩ := List.getElem_of_mem hy
  exact h i hi
theorem plS_lt {x : ByteArray} {l : List ByteArray} : plS x l < l.length ↔ x ∈ l := by
  unfold plS
  rw [List.findIdx_lt_length]
  constructor
  · rintro ⟨y, hy, e⟩
    rw [eqS_iff] at e
    rw [e]; exact hy
  · intro h
    exact ⟨x, h, eqS_iff.2 rfl⟩
theorem plS_get {x : ByteArray} {l : List ByteArray} (h : plS x l < l.length) : l[plS x l] = x := by
  have := List.findIdx_getElem (p := fun y => eqS x y) (w := h)
  exact (eqS_iff.1 this).symm
/-- is it among them? -/
def hasS (x : ByteArray) (l : List ByteArray) : Bool := decide (plS x l < l.length)
theorem hasS_iff {x : ByteArray} {l : List ByteArray} : hasS x l = true ↔ x ∈ l := by unfold hasS; rw [decide_eq_true_eq, plS_lt]
open Classical in
/-- is each there once? -/
noncomputable def onceB (l : List ByteArray) : Bool := decide l.Nodup
theorem take_nodup {l : List ByteArray} {j : Nat} (hj : j < l.length) (h : (l.take j).Nodup) (hn : l[j] ∉ l.take j) : (l.take (j + 1)).Nodup := by
  rw [List.take_succ_eq_append_getElem hj, List.nodup_append]
  refine ⟨h, by simp, fun a ha b hb e => ?_⟩
  rw [List.mem_singleton] at hb
  subst e
  rw [hb] at ha
  exact hn ha
theorem not_nodup {l : List ByteArray} {j : Nat} (hj : j < l.length) (h : l[j] ∈ l.take j) : ¬ l.Nodup := by
  intro hn
  have h1 := List.Nodup.sublist (List.take_sublist (j + 1) l) hn
  rw [List.take_succ_eq_append_getElem hj, List.nodup_append] at h1
  exact h1.2.2 _ h _ (List.mem_singleton.2 rfl) rfl
theorem onceB_yes {l : List ByteArray} (h : (l.take l.length).Nodup) : onceB l = true := by
  rw [List.take_length] at h
  unfold onceB; rw [decide_eq_true h]
theorem onceB_no {l : List ByteArray} {j : Nat} (hj : j < l.length) (h : l[j] ∈ l.take j) : onceB l = false := by
  unfold onceB; rw [decide_eq_false (not_nodup hj h)]
theorem plS_first {l : List ByteArray} {j : Nat} (hj : j < l.length) : plS l[j] l = j ↔ l[j] ∉ l.take j := by
  constructor
  · intro e hm
    obtain ⟨i, hi, hx⟩ := List.getElem_of_mem hm
    rw [List.length_take] at hi
    rw [List.getElem_take] at hx
    have h3 : i < l.findIdx (fun y => eqS l[j] y) := by
      have e2 : l.findIdx (fun y => eqS l[j] y) = j := e
      omega
    have h4 := List.not_of_lt_findIdx h3
    rw [hx] at h4
    simp [eqS] at h4
  · intro hn
    refine plS_at hj (fun i hi => ?_) (eqS_iff.2 rfl)
    rw [eqS_no]
    intro e
    refine hn ?_
    rw [e]
    have : l[i] = (l.take j)[i]'(by rw [List.length_take]; omega) := by rw [List.getElem_take]
    rw [this]
    exact List.getElem_mem _

set_option maxRecDepth 100000 in
set_option maxHeartbeats 1000000 in
theorem index_any (A : Option Addr) (c : Nat) (l : List ByteArray) (x : ByteArray) (w : World) (B : Nat) (hs : SlC w B A l) (hl : l.length ≤ 4611686018427387904) :
    Calls Try.prog 82 #[.slice A l.length c, .string x] w fun e w' => e = .returned (.int .i64 (plI x l)) ∧ w = w' := by
  have HS := Lib.hid hs
  clear hs
  go_enter Try.func82, Try.ntmps82
  go_wp2
  go_loopw [8] (fun i wr => ∃ j : Nat, j ≤ l.length ∧ i = .int .i64 j ∧ wr = w ∧ Hid (∀ i (_ : i < j) (h : i < l.length), eqS x l[i] = false)) (fun i _ => l.length - (intOf i).toNat)
  case atStart => exact ⟨0, Nat.zero_le _, rfl, rfl, fun i h => absurd h (Nat.not_lt_zero _)⟩
  case round =>
    obtain ⟨j, hj, rfl, rfl, HJ⟩ := hrel
    by_cases h1 : j < l.length
    · have h1i : (j : Int) < (l.length : Int) := by omega
      obtain ⟨b, o, rfl, hb, hp⟩ := HS.out.at_ h1
      unfold strV at hp
      by_cases h2 : eqS x l[j] = true
      · have HE : Hid (plI x l = (j : Int)) := by
          have e := plS_at h1 (fun i hi => HJ.out i hi (by omega)) h2
          show plI x l = _
          unfold plI; rw [e, if_pos h1]
        unfold eqS at h2
        go_wp2
        go_ret
        exact ⟨ret_i64 (by rw [HE.out]), rfl⟩
      · rw [Bool.not_eq_true] at h2
        have HE : Hid (∀ i (_ : i < j + 1) (h : i < l.length), eqS x l[i] = false) := fun i hi h => by
          by_cases e : i = j
          · subst e; exact h2
          · exact HJ.out i (by omega) h
        unfold eqS at h2
        go_wp2
        go_roundw
        case rel => exact ⟨j + 1, by omega, by go_num, trivial, HE.out⟩
        case measure => simp [intOf]; omega
    · have h1i : ¬ (j : Int) < (l.length : Int) := by omega
      have HE : Hid (plI x l = -1) := by
        have e := plS_none (x := x) (l := l) (fun i hi => HJ.out i (by omega) hi)
        show plI x l = _
        unfold plI; rw [if_neg (by omega)]
      go_wp2
      go_ret
      exact ⟨ret_i64 (by rw [HE.out]), rfl⟩
set_option maxHeartbeats 1000000 in
theorem contains_any (A : Option Addr) (c : Nat) (l : List ByteArray) (x : ByteArray) (w : World) (B : Nat) (hs : SlC w B A l) (hl : l.length ≤ 4611686018427387904) :
    Calls Try.prog 108 #[.slice A l.length c, .string x] w fun e w' => e = .returned (.bool (hasS x l)) ∧ w = w' := by
  have HC := Lib.hid (index_any A c l x w B hs hl)
  have HH : Hid (decide (0 ≤ plI x l) = hasS x l) := by
    show decide _ = _
    unfold plI hasS
    by_cases h : plS x l < l.length
    · rw [if_pos h, decide_eq_true h, decide_eq_true (by omega)]
    · rw [if_neg h, decide_eq_false h]; rfl
  obtain ⟨n, hn⟩ : ∃ n, plI x l = n := ⟨_, rfl⟩
  rw [hn] at HC HH
  clear hs hn
  go_enter Try.func108, Try.ntmps108
  go_wp2_with fail
  refine HC.out.mono ?_
  rintro e w' ⟨rfl, rfl⟩
  go_wp2
  go_ret
  exact ⟨ret_bool (by rw [HH.out]), rfl⟩
set_option maxRecDepth 100000 in
set_option maxHeartbeats 1000000 in
theorem place_any (A : Option Addr) (c : Nat) (l : List ByteArray) (x : ByteArray) (w : World) (B : Nat) (hs : SlC w B A l) (hl : l.length ≤ 4611686018427387904) :
    Calls Try.prog 59 #[.slice A l.length c, .string x] w fun e w' => e = .returned (.int .i64 (plI x l)) ∧ w = w' := by
  have HS := Lib.hid hs
  clear hs
  go_enter Try.func59, Try.ntmps59
  go_wp2
  go_loopw [5] (fun i wr => ∃ j : Nat, j ≤ l.length ∧ i = .int .i64 j ∧ wr = w ∧ Hid (∀ i (_ : i < j) (h : i < l.length), eqS x l[i] = false)) (fun i _ => l.length - (intOf i).toNat)
  case atStart => exact ⟨0, Nat.zero_le _, rfl, rfl, fun i h => absurd h (Nat.not_lt_zero _)⟩
  case round =>
    obtain ⟨j, hj, rfl, rfl, HJ⟩ := hrel
    by_cases h1 : j < l.length
    · have h1i : (j : Int) < (l.length : Int) := by omega
      obtain ⟨b, o, rfl, hb, hp⟩ := HS.out.at_ h1
      unfold strV at hp
      by_cases h2 : eqS x l[j] = true
      · have HE : Hid (plI x l = (j : Int)) := by
          have e := plS_at h1 (fun i hi => HJ.out i hi (by omega)) h2
          show plI x l = _
          unfold plI; rw [e, if_pos h1]
        rw [eqS_comm] at h2
        unfold eqS at h2
        go_wp2
        go_ret
        exact ⟨ret_i64 (by rw [HE.out]), rfl⟩
      · rw [Bool.not_eq_true] at h2
        have HE : Hid (∀ i (_ : i < j + 1) (h : i < l.length), eqS x l[i] = false) := fun i hi h => by
          by_cases e : i = j
          · subst e; exact h2
          · exact HJ.out i (by omega) h
        rw [eqS_comm] at h2
        unfold eqS at h2
        go_wp2
        go_roundw
        case rel => exact ⟨j + 1, by omega, by go_num, trivial, HE.out⟩
        case measure => simp [intOf]; omega
    · have h1i : ¬ (j : Int) < (l.length : Int) := by omega
      have HE : Hid (plI x l = -1) := by
        have e := plS_none (x := x) (l := l) (fun i hi => HJ.out i (by omega) hi)
        show plI x l = _
        unfold plI; rw [if_neg (by omega)]
      go_wp2
      go_ret
      exact ⟨ret_i64 (by rw [HE.out]), rfl⟩

theorem sliceS_to (A : Option Addr) (n c k : Nat) (hk : k ≤ c) (w : World) : (Instr.slice 31 (.slice A n c) none (some (.int .i64 (k : Int))) none).run Try.prog w = .ok (.slice A k c) w := by
  have hT : Try.prog.underlying 31 = some (.slice (Try.prog.elem 31)) := by kernel_rfl
  have hS : (Go.sizeOf (Try.prog.elem 31)).run Try.prog w = .ok 1 w := by kernel_rfl
  rw [run_slice_h (w := w) 31 A n c hT .i64 (k : Int) (by omega) (by omega), hS]
  have := cut1_zero A c
  unfold cut1 at this
  simp [Result.andThen, sliced]
  simpa using this

set_option maxRecDepth 100000 in
set_option maxHeartbeats 1000000 in
theorem eachOnce_any (A : Option Addr) (c : Nat) (l : List ByteArray) (w : World) (B : Nat) (hs : SlC w B A l) (hl : l.length ≤ 4611686018427387904) (hc : l.length ≤ c) :
    Calls Try.prog 72 #[.slice A l.length c] w fun e w' => e = .returned (.bool (onceB l)) ∧ w = w' := by
  have HS := Lib.hid hs
  clear hs
  go_enter Try.func72, Try.ntmps72
  go_wp2
  go_loopw [7] (fun i wr => ∃ j : Nat, j ≤ l.length ∧ i = .int .i64 j ∧ wr = w ∧ Hid ((l.take j).Nodup)) (fun i _ => l.length - (intOf i).toNat)
  case atStart => exact ⟨0, Nat.zero_le _, rfl, rfl, by show List.Nodup _; simp⟩
  case round =>
    obtain ⟨j, hj, rfl, rfl, HJ⟩ := hrel
    by_cases h1 : j < l.length
    · have h1i : (j : Int) < (l.length : Int) := by omega
      obtain ⟨b, o, rfl, hb, hp⟩ := HS.out.at_ h1
      unfold strV at hp
      have hT := fun w => sliceS_to (some (⟨b, o, none⟩ : Addr)) l.length c j (by omega) w
      have HC := contains_any (some (⟨b, o, none⟩ : Addr)) c (l.take j) l[j] wr B (HS.out.take j) (by rw [List.length_take]; omega)
      rw [List.length_take_of_le hj] at HC
      have HCC := Lib.hid HC
      clear HC
      by_cases h2 : hasS l[j] (l.take j) = true
      · have HE : Hid (onceB l = false) := onceB_no h1 (hasS_iff.1 h2)
        rw [h2] at HCC
        clear h2
        go_wp2_with fail
        refine HCC.out.mono ?_
        rintro e w' ⟨rfl, rfl⟩
        go_wp2
        go_ret
        exact ⟨ret_bool (by rw [HE.out]), rfl⟩
      · have HE : Hid ((l.take (j + 1)).Nodup) := take_nodup h1 HJ.out (fun h => h2 (hasS_iff.2 h))
        rw [Bool.not_eq_true] at h2
        rw [h2] at HCC
        clear h2
        go_wp2_with fail
        refine HCC.out.mono ?_
        rintro e w' ⟨rfl, rfl⟩
        go_wp2
        go_roundw
        case rel => exact ⟨j + 1, by omega, by go_num, trivial, HE.out⟩
        case measure => simp [intOf]; omega
    · have h1i : ¬ (j : Int) < (l.length : Int) := by omega
      have HE : Hid (onceB l = true) := onceB_yes (by have := HJ.out; rwa [show j = l.length from by omega] at this)
      go_wp2
      go_ret
      exact ⟨ret_bool (by rw [HE.out]), rfl⟩
/-- may they be columns? -/
noncomputable def colsB (l : List ByteArray) : Bool := decide (l.length ≤ 32) && onceB l
set_option maxHeartbeats 1000000 in
theorem areCols_any (A : Option Addr) (c : Nat) (l : List ByteArray) (w : World) (B : Nat) (hs : SlC w B A l) (hl : l.length ≤ 4611686018427387904) (hc : l.length ≤ c) :
    Calls Try.prog 71 #[.slice A l.length c] w fun e w' => e = .returned (.bool (colsB l)) ∧ w = w' := by
  have HC := Lib.hid (eachOnce_any A c l w B hs hl hc)
  clear hs
  by_cases h : l.length ≤ 32
  · have hi : (l.length : Int) ≤ 32 := by omega
    have HE : Hid (colsB l = onceB l) := by show _ = _; unfold colsB; rw [decide_eq_true h]; rfl
    go_enter Try.func71, Try.ntmps71
    go_wp2_with fail
    refine HC.out.mono ?_
    rintro e w' ⟨rfl, rfl⟩
    go_wp2
    go_ret
    exact ⟨ret_bool (by rw [HE.out]), rfl⟩
  · have hi : ¬ (l.length : Int) ≤ 32 := by omega
    have HE : Hid (colsB l = false) := by show _ = _; unfold colsB; rw [decide_eq_false h]; rfl
    go_enter Try.func71, Try.ntmps71
    go_wp2
    go_ret
    exact ⟨ret_bool (by rw [HE.out]), rfl⟩
set_option maxRecDepth 100000 in
set_option maxHeartbeats 1000000 in
theorem once_any (A : Option Addr) (c : Nat) (l : List ByteArray) (w : World) (B : Nat) (hs : SlC w B A l) (hl : l.length ≤ 4611686018427387904) :
    Calls Try.prog 88 #[.slice A l.length c] w fun e w' => e = .returned (.bool (colsB l)) ∧ w = w' := by
  have HS := Lib.hid hs
  clear hs
  go_enter Try.func88, Try.ntmps88
  go_wp2
  go_loopw [3] (fun i wr => ∃ j : Nat, j ≤ l.length ∧ j ≤ 32 ∧ i = .int .i64 j ∧ wr = w ∧ Hid ((l.take j).Nodup)) (fun i _ => l.length - (intOf i).toNat)
  case atStart => exact ⟨0, Nat.zero_le _, Nat.zero_le _, rfl, rfl, by show List.Nodup _; simp⟩
  case round =>
    obtain ⟨j, hj, hj3, rfl, rfl, HJ⟩ := hrel
    by_cases h1 : j < l.length
    · have h1i : (j : Int) < (l.length : Int) := by omega
      obtain ⟨b, o, rfl, hb, hp⟩ := HS.out.at_ h1
      unfold strV at hp
      have HCC := Lib.hid (place_any (some (⟨b, o, none⟩ : Addr)) c l l[j] wr B HS.out hl)
      have hpl : plI l[j] l = (plS l[j] l : Int) := by unfold plI; rw [if_pos (plS_lt.2 (List.getElem_mem h1))]
      rw [hpl] at HCC
      have HF := Lib.hid (plS_first h1)
      obtain ⟨n, hn⟩ : ∃ n, plS l[j] l = n := ⟨_, rfl⟩
      rw [hn] at HCC HF
      clear hn hpl
      by_cases h2 : n = j
      · subst h2
        have h2b : ((n : Int) != (n : Int)) = false := by simp
        by_cases h3 : n < 32
        · have h3i : ¬ (32 : Int) ≤ (n : Int) := by omega
          have HE : Hid ((l.take (n + 1)).Nodup) := take_nodup h1 HJ.out (HF.out.1 rfl)
          go_wp2_with fail
          refine HCC.out.mono ?_
          rintro e w' ⟨rfl, rfl⟩
          go_wp2
          go_roundw
          case rel => exact ⟨n + 1, by omega, by omega, by go_num, trivial, HE.out⟩
          case measure => simp [intOf]; omega
        · have h3i : (32 : Int) ≤ (n : Int) := by omega
          have HE : Hid (colsB l = false) := by show _ = _; unfold colsB; rw [decide_eq_false (by omega)]; rfl
          go_wp2_with fail
          refine HCC.out.mono ?_
          rintro e w' ⟨rfl, rfl⟩
          go_wp2
          go_ret
          exact ⟨ret_bool (by rw [HE.out]), rfl⟩
      · have h2b : ((n : Int) != (j : Int)) = true := by
          rw [bne_iff_ne]; omega
        have HE : Hid (colsB l = false) := by
          show _ = _
          have hm : l[j] ∈ l.take j := Classical.byContradiction fun hn => h2 (HF.out.2 hn)
          unfold colsB
          rw [onceB_no h1 hm, Bool.and_false]
        clear h2
        go_wp2_with fail
        refine HCC.out.mono ?_
        rintro e w' ⟨rfl, rfl⟩
        go_wp2
        go_ret
        exact ⟨ret_bool (by rw [HE.out]), rfl⟩
    · have h1i : ¬ (j : Int) < (l.length : Int) := by omega
      have HE : Hid (colsB l = true) := by
        have h := HJ.out
        obtain rfl : j = l.length := by omega
        show _ = _
        unfold colsB
        rw [onceB_yes h, decide_eq_true hj3]; rfl
      go_wp2
      go_ret
      exact ⟨ret_bool (by rw [HE.out]), rfl⟩
end Go.Proofs.Ytofmfainhflmmaa
