import Derived.Lib.SmallJoins
import Derived.Test.YthbighnkohjfnaaGreatDoorJSayEach
import Derived.Test.YthbighnkohjfnaaGreatDoorJMay
import Derived.Test.YthbighnkohjfnaaGreatDoorJShelf
import Derived.Test.YthbighnkohjfnaaGreatDoorRows
import Derived.ProofKit
import Derived.OpenShut
import Derived.ShutString
import Derived.ChangeOld
import Derived.Deep.DeepHandedRow
import Derived.Deep.DeepWitnessRowRef
import Derived.Lib.LaidTab
import Derived.Stop.LaidErr
import Derived.RangeFuncBox
import Derived.Maps.AppendAt
import Derived.Lib.Hide
import Derived.Lib.BufferRead
import Derived.Lib.ItoaLen
import Derived.Deep.QuietTactic
import Derived.BigQuiet
/-
  CONTRACTS: told: the bytes of the text of a value that may be, handed on to a loop.
-/
namespace Go.Proofs.YthbighnkohjfnaaGreatDoor
open Go.RowKit Go.Shelf
attribute [local go_sem] Oper.semAt_some

theorem below_grow (w : World) (k : Nat) (os : Array Obj) : Below w.heap.size w (Go.Sort.grow (w.drewN k) os) :=
  ⟨rfl, rfl, rfl, by show w.heap.size ≤ (w.heap ++ os).size; rw [Array.size_append]; omega, fun j hj => by show (w.heap ++ os)[j]? = _; rw [Array.getElem?_append_left hj]⟩

def boolL (b : Bool) : List UInt8 := if b then [116, 114, 117, 101] else [102, 97, 108, 115, 101]
theorem boolL_eq (b : Bool) : Lib.formatBool b = boolL b := by cases b <;> decide +kernel

/-- the bytes of a value's text -/
def txtL (k n : Int) (s : ByteArray) : List UInt8 :=
  if k = 1 then Lib.itoa n
  else if k = 2 then boolL (n == 1)
  else if k = 3 then [34] ++ flatL escL s.data.toList ++ [34]
  else if k = 4 then [35] ++ flatL hexL s.data.toList ++ []
  else if k = 5 then 64 :: Lib.itoa n
  else if k = 6 then 33 :: Lib.itoa n
  else if k = 7 then 58 :: s.data.toList
  else []

set_option maxHeartbeats 400000 in
theorem mark_any (k : Int) (w : World) (h : k = 5 ∨ k = 6) :
    Calls Tryz.prog 81 #[.int .i64 k] w fun e w' => e = .returned (.int .u8 (if k = 5 then 64 else 33)) ∧ w = w' := by
  rcases h with rfl | rfl
  · go_enter Tryz.func81, Tryz.ntmps81
    go_wp2
    go_ret
    exact ⟨rfl, rfl⟩
  · go_enter Tryz.func81, Tryz.ntmps81
    go_wp2
    go_ret
    exact ⟨rfl, rfl⟩

theorem cat58 (s : ByteArray) : ((⟨#[58]⟩ : ByteArray) ++ s).data.toList = 58 :: s.data.toList := by simp
theorem cat58_size (s : ByteArray) : ((⟨#[58]⟩ : ByteArray) ++ s).size = s.size + 1 := by
  have h := congrArg List.length (cat58 s)
  rw [List.length_cons] at h
  exact h

theorem cat58_max {s : ByteArray} (h : s.size ≤ 64) : ((⟨#[58]⟩ : ByteArray) ++ s).size ≤ maxLen := by
  rw [cat58_size]; unfold maxLen; omega
theorem cat58_len {s : ByteArray} {N : Nat} (h : s.size + 1 ≤ N) : ([] : List UInt8).length + ((⟨#[58]⟩ : ByteArray) ++ s).size ≤ N := by
  rw [cat58_size]; simpa using h

/-- What the iterator leaves. -/
def Told (txt : List UInt8) (J Jx : List UInt8 → World → Prop) (e : Ending) (W' : World) : Prop :=
  (∃ v, e = .returned v) ∧ (J txt W' ∨ (∃ q, q <+: txt ∧ Jx q W'))

theorem told_done {txt : List UInt8} {J Jx : List UInt8 → World → Prop} {v : Value} {W' : World} (h : J txt W') : Told txt J Jx (.returned v) W' := ⟨⟨v, rfl⟩, .inl h⟩
theorem told_stop {txt q : List UInt8} {J Jx : List UInt8 → World → Prop} {v : Value} {W' : World} (h : q <+: txt) (hx : Jx q W') : Told txt J Jx (.returned v) W' := ⟨⟨v, rfl⟩, .inr ⟨q, h, hx⟩⟩

/-- The table lies as the program's text lays it. -/
def Tab (W : World) : Prop := Lib.TabIs Tryz.prog W "internal/strconv.uint64pow10" .u64 Lib.pow10Tab

set_option maxRecDepth 100000 in
set_option maxHeartbeats 1000000 in
theorem told_1 (l n₀ Bt N : Nat) (J Jx : List UInt8 → World → Prop) (hY : Hands l n₀ Bt N J Jx) (n B : Nat) (hA : AbidesFrom B J) (x : Int) (h0 : -9223372036854775808 ≤ x) (h1 : x ≤ 9223372036854775807) (W : World) (htab : Tab W)
    (hk : W.cell? ⟨Bt, 0, none⟩ = some (.int .i64 1)) (hn : W.cell? ⟨Bt, 1, none⟩ = some (.int .i64 x)) (hJ : J [] W) (hN : (Lib.itoa x).length ≤ N) (hN2 : (Lib.itoa x).length ≤ maxLen) :
    CallsIn Fence.wide n Tryz.prog 80 #[.func (.yield l) #[] #[], .pointer (some ⟨Bt, 0, none⟩)] W (Told (Lib.itoa x) J Jx) := by
  refine callsIn_of_wp Tryz.func80 rfl trivial ?_ rfl
  simp only [Tryz.ntmps80, List.size_toArray, List.length_cons, List.length_nil, Nat.reduceAdd, Nat.reduceSub, Array.replicate_succ, Array.replicate_zero, List.push_toArray, List.append_toArray, List.nil_append, List.cons_append]
  gi_wp2_with fail
  refine ⟨trivial, wide_deep _, ?_⟩
  refine (callsIn_wide.2 (Tryz.strconv_FormatInt_10 x h0 h1 _ htab)).mono ?_
  rintro e W1 ⟨rfl, k, os, hw⟩
  have hJ1 : J [] W1 := by rw [hw]; exact abides_below hA hJ (below_grow W k os)
  clear hw
  gi_wp2_with fail
  refine ⟨trivial, wide_deep _, ?_⟩
  refine (say_in l n₀ Bt N J Jx hY (n - 1) ⟨(Lib.itoa x).toArray⟩ (by rw [size_mk]; exact hN2) [] W1 hJ1 (by rw [size_mk]; simpa using hN)).mono ?_
  rintro e W3 (⟨rfl, hJ3, _⟩ | ⟨rfl, q, hq, hx⟩)
  · gi_wp2
    go_end0
    exact told_done (by simpa using hJ3)
  · gi_wp2
    go_end0
    exact told_stop (by simpa using hq) (by simpa using hx)

set_option maxRecDepth 100000 in
set_option maxHeartbeats 1000000 in
theorem told_5 (l n₀ Bt N : Nat) (J Jx : List UInt8 → World → Prop) (hY : Hands l n₀ Bt N J Jx) (n B : Nat) (hA : AbidesFrom B J) (x : Int) (h0 : -9223372036854775808 ≤ x) (h1 : x ≤ 9223372036854775807) (W : World) (htab : ∀ W', Keeps n₀ Bt W W' → Tab W')
    (hk : W.cell? ⟨Bt, 0, none⟩ = some (.int .i64 5)) (hn : W.cell? ⟨Bt, 1, none⟩ = some (.int .i64 x)) (hJ : J [] W) (hN : (Lib.itoa x).length + 1 ≤ N) (hN2 : (Lib.itoa x).length ≤ maxLen) :
    CallsIn Fence.wide n Tryz.prog 80 #[.func (.yield l) #[] #[], .pointer (some ⟨Bt, 0, none⟩)] W (Told (64 :: Lib.itoa x) J Jx) := by
  obtain ⟨fn, tmps, assign, body, hy, hR⟩ := hY (n - 1) [] 64 W hJ (by simp; omega)
  have hy' : (Instr.yield l #[.int .u8 64]).run Tryz.prog W = .ok (.round l fn tmps assign body) W := hy
  clear hy
  refine callsIn_of_wp Tryz.func80 rfl trivial ?_ rfl
  simp only [Tryz.ntmps80, List.size_toArray, List.length_cons, List.length_nil, Nat.reduceAdd, Nat.reduceSub, Array.replicate_succ, Array.replicate_zero, List.push_toArray, List.append_toArray, List.nil_append, List.cons_append]
  gi_wp2_with fail
  refine ⟨trivial, wide_deep _, ?_⟩
  refine (callsIn_wide.2 (mark_any 5 _ (by simp))).mono ?_
  rintro e w' ⟨rfl, rfl⟩
  gi_wp2_with fail
  refine ⟨wide_deep _, ?_⟩
  refine hR.mono ?_
  rintro e W1 (⟨rfl, hJ1, hB1⟩ | ⟨rfl, hx1⟩)
  · have hn1 : W1.cell? ⟨Bt, 1, none⟩ = some (.int .i64 x) := (hB1.cell 1).trans hn
    gi_wp2_with fail
    refine ⟨trivial, wide_deep _, ?_⟩
    refine (callsIn_wide.2 (Tryz.strconv_FormatInt_10 x h0 h1 _ (htab W1 hB1))).mono ?_
    rintro e W2 ⟨rfl, k, os, hw⟩
    have hJ2 : J ([] ++ [64]) W2 := by rw [hw]; exact abides_below hA hJ1 (below_grow W1 k os)
    clear hw
    gi_wp2_with fail
    refine ⟨trivial, wide_deep _, ?_⟩
    refine (say_in l n₀ Bt N J Jx hY (n - 1) ⟨(Lib.itoa x).toArray⟩ (by rw [size_mk]; exact hN2) _ W2 hJ2 (by rw [size_mk]; simp; omega)).mono ?_
    rintro e W3 (⟨rfl, hJ3, _⟩ | ⟨rfl, q, hq, hx⟩)
    · gi_wp2
      go_end0
      exact told_done (by simpa using hJ3)
    · gi_wp2
      go_end0
      exact told_stop (q := 64 :: q) (by simpa using hq) (by simpa using hx)
  · gi_wp2_with fail
    refine bodyPost_ret (results_none rfl _ _ _) rfl ?_
    exact told_stop (q := [64]) (by simp) (by simpa using hx1)

set_option maxRecDepth 100000 in
set_option maxHeartbeats 1000000 in
theorem told_6 (l n₀ Bt N : Nat) (J Jx : List UInt8 → World → Prop) (hY : Hands l n₀ Bt N J Jx) (n B : Nat) (hA : AbidesFrom B J) (x : Int) (h0 : -9223372036854775808 ≤ x) (h1 : x ≤ 9223372036854775807) (W : World) (htab : ∀ W', Keeps n₀ Bt W W' → Tab W')
    (hk : W.cell? ⟨Bt, 0, none⟩ = some (.int .i64 6)) (hn : W.cell? ⟨Bt, 1, none⟩ = some (.int .i64 x)) (hJ : J [] W) (hN : (Lib.itoa x).length + 1 ≤ N) (hN2 : (Lib.itoa x).length ≤ maxLen) :
    CallsIn Fence.wide n Tryz.prog 80 #[.func (.yield l) #[] #[], .pointer (some ⟨Bt, 0, none⟩)] W (Told (33 :: Lib.itoa x) J Jx) := by
  obtain ⟨fn, tmps, assign, body, hy, hR⟩ := hY (n - 1) [] 33 W hJ (by simp; omega)
  have hy' : (Instr.yield l #[.int .u8 33]).run Tryz.prog W = .ok (.round l fn tmps assign body) W := hy
  clear hy
  refine callsIn_of_wp Tryz.func80 rfl trivial ?_ rfl
  simp only [Tryz.ntmps80, List.size_toArray, List.length_cons, List.length_nil, Nat.reduceAdd, Nat.reduceSub, Array.replicate_succ, Array.replicate_zero, List.push_toArray, List.append_toArray, List.nil_append, List.cons_append]
  gi_wp2_with fail
  refine ⟨trivial, wide_deep _, ?_⟩
  refine (callsIn_wide.2 (mark_any 6 _ (by simp))).mono ?_
  rintro e w' ⟨rfl, rfl⟩
  gi_wp2_with fail
  refine ⟨wide_deep _, ?_⟩
  refine hR.mono ?_
  rintro e W1 (⟨rfl, hJ1, hB1⟩ | ⟨rfl, hx1⟩)
  · have hn1 : W1.cell? ⟨Bt, 1, none⟩ = some (.int .i64 x) := (hB1.cell 1).trans hn
    gi_wp2_with fail
    refine ⟨trivial, wide_deep _, ?_⟩
    refine (callsIn_wide.2 (Tryz.strconv_FormatInt_10 x h0 h1 _ (htab W1 hB1))).mono ?_
    rintro e W2 ⟨rfl, k, os, hw⟩
    have hJ2 : J ([] ++ [33]) W2 := by rw [hw]; exact abides_below hA hJ1 (below_grow W1 k os)
    clear hw
    gi_wp2_with fail
    refine ⟨trivial, wide_deep _, ?_⟩
    refine (say_in l n₀ Bt N J Jx hY (n - 1) ⟨(Lib.itoa x).toArray⟩ (by rw [size_mk]; exact hN2) _ W2 hJ2 (by rw [size_mk]; simp; omega)).mono ?_
    rintro e W3 (⟨rfl, hJ3, _⟩ | ⟨rfl, q, hq, hx⟩)
    · gi_wp2
      go_end0
      exact told_done (by simpa using hJ3)
    · gi_wp2
      go_end0
      exact told_stop (q := 33 :: q) (by simpa using hq) (by simpa using hx)
  · gi_wp2_with fail
    refine bodyPost_ret (results_none rfl _ _ _) rfl ?_
    exact told_stop (q := [33]) (by simp) (by simpa using hx1)

set_option maxRecDepth 100000 in
set_option maxHeartbeats 1000000 in
theorem told_2 (l n₀ Bt N : Nat) (J Jx : List UInt8 → World → Prop) (hY : Hands l n₀ Bt N J Jx) (n B : Nat) (_hA : AbidesFrom B J) (x : Int) (W : World)
    (hk : W.cell? ⟨Bt, 0, none⟩ = some (.int .i64 2)) (hn : W.cell? ⟨Bt, 1, none⟩ = some (.int .i64 x)) (hJ : J [] W) (hN : 5 ≤ N) :
    CallsIn Fence.wide n Tryz.prog 80 #[.func (.yield l) #[] #[], .pointer (some ⟨Bt, 0, none⟩)] W (Told (boolL (x == 1)) J Jx) := by
  have hlen : (boolL (x == 1)).length ≤ 5 := by cases (x == 1) <;> decide
  refine callsIn_of_wp Tryz.func80 rfl trivial ?_ rfl
  simp only [Tryz.ntmps80, List.size_toArray, List.length_cons, List.length_nil, Nat.reduceAdd, Nat.reduceSub, Array.replicate_succ, Array.replicate_zero, List.push_toArray, List.append_toArray, List.nil_append, List.cons_append]
  gi_wp2_with fail
  refine ⟨trivial, wide_deep _, ?_⟩
  refine (callsIn_wide.2 (Tryz.strconv_FormatBool (x == 1) _)).mono ?_
  rintro e W1 ⟨rfl, rfl⟩
  rw [boolL_eq]
  gi_wp2_with fail
  refine ⟨trivial, wide_deep _, ?_⟩
  refine (say_in l n₀ Bt N J Jx hY (n - 1) ⟨(boolL (x == 1)).toArray⟩ (by rw [size_mk]; exact Nat.le_trans hlen (by decide)) [] _ hJ (by rw [size_mk]; simp; omega)).mono ?_
  rintro e W3 (⟨rfl, hJ3, _⟩ | ⟨rfl, q, hq, hx⟩)
  · gi_wp2
    go_end0
    exact told_done (by simpa using hJ3)
  · gi_wp2
    go_end0
    exact told_stop (by simpa using hq) (by simpa using hx)

set_option maxRecDepth 100000 in
set_option maxHeartbeats 1000000 in
theorem told_7 (l n₀ Bt N : Nat) (J Jx : List UInt8 → World → Prop) (hY : Hands l n₀ Bt N J Jx) (n B : Nat) (_hA : AbidesFrom B J) (s : ByteArray) (hs : s.size ≤ 64) (W : World)
    (hk : W.cell? ⟨Bt, 0, none⟩ = some (.int .i64 7)) (hn : W.cell? ⟨Bt, 2, none⟩ = some (.string s)) (hJ : J [] W) (hN : s.size + 1 ≤ N) :
    CallsIn Fence.wide n Tryz.prog 80 #[.func (.yield l) #[] #[], .pointer (some ⟨Bt, 0, none⟩)] W (Told (58 :: s.data.toList) J Jx) := by
  refine callsIn_of_wp Tryz.func80 rfl trivial ?_ rfl
  simp only [Tryz.ntmps80, List.size_toArray, List.length_cons, List.length_nil, Nat.reduceAdd, Nat.reduceSub, Array.replicate_succ, Array.replicate_zero, List.push_toArray, List.append_toArray, List.nil_append, List.cons_append]
  gi_wp2_with fail
  refine ⟨trivial, wide_deep _, ?_⟩
  have hsay := say_in l n₀ Bt N J Jx hY (n - 1) ((⟨#[58]⟩ : ByteArray) ++ s) (cat58_max hs) [] W hJ (cat58_len hN)
  rw [cat58] at hsay
  refine hsay.mono ?_
  rintro e W3 (⟨rfl, hJ3, _⟩ | ⟨rfl, q, hq, hx⟩)
  · gi_wp2
    go_end0
    exact told_done (by simpa using hJ3)
  · gi_wp2
    go_end0
    exact told_stop hq (by simpa using hx)

set_option maxRecDepth 100000 in
set_option maxHeartbeats 1000000 in
theorem told_4 (l n₀ Bt N : Nat) (J Jx : List UInt8 → World → Prop) (hY : Hands l n₀ Bt N J Jx) (n B : Nat) (hA : AbidesFrom B J) (s : ByteArray) (hs : s.size ≤ 1000) (W : World)
    (hk : W.cell? ⟨Bt, 0, none⟩ = some (.int .i64 4)) (hn : W.cell? ⟨Bt, 2, none⟩ = some (.string s)) (hJ : J [] W) (hN : ([35] ++ flatL hexL s.data.toList ++ [] : List UInt8).length ≤ N) :
    CallsIn Fence.wide n Tryz.prog 80 #[.func (.yield l) #[] #[], .pointer (some ⟨Bt, 0, none⟩)] W (Told ([35] ++ flatL hexL s.data.toList ++ []) J Jx) := by
  refine callsIn_of_wp Tryz.func80 rfl trivial ?_ rfl
  simp only [Tryz.ntmps80, List.size_toArray, List.length_cons, List.length_nil, Nat.reduceAdd, Nat.reduceSub, Array.replicate_succ, Array.replicate_zero, List.push_toArray, List.append_toArray, List.nil_append, List.cons_append]
  gi_wp2_with fail
  refine ⟨trivial, wide_deep _, ?_⟩
  refine (sayHex_in l n₀ Bt N J Jx hY (n - 1) B hA ⟨#[35]⟩ s ⟨#[]⟩ (by decide) (Nat.le_trans hs (by decide)) (by decide) W hJ hN).mono ?_
  rintro e W3 ⟨⟨v, rfl⟩, hJ3 | ⟨q, hq, hx⟩⟩
  · gi_wp2
    go_end0
    exact told_done hJ3
  · gi_wp2
    go_end0
    exact told_stop hq hx

set_option maxRecDepth 100000 in
set_option maxHeartbeats 1000000 in
theorem told_3 (l n₀ Bt N : Nat) (J Jx : List UInt8 → World → Prop) (hY : Hands l n₀ Bt N J Jx) (n B : Nat) (hA : AbidesFrom B J) (s : ByteArray) (hs : s.size ≤ 1000) (W : World)
    (hk : W.cell? ⟨Bt, 0, none⟩ = some (.int .i64 3)) (hn : W.cell? ⟨Bt, 2, none⟩ = some (.string s)) (hJ : J [] W) (hN : ([34] ++ flatL escL s.data.toList ++ [34] : List UInt8).length ≤ N) :
    CallsIn Fence.wide n Tryz.prog 80 #[.func (.yield l) #[] #[], .pointer (some ⟨Bt, 0, none⟩)] W (Told ([34] ++ flatL escL s.data.toList ++ [34]) J Jx) := by
  refine callsIn_of_wp Tryz.func80 rfl trivial ?_ rfl
  simp only [Tryz.ntmps80, List.size_toArray, List.length_cons, List.length_nil, Nat.reduceAdd, Nat.reduceSub, Array.replicate_succ, Array.replicate_zero, List.push_toArray, List.append_toArray, List.nil_append, List.cons_append]
  gi_wp2_with fail
  refine ⟨trivial, wide_deep _, ?_⟩
  refine (sayEsc_in l n₀ Bt N J Jx hY (n - 1) B hA ⟨#[34]⟩ s ⟨#[34]⟩ (by decide) (Nat.le_trans hs (by decide)) (by decide) W hJ hN).mono ?_
  rintro e W3 ⟨⟨v, rfl⟩, hJ3 | ⟨q, hq, hx⟩⟩
  · gi_wp2
    go_end0
    exact told_done hJ3
  · gi_wp2
    go_end0
    exact told_stop hq hx

end Go.Proofs.YthbighnkohjfnaaGreatDoor

/-
  THE WORLD IN WHICH THE LISTED TABLES LIE (for the witness of a row that lists them), and what a row's list gives.
-/
namespace Go.Proofs.YthbighnkohjfnaaGreatDoor
open Go.ChangeShapes Go.WideShapes Go.ChangeAt Go.RowKit Go.Joins

def cells32 : Array Value := #[.int .u8 0, .int .u8 1, .int .u8 28, .int .u8 2, .int .u8 29, .int .u8 14, .int .u8 24, .int .u8 3, .int .u8 30, .int .u8 22, .int .u8 20, .int .u8 15, .int .u8 25, .int .u8 17, .int .u8 4, .int .u8 8, .int .u8 31, .int .u8 27, .int .u8 13, .int .u8 23, .int .u8 21, .int .u8 19, .int .u8 16, .int .u8 7, .int .u8 26, .int .u8 12, .int .u8 18, .int .u8 6, .int .u8 11, .int .u8 5, .int .u8 10, .int .u8 9]
def cells64 : Array Value := #[.int .u8 0, .int .u8 1, .int .u8 56, .int .u8 2, .int .u8 57, .int .u8 49, .int .u8 28, .int .u8 3, .int .u8 61, .int .u8 58, .int .u8 42, .int .u8 50, .int .u8 38, .int .u8 29, .int .u8 17, .int .u8 4, .int .u8 62, .int .u8 47, .int .u8 59, .int .u8 36, .int .u8 45, .int .u8 43, .int .u8 51, .int .u8 22, .int .u8 53, .int .u8 39, .int .u8 33, .int .u8 30, .int .u8 24, .int .u8 18, .int .u8 12, .int .u8 5, .int .u8 63, .int .u8 55, .int .u8 48, .int .u8 27, .int .u8 60, .int .u8 41, .int .u8 37, .int .u8 16, .int .u8 46, .int .u8 35, .int .u8 44, .int .u8 21, .int .u8 52, .int .u8 32, .int .u8 23, .int .u8 11, .int .u8 54, .int .u8 26, .int .u8 40, .int .u8 15, .int .u8 34, .int .u8 20, .int .u8 31, .int .u8 10, .int .u8 25, .int .u8 14, .int .u8 19, .int .u8 9, .int .u8 13, .int .u8 8, .int .u8 7, .int .u8 6]
def cells10 : Array Value := #[.int .u64 1, .int .u64 10, .int .u64 100, .int .u64 1000, .int .u64 10000, .int .u64 100000, .int .u64 1000000, .int .u64 10000000, .int .u64 100000000, .int .u64 1000000000, .int .u64 10000000000, .int .u64 100000000000, .int .u64 1000000000000, .int .u64 10000000000000, .int .u64 100000000000000, .int .u64 1000000000000000, .int .u64 10000000000000000, .int .u64 100000000000000000, .int .u64 1000000000000000000, .int .u64 10000000000000000000]

theorem gPow : Tryz.prog.globalNamed "internal/strconv.uint64pow10" = some 1 := by kernel_rfl
theorem gPowType : (Tryz.prog.globals[1]?).map (·.type) = some 137 := by kernel_rfl
theorem cellsPow : Tryz.prog.cellsOf 137 = 20 := by kernel_rfl
theorem cellsU64 : Tryz.prog.cellsOf 121 = 1 := by kernel_rfl
/-- what a list that has the table third gives -/
theorem tabThird {W : World} {x y : String × DataW Unit} {rest : List (String × DataW Unit)} (h : laidMet Tryz.prog (x :: y :: ("internal/strconv.uint64pow10", Lib.tabData .u64 Lib.pow10Tab) :: rest) W) : Tab W :=
  Lib.tabIs_of_head gPow gPowType Tryz.underlying137 Tryz.underlying121 cellsU64 cellsPow (laidMet.tail (laidMet.tail h))

def putCells (c : Array Value) : Obj → Obj
  | .cells _ t fr => .cells c t fr
  | o => o
/-- The settled world, each table holding what its initialiser lays. -/
noncomputable def tabsWorld (os : Os) : World :=
  { World.holding Tryz.prog os ⟨#[], #[], []⟩ with heap := (((World.holding Tryz.prog os ⟨#[], #[], []⟩).heap.modify 1 (putCells cells10)).modify 2 (putCells cells32)).modify 3 (putCells cells64) }

theorem vCells : Tryz.prog.cellsOf 35 = 3 := by kernel_rfl
theorem vReads {H : Type} {enc : TypeId × Value → H} (W : World) (b : Nat) (sp : Nat → Bool) (hd : Bool) (k n : Int) (s : ByteArray) (wk : (Lit.int .i64 k).wf = true) (wn : (Lit.int .i64 n).wf = true) (ws : s.size ≤ maxLen) :
    DataW.Trod enc Tryz.prog W b sp hd 35 (.agg #[.int .i64 k, .int .i64 n, .string s]) (.agg [.lit (.int .i64 k), .lit (.int .i64 n), .lit (.string s.data.toList)]) [] := by
  have h := shut_agg3 (enc := enc) (w := W) (base := b) (spare := sp) (held := hd) (v0 := .int .i64 k) (v1 := .int .i64 n) (v2 := .string s) (y0 := (.lit (.int .i64 k), [])) (y1 := (.lit (.int .i64 n), [])) (y2 := (.lit (.string s.data.toList), [])) Tryz.underlying35 (by kernel_rfl) vCells
    ⟨1, by simp [DataW.trod, Tryz.underlying3, wk]⟩ ⟨1, by simp [DataW.trod, Tryz.underlying2, wn]⟩ ⟨1, by simp [DataW.trod, Tryz.underlying9, ws]⟩
  simpa using h

theorem wf_i64 {x : Int} (h : (Lit.int .i64 x).wf = true) : -9223372036854775808 ≤ x ∧ x ≤ 9223372036854775807 := by
  simpa [Lit.wf, IntKind.min, IntKind.max, IntKind.signed, IntKind.bits] using h

end Go.Proofs.YthbighnkohjfnaaGreatDoor

/-
  THE CONTRACT of Text: the text of a value that may be, or the error.
-/
namespace Go.Proofs.YthbighnkohjfnaaGreatDoor
open Go.RowKit Go.Shelf
attribute [local go_sem] Oper.semAt_some

theorem wide_room (k : Nat) : Fence.wide.room k := fun d h => by cases h
theorem RoundIn.anyDepth {m m' : Nat} {P : Program} {l : Nat} {f : FuncId} {tmps : Array Value} {assign body : Code} {w : World} {R : Ending → World → Prop}
    (h : RoundIn Fence.wide m P l f tmps assign body w R) : RoundIn Fence.wide m' P l f tmps assign body w R := ⟨h.1, fun c cs _ => h.2 c cs (wide_room _)⟩
theorem YieldAt.anyDepth {m : Nat} (m' : Nat) {P : Program} {l : Nat} {args : Array Value} {W : World} {R : Ending → World → Prop} (h : YieldAt Fence.wide m P l args W R) : YieldAt Fence.wide m' P l args W R := by
  obtain ⟨fn, tmps, assign, body, hy, hR⟩ := h
  exact ⟨fn, tmps, assign, body, hy, RoundIn.anyDepth hR⟩

theorem tab_below {w W : World} (h : Tab w) (hb : Below w.heap.size w W) : Tab W := Joins.tab_stays (g := 1) (by kernel_rfl) h hb (Nat.le_refl _)

theorem itoa_len (x : Int) (h0 : -9223372036854775808 ≤ x) (h1 : x ≤ 9223372036854775807) : (Lib.itoa x).length ≤ 1000 := Nat.le_trans (Lib.itoa_length_le x h0 h1) (by decide)

theorem txt_len (k n : Int) (s : ByteArray) (hm : mayB k n s = true) (h0 : -9223372036854775808 ≤ n) (h1 : n ≤ 9223372036854775807) : (txtL k n s).length ≤ 4000 := by
  have hl : s.data.toList.length = s.size := Array.length_toList
  have hi := itoa_len n h0 h1
  have hh := flatL_len hexL hexL_len s.data.toList
  have he := flatL_len escL escL_len s.data.toList
  have hb : (boolL (n == 1)).length ≤ 5 := by cases (n == 1) <;> decide
  unfold mayB at hm
  unfold txtL
  by_cases k1 : k = 1
  · rw [if_pos k1]; omega
  by_cases k2 : k = 2
  · rw [if_neg k1, if_pos k2]; omega
  by_cases k3 : k = 3
  · rw [if_neg (by omega), if_neg k2, if_pos (by omega)] at hm
    simp at hm
    rw [if_neg k1, if_neg k2, if_pos k3]
    simp only [List.length_append, List.length_cons, List.length_nil]; omega
  by_cases k4 : k = 4
  · rw [if_neg (by omega), if_neg k2, if_pos (by omega)] at hm
    simp at hm
    rw [if_neg k1, if_neg k2, if_neg k3, if_pos k4]
    simp only [List.length_append, List.length_cons, List.length_nil]; omega
  by_cases k5 : k = 5
  · rw [if_neg k1, if_neg k2, if_neg k3, if_neg k4, if_pos k5, List.length_cons]; omega
  by_cases k6 : k = 6
  · rw [if_neg k1, if_neg k2, if_neg k3, if_neg k4, if_neg k5, if_pos k6, List.length_cons]; omega
  by_cases k7 : k = 7
  · rw [if_neg (by omega), if_neg k2, if_neg (by omega), if_neg k5, if_pos k7] at hm
    simp at hm
    have := word_size hm.2
    rw [if_neg k1, if_neg k2, if_neg k3, if_neg k4, if_neg k5, if_neg k6, if_pos k7, List.length_cons]; omega
  · rw [if_neg k1, if_neg k2, if_neg k3, if_neg k4, if_neg k5, if_neg k6, if_neg k7]; simp
theorem keeps_b {n₀ Bt : Nat} {w : World} (hn : n₀ ≤ w.heap.size) (hb : Bt < w.heap.size) (W : World) (l : Nat) (o o' : Obj) (hl : w.heap.size ≤ l) (h : W.heap[l]? = some o) (h1 : o.isCells = false) (h2 : o.isWalk = false) : Keeps n₀ Bt W (W.putObj l o') :=
  ⟨belowK_b hn W l o o' hl h h1 h2, (belowK_b (n₀ := w.heap.size) (Nat.le_refl _) W l o o' hl h h1 h2).block Bt hb⟩

/-- told's value hands on the bytes of the value's text, or a part of them. -/
theorem told_stops (n n₀ Bt : Nat) (k x : Int) (s : ByteArray) (h0 : -9223372036854775808 ≤ x) (h1 : x ≤ 9223372036854775807) (hm : mayB k x s = true) (w : World) (hBt : Bt < w.heap.size) (htab : ∀ W', Below n₀ w W' → Tab W') (hn₀ : n₀ ≤ w.heap.size)
    (hc0 : w.cell? ⟨Bt, 0, none⟩ = some (.int .i64 k)) (hc1 : w.cell? ⟨Bt, 1, none⟩ = some (.int .i64 x)) (hc2 : w.cell? ⟨Bt, 2, none⟩ = some (.string s)) :
    SeqStopsK Fence.wide n Tryz.prog 80 #[.pointer (some ⟨Bt, 0, none⟩)] (fun c : UInt8 => #[Value.int .u8 c.toNat]) (Keeps n₀ Bt) (fun ys => ys = txtL k x s) (fun pre => pre <+: txtL k x s) ((txtL k x s).length + 5) w := fun l J Jx W hW hJ _ hY h0' => by
  have hH : Hands l n₀ Bt ((txtL k x s).length + 5) J Jx := fun m pre c W1 hj hl => YieldAt.anyDepth m (hY pre c W1 hj hl)
  have g0 := (hW.cell (p := ⟨Bt, 0, none⟩) hBt).trans hc0
  have g1 := (hW.cell (p := ⟨Bt, 1, none⟩) hBt).trans hc1
  have g2 := (hW.cell (p := ⟨Bt, 2, none⟩) hBt).trans hc2
  have il := itoa_len x h0 h1
  have il2 : (Lib.itoa x).length ≤ maxLen := Nat.le_trans il (by decide)
  have ht : ∀ W', Keeps n₀ Bt W W' → Tab W' := fun W' hb => htab W' ((hW.mono hn₀).trans hb.low)
  suffices h : CallsIn Fence.wide n Tryz.prog 80 #[.func (.yield l) #[] #[], .pointer (some ⟨Bt, 0, none⟩)] W (Told (txtL k x s) J Jx) by
    refine h.mono ?_
    rintro e W' ⟨hv, hj | ⟨q, hq, hx⟩⟩
    · exact ⟨hv, .inl ⟨_, rfl, hj⟩⟩
    · exact ⟨hv, .inr ⟨q, hq, hx⟩⟩
  by_cases k1 : k = 1
  · subst k1
    exact told_1 l _ _ _ J Jx hH n _ hJ x h0 h1 W (ht W (Keeps.refl _ _ _)) g0 g1 h0' (by simp [txtL]) il2
  by_cases k2 : k = 2
  · subst k2
    exact told_2 l _ _ _ J Jx hH n _ hJ x W g0 g1 h0' (by omega)
  by_cases k3 : k = 3
  · subst k3
    have hs : s.size ≤ 1000 := by simp [mayB] at hm; exact hm.2
    exact told_3 l _ _ _ J Jx hH n _ hJ s hs W g0 g2 h0' (by simp [txtL])
  by_cases k4 : k = 4
  · subst k4
    have hs : s.size ≤ 1000 := by simp [mayB] at hm; exact hm.2
    exact told_4 l _ _ _ J Jx hH n _ hJ s hs W g0 g2 h0' (by simp [txtL])
  by_cases k5 : k = 5
  · subst k5
    exact told_5 l _ _ _ J Jx hH n _ hJ x h0 h1 W ht g0 g1 h0' (by simp [txtL]) il2
  by_cases k6 : k = 6
  · subst k6
    exact told_6 l _ _ _ J Jx hH n _ hJ x h0 h1 W ht g0 g1 h0' (by simp [txtL]) il2
  by_cases k7 : k = 7
  · subst k7
    have hs : s.size ≤ 64 := by simp [mayB] at hm; exact word_size hm.2
    exact told_7 l _ _ _ J Jx hH n _ hJ s hs W g0 g2 h0' (by simp [txtL])
  simp [mayB, k1, k2, k3, k4, k5, k6, k7] at hm

set_option maxHeartbeats 400000 in
theorem toldOf_any (k n : Int) (s : ByteArray) (w : World) :
    Calls Tryz.prog 64 #[.agg #[.int .i64 k, .int .i64 n, .string s]] w fun e w' => e = .returned (.func (.func 80) #[] #[.pointer (some ⟨w.heap.size, 0, none⟩)]) ∧ w' = w.alloc (.cells #[.int .i64 k, .int .i64 n, .string s] 35) := by
  go_enter Tryz.func64, Tryz.ntmps64
  go_wp2
  go_ret
  exact ⟨rfl, rfl⟩

theorem info8 : (Tryz.prog.info? 5).map (fun i => (i.zero, i.size, i.bytes)) = some (some (.int .u8 0), 1, 1) := by kernel_rfl

theorem own_string (W : World) (v : Value) (base : Nat) (l : List UInt8) (h : W.ownsRow base 5 1 v l.length (l.map (fun c : UInt8 => Value.int .u8 c.toNat))) :
    (convert 61 9 v).run Tryz.prog W = .ok (.string ⟨l.toArray⟩) W := by
  rcases h.2 with ⟨rfl, h0⟩ | ⟨g, cap, cur, rfl, _, hg, _, _, _, ht⟩
  · obtain rfl : l = [] := List.length_eq_zero_iff.1 h0
    exact Lib.run_convert_nil_bytes W _ _ _ 0 Tryz.underlying61 Tryz.underlying5 Tryz.underlying9
  · refine run_convert_bytes_back W _ _ _ ⟨g, 0, none⟩ cap l Tryz.underlying61 Tryz.underlying5 Tryz.underlying9 (fun j hj => ?_)
    have h1 := h.cellAt j (by omega)
    rw [List.getElem?_map, List.getElem?_eq_getElem hj] at h1
    have ha : (⟨g, 0, none⟩ : Addr).add j = ⟨g, j, none⟩ := by
      unfold Addr.add; split <;> simp_all
    rw [ha]; simpa using h1

/-- A block of a type of its own is none of a row's. -/
theorem blk_not_row {W : World} {B : Nat} {t e : TypeId} {cs : Array Value} {fr : Nat × Nat} (h : W.heap[B]? = some (.cells cs t fr)) (hte : t ≠ e) {base size k : Nat} {v : Value} {xs : List Value} (hr : W.ownsRow base e size v k xs) : some B ≠ v.ownBlock := by
  rcases hr.2 with ⟨rfl, _⟩ | ⟨g, cap, cur, rfl, _, hgb, _⟩
  · simp [Value.ownBlock]
  · simp only [Value.ownBlock]
    intro e1
    obtain rfl : B = g := by simpa using e1
    rw [h] at hgb
    injection hgb with h1
    injection h1 with _ h2
    exact hte h2
theorem blk_kept {W w1 : World} {B Bt : Nat} {t e : TypeId} {cs : Array Value} {fr : Nat × Nat} {size k base : Nat} {v v' : Value} {xs : List Value} {tmp : Obj} (h : W.heap[Bt]? = some (.cells cs t fr)) (hte : t ≠ e) (hrow : W.ownsRow base e size v k xs) (hne : Bt ≠ B)
    (hg : (W.alloc tmp).grownBy w1 v.ownBlock) : (w1.setCell ⟨B, 0, none⟩ v').heap[Bt]? = W.heap[Bt]? := by
  have hlt : Bt < W.heap.size := (Array.getElem?_eq_some_iff.1 h).1
  rw [Below.heap_setCell _ _ _ _ hne, hg.block Bt (by simp; omega) (blk_not_row h hte hrow), Below.heap_alloc _ _ _ hlt]
theorem blk_own {β : Type} (Bt : Nat) (cs : Array Value) (t : TypeId) (fr : Nat × Nat) : Own (fun (_ : β) W => W.heap[Bt]? = some (.cells cs t fr)) := fun _ A B row hs hg hr => by
  have hlt : Bt < A.heap.size := (Array.getElem?_eq_some_iff.1 hs).1
  refine (hg.block Bt hlt ?_).trans hs
  intro e
  obtain ⟨o, ho, hc⟩ := hr Bt e.symm
  rw [hs] at ho
  cases ho
  simp [Obj.isCells] at hc

set_option maxRecDepth 100000 in
set_option maxHeartbeats 2000000 in
theorem text_yes (m : Nat) (hm3 : Hid (3 ≤ m)) (k n : Int) (s : ByteArray) (w : World) (hs : s.size ≤ maxLen) (h0 : -9223372036854775808 ≤ n) (h1 : n ≤ 9223372036854775807) (hm : mayB k n s = true) (htab : Tab w) :
    CallsIn Fence.wide m Tryz.prog 46 #[.agg #[.int .i64 k, .int .i64 n, .string s]] w fun e w' => e = .returned (.tuple #[.string ⟨(txtL k n s).toArray⟩, .int .i64 0]) ∧ Below w.heap.size w w' := by
  have HM := Lib.hid hm
  refine callsIn_of_wp_marks Tryz.func46 rfl trivial ?_ rfl
  simp only [Tryz.ntmps46, List.size_toArray, List.length_cons, List.length_nil, Nat.reduceAdd, Nat.reduceSub, Array.replicate_succ, Array.replicate_zero, List.push_toArray, List.append_toArray, List.nil_append, List.cons_append]
  clear hm
  gi_wp2_with fail
  refine ⟨trivial, wide_deep _, ?_⟩
  refine (callsIn_wide.2 (mayBe_any _ _ _ _ hs)).mono ?_
  rintro e w1 ⟨he, hb1⟩
  rw [HM.out] at he
  subst he
  have e0 := (hb1.cell (p := ⟨w.heap.size, 0, none⟩) (by simp)).trans (by go_simp : _ = some (Value.int .i64 k))
  have e1 := (hb1.cell (p := ⟨w.heap.size, 1, none⟩) (by simp)).trans (by go_simp : _ = some (Value.int .i64 n))
  have e2 := (hb1.cell (p := ⟨w.heap.size, 2, none⟩) (by simp)).trans (by go_simp : _ = some (Value.string s))
  have hB1 : Below w.heap.size w w1 := ((Below.refl _ _).alloc (Nat.le_refl _) _).trans (hb1.mono (by simp))
  have hz : w.heap.size < w1.heap.size := by have := hb1.size; simp at this; omega
  clear hb1
  gi_wp2_with fail
  refine ⟨trivial, wide_deep _, ?_⟩
  refine (callsIn_wide.2 (toldOf_any _ _ _ _)).mono ?_
  rintro e w2 ⟨rfl, rfl⟩
  gi_wp2_with fail
  have hm := HM.out
  have hlen := txt_len k n s hm h0 h1
  have htb : ∀ W', Below w1.heap.size ((w1.alloc (.cells #[.slice none 0 0] 61)).alloc (.cells #[.int .i64 k, .int .i64 n, .string s] 35)) W' → Tab W' := fun W' hb =>
    tab_below htab (hB1.trans ((((Below.refl _ _).alloc (Nat.le_refl _) _).alloc (by simp) _).trans hb |>.mono hB1.size))
  obtain ⟨i0, hi, hz0, hz1, hz2⟩ := info_parts info8
  have bO := Boxed.new w1 61 (.slice none 0 0)
  have c0 : ((w1.alloc (.cells #[.slice none 0 0] 61)).alloc (.cells #[.int .i64 k, .int .i64 n, .string s] 35)).cell? ⟨w1.heap.size + 1, 0, none⟩ = some (.int .i64 k) := by go_simp
  have c1 : ((w1.alloc (.cells #[.slice none 0 0] 61)).alloc (.cells #[.int .i64 k, .int .i64 n, .string s] 35)).cell? ⟨w1.heap.size + 1, 1, none⟩ = some (.int .i64 n) := by go_simp
  have c2 : ((w1.alloc (.cells #[.slice none 0 0] 61)).alloc (.cells #[.int .i64 k, .int .i64 n, .string s] 35)).cell? ⟨w1.heap.size + 1, 2, none⟩ = some (.string s) := by go_simp
  have hB2 : Below w1.heap.size w1 ((w1.alloc (.cells #[.slice none 0 0] 61)).alloc (.cells #[.int .i64 k, .int .i64 n, .string s] 35)) := ((Below.refl _ w1).alloc (Nat.le_refl _) _).alloc (by simp) _
  have bV := World.alloc_heap_new (w1.alloc (.cells #[.slice none 0 0] 61)) (.cells #[.int .i64 k, .int .i64 n, .string s] 35)
  rw [World.size_alloc] at bV
  have hro : Fence.wide.round = none := rfl
  refine wpIn_rangeFunc_ownG hro (by have := hm3.out; omega) (gf := 80) (lb := #[.pointer (some ⟨w1.heap.size + 1, 0, none⟩)]) rfl trivial (enters_of Tryz.func80 (by kernel_rfl) rfl)
    (told_stops (m - 1) w1.heap.size (w1.heap.size + 1) k n s h0 h1 hm _ (by simp) htb (by simp; omega) c0 c1 c2) Keeps.trans (keeps_b (by simp; omega) (by simp)) (Below.refl _ _) (fun _ => rfl)
    (fun pre W => (∃ v, Boxed W w1.heap.size 61 v ∧ W.ownsRow w1.heap.size 5 1 v pre.length (pre.map (fun c : UInt8 => Value.int .u8 c.toNat)) ∧ (v = .slice none 0 0 ↔ pre = [])) ∧ W.heap[w1.heap.size + 1]? = some (.cells #[.int .i64 k, .int .i64 n, .string s] 35 (0, 0)) ∧ Below w1.heap.size w1 W)
    (fun _ _ _ => False)
    (OwnFrom.and (Own.from (holdsRow_own w1.heap.size w1.heap.size 61 5 1 (fun pre => pre.length) (fun pre : List UInt8 => pre.map (fun c : UInt8 => Value.int .u8 c.toNat)) (fun pre v => v = .slice none 0 0 ↔ pre = [])) _) (OwnFrom.and (Own.from (blk_own _ _ _ _) _) (ownFrom_below (Nat.le_refl _) (by simp; omega))))
    (fun _ _ _ _ _ hs _ _ => hs)
    ⟨⟨_, bO.alloc _, World.ownsRow_nil _ _ _ _, by simp⟩, bV, hB2⟩
    (fun c => { tmps := #[.agg #[.int .i64 k, .int .i64 n, .string s], .pointer (some ⟨w.heap.size, 0, none⟩), .string ⟨#[]⟩, .int .i64 0, .pointer (some ⟨w1.heap.size, 0, none⟩), .int .u8 c.toNat, .agg #[.int .i64 k, .int .i64 n, .string s], .bool true, .bool false, .agg #[.int .i64 k, .int .i64 n, .string s], .func (.func 80) #[] #[.pointer (some ⟨w1.heap.size + 1, 0, none⟩)], .int .u8 c.toNat, undef, undef, undef, undef, undef, undef], defers := [] }) ?assign ?body ?done ?stop
  case assign =>
    intro l x W K hK
    gi_wp2
    exact hK
  case body =>
    rintro l pre x W ⟨⟨v, hv, hrow, hnil⟩, hV, hB⟩ hlt
    have hc := hv.cell
    have hmx : 5000 ≤ maxLen := by decide
    gi_wp2_with (gi_at_builtin; refine wpListIn_append_own _ rfl _ _ 61 rfl w1.heap.size 5 i0 (.int .u8 0) 1 1 Tryz.underlying61 hi hz0 hz1 hz2 rfl (by decide) _ _ _ rfl (hrow.alloc _) ⟨W.heap.size, 0, none⟩ 1 1 [.int .u8 x.toNat] rfl rfl (cell_one_new _ _ _) (by simp [Value.oneCell']) (by omega) (by omega) (by have := hB.size; simp; omega) ?_; intro v' w3 hown' hgrow _; obtain ⟨g', cap', rfl⟩ := ownsRow_succ hown'; obtain ⟨hv1, hv2, hr2, hk2, hb2⟩ := hv.appended (by decide) hrow hB.size (Nat.le_refl _) hown' hgrow; have hbx := blk_kept (B := w1.heap.size) (v' := Value.slice (some ⟨g', 0, none⟩) (pre.length + 1) cap') hV (by decide) hrow (by omega) hgrow; have hc1 := hv1.cell; have hf1 := hv1.frozen)
    exact ⟨hk2.from _, ⟨hb2, hbx⟩, ⟨_, hv2, by simpa using hr2, by simp⟩, hbx.trans hV, hB.trans hb2⟩
  case done =>
    rintro D ys W hD rfl ⟨⟨v, hv, hrow, hnil⟩, hV, hB⟩ hK
    have hc := hv.cell
    have hcv := own_string W v _ _ hrow
    gi_wp2
    refine ⟨by simp, .inl ⟨_, _, rfl, run_takeDeferred hK, ?_⟩⟩
    exact ⟨_, results_tmp2 rfl _ _ _, rfl, hB1.trans ((hB.trans (belowK_b (w := w1) (Nat.le_refl _) W D _ _ (by simp at hD; omega) hK rfl rfl)).mono hB1.size)⟩
  case stop =>
    rintro D c pre W _ _ h _
    exact h.elim

set_option maxRecDepth 100000 in
set_option maxHeartbeats 1000000 in
theorem text_no (k n : Int) (s : ByteArray) (w : World) (hs : s.size ≤ maxLen) (hm : mayB k n s = false) :
    Calls Tryz.prog 46 #[.agg #[.int .i64 k, .int .i64 n, .string s]] w fun e w' => e = .returned (.tuple #[.string ⟨#[]⟩, .int .i64 10]) ∧ Below w.heap.size w w' := by
  have HM := Lib.hid hm
  clear hm
  go_enter Tryz.func46, Tryz.ntmps46
  go_wp2_with fail
  refine (mayBe_any _ _ _ _ hs).mono ?_
  rintro e w1 ⟨he, hb1⟩
  rw [HM.out] at he
  subst he
  have hB1 : Below w.heap.size w w1 := ((Below.refl _ _).alloc (Nat.le_refl _) _).trans (hb1.mono (by simp))
  clear hb1
  go_wp2
  go_ret2
  exact ⟨rfl, hB1⟩

/-- Text, of any value. -/
def TextEnd (k n : Int) (s : ByteArray) (e : Ending) : Prop :=
  (mayB k n s = true ∧ e = .returned (.tuple #[.string ⟨(txtL k n s).toArray⟩, .int .i64 0])) ∨ (mayB k n s = false ∧ e = .returned (.tuple #[.string ⟨#[]⟩, .int .i64 10]))
theorem text_any (k n : Int) (s : ByteArray) (w : World) (hs : s.size ≤ maxLen) (h0 : -9223372036854775808 ≤ n) (h1 : n ≤ 9223372036854775807) (htab : Tab w) :
    Calls Tryz.prog 46 #[.agg #[.int .i64 k, .int .i64 n, .string s]] w fun e w' => TextEnd k n s e ∧ Below w.heap.size w w' := by
  cases hm : mayB k n s
  · exact (text_no k n s w hs hm).mono fun e w' ⟨he, hb⟩ => ⟨.inr ⟨hm, he⟩, hb⟩
  · refine (callsIn_wide (n := 9)).1 ((text_yes 9 (Nat.le_of_ble_eq_true rfl) k n s w hs h0 h1 hm htab).mono fun e w' ⟨he, hb⟩ => ⟨.inl ⟨hm, he⟩, hb⟩)

end Go.Proofs.YthbighnkohjfnaaGreatDoor

/-
  CONTRACTS of what reads a text: readHex.
-/
namespace Go.Proofs.YthbighnkohjfnaaGreatDoor
open Go.RowKit Go.Shelf

/-- the place of a byte among the digits of sixteen, or -1 -/
def hexI (c : UInt8) : Int := Lib.indexByte [48, 49, 50, 51, 52, 53, 54, 55, 56, 57, 97, 98, 99, 100, 101, 102] c
theorem hexI_all : ∀ n : Fin 256, -1 ≤ hexI (UInt8.ofNat n.val) ∧ hexI (UInt8.ofNat n.val) ≤ 15 := by decide +kernel
theorem hexI_range (c : UInt8) : -1 ≤ hexI c ∧ hexI c ≤ 15 := by
  have h := hexI_all ⟨c.toNat, c.toNat_lt⟩
  simpa using h
theorem hexI_hexD : ∀ n : Nat, n < 16 → hexI (hexD n) = n := by decide +kernel

theorem ixb (c : UInt8) (w : World) : Calls Tryz.prog 44 #[.string ⟨#[48, 49, 50, 51, 52, 53, 54, 55, 56, 57, 97, 98, 99, 100, 101, 102]⟩, .int .u8 c.toNat] w fun e w' => e = .returned (.int .i64 (hexI c)) ∧ w' = w := by
  have h := Tryz.strings_IndexByte ⟨#[48, 49, 50, 51, 52, 53, 54, 55, 56, 57, 97, 98, 99, 100, 101, 102]⟩ c.toNat w
  have e : ((c.toNat : Int)).toNat.toUInt8 = c := by simp
  rw [e] at h
  exact h

/-- the byte that two places make -/
def joinB (x y : Int) : UInt8 := UInt8.ofNat (bits BinOp.or IntKind.i64 (x * 16) y % 256).toNat
theorem joinB_nat (x y : Int) : ((joinB x y).toNat : Int) = bits BinOp.or IntKind.i64 (x * 16) y % 256 := by
  unfold joinB
  generalize bits BinOp.or IntKind.i64 (x * 16) y = z
  have h1 : 0 ≤ z % 256 := Int.emod_nonneg _ (by decide)
  have h2 : z % 256 < 256 := Int.emod_lt_of_pos _ (by decide)
  rw [UInt8.toNat_ofNat']
  omega
/-- what readHex reads -/
def rhL : List UInt8 → UInt8 × Bool
  | a :: b :: _ => (joinB (hexI a) (hexI b), decide (0 ≤ hexI a) && decide (0 ≤ hexI b))
  | _ => (0, false)
theorem rh_all : ∀ n : Fin 256, joinB (hexI (hexD (n.val / 16))) (hexI (hexD (n.val % 16))) = UInt8.ofNat n.val ∧ decide (0 ≤ hexI (hexD (n.val / 16))) = true ∧ decide (0 ≤ hexI (hexD (n.val % 16))) = true := by decide +kernel
theorem rhL_hexL (c : UInt8) (r : List UInt8) : rhL (hexL c ++ r) = (c, true) := by
  obtain ⟨h1, h2, h3⟩ := rh_all ⟨c.toNat, c.toNat_lt⟩
  show (joinB (hexI (hexD (c.toNat / 16))) (hexI (hexD (c.toNat % 16))), decide (0 ≤ hexI (hexD (c.toNat / 16))) && decide (0 ≤ hexI (hexD (c.toNat % 16)))) = (c, true)
  simp only at h1 h2 h3
  rw [h1, h2, h3]
  simp
theorem rhL_two (s : ByteArray) (h : 2 ≤ s.size) : rhL s.data.toList = (joinB (hexI s[0]) (hexI s[1]), decide (0 ≤ hexI s[0]) && decide (0 ≤ hexI s[1])) := by
  have h0 := drop_at s 0 (by omega)
  have h1 := drop_at s 1 (by omega)
  rw [List.drop_zero] at h0
  rw [h0, h1]; rfl
theorem rhL_short (s : ByteArray) (h : s.size < 2) : rhL s.data.toList = (0, false) := by
  have hl : s.data.toList.length = s.size := Array.length_toList
  match h2 : s.data.toList with
  | [] => rfl
  | [_] => rfl
  | a :: b :: r => rw [h2] at hl; simp at hl; omega
theorem rhL_ok {l : List UInt8} (h : (rhL l).2 = true) : 2 ≤ l.length := by
  match l with
  | [] => simp [rhL] at h
  | [_] => simp [rhL] at h
  | a :: b :: r => simp

def RhEnd (s : ByteArray) (e : Ending) : Prop := e = .returned (.tuple #[.int .u8 (rhL s.data.toList).1.toNat, .bool (rhL s.data.toList).2])
theorem rhEnd_mk {s : ByteArray} {x y : Int} {a : Int} {b : Bool} (h : 2 ≤ s.size) (hx : hexI s[0] = x) (hy : hexI s[1] = y) (ha : a = bits BinOp.or IntKind.i64 (x * 16) y % 256) (hb : b = (decide (0 ≤ x) && decide (0 ≤ y))) : RhEnd s (.returned (.tuple #[.int .u8 a, .bool b])) := by
  unfold RhEnd
  rw [rhL_two s h, hx, hy]
  simp only
  rw [joinB_nat, ha, hb]
  rfl

set_option maxRecDepth 100000 in
set_option maxHeartbeats 1000000 in
theorem readHex_any (s : ByteArray) (w : World) (hs : s.size ≤ maxLen) :
    Calls Tryz.prog 115 #[.string s] w fun e w' => RhEnd s e ∧ Below w.heap.size w w' := by
  unfold maxLen at hs
  by_cases h2 : 2 ≤ s.size
  · have hh := hexI_range s[0]
    have hl := hexI_range s[1]
    obtain ⟨x, hx⟩ : ∃ x, hexI s[0] = x := ⟨_, rfl⟩
    obtain ⟨y, hy⟩ : ∃ y, hexI s[1] = y := ⟨_, rfl⟩
    rw [hx] at hh
    rw [hy] at hl
    have c1 := fun w => ixb s[0] w
    have c2 := fun w => ixb s[1] w
    rw [hx] at c1
    rw [hy] at c2
    have C1 := Lib.hid c1
    have C2 := Lib.hid c2
    have HX := Lib.hid hx
    have HY := Lib.hid hy
    clear hx hy c1 c2
    obtain ⟨x1, x2⟩ := hh
    obtain ⟨y1, y2⟩ := hl
    have h3 : ¬ (s.size : Int) < 2 := by omega
    have h4 : (0 : Int) < (s.size : Int) := by omega
    have h5 : (1 : Int) < (s.size : Int) := by omega
    have h6 : 0 < s.size := by omega
    have h7 : 1 < s.size := by omega
    go_enter Tryz.func115, Tryz.ntmps115
    go_wp2
    go_quiet (first | (go_at_call 44; exact Calls.quiet_of_same (C1.out _)) | (go_at_call 44; exact Calls.quiet_of_same (C2.out _)))
    go_wp2
    · go_ret2
      exact ⟨rhEnd_mk h2 HX.out HY.out rfl (by have : 0 ≤ x := ‹0 ≤ x›; simp [this]), ⟨rfl, rfl, rfl, Nat.le_refl _, fun _ _ => rfl⟩⟩
    · go_ret2
      exact ⟨rhEnd_mk h2 HX.out HY.out rfl (by have : ¬ 0 ≤ x := by (have : x < 0 := ‹x < 0›); omega
                                               simp [this]), ⟨rfl, rfl, rfl, Nat.le_refl _, fun _ _ => rfl⟩⟩
  · have h3 : (s.size : Int) < 2 := by omega
    have hE : Hid (RhEnd s (.returned (.tuple #[.int .u8 0, .bool false]))) := by
      show RhEnd s _
      unfold RhEnd; rw [rhL_short s (by omega)]; rfl
    clear h2
    go_enter Tryz.func115, Tryz.ntmps115
    go_wp2
    go_ret2
    exact ⟨hE.out, Below.refl _ _⟩

end Go.Proofs.YthbighnkohjfnaaGreatDoor
