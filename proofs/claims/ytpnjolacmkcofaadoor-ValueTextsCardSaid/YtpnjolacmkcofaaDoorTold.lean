/-
  CONTRACTS: told: the bytes of the text of a value that may be, handed on to a loop.
-/
import Derived.Test.YtpnjolacmkcofaaDoorSayEach
import Derived.Test.YtpnjolacmkcofaaDoorMay
import Derived.Test.YtpnjolacmkcofaaDoorShelf
import Derived.Lib.SmallJoins
namespace Go.Proofs.YtpnjolacmkcofaaDoor
open Go.RowKit Go.Shelf
attribute [local go_sem] Oper.semAt_some

theorem below_grow (w : World) (k : Nat) (os : Array Obj) : Below w.heap.size w (Go.Sort.grow (w.drewN k) os) :=
  ⟨rfl, rfl, rfl, by show w.heap.size ≤ (w.heap ++ os).size; rw [Array.size_append]; omega, fun j hj => by show (w.heap ++ os)[j]? = _; rw [Array.getElem?_append_left hj]⟩

def boolL (b : Bool) : List UInt8 := if b then [116, 114, 117, 101] else [102, 97, 108, 115, 101]
theorem boolL_eq (b : Bool) : Lib.formatBool b = boolL b := by cases b <;> decide +kernel

/-- the bytes of a value's text -/
def txtL (k n : Int) (s : ByteArray) : List UInt8 :=
  if k = 1 then Lib.itoa n
  else if k = 2 then boolL (n == 1)
  else if k = 3 then [34] ++ flatL escL s.data.toList ++ [34]
  else if k = 4 then [35] ++ flatL hexL s.data.toList ++ []
  else if k = 5 then 64 :: Lib.itoa n
  else if k = 6 then 33 :: Lib.itoa n
  else if k = 7 then 58 :: s.data.toList
  else []

set_option maxHeartbeats 400000 in
theorem mark_any (k : Int) (w : World) (h : k = 5 ∨ k = 6) :
    Calls Tryd.prog 30 #[.int .i64 k] w fun e w' => e = .returned (.int .u8 (if k = 5 then 64 else 33)) ∧ w = w' := by
  rcases h with rfl | rfl
  · go_enter Tryd.func30, Tryd.ntmps30
    go_wp2
    go_ret
    exact ⟨rfl, rfl⟩
  · go_enter Tryd.func30, Tryd.ntmps30
    go_wp2
    go_ret
    exact ⟨rfl, rfl⟩

theorem cat58 (s : ByteArray) : ((⟨#[58]⟩ : ByteArray) ++ s).data.toList = 58 :: s.data.toList := by simp
theorem cat58_size (s : ByteArray) : ((⟨#[58]⟩ : ByteArray) ++ s).size = s.size + 1 := by
  have h := congrArg List.length (cat58 s)
  rw [List.length_cons] at h
  exact h

theorem cat58_max {s : ByteArray} (h : s.size ≤ 64) : ((⟨#[58]⟩ : ByteArray) ++ s).size ≤ maxLen := by
  rw [cat58_size]; unfold maxLen; omega
theorem cat58_len {s : ByteArray} {N : Nat} (h : s.size + 1 ≤ N) : ([] : List UInt8).length + ((⟨#[58]⟩ : ByteArray) ++ s).size ≤ N := by
  rw [cat58_size]; simpa using h

/-- What the iterator leaves. -/
def Told (txt : List UInt8) (J Jx : List UInt8 → World → Prop) (e : Ending) (W' : World) : Prop :=
  (∃ v, e = .returned v) ∧ (J txt W' ∨ (∃ q, q <+: txt ∧ Jx q W'))

theorem told_done {txt : List UInt8} {J Jx : List UInt8 → World → Prop} {v : Value} {W' : World} (h : J txt W') : Told txt J Jx (.returned v) W' := ⟨⟨v, rfl⟩, .inl h⟩
theorem told_stop {txt q : List UInt8} {J Jx : List UInt8 → World → Prop} {v : Value} {W' : World} (h : q <+: txt) (hx : Jx q W') : Told txt J Jx (.returned v) W' := ⟨⟨v, rfl⟩, .inr ⟨q, h, hx⟩⟩

/-- The table lies as the program's text lays it. -/
def Tab (W : World) : Prop := Lib.TabIs Tryd.prog W "internal/strconv.uint64pow10" .u64 Lib.pow10Tab

set_option maxRecDepth 100000 in
set_option maxHeartbeats 1000000 in
theorem told_1 (l n₀ Bt N : Nat) (J Jx : List UInt8 → World → Prop) (hY : Hands l n₀ Bt N J Jx) (n B : Nat) (hA : AbidesFrom B J) (x : Int) (h0 : -9223372036854775808 ≤ x) (h1 : x ≤ 9223372036854775807) (W : World) (htab : Tab W)
    (hk : W.cell? ⟨Bt, 0, none⟩ = some (.int .i64 1)) (hn : W.cell? ⟨Bt, 1, none⟩ = some (.int .i64 x)) (hJ : J [] W) (hN : (Lib.itoa x).length ≤ N) (hN2 : (Lib.itoa x).length ≤ maxLen) :
    CallsIn Fence.wide n Tryd.prog 29 #[.func (.yield l) #[] #[], .pointer (some ⟨Bt, 0, none⟩)] W (Told (Lib.itoa x) J Jx) := by
  refine callsIn_of_wp Tryd.func29 rfl trivial ?_ rfl
  simp only [Tryd.ntmps29, List.size_toArray, List.length_cons, List.length_nil, Nat.reduceAdd, Nat.reduceSub, Array.replicate_succ, Array.replicate_zero, List.push_toArray, List.append_toArray, List.nil_append, List.cons_append]
  gi_wp2_with fail
  refine ⟨trivial, wide_deep _, ?_⟩
  refine (callsIn_wide.2 (Tryd.strconv_FormatInt_10 x h0 h1 _ htab)).mono ?_
  rintro e W1 ⟨rfl, k, os, hw⟩
  have hJ1 : J [] W1 := by rw [hw]; exact abides_below hA hJ (below_grow W k os)
  clear hw
  gi_wp2_with fail
  refine ⟨trivial, wide_deep _, ?_⟩
  refine (say_in l n₀ Bt N J Jx hY (n - 1) ⟨(Lib.itoa x).toArray⟩ (by rw [size_mk]; exact hN2) [] W1 hJ1 (by rw [size_mk]; simpa using hN)).mono ?_
  rintro e W3 (⟨rfl, hJ3, _⟩ | ⟨rfl, q, hq, hx⟩)
  · gi_wp2
    go_end0
    exact told_done (by simpa using hJ3)
  · gi_wp2
    go_end0
    exact told_stop (by simpa using hq) (by simpa using hx)

set_option maxRecDepth 100000 in
set_option maxHeartbeats 1000000 in
theorem told_5 (l n₀ Bt N : Nat) (J Jx : List UInt8 → World → Prop) (hY : Hands l n₀ Bt N J Jx) (n B : Nat) (hA : AbidesFrom B J) (x : Int) (h0 : -9223372036854775808 ≤ x) (h1 : x ≤ 9223372036854775807) (W : World) (htab : ∀ W', Keeps n₀ Bt W W' → Tab W')
    (hk : W.cell? ⟨Bt, 0, none⟩ = some (.int .i64 5)) (hn : W.cell? ⟨Bt, 1, none⟩ = some (.int .i64 x)) (hJ : J [] W) (hN : (Lib.itoa x).length + 1 ≤ N) (hN2 : (Lib.itoa x).length ≤ maxLen) :
    CallsIn Fence.wide n Tryd.prog 29 #[.func (.yield l) #[] #[], .pointer (some ⟨Bt, 0, none⟩)] W (Told (64 :: Lib.itoa x) J Jx) := by
  obtain ⟨fn, tmps, assign, body, hy, hR⟩ := hY (n - 1) [] 64 W hJ (by simp; omega)
  have hy' : (Instr.yield l #[.int .u8 64]).run Tryd.prog W = .ok (.round l fn tmps assign body) W := hy
  clear hy
  refine callsIn_of_wp Tryd.func29 rfl trivial ?_ rfl
  simp only [Tryd.ntmps29, List.size_toArray, List.length_cons, List.length_nil, Nat.reduceAdd, Nat.reduceSub, Array.replicate_succ, Array.replicate_zero, List.push_toArray, List.append_toArray, List.nil_append, List.cons_append]
  gi_wp2_with fail
  refine ⟨trivial, wide_deep _, ?_⟩
  refine (callsIn_wide.2 (mark_any 5 _ (by simp))).mono ?_
  rintro e w' ⟨rfl, rfl⟩
  gi_wp2_with fail
  refine ⟨wide_deep _, ?_⟩
  refine hR.mono ?_
  rintro e W1 (⟨rfl, hJ1, hB1⟩ | ⟨rfl, hx1⟩)
  · have hn1 : W1.cell? ⟨Bt, 1, none⟩ = some (.int .i64 x) := (hB1.cell 1).trans hn
    gi_wp2_with fail
    refine ⟨trivial, wide_deep _, ?_⟩
    refine (callsIn_wide.2 (Tryd.strconv_FormatInt_10 x h0 h1 _ (htab W1 hB1))).mono ?_
    rintro e W2 ⟨rfl, k, os, hw⟩
    have hJ2 : J ([] ++ [64]) W2 := by rw [hw]; exact abides_below hA hJ1 (below_grow W1 k os)
    clear hw
    gi_wp2_with fail
    refine ⟨trivial, wide_deep _, ?_⟩
    refine (say_in l n₀ Bt N J Jx hY (n - 1) ⟨(Lib.itoa x).toArray⟩ (by rw [size_mk]; exact hN2) _ W2 hJ2 (by rw [size_mk]; simp; omega)).mono ?_
    rintro e W3 (⟨rfl, hJ3, _⟩ | ⟨rfl, q, hq, hx⟩)
    · gi_wp2
      go_end0
      exact told_done (by simpa using hJ3)
    · gi_wp2
      go_end0
      exact told_stop (q := 64 :: q) (by simpa using hq) (by simpa using hx)
  · gi_wp2_with fail
    refine bodyPost_ret (results_none rfl _ _ _) rfl ?_
    exact told_stop (q := [64]) (by simp) (by simpa using hx1)

set_option maxRecDepth 100000 in
set_option maxHeartbeats 1000000 in
theorem told_6 (l n₀ Bt N : Nat) (J Jx : List UInt8 → World → Prop) (hY : Hands l n₀ Bt N J Jx) (n B : Nat) (hA : AbidesFrom B J) (x : Int) (h0 : -9223372036854775808 ≤ x) (h1 : x ≤ 9223372036854775807) (W : World) (htab : ∀ W', Keeps n₀ Bt W W' → Tab W')
    (hk : W.cell? ⟨Bt, 0, none⟩ = some (.int .i64 6)) (hn : W.cell? ⟨Bt, 1, none⟩ = some (.int .i64 x)) (hJ : J [] W) (hN : (Lib.itoa x).length + 1 ≤ N) (hN2 : (Lib.itoa x).length ≤ maxLen) :
    CallsIn Fence.wide n Tryd.prog 29 #[.func (.yield l) #[] #[], .pointer (some ⟨Bt, 0, none⟩)] W (Told (33 :: Lib.itoa x) J Jx) := by
  obtain ⟨fn, tmps, assign, body, hy, hR⟩ := hY (n - 1) [] 33 W hJ (by simp; omega)
  have hy' : (Instr.yield l #[.int .u8 33]).run Tryd.prog W = .ok (.round l fn tmps assign body) W := hy
  clear hy
  refine callsIn_of_wp Tryd.func29 rfl trivial ?_ rfl
  simp only [Tryd.ntmps29, List.size_toArray, List.length_cons, List.length_nil, Nat.reduceAdd, Nat.reduceSub, Array.replicate_succ, Array.replicate_zero, List.push_toArray, List.append_toArray, List.nil_append, List.cons_append]
  gi_wp2_with fail
  refine ⟨trivial, wide_deep _, ?_⟩
  refine (callsIn_wide.2 (mark_any 6 _ (by simp))).mono ?_
  rintro e w' ⟨rfl, rfl⟩
  gi_wp2_with fail
  refine ⟨wide_deep _, ?_⟩
  refine hR.mono ?_
  rintro e W1 (⟨rfl, hJ1, hB1⟩ | ⟨rfl, hx1⟩)
  · have hn1 : W1.cell? ⟨Bt, 1, none⟩ = some (.int .i64 x) := (hB1.cell 1).trans hn
    gi_wp2_with fail
    refine ⟨trivial, wide_deep _, ?_⟩
    refine (callsIn_wide.2 (Tryd.strconv_FormatInt_10 x h0 h1 _ (htab W1 hB1))).mono ?_
    rintro e W2 ⟨rfl, k, os, hw⟩
    have hJ2 : J ([] ++ [33]) W2 := by rw [hw]; exact abides_below hA hJ1 (below_grow W1 k os)
    clear hw
    gi_wp2_with fail
    refine ⟨trivial, wide_deep _, ?_⟩
    refine (say_in l n₀ Bt N J Jx hY (n - 1) ⟨(Lib.itoa x).toArray⟩ (by rw [size_mk]; exact hN2) _ W2 hJ2 (by rw [size_mk]; simp; omega)).mono ?_
    rintro e W3 (⟨rfl, hJ3, _⟩ | ⟨rfl, q, hq, hx⟩)
    · gi_wp2
      go_end0
      exact told_done (by simpa using hJ3)
    · gi_wp2
      go_end0
      exact told_stop (q := 33 :: q) (by simpa using hq) (by simpa using hx)
  · gi_wp2_with fail
    refine bodyPost_ret (results_none rfl _ _ _) rfl ?_
    exact told_stop (q := [33]) (by simp) (by simpa using hx1)

set_option maxRecDepth 100000 in
set_option maxHeartbeats 1000000 in
theorem told_2 (l n₀ Bt N : Nat) (J Jx : List UInt8 → World → Prop) (hY : Hands l n₀ Bt N J Jx) (n B : Nat) (_hA : AbidesFrom B J) (x : Int) (W : World)
    (hk : W.cell? ⟨Bt, 0, none⟩ = some (.int .i64 2)) (hn : W.cell? ⟨Bt, 1, none⟩ = some (.int .i64 x)) (hJ : J [] W) (hN : 5 ≤ N) :
    CallsIn Fence.wide n Tryd.prog 29 #[.func (.yield l) #[] #[], .pointer (some ⟨Bt, 0, none⟩)] W (Told (boolL (x == 1)) J Jx) := by
  have hlen : (boolL (x == 1)).length ≤ 5 := by cases (x == 1) <;> decide
  refine callsIn_of_wp Tryd.func29 rfl trivial ?_ rfl
  simp only [Tryd.ntmps29, List.size_toArray, List.length_cons, List.length_nil, Nat.reduceAdd, Nat.reduceSub, Array.replicate_succ, Array.replicate_zero, List.push_toArray, List.append_toArray, List.nil_append, List.cons_append]
  gi_wp2_with fail
  refine ⟨trivial, wide_deep _, ?_⟩
  refine (callsIn_wide.2 (Tryd.strconv_FormatBool (x == 1) _)).mono ?_
  rintro e W1 ⟨rfl, rfl⟩
  rw [boolL_eq]
  gi_wp2_with fail
  refine ⟨trivial, wide_deep _, ?_⟩
  refine (say_in l n₀ Bt N J Jx hY (n - 1) ⟨(boolL (x == 1)).toArray⟩ (by rw [size_mk]; exact Nat.le_trans hlen (by decide)) [] _ hJ (by rw [size_mk]; simp; omega)).mono ?_
  rintro e W3 (⟨rfl, hJ3, _⟩ | ⟨rfl, q, hq, hx⟩)
  · gi_wp2
    go_end0
    exact told_done (by simpa using hJ3)
  · gi_wp2
    go_end0
    exact told_stop (by simpa using hq) (by simpa using hx)

set_option maxRecDepth 100000 in
set_option maxHeartbeats 1000000 in
theorem told_7 (l n₀ Bt N : Nat) (J Jx : List UInt8 → World → Prop) (hY : Hands l n₀ Bt N J Jx) (n B : Nat) (_hA : AbidesFrom B J) (s : ByteArray) (hs : s.size ≤ 64) (W : World)
    (hk : W.cell? ⟨Bt, 0, none⟩ = some (.int .i64 7)) (hn : W.cell? ⟨Bt, 2, none⟩ = some (.string s)) (hJ : J [] W) (hN : s.size + 1 ≤ N) :
    CallsIn Fence.wide n Tryd.prog 29 #[.func (.yield l) #[] #[], .pointer (some ⟨Bt, 0, none⟩)] W (Told (58 :: s.data.toList) J Jx) := by
  refine callsIn_of_wp Tryd.func29 rfl trivial ?_ rfl
  simp only [Tryd.ntmps29, List.size_toArray, List.length_cons, List.length_nil, Nat.reduceAdd, Nat.reduceSub, Array.replicate_succ, Array.replicate_zero, List.push_toArray, List.append_toArray, List.nil_append, List.cons_append]
  gi_wp2_with fail
  refine ⟨trivial, wide_deep _, ?_⟩
  have hsay := say_in l n₀ Bt N J Jx hY (n - 1) ((⟨#[58]⟩ : ByteArray) ++ s) (cat58_max hs) [] W hJ (cat58_len hN)
  rw [cat58] at hsay
  refine hsay.mono ?_
  rintro e W3 (⟨rfl, hJ3, _⟩ | ⟨rfl, q, hq, hx⟩)
  · gi_wp2
    go_end0
    exact told_done (by simpa using hJ3)
  · gi_wp2
    go_end0
    exact told_stop hq (by simpa using hx)

set_option maxRecDepth 100000 in
set_option maxHeartbeats 1000000 in
theorem told_4 (l n₀ Bt N : Nat) (J Jx : List UInt8 → World → Prop) (hY : Hands l n₀ Bt N J Jx) (n B : Nat) (hA : AbidesFrom B J) (s : ByteArray) (hs : s.size ≤ 1000) (W : World)
    (hk : W.cell? ⟨Bt, 0, none⟩ = some (.int .i64 4)) (hn : W.cell? ⟨Bt, 2, none⟩ = some (.string s)) (hJ : J [] W) (hN : ([35] ++ flatL hexL s.data.toList ++ [] : List UInt8).length ≤ N) :
    CallsIn Fence.wide n Tryd.prog 29 #[.func (.yield l) #[] #[], .pointer (some ⟨Bt, 0, none⟩)] W (Told ([35] ++ flatL hexL s.data.toList ++ []) J Jx) := by
  refine callsIn_of_wp Tryd.func29 rfl trivial ?_ rfl
  simp only [Tryd.ntmps29, List.size_toArray, List.length_cons, List.length_nil, Nat.reduceAdd, Nat.reduceSub, Array.replicate_succ, Array.replicate_zero, List.push_toArray, List.append_toArray, List.nil_append, List.cons_append]
  gi_wp2_with fail
  refine ⟨trivial, wide_deep _, ?_⟩
  refine (sayHex_in l n₀ Bt N J Jx hY (n - 1) B hA ⟨#[35]⟩ s ⟨#[]⟩ (by decide) (Nat.le_trans hs (by decide)) (by decide) W hJ hN).mono ?_
  rintro e W3 ⟨⟨v, rfl⟩, hJ3 | ⟨q, hq, hx⟩⟩
  · gi_wp2
    go_end0
    exact told_done hJ3
  · gi_wp2
    go_end0
    exact told_stop hq hx

set_option maxRecDepth 100000 in
set_option maxHeartbeats 1000000 in
theorem told_3 (l n₀ Bt N : Nat) (J Jx : List UInt8 → World → Prop) (hY : Hands l n₀ Bt N J Jx) (n B : Nat) (hA : AbidesFrom B J) (s : ByteArray) (hs : s.size ≤ 1000) (W : World)
    (hk : W.cell? ⟨Bt, 0, none⟩ = some (.int .i64 3)) (hn : W.cell? ⟨Bt, 2, none⟩ = some (.string s)) (hJ : J [] W) (hN : ([34] ++ flatL escL s.data.toList ++ [34] : List UInt8).length ≤ N) :
    CallsIn Fence.wide n Tryd.prog 29 #[.func (.yield l) #[] #[], .pointer (some ⟨Bt, 0, none⟩)] W (Told ([34] ++ flatL escL s.data.toList ++ [34]) J Jx) := by
  refine callsIn_of_wp Tryd.func29 rfl trivial ?_ rfl
  simp only [Tryd.ntmps29, List.size_toArray, List.length_cons, List.length_nil, Nat.reduceAdd, Nat.reduceSub, Array.replicate_succ, Array.replicate_zero, List.push_toArray, List.append_toArray, List.nil_append, List.cons_append]
  gi_wp2_with fail
  refine ⟨trivial, wide_deep _, ?_⟩
  refine (sayEsc_in l n₀ Bt N J Jx hY (n - 1) B hA ⟨#[34]⟩ s ⟨#[34]⟩ (by decide) (Nat.le_trans hs (by decide)) (by decide) W hJ hN).mono ?_
  rintro e W3 ⟨⟨v, rfl⟩, hJ3 | ⟨q, hq, hx⟩⟩
  · gi_wp2
    go_end0
    exact told_done hJ3
  · gi_wp2
    go_end0
    exact told_stop hq hx

end Go.Proofs.YtpnjolacmkcofaaDoor
