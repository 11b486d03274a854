/-
  THE CONTRACT of Text: the text of a value that may be, or the error.
-/
import Derived.Test.YtpnjolacmkcofaaDoorTold
import Derived.RangeFuncBox
import Derived.Maps.AppendAt
import Derived.Lib.Hide
import Derived.Lib.BufferRead
import Derived.Lib.ItoaLen
namespace Go.Proofs.YtpnjolacmkcofaaDoor
open Go.RowKit Go.Shelf
attribute [local go_sem] Oper.semAt_some

theorem wide_room (k : Nat) : Fence.wide.room k := fun d h => by cases h
theorem RoundIn.anyDepth {m m' : Nat} {P : Program} {l : Nat} {f : FuncId} {tmps : Array Value} {assign body : Code} {w : World} {R : Ending → World → Prop}
    (h : RoundIn Fence.wide m P l f tmps assign body w R) : RoundIn Fence.wide m' P l f tmps assign body w R := ⟨h.1, fun c cs _ => h.2 c cs (wide_room _)⟩
theorem YieldAt.anyDepth {m : Nat} (m' : Nat) {P : Program} {l : Nat} {args : Array Value} {W : World} {R : Ending → World → Prop} (h : YieldAt Fence.wide m P l args W R) : YieldAt Fence.wide m' P l args W R := by
  obtain ⟨fn, tmps, assign, body, hy, hR⟩ := h
  exact ⟨fn, tmps, assign, body, hy, RoundIn.anyDepth hR⟩

theorem tab_below {w W : World} (h : Tab w) (hb : Below w.heap.size w W) : Tab W := Joins.tab_stays (g := 0) (by kernel_rfl) h hb (Nat.le_refl _)

theorem itoa_len (x : Int) (h0 : -9223372036854775808 ≤ x) (h1 : x ≤ 9223372036854775807) : (Lib.itoa x).length ≤ 1000 := Nat.le_trans (Lib.itoa_length_le x h0 h1) (by decide)

theorem txt_len (k n : Int) (s : ByteArray) (hm : mayB k n s = true) (h0 : -9223372036854775808 ≤ n) (h1 : n ≤ 9223372036854775807) : (txtL k n s).length ≤ 4000 := by
  have hl : s.data.toList.length = s.size := Array.length_toList
  have hi := itoa_len n h0 h1
  have hh := flatL_len hexL hexL_len s.data.toList
  have he := flatL_len escL escL_len s.data.toList
  have hb : (boolL (n == 1)).length ≤ 5 := by cases (n == 1) <;> decide
  unfold mayB at hm
  unfold txtL
  by_cases k1 : k = 1
  · rw [if_pos k1]; omega
  by_cases k2 : k = 2
  · rw [if_neg k1, if_pos k2]; omega
  by_cases k3 : k = 3
  · rw [if_neg (by omega), if_neg k2, if_pos (by omega)] at hm
    simp at hm
    rw [if_neg k1, if_neg k2, if_pos k3]
    simp only [List.length_append, List.length_cons, List.length_nil]; omega
  by_cases k4 : k = 4
  · rw [if_neg (by omega), if_neg k2, if_pos (by omega)] at hm
    simp at hm
    rw [if_neg k1, if_neg k2, if_neg k3, if_pos k4]
    simp only [List.length_append, List.length_cons, List.length_nil]; omega
  by_cases k5 : k = 5
  · rw [if_neg k1, if_neg k2, if_neg k3, if_neg k4, if_pos k5, List.length_cons]; omega
  by_cases k6 : k = 6
  · rw [if_neg k1, if_neg k2, if_neg k3, if_neg k4, if_neg k5, if_pos k6, List.length_cons]; omega
  by_cases k7 : k = 7
  · rw [if_neg (by omega), if_neg k2, if_neg (by omega), if_neg k5, if_pos k7] at hm
    simp at hm
    have := word_size hm.2
    rw [if_neg k1, if_neg k2, if_neg k3, if_neg k4, if_neg k5, if_neg k6, if_pos k7, List.length_cons]; omega
  · rw [if_neg k1, if_neg k2, if_neg k3, if_neg k4, if_neg k5, if_neg k6, if_neg k7]; simp
theorem keeps_b {n₀ Bt : Nat} {w : World} (hn : n₀ ≤ w.heap.size) (hb : Bt < w.heap.size) (W : World) (l : Nat) (o o' : Obj) (hl : w.heap.size ≤ l) (h : W.heap[l]? = some o) (h1 : o.isCells = false) (h2 : o.isWalk = false) : Keeps n₀ Bt W (W.putObj l o') :=
  ⟨belowK_b hn W l o o' hl h h1 h2, (belowK_b (n₀ := w.heap.size) (Nat.le_refl _) W l o o' hl h h1 h2).block Bt hb⟩

/-- told's value hands on the bytes of the value's text, or a part of them. -/
theorem told_stops (n n₀ Bt : Nat) (k x : Int) (s : ByteArray) (h0 : -9223372036854775808 ≤ x) (h1 : x ≤ 9223372036854775807) (hm : mayB k x s = true) (w : World) (hBt : Bt < w.heap.size) (htab : ∀ W', Below n₀ w W' → Tab W') (hn₀ : n₀ ≤ w.heap.size)
    (hc0 : w.cell? ⟨Bt, 0, none⟩ = some (.int .i64 k)) (hc1 : w.cell? ⟨Bt, 1, none⟩ = some (.int .i64 x)) (hc2 : w.cell? ⟨Bt, 2, none⟩ = some (.string s)) :
    SeqStopsK Fence.wide n Tryd.prog 29 #[.pointer (some ⟨Bt, 0, none⟩)] (fun c : UInt8 => #[Value.int .u8 c.toNat]) (Keeps n₀ Bt) (fun ys => ys = txtL k x s) (fun pre => pre <+: txtL k x s) ((txtL k x s).length + 5) w := fun l J Jx W hW hJ _ hY h0' => by
  have hH : Hands l n₀ Bt ((txtL k x s).length + 5) J Jx := fun m pre c W1 hj hl => YieldAt.anyDepth m (hY pre c W1 hj hl)
  have g0 := (hW.cell (p := ⟨Bt, 0, none⟩) hBt).trans hc0
  have g1 := (hW.cell (p := ⟨Bt, 1, none⟩) hBt).trans hc1
  have g2 := (hW.cell (p := ⟨Bt, 2, none⟩) hBt).trans hc2
  have il := itoa_len x h0 h1
  have il2 : (Lib.itoa x).length ≤ maxLen := Nat.le_trans il (by decide)
  have ht : ∀ W', Keeps n₀ Bt W W' → Tab W' := fun W' hb => htab W' ((hW.mono hn₀).trans hb.low)
  suffices h : CallsIn Fence.wide n Tryd.prog 29 #[.func (.yield l) #[] #[], .pointer (some ⟨Bt, 0, none⟩)] W (Told (txtL k x s) J Jx) by
    refine h.mono ?_
    rintro e W' ⟨hv, hj | ⟨q, hq, hx⟩⟩
    · exact ⟨hv, .inl ⟨_, rfl, hj⟩⟩
    · exact ⟨hv, .inr ⟨q, hq, hx⟩⟩
  by_cases k1 : k = 1
  · subst k1
    exact told_1 l _ _ _ J Jx hH n _ hJ x h0 h1 W (ht W (Keeps.refl _ _ _)) g0 g1 h0' (by simp [txtL]) il2
  by_cases k2 : k = 2
  · subst k2
    exact told_2 l _ _ _ J Jx hH n _ hJ x W g0 g1 h0' (by omega)
  by_cases k3 : k = 3
  · subst k3
    have hs : s.size ≤ 1000 := by simp [mayB] at hm; exact hm.2
    exact told_3 l _ _ _ J Jx hH n _ hJ s hs W g0 g2 h0' (by simp [txtL])
  by_cases k4 : k = 4
  · subst k4
    have hs : s.size ≤ 1000 := by simp [mayB] at hm; exact hm.2
    exact told_4 l _ _ _ J Jx hH n _ hJ s hs W g0 g2 h0' (by simp [txtL])
  by_cases k5 : k = 5
  · subst k5
    exact told_5 l _ _ _ J Jx hH n _ hJ x h0 h1 W ht g0 g1 h0' (by simp [txtL]) il2
  by_cases k6 : k = 6
  · subst k6
    exact told_6 l _ _ _ J Jx hH n _ hJ x h0 h1 W ht g0 g1 h0' (by simp [txtL]) il2
  by_cases k7 : k = 7
  · subst k7
    have hs : s.size ≤ 64 := by simp [mayB] at hm; exact word_size hm.2
    exact told_7 l _ _ _ J Jx hH n _ hJ s hs W g0 g2 h0' (by simp [txtL])
  simp [mayB, k1, k2, k3, k4, k5, k6, k7] at hm

set_option maxHeartbeats 400000 in
theorem toldOf_any (k n : Int) (s : ByteArray) (w : World) :
    Calls Tryd.prog 16 #[.agg #[.int .i64 k, .int .i64 n, .string s]] w fun e w' => e = .returned (.func (.func 29) #[] #[.pointer (some ⟨w.heap.size, 0, none⟩)]) ∧ w' = w.alloc (.cells #[.int .i64 k, .int .i64 n, .string s] 23) := by
  go_enter Tryd.func16, Tryd.ntmps16
  go_wp2
  go_ret
  exact ⟨rfl, rfl⟩

theorem info8 : (Tryd.prog.info? 5).map (fun i => (i.zero, i.size, i.bytes)) = some (some (.int .u8 0), 1, 1) := by kernel_rfl

theorem own_string (W : World) (v : Value) (base : Nat) (l : List UInt8) (h : W.ownsRow base 5 1 v l.length (l.map (fun c : UInt8 => Value.int .u8 c.toNat))) :
    (convert 40 9 v).run Tryd.prog W = .ok (.string ⟨l.toArray⟩) W := by
  rcases h.2 with ⟨rfl, h0⟩ | ⟨g, cap, cur, rfl, _, hg, _, _, _, ht⟩
  · obtain rfl : l = [] := List.length_eq_zero_iff.1 h0
    exact Lib.run_convert_nil_bytes W _ _ _ 0 Tryd.underlying40 Tryd.underlying5 Tryd.underlying9
  · refine run_convert_bytes_back W _ _ _ ⟨g, 0, none⟩ cap l Tryd.underlying40 Tryd.underlying5 Tryd.underlying9 (fun j hj => ?_)
    have h1 := h.cellAt j (by omega)
    rw [List.getElem?_map, List.getElem?_eq_getElem hj] at h1
    have ha : (⟨g, 0, none⟩ : Addr).add j = ⟨g, j, none⟩ := by
      unfold Addr.add; split <;> simp_all
    rw [ha]; simpa using h1

/-- A block of a type of its own is none of a row's. -/
theorem blk_not_row {W : World} {B : Nat} {t e : TypeId} {cs : Array Value} {fr : Nat × Nat} (h : W.heap[B]? = some (.cells cs t fr)) (hte : t ≠ e) {base size k : Nat} {v : Value} {xs : List Value} (hr : W.ownsRow base e size v k xs) : some B ≠ v.ownBlock := by
  rcases hr.2 with ⟨rfl, _⟩ | ⟨g, cap, cur, rfl, _, hgb, _⟩
  · simp [Value.ownBlock]
  · simp only [Value.ownBlock]
    intro e1
    obtain rfl : B = g := by simpa using e1
    rw [h] at hgb
    injection hgb with h1
    injection h1 with _ h2
    exact hte h2
theorem blk_kept {W w1 : World} {B Bt : Nat} {t e : TypeId} {cs : Array Value} {fr : Nat × Nat} {size k base : Nat} {v v' : Value} {xs : List Value} {tmp : Obj} (h : W.heap[Bt]? = some (.cells cs t fr)) (hte : t ≠ e) (hrow : W.ownsRow base e size v k xs) (hne : Bt ≠ B)
    (hg : (W.alloc tmp).grownBy w1 v.ownBlock) : (w1.setCell ⟨B, 0, none⟩ v').heap[Bt]? = W.heap[Bt]? := by
  have hlt : Bt < W.heap.size := (Array.getElem?_eq_some_iff.1 h).1
  rw [Below.heap_setCell _ _ _ _ hne, hg.block Bt (by simp; omega) (blk_not_row h hte hrow), Below.heap_alloc _ _ _ hlt]
theorem blk_own {β : Type} (Bt : Nat) (cs : Array Value) (t : TypeId) (fr : Nat × Nat) : Own (fun (_ : β) W => W.heap[Bt]? = some (.cells cs t fr)) := fun _ A B row hs hg hr => by
  have hlt : Bt < A.heap.size := (Array.getElem?_eq_some_iff.1 hs).1
  refine (hg.block Bt hlt ?_).trans hs
  intro e
  obtain ⟨o, ho, hc⟩ := hr Bt e.symm
  rw [hs] at ho
  cases ho
  simp [Obj.isCells] at hc

set_option maxRecDepth 100000 in
set_option maxHeartbeats 2000000 in
theorem text_yes (m : Nat) (hm3 : Hid (3 ≤ m)) (k n : Int) (s : ByteArray) (w : World) (hs : s.size ≤ maxLen) (h0 : -9223372036854775808 ≤ n) (h1 : n ≤ 9223372036854775807) (hm : mayB k n s = true) (htab : Tab w) :
    CallsIn Fence.wide m Tryd.prog 7 #[.agg #[.int .i64 k, .int .i64 n, .string s]] w fun e w' => e = .returned (.tuple #[.string ⟨(txtL k n s).toArray⟩, .int .i64 0]) ∧ Below w.heap.size w w' := by
  have HM := Lib.hid hm
  refine callsIn_of_wp_marks Tryd.func7 rfl trivial ?_ rfl
  simp only [Tryd.ntmps7, List.size_toArray, List.length_cons, List.length_nil, Nat.reduceAdd, Nat.reduceSub, Array.replicate_succ, Array.replicate_zero, List.push_toArray, List.append_toArray, List.nil_append, List.cons_append]
  clear hm
  gi_wp2_with fail
  refine ⟨trivial, wide_deep _, ?_⟩
  refine (callsIn_wide.2 (mayBe_any _ _ _ _ hs)).mono ?_
  rintro e w1 ⟨he, hb1⟩
  rw [HM.out] at he
  subst he
  have e0 := (hb1.cell (p := ⟨w.heap.size, 0, none⟩) (by simp)).trans (by go_simp : _ = some (Value.int .i64 k))
  have e1 := (hb1.cell (p := ⟨w.heap.size, 1, none⟩) (by simp)).trans (by go_simp : _ = some (Value.int .i64 n))
  have e2 := (hb1.cell (p := ⟨w.heap.size, 2, none⟩) (by simp)).trans (by go_simp : _ = some (Value.string s))
  have hB1 : Below w.heap.size w w1 := ((Below.refl _ _).alloc (Nat.le_refl _) _).trans (hb1.mono (by simp))
  have hz : w.heap.size < w1.heap.size := by have := hb1.size; simp at this; omega
  clear hb1
  gi_wp2_with fail
  refine ⟨trivial, wide_deep _, ?_⟩
  refine (callsIn_wide.2 (toldOf_any _ _ _ _)).mono ?_
  rintro e w2 ⟨rfl, rfl⟩
  gi_wp2_with fail
  have hm := HM.out
  have hlen := txt_len k n s hm h0 h1
  have htb : ∀ W', Below w1.heap.size ((w1.alloc (.cells #[.slice none 0 0] 40)).alloc (.cells #[.int .i64 k, .int .i64 n, .string s] 23)) W' → Tab W' := fun W' hb =>
    tab_below htab (hB1.trans ((((Below.refl _ _).alloc (Nat.le_refl _) _).alloc (by simp) _).trans hb |>.mono hB1.size))
  obtain ⟨i0, hi, hz0, hz1, hz2⟩ := info_parts info8
  have bO := Boxed.new w1 40 (.slice none 0 0)
  have c0 : ((w1.alloc (.cells #[.slice none 0 0] 40)).alloc (.cells #[.int .i64 k, .int .i64 n, .string s] 23)).cell? ⟨w1.heap.size + 1, 0, none⟩ = some (.int .i64 k) := by go_simp
  have c1 : ((w1.alloc (.cells #[.slice none 0 0] 40)).alloc (.cells #[.int .i64 k, .int .i64 n, .string s] 23)).cell? ⟨w1.heap.size + 1, 1, none⟩ = some (.int .i64 n) := by go_simp
  have c2 : ((w1.alloc (.cells #[.slice none 0 0] 40)).alloc (.cells #[.int .i64 k, .int .i64 n, .string s] 23)).cell? ⟨w1.heap.size + 1, 2, none⟩ = some (.string s) := by go_simp
  have hB2 : Below w1.heap.size w1 ((w1.alloc (.cells #[.slice none 0 0] 40)).alloc (.cells #[.int .i64 k, .int .i64 n, .string s] 23)) := ((Below.refl _ w1).alloc (Nat.le_refl _) _).alloc (by simp) _
  have bV := World.alloc_heap_new (w1.alloc (.cells #[.slice none 0 0] 40)) (.cells #[.int .i64 k, .int .i64 n, .string s] 23)
  rw [World.size_alloc] at bV
  have hro : Fence.wide.round = none := rfl
  refine wpIn_rangeFunc_ownG hro (by have := hm3.out; omega) (gf := 29) (lb := #[.pointer (some ⟨w1.heap.size + 1, 0, none⟩)]) rfl trivial (enters_of Tryd.func29 (by kernel_rfl) rfl)
    (told_stops (m - 1) w1.heap.size (w1.heap.size + 1) k n s h0 h1 hm _ (by simp) htb (by simp; omega) c0 c1 c2) Keeps.trans (keeps_b (by simp; omega) (by simp)) (Below.refl _ _) (fun _ => rfl)
    (fun pre W => (∃ v, Boxed W w1.heap.size 40 v ∧ W.ownsRow w1.heap.size 5 1 v pre.length (pre.map (fun c : UInt8 => Value.int .u8 c.toNat)) ∧ (v = .slice none 0 0 ↔ pre = [])) ∧ W.heap[w1.heap.size + 1]? = some (.cells #[.int .i64 k, .int .i64 n, .string s] 23 (0, 0)) ∧ Below w1.heap.size w1 W)
    (fun _ _ _ => False)
    (OwnFrom.and (Own.from (holdsRow_own w1.heap.size w1.heap.size 40 5 1 (fun pre => pre.length) (fun pre : List UInt8 => pre.map (fun c : UInt8 => Value.int .u8 c.toNat)) (fun pre v => v = .slice none 0 0 ↔ pre = [])) _) (OwnFrom.and (Own.from (blk_own _ _ _ _) _) (ownFrom_below (Nat.le_refl _) (by simp; omega))))
    (fun _ _ _ _ _ hs _ _ => hs)
    ⟨⟨_, bO.alloc _, World.ownsRow_nil _ _ _ _, by simp⟩, bV, hB2⟩
    (fun c => { tmps := #[.agg #[.int .i64 k, .int .i64 n, .string s], .pointer (some ⟨w.heap.size, 0, none⟩), .string ⟨#[]⟩, .int .i64 0, .pointer (some ⟨w1.heap.size, 0, none⟩), .int .u8 c.toNat, .agg #[.int .i64 k, .int .i64 n, .string s], .bool true, .bool false, .agg #[.int .i64 k, .int .i64 n, .string s], .func (.func 29) #[] #[.pointer (some ⟨w1.heap.size + 1, 0, none⟩)], .int .u8 c.toNat, undef, undef, undef, undef, undef, undef], defers := [] }) ?assign ?body ?done ?stop
  case assign =>
    intro l x W K hK
    gi_wp2
    exact hK
  case body =>
    rintro l pre x W ⟨⟨v, hv, hrow, hnil⟩, hV, hB⟩ hlt
    have hc := hv.cell
    have hmx : 5000 ≤ maxLen := by decide
    gi_wp2_with (gi_at_builtin; refine wpListIn_append_own _ rfl _ _ 40 rfl w1.heap.size 5 i0 (.int .u8 0) 1 1 Tryd.underlying40 hi hz0 hz1 hz2 rfl (by decide) _ _ _ rfl (hrow.alloc _) ⟨W.heap.size, 0, none⟩ 1 1 [.int .u8 x.toNat] rfl rfl (cell_one_new _ _ _) (by simp [Value.oneCell']) (by omega) (by omega) (by have := hB.size; simp; omega) ?_; intro v' w3 hown' hgrow _; obtain ⟨g', cap', rfl⟩ := ownsRow_succ hown'; obtain ⟨hv1, hv2, hr2, hk2, hb2⟩ := hv.appended (by decide) hrow hB.size (Nat.le_refl _) hown' hgrow; have hbx := blk_kept (B := w1.heap.size) (v' := Value.slice (some ⟨g', 0, none⟩) (pre.length + 1) cap') hV (by decide) hrow (by omega) hgrow; have hc1 := hv1.cell; have hf1 := hv1.frozen)
    exact ⟨hk2.from _, ⟨hb2, hbx⟩, ⟨_, hv2, by simpa using hr2, by simp⟩, hbx.trans hV, hB.trans hb2⟩
  case done =>
    rintro D ys W hD rfl ⟨⟨v, hv, hrow, hnil⟩, hV, hB⟩ hK
    have hc := hv.cell
    have hcv := own_string W v _ _ hrow
    gi_wp2
    refine ⟨by simp, .inl ⟨_, _, rfl, run_takeDeferred hK, ?_⟩⟩
    exact ⟨_, results_tmp2 rfl _ _ _, rfl, hB1.trans ((hB.trans (belowK_b (w := w1) (Nat.le_refl _) W D _ _ (by simp at hD; omega) hK rfl rfl)).mono hB1.size)⟩
  case stop =>
    rintro D c pre W _ _ h _
    exact h.elim

set_option maxRecDepth 100000 in
set_option maxHeartbeats 1000000 in
theorem text_no (k n : Int) (s : ByteArray) (w : World) (hs : s.size ≤ maxLen) (hm : mayB k n s = false) :
    Calls Tryd.prog 7 #[.agg #[.int .i64 k, .int .i64 n, .string s]] w fun e w' => e = .returned (.tuple #[.string ⟨#[]⟩, .int .i64 10]) ∧ Below w.heap.size w w' := by
  have HM := Lib.hid hm
  clear hm
  go_enter Tryd.func7, Tryd.ntmps7
  go_wp2_with fail
  refine (mayBe_any _ _ _ _ hs).mono ?_
  rintro e w1 ⟨he, hb1⟩
  rw [HM.out] at he
  subst he
  have hB1 : Below w.heap.size w w1 := ((Below.refl _ _).alloc (Nat.le_refl _) _).trans (hb1.mono (by simp))
  clear hb1
  go_wp2
  go_ret2
  exact ⟨rfl, hB1⟩

/-- Text, of any value. -/
def TextEnd (k n : Int) (s : ByteArray) (e : Ending) : Prop :=
  (mayB k n s = true ∧ e = .returned (.tuple #[.string ⟨(txtL k n s).toArray⟩, .int .i64 0])) ∨ (mayB k n s = false ∧ e = .returned (.tuple #[.string ⟨#[]⟩, .int .i64 10]))
theorem text_any (k n : Int) (s : ByteArray) (w : World) (hs : s.size ≤ maxLen) (h0 : -9223372036854775808 ≤ n) (h1 : n ≤ 9223372036854775807) (htab : Tab w) :
    Calls Tryd.prog 7 #[.agg #[.int .i64 k, .int .i64 n, .string s]] w fun e w' => TextEnd k n s e ∧ Below w.heap.size w w' := by
  cases hm : mayB k n s
  · exact (text_no k n s w hs hm).mono fun e w' ⟨he, hb⟩ => ⟨.inr ⟨hm, he⟩, hb⟩
  · refine (callsIn_wide (n := 9)).1 ((text_yes 9 (Nat.le_of_ble_eq_true rfl) k n s w hs h0 h1 hm htab).mono fun e w' ⟨he, hb⟩ => ⟨.inl ⟨hm, he⟩, hb⟩)

end Go.Proofs.YtpnjolacmkcofaaDoor
